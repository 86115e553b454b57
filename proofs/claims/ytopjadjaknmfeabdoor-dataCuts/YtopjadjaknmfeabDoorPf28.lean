import Derived.Lib.SlBytesConst
import Derived.Test.YtopjadjaknmfeabDoorPf07
import Derived.Test.YtopjadjaknmfeabDoorPf12
import Derived.Test.YtopjadjaknmfeabDoorPf18
import Derived.Test.YtopjadjaknmfeabDoorPf19
import Derived.Test.YtopjadjaknmfeabDoorPf27
namespace Go.Proofs.YtopjadjaknmfeabDoor.AwP
open Go.RowKit Go.Proofs.YtopjadjaknmfeabDoor.Base Go.Proofs.YtopjadjaknmfeabDoor.UBase Go.Proofs.YtopjadjaknmfeabDoor.Spec Go.Proofs.YtopjadjaknmfeabDoor.Sums Go.Proofs.YtopjadjaknmfeabDoor.Nums Go.Proofs.YtopjadjaknmfeabDoor.Dec Go.Proofs.YtopjadjaknmfeabDoor.RBt Go.Proofs.YtopjadjaknmfeabDoor.WPrt Go.Proofs.YtopjadjaknmfeabDoor.Pure Go.Proofs.YtopjadjaknmfeabDoor.Names Go.Proofs.YtopjadjaknmfeabDoor.Fault Go.Proofs.YtopjadjaknmfeabDoor.Walk Go.Proofs.YtopjadjaknmfeabDoor.Measure Go.Proofs.YtopjadjaknmfeabDoor.Eq Go.Proofs.YtopjadjaknmfeabDoor.UValid Go.Proofs.YtopjadjaknmfeabDoor.Shallow
set_option linter.unusedVariables false
set_option maxRecDepth 20000
def s1 : ByteArray := ⟨#[32, 123, 34, 97, 34, 58, 32, 91, 49, 44, 32, 110, 117, 108, 108, 93, 125]⟩
def s2 : ByteArray := ⟨#[91, 49, 44, 93]⟩
def n1 : C := .mk 3 false 1 ⟨#[]⟩ [] []
def n0 : C := .mk 1 false 0 ⟨#[]⟩ [] []
def l1 : C := .mk 5 false 0 ⟨#[]⟩ [] [n1, n0]
def c1 : C := .mk 6 false 0 ⟨#[]⟩ [⟨#[97]⟩] [l1]
theorem ch (s : ByteArray) (i x : Nat) (h : at' s i = x) (hx : x < 128 ∧ x ≠ 92 ∧ 32 ≤ x) : chr s i = .ok (x, i + 1) := by
  have hl : len s i = 1 := by rw [len, if_pos (by omega)]
  rw [chr, if_neg (by omega), if_neg (by omega), hl, dec_small (by omega), h]
theorem p1 : prs s1 = .ok c1 := by
  have a1 : at' s1 1 = 123 := by decide
  have a2 : at' s1 2 = 34 := by decide
  have a3 : at' s1 3 = 97 := by decide
  have a4 : at' s1 4 = 34 := by decide
  have a5 : at' s1 5 = 58 := by decide
  have a7 : at' s1 7 = 91 := by decide
  have a8 : at' s1 8 = 49 := by decide
  have a9 : at' s1 9 = 44 := by decide
  have a11 : at' s1 11 = 110 := by decide
  have a12 : at' s1 12 = 117 := by decide
  have a13 : at' s1 13 = 108 := by decide
  have a14 : at' s1 14 = 108 := by decide
  have a15 : at' s1 15 = 93 := by decide
  have a16 : at' s1 16 = 125 := by decide
  have b0 : blk s1 0 = 1 := by rw [blk_step (by decide) (by decide), blk_stop (by decide)]
  have b2 : blk s1 2 = 2 := blk_stop (by decide)
  have b5 : blk s1 5 = 5 := blk_stop (by decide)
  have b6 : blk s1 6 = 7 := by rw [blk_step (by decide) (by decide), blk_stop (by decide)]
  have b8 : blk s1 8 = 8 := blk_stop (by decide)
  have b9 : blk s1 9 = 9 := blk_stop (by decide)
  have b10 : blk s1 10 = 11 := by rw [blk_step (by decide) (by decide), blk_stop (by decide)]
  have b11 : blk s1 11 = 11 := blk_stop (by decide)
  have b15 : blk s1 15 = 15 := blk_stop (by decide)
  have b16 : blk s1 16 = 16 := blk_stop (by decide)
  have b17 : blk s1 17 = 17 := blk_end (by decide)
  have hd : dgs s1 8 = 9 := by rw [dgs_step (by decide) (by decide), dgs_stop (by decide)]
  have hr : rd s1 8 9 = .ok (1, 9) := by
    have e : bs (s1.extract 8 9) = [49] := by decide
    have e1 : perr [49] = 0 := by decide
    have e2 : pnum [49] = 1 := by decide
    rw [rd, e, e1, e2]
    rfl
  have ht : txt s1 2 = .ok (⟨#[97]⟩, 5) := by
    have hsz : s1.size + 1 = 16 + 1 + 1 := by decide
    rw [txt, if_pos a2, hsz, txl, if_neg (by rw [a3]; decide), ch s1 3 97 a3 (by decide)]
    dsimp only
    rw [txl, if_pos a4]
    dsimp only
    rw [show Lib.encodeRune ((97 : Nat) : Int) = [97] from enc_small (by omega)]
    rfl
  have hv8 : ∀ b, b < 16384 → vl s1 22 8 b = .ok (n1, 9, b + 1) := by
    intro b hb
    rw [vl, b8, a8, if_pos (by decide), if_neg (by omega), one, a8]
    simp [nm, sgn, a8, hd, hr, dig, n1]
  have hv11 : ∀ b, b < 16384 → vl s1 22 11 b = .ok (n0, 15, b + 1) := by
    intro b hb
    rw [vl, b11, a11, if_pos (by decide), if_neg (by omega), one, a11, if_pos rfl]
    simp [wd, a11, a12, a13, a14, n0]
  have hsz : s1.size + 1 = 15 + 1 + 1 + 1 := by decide
  have hl : lst (vl s1 22) s1 (s1.size + 1) 8 2 [] = .ok ([n1, n0], 16, 4) := by
    rw [hsz, lst, hv8 2 (by omega)]
    dsimp only
    rw [b9, a9, if_neg (by decide), if_pos rfl, b10, lst, hv11 3 (by omega)]
    dsimp only
    rw [b15, a15, if_pos rfl]
    rfl
  have hv6 : vl s1 23 6 1 = .ok (l1, 16, 4) := by
    rw [vl, b6, a7, if_pos (by decide), if_neg (by decide), one, a7]
    simp [lis, b8, a8, hl, l1]
  have hrc : rcd (vl s1 23) s1 (s1.size + 1) 2 1 [] [] = .ok ([⟨#[97]⟩], [l1], 17, 4) := by
    rw [hsz, rcd, ht]
    dsimp only
    rw [if_neg (by simp [has]), b5, if_pos a5, hv6]
    dsimp only
    rw [b16, a16, if_pos rfl]
    rfl
  have hv0 : vl s1 24 0 0 = .ok (c1, 17, 4) := by
    rw [vl, b0, a1, if_pos (by decide), if_neg (by decide), one, a1]
    simp [rec, b2, a2, hrc, c1]
  rw [prs, if_neg (by decide), hv0]
  dsimp only
  rw [b17, if_neg (by decide)]
theorem p2 : prs s2 = .error (600, 3) := by
  have a0 : at' s2 0 = 91 := by decide
  have a1 : at' s2 1 = 49 := by decide
  have a2 : at' s2 2 = 44 := by decide
  have a3 : at' s2 3 = 93 := by decide
  have b0 : blk s2 0 = 0 := blk_stop (by decide)
  have b1 : blk s2 1 = 1 := blk_stop (by decide)
  have b2 : blk s2 2 = 2 := blk_stop (by decide)
  have b3 : blk s2 3 = 3 := blk_stop (by decide)
  have hd : dgs s2 1 = 2 := by rw [dgs_step (by decide) (by decide), dgs_stop (by decide)]
  have hr : rd s2 1 2 = .ok (1, 2) := by
    have e : bs (s2.extract 1 2) = [49] := by decide
    have e1 : perr [49] = 0 := by decide
    have e2 : pnum [49] = 1 := by decide
    rw [rd, e, e1, e2]
    rfl
  have hv1 : vl s2 23 1 1 = .ok (n1, 2, 2) := by
    rw [vl, b1, a1, if_pos (by decide), if_neg (by decide), one, a1]
    simp [nm, sgn, a1, hd, hr, dig, n1]
  have hv3 : vl s2 23 3 2 = .error (600, 3) := by
    rw [vl, b3, a3, if_neg (by decide)]
  have hsz : s2.size + 1 = 2 + 1 + 1 + 1 := by decide
  have hl : lst (vl s2 23) s2 (s2.size + 1) 1 1 [] = .error (600, 3) := by
    rw [hsz, lst, hv1]
    dsimp only
    rw [b2, a2, if_neg (by decide), if_pos rfl, b3, lst, hv3]
  have hv0 : vl s2 24 0 0 = .error (600, 3) := by
    rw [vl, b0, a0, if_pos (by decide), if_neg (by decide), one, a0]
    simp [lis, b1, a1, hl]
  rw [prs, if_neg (by decide), hv0]
theorem w1 : pv c1 = [123, 34, 97, 34, 58, 91, 49, 44, 110, 117, 108, 108, 93, 125] := by
  have i1 : Lib.itoa 1 = [49] := by
    have := Lib.itoa_nonneg 1
    rw [Lib.decDigits_one (by omega)] at this
    exact this
  simp [c1, l1, n1, n0, pv, pvL, bd, jn, qt, qb, i1]
theorem ne : ∀ s : ByteArray, s.toList.isEmpty = (s.size == 0) := by
  intro s
  rw [ByteArray.toList_eq]
  cases h : s.data.toList with
  | nil =>
    have : s.size = 0 := by rw [← ByteArray.size_data, ← Array.length_toList, h]; rfl
    simp [this]
  | cons a r =>
    have : s.size = r.length + 1 := by rw [← ByteArray.size_data, ← Array.length_toList, h]; rfl
    simp [this]
theorem tg_none : tg ⟨#[]⟩ = true := by
  have : bad ⟨#[]⟩ 0 = none := bad_end (by decide)
  simp only [tg, (verr_none this).2]
  decide
theorem tg_a : tg ⟨#[97]⟩ = true := by
  have l0 : len ⟨#[97]⟩ 0 = 1 := by decide +kernel
  have : bad ⟨#[97]⟩ 0 = none := by
    rw [bad_step (by decide) (by rw [l0]; decide), l0]
    exact bad_end (by decide)
  simp only [tg, (verr_none this).2]
  decide
theorem fm_1 : fm n1 = true := by simp [fm, n1, C.k, C.b, C.i, C.s, C.n, C.l, tg_none, (show pu 3 false 1 ⟨#[]⟩ 0 0 = true by simp [pu])]
theorem fm_0 : fm n0 = true := by simp [fm, n0, C.k, C.b, C.i, C.s, C.n, C.l, tg_none, (show pu 1 false 0 ⟨#[]⟩ 0 0 = true by simp [pu])]
theorem fm_l : fm l1 = true := by simp [fm, l1, C.k, C.b, C.i, C.s, C.n, C.l, tg_none, (show pu 5 false 0 ⟨#[]⟩ 0 2 = true by simp [pu])]
theorem fm_c : fm c1 = true := by
  have h2 : nmb [⟨#[97]⟩] 1 = true := by simp [nmb, nd, tg_a]
  simp [fm, c1, C.k, C.b, C.i, C.s, C.n, C.l, tg_none, (show pu 6 false 0 ⟨#[]⟩ 1 1 = true by simp [pu]), h2]
theorem e1 : WPrt.pe c1 = 0 := by
  have f0 : ft c1 (1 : Nat) (0 + 1 : Nat) = 0 := by simp [ft, fm_c]; decide
  have f1 : ft l1 (1 + 1 : Nat) (0 + 1 + 1 : Nat) = 0 := by simp [ft, fm_l]; decide
  have f2 : ft n1 (1 + 1 + 1 : Nat) (0 + 1 + 1 + 1 : Nat) = 0 := by simp [ft, fm_1]; decide
  have f3 : ft n0 (1 + 1 + 1 : Nat) (0 + 1 + 1 + 1 + 1 : Nat) = 0 := by simp [ft, fm_0]; decide
  have e : pl 1 c1 = [(1, c1), (1 + 1, l1), (1 + 1 + 1, n1), (1 + 1 + 1, n0)] := by simp [c1, l1, n1, n0, pl, plL]
  rw [WPrt.pe, e, ms, if_pos f0, ms, if_pos f1, ms, if_pos f2, ms, if_pos f3, ms]
theorem d1 : dep c1 ≤ 4096 := by simp [c1, l1, n1, n0, dep, depL]
end Go.Proofs.YtopjadjaknmfeabDoor.AwP
namespace Go.Proofs.YtopjadjaknmfeabDoor.Aw
open Go.RowKit Go.Proofs.YtopjadjaknmfeabDoor.Base Go.Proofs.YtopjadjaknmfeabDoor.UBase Go.Proofs.YtopjadjaknmfeabDoor.Spec Go.Proofs.YtopjadjaknmfeabDoor.Byts Go.Proofs.YtopjadjaknmfeabDoor.Rdr Go.Proofs.YtopjadjaknmfeabDoor.WPk Go.Proofs.YtopjadjaknmfeabDoor.WRow Go.Proofs.YtopjadjaknmfeabDoor.WPrt Go.Proofs.YtopjadjaknmfeabDoor.Digits Go.Proofs.YtopjadjaknmfeabDoor.Own Go.Proofs.YtopjadjaknmfeabDoor.Shallow Go.Proofs.YtopjadjaknmfeabDoor.AwP
set_option linter.unusedVariables false
/-- The tables of the library hold what they are laid with. -/
structure T6 (w : World) : Prop where
  tab : Tab w
  utf : Lib.Utf8Tabs 2 3 w
  lt1 : 2 < w.heap.size
  lt2 : 3 < w.heap.size
theorem T6.later {w w' : World} (h : T6 w) (hb : Below w.heap.size w w') : T6 w' :=
  ⟨h.tab.later hb, tab_keep h.utf (hb.block _ h.lt1) (hb.block _ h.lt2), Nat.lt_of_lt_of_le h.lt1 hb.size, Nat.lt_of_lt_of_le h.lt2 hb.size⟩
def zeroV : Value := .agg #[.int .i64 0, .bool false, .int .i64 0, .string ⟨#[]⟩, .slice none 0 0, .slice none 0 0]
def P1 : Prop := ∀ (w : World) (g : Nat), Byt w w.heap.size (.slice (some ⟨g, 0, none⟩) 17 17) s1 → T6 w → Calls Tryd.prog 11 #[.slice (some ⟨g, 0, none⟩) 17 17] w fun e w' => Below w.heap.size w w' ∧ ∃ u, e = .returned (.tuple #[u, .int .i64 0, .int .i64 0]) ∧ Fs w' 24 (Rg w.heap.size w'.heap.size) u c1
def P2 : Prop := ∀ (w : World) (g : Nat), Byt w w.heap.size (.slice (some ⟨g, 0, none⟩) 4 4) s2 → T6 w → Calls Tryd.prog 11 #[.slice (some ⟨g, 0, none⟩) 4 4] w fun e w' => Below w.heap.size w w' ∧ e = .returned (.tuple #[zeroV, .int .i64 3, .int .i64 600])
theorem byt_new (w : World) (s : ByteArray) (hs : s.size ≤ 100) (cs : Array Value) (fr : Nat × Nat) (hc : ∀ j, j < s.size → cs[j]? = some (.int .u8 (at' s j : Nat))) : Byt (w.alloc (.cells cs 5 fr)) (w.alloc (.cells cs 5 fr)).heap.size (.slice (some ⟨w.heap.size, 0, none⟩) s.size s.size) s := by
  refine ⟨_, _, rfl, Nat.le_refl _, by unfold maxLen; omega, (fun h => by cases h), .inr ⟨_, 0, rfl, by simp, fun j hj => ?_⟩⟩
  rw [Nat.zero_add, cell_of_row _ w.heap.size j cs 5 fr (heap_alloc_new w _)]
  exact hc j hj
theorem own_later {w w' : World} {B : Nat} {v : Value} {L : List UInt8} (h : Byts.Own w B v L) (hb : Below w.heap.size w w') : Byts.Own w' B v L := own_keep h fun g _ hs _ => hb.block g hs
theorem num_c (x : Int) (w : World) : Calls Tryd.prog 10 #[.int .i64 x] w fun e w' => e = .returned (.int .i64 x) ∧ w' = w := by
  go_enter Tryd.func10, Tryd.ntmps10
  go_wp2_with fail
  go_ret
  exact ⟨rfl, rfl⟩
def r1 : Array Value := #[.int .u8 32, .int .u8 123, .int .u8 34, .int .u8 97, .int .u8 34, .int .u8 58, .int .u8 32, .int .u8 91, .int .u8 49, .int .u8 44, .int .u8 32, .int .u8 110, .int .u8 117, .int .u8 108, .int .u8 108, .int .u8 93, .int .u8 125]
theorem r1_at : ∀ j, j < s1.size → r1[j]? = some (.int .u8 (at' s1 j : Nat)) := by
  intro j hj
  have hj : j < 17 := hj
  match j, hj with
  | 0, _ | 1, _ | 2, _ | 3, _ | 4, _ | 5, _ | 6, _ | 7, _ | 8, _ | 9, _ | 10, _ | 11, _ | 12, _ | 13, _ | 14, _ | 15, _ | 16, _ => rfl
  | j + 17, h => omega
theorem r2_at : ∀ j, j < s2.size → (#[.int .u8 91, .int .u8 49, .int .u8 44, .int .u8 93] : Array Value)[j]? = some (.int .u8 (at' s2 j : Nat)) := by
  intro j hj
  have hj : j < 4 := hj
  match j, hj with
  | 0, _ | 1, _ | 2, _ | 3, _ => rfl
  | j + 4, h => omega
set_option maxRecDepth 20000 in
set_option maxHeartbeats 1600000 in
theorem awake_of (hP1 : P1) (hP2 : P2) (w : World) (ht : T6 w) : Calls Tryd.prog 6 #[] w fun e w' => e = .returned (.bool true) ∧ Below w.heap.size w w' := by
  obtain ⟨w0, hw0⟩ : ∃ w0, w.alloc (.cells r1 5 (r1.size, r1.size + 1)) = w0 := ⟨_, rfl⟩
  have cv1 := Lib.run_convert_bytes_const (P := Tryd.prog) w 30 5 r1 17 17 Tryd.underlying30 Tryd.underlying5
  rw [hw0] at cv1
  have b0 : Below w.heap.size w w0 := by rw [← hw0]; exact (Below.refl _ w).alloc (Nat.le_refl _) _
  have c1' := hP1 w0 w.heap.size (by rw [← hw0]; exact byt_new w s1 (by decide) r1 _ r1_at) (ht.later b0)
  have ht0 := ht.later b0
  unfold r1 at cv1
  clear hw0
  go_enter Tryd.func6, Tryd.ntmps6
  go_wp2_with fail
  refine c1'.mono ?_
  rintro e w1 ⟨b1, u, rfl, hfs⟩
  have hin := hfs.in
  obtain ⟨v0, v1, v2, v3, v4, v5, rfl, -⟩ := hin.six
  obtain ⟨a1, m1, k1, a2, m2, k2, rfl, rfl, rfl, rfl, rfl, rfl⟩ := hin.kinds
  clear c1' cv1
  rw [show c1.k = 6 from rfl, show c1.b = false from rfl, show c1.i = 0 from rfl, show c1.s = ⟨#[]⟩ from rfl] at hin
  rw [show c1.k = 6 from rfl, show c1.b = false from rfl, show c1.i = 0 from rfl, show c1.s = ⟨#[]⟩ from rfl]
  obtain ⟨w2, hw2⟩ : ∃ w2, w1.alloc (.cells #[.int .i64 6, .bool false, .int .i64 0, .string ⟨#[]⟩, .slice a1 m1 k1, .slice a2 m2 k2] 25) = w2 := ⟨_, rfl⟩
  have b2 : Below w1.heap.size w1 w2 := by rw [← hw2]; exact (Below.refl _ w1).alloc (Nat.le_refl _) _
  have B2 := nx (nx b0 b1) b2
  have hx2 : w2.heap[w1.heap.size]? = some (.cells #[.int .i64 6, .bool false, .int .i64 0, .string ⟨#[]⟩, .slice a1 m1 k1, .slice a2 m2 k2] 25 (0, 0)) := by rw [← hw2, heap_alloc_new]
  have hin2 : In false (Lo w2.heap.size) w2 24 (.agg #[.int .i64 6, .bool false, .int .i64 0, .string ⟨#[]⟩, .slice a1 m1 k1, .slice a2 m2 k2]) c1 := (hin.below b2).weak (fun b hb => Nat.lt_of_lt_of_le hb.2 b2.size) false id 24 (Nat.le_refl _)
  have cp := print_c hin2 d1 (ht.later B2).tab
  rw [e1] at cp
  obtain ⟨q0, q1, q2, q3, q4, q5⟩ := six_box hx2
  have HT2 : Hid (T6 w2) := ht.later B2
  have HB2 : Hid (Below w.heap.size w w2) := B2
  clear hfs hin hin2 hx2 b0 b1 b2 B2 ht ht0
  go_wp2_with fail
  refine cp.mono ?_
  rintro e w3 ⟨v, rfl, b3, h3⟩
  rcases h3 with ⟨-, hp⟩ | ⟨h, -⟩
  · obtain ⟨a3, n3, c3, rfl⟩ := hp.shape
    have hcv := own_conv hp.own
    rw [AwP.w1] at hcv
    clear cp hw2 q0 q1 q2 q3 q4 q5
    obtain ⟨w4, hw4⟩ : ∃ w4, w3.alloc (.cells #[.int .u8 91, .int .u8 49, .int .u8 44, .int .u8 93] 5 (4, 5)) = w4 := ⟨_, rfl⟩
    have cv2 := Lib.run_convert_bytes_const (P := Tryd.prog) w3 30 5 #[.int .u8 91, .int .u8 49, .int .u8 44, .int .u8 93] 4 4 Tryd.underlying30 Tryd.underlying5
    rw [show (w3.alloc (.cells #[.int .u8 91, .int .u8 49, .int .u8 44, .int .u8 93] 5 ((#[Value.int .u8 91, .int .u8 49, .int .u8 44, .int .u8 93] : Array Value).size, (#[Value.int .u8 91, .int .u8 49, .int .u8 44, .int .u8 93] : Array Value).size + 1))) = w4 from hw4] at cv2
    have b4 : Below w3.heap.size w3 w4 := by rw [← hw4]; exact (Below.refl _ w3).alloc (Nat.le_refl _) _
    have c2' := hP2 w4 w3.heap.size (by rw [← hw4]; exact byt_new w3 s2 (by decide) _ _ r2_at) (HT2.out.later (nx b3 b4))
    have HO : Hid (∀ w', Below w3.heap.size w3 w' → (convert 30 9 (.slice a3 n3 c3)).run Tryd.prog w' = .ok (.string ⟨#[123, 34, 97, 34, 58, 91, 49, 44, 110, 117, 108, 108, 93, 125]⟩) w') := by
      intro w' hb
      have := own_conv (own_later hp.own hb)
      rw [AwP.w1] at this
      exact this
    clear hcv hp hw4
    go_wp2_with fail
    refine c2'.mono ?_
    rintro e w5 ⟨b5, rfl⟩
    unfold zeroV
    have b6 : Below w5.heap.size w5 (w5.alloc (.cells #[.int .i64 0, .bool false, .int .i64 0, .string ⟨#[]⟩, .slice none 0 0, .slice none 0 0] 25)) := (Below.refl _ w5).alloc (Nat.le_refl _) _
    have hcv := HO.out _ (nx (nx b4 b5) b6)
    clear c2' cv2
    go_wp2_with (first | (go_at_call 10; refine (num_c _ _).mono ?_; rintro e w' ⟨rfl, rfl⟩))
    go_ret
    exact ⟨rfl, nx (nx HB2.out b3) (nx (nx b4 b5) b6)⟩
  · exact (h (by trivial)).elim
end Go.Proofs.YtopjadjaknmfeabDoor.Aw
namespace Go.Proofs.YtopjadjaknmfeabDoor.Vals
open Go.RowKit Go.Proofs.YtopjadjaknmfeabDoor.Base Go.Proofs.YtopjadjaknmfeabDoor.UBase Go.Proofs.YtopjadjaknmfeabDoor.Spec Go.Proofs.YtopjadjaknmfeabDoor.Rdr Go.Proofs.YtopjadjaknmfeabDoor.Skip Go.Proofs.YtopjadjaknmfeabDoor.Own Go.Proofs.YtopjadjaknmfeabDoor.LState Go.Proofs.YtopjadjaknmfeabDoor.Val
set_option linter.unusedVariables false
theorem one_cases (V : Nat → Nat → Except F (C × Nat × Nat)) (s : ByteArray) (p b : Nat) (h : beg (at' s p) = true) :
    (at' s p = 110 ∧ one V s p b = wK 1 false b (wd s [110, 117, 108, 108] p)) ∨ (at' s p = 116 ∧ one V s p b = wK 2 true b (wd s [116, 114, 117, 101] p)) ∨ (at' s p = 102 ∧ one V s p b = wK 2 false b (wd s [102, 97, 108, 115, 101] p)) ∨
    (at' s p = 34 ∧ one V s p b = tK b (txt s p)) ∨ (at' s p = 91 ∧ one V s p b = lis V s p b) ∨ (at' s p = 123 ∧ one V s p b = rec V s p b) ∨ ((at' s p = 45 ∨ dig (at' s p) = true) ∧ one V s p b = nK b (nm s p)) := by
  by_cases h1 : at' s p = 110
  · refine .inl ⟨h1, ?_⟩
    rw [one, if_pos h1]
    generalize wd s _ p = X
    cases X <;> rfl
  by_cases h2 : at' s p = 116
  · refine .inr (.inl ⟨h2, ?_⟩)
    rw [one, if_neg h1, if_pos h2]
    generalize wd s _ p = X
    cases X <;> rfl
  by_cases h3 : at' s p = 102
  · refine .inr (.inr (.inl ⟨h3, ?_⟩))
    rw [one, if_neg h1, if_neg h2, if_pos h3]
    generalize wd s _ p = X
    cases X <;> rfl
  by_cases h4 : at' s p = 34
  · refine .inr (.inr (.inr (.inl ⟨h4, ?_⟩)))
    rw [one, if_neg h1, if_neg h2, if_neg h3, if_pos h4]
    generalize txt s p = X
    cases X <;> rfl
  by_cases h5 : at' s p = 91
  · refine .inr (.inr (.inr (.inr (.inl ⟨h5, ?_⟩))))
    rw [one, if_neg h1, if_neg h2, if_neg h3, if_neg h4, if_pos h5]
  by_cases h6 : at' s p = 123
  · refine .inr (.inr (.inr (.inr (.inr (.inl ⟨h6, ?_⟩)))))
    rw [one, if_neg h1, if_neg h2, if_neg h3, if_neg h4, if_neg h5, if_pos h6]
  · refine .inr (.inr (.inr (.inr (.inr (.inr ⟨?_, ?_⟩)))))
    · unfold beg at h
      simp only [h1, h2, h3, h4, h5, h6, decide_false, Bool.false_or, Bool.or_false, Bool.or_eq_true, decide_eq_true_eq] at h
      exact h
    · rw [one, if_neg h1, if_neg h2, if_neg h3, if_neg h4, if_neg h5, if_neg h6]
      generalize nm s p = X
      cases X <;> rfl
theorem vis : ∀ (n d : Nat), n + d = 25 → VIs n d n
  | 0, d, e => by
    intro w R v s i b h
    have hx : ∃ x, vl s 0 i b = .error x ∧ bgn d (blk s i) b (at' s (blk s i)) = .error x := by
      rw [vl]
      unfold bgn
      split
      · rw [if_pos (by omega)]; exact ⟨_, rfl, rfl⟩
      · exact ⟨_, rfl, rfl⟩
    obtain ⟨x, h1, h2⟩ := hx
    rw [h1]
    exact value_err (by omega) h h2
  | n + 1, d, e => by
    have ih := vis n (d + 1) (by omega)
    intro w R v s i b h
    have hlb := h.lb
    by_cases hg : beg (at' s (blk s i)) = true
    · by_cases hb : 16384 ≤ b
      · have h1 : vl s (n + 1) i b = .error (604, blk s i) := by rw [vl, if_pos hg, if_pos hb]
        have h2 : bgn d (blk s i) b (at' s (blk s i)) = .error (604, blk s i) := by unfold bgn; rw [if_pos hg, if_neg (by omega), if_pos (by omega)]
        rw [h1]
        exact value_err (by omega) h h2
      · have h1 : vl s (n + 1) i b = one (vl s n) s (blk s i) (b + 1) := by rw [vl, if_pos hg, if_neg hb]
        have h2 : bgn d (blk s i) b (at' s (blk s i)) = .ok () := by unfold bgn; rw [if_pos hg, if_neg (by omega), if_neg (by omega)]
        rw [h1]
        rcases one_cases (vl s n) s (blk s i) (b + 1) hg with ⟨hc, e⟩ | ⟨hc, e⟩ | ⟨hc, e⟩ | ⟨hc, e⟩ | ⟨hc, e⟩ | ⟨hc, e⟩ | ⟨hc, e⟩
        · rw [e]; exact vnull_c (by omega) h h2 hc
        · rw [e]; exact vtrue_c (by omega) h h2 hc
        · rw [e]; exact vfalse_c (by omega) h h2 hc
        · rw [e]; exact vtext_c (by omega) h h2 hc
        · rw [e]; exact vlist_c (by omega) ih h h2 hc
        · rw [e]; exact vrecord_c (by omega) ih h h2 hc
        · rw [e]; exact vnum_c (by omega) h h2 hc
    · have h1 : vl s (n + 1) i b = .error (600, blk s i) := by rw [vl, if_neg hg]
      have h2 : bgn d (blk s i) b (at' s (blk s i)) = .error (600, blk s i) := by unfold bgn; rw [if_neg hg]
      rw [h1]
      exact value_err (by omega) h h2
end Go.Proofs.YtopjadjaknmfeabDoor.Vals
namespace Go.Proofs.YtopjadjaknmfeabDoor.AwV
open Go.RowKit Go.Proofs.YtopjadjaknmfeabDoor.Base Go.Proofs.YtopjadjaknmfeabDoor.Spec Go.Proofs.YtopjadjaknmfeabDoor.Rdr Go.Proofs.YtopjadjaknmfeabDoor.Prs Go.Proofs.YtopjadjaknmfeabDoor.AwP Go.Proofs.YtopjadjaknmfeabDoor.Aw
set_option linter.unusedVariables false
theorem p1c : P1 := by
  intro w g hb ht
  have h := parse_c (s := s1) (cap := 17) (a := some ⟨g, 0, none⟩) (Vals.vis 24 1 rfl) hb ht.utf ⟨ht.lt1, ht.lt2⟩
  rw [AwP.p1] at h
  exact h
theorem p2c : P2 := by
  intro w g hb ht
  have h := parse_c (s := s2) (cap := 4) (a := some ⟨g, 0, none⟩) (Vals.vis 24 1 rfl) hb ht.utf ⟨ht.lt1, ht.lt2⟩
  rw [AwP.p2] at h
  exact h
theorem awake_c (w : World) (ht : T6 w) : Calls Tryd.prog 6 #[] w fun e w' => e = .returned (.bool true) ∧ Below w.heap.size w w' := awake_of p1c p2c w ht
end Go.Proofs.YtopjadjaknmfeabDoor.AwV
namespace Go.Proofs.YtopjadjaknmfeabDoor.FBy
open Go.RowKit Go.Proofs.YtopjadjaknmfeabDoor.Base Go.Proofs.YtopjadjaknmfeabDoor.UBase Go.Proofs.YtopjadjaknmfeabDoor.Spec Go.Proofs.YtopjadjaknmfeabDoor.Byts Go.Proofs.YtopjadjaknmfeabDoor.Rdr Go.Proofs.YtopjadjaknmfeabDoor.Prs Go.Proofs.YtopjadjaknmfeabDoor.Aw
set_option linter.unusedVariables false
/-- A row of bytes of one's own, as what Parse reads. -/
theorem byt_own {w : World} {B : Nat} {v : Value} {L : List UInt8} (h : Byts.Own w B v L) : Byt w w.heap.size v ⟨L.toArray⟩ := by
  have hs : (⟨L.toArray⟩ : ByteArray).size = L.length := by show L.toArray.size = _; simp
  have h0 := h
  rcases h.2 with ⟨rfl, e⟩ | ⟨g, cap, cur, rfl, h1, h2, h3, h4, -⟩
  · exact ⟨none, 0, by rw [hs, e], by omega, by unfold maxLen; omega, fun _ => rfl, .inl (by omega)⟩
  · refine ⟨_, cap, by rw [hs], by omega, h4, (fun h => by cases h), .inr ⟨g, 0, rfl, (Array.getElem?_eq_some_iff.1 h2).1, fun j hj => ?_⟩⟩
    have hj' : j < L.length := by omega
    have := World.ownsRow.cells (g := g) h0 rfl j (.int .u8 (L[j].toNat : Int)) (by simp [Lib.byteCells, hj'])
    rw [add_none] at this
    rw [this, at_get _ _ hj]
    rfl
theorem byt_below {w w' : World} {v : Value} {s : ByteArray} (h : Byt w w.heap.size v s) (hb : Below w.heap.size w w') : Byt w' w'.heap.size v s := by
  obtain ⟨a, cap, h1, h2, h3, h4, h5⟩ := h
  refine ⟨a, cap, h1, h2, h3, h4, ?_⟩
  rcases h5 with h5 | ⟨g, o, rfl, hg, hc⟩
  · exact .inl h5
  · exact .inr ⟨g, o, rfl, Nat.lt_of_lt_of_le hg hb.size, fun j hj => (World.cell?_of_block (w := w) (hb.block g hg)).trans (hc j hj)⟩
/-- What Parse answers. -/
theorem parse_any {w : World} {v : Value} {s : ByteArray} (hb : Byt w w.heap.size v s) (ht : T6 w) : Calls Tryd.prog 11 #[v] w (Pout w (prs s)) := by
  have hb' := hb
  obtain ⟨a, cap, rfl, -⟩ := hb
  exact parse_c (Vals.vis 24 1 rfl) hb' ht.utf ⟨ht.lt1, ht.lt2⟩
theorem cells_of {w : World} {g o : Nat} {s : ByteArray} (hc : ∀ j, j < s.size → w.cell? ⟨g, o + j, none⟩ = some (.int .u8 (at' s j : Nat))) : ∀ j u, (Lib.byteCells s.data.toList)[j]? = some u → w.cell? ((⟨g, o, none⟩ : Addr).add j) = some u := by
  intro j u hj
  have hl : j < s.size := by
    have := (List.getElem?_eq_some_iff.1 hj).1
    rw [Lib.byteCells_length] at this
    simpa using this
  rw [add_none, hc j hl, at_get _ _ hl]
  simp only [Lib.byteCells, List.getElem?_map] at hj
  rw [List.getElem?_eq_getElem (by simpa using hl)] at hj
  simp only [Option.map_some, Option.some.injEq] at hj
  rw [← hj]
  rfl
theorem bc_one (l : List UInt8) : ∀ v ∈ Lib.byteCells l, v.oneCell' = true := by
  intro v hv
  simp only [Lib.byteCells, List.mem_map] at hv
  obtain ⟨x, -, rfl⟩ := hv
  rfl
set_option maxRecDepth 20000 in
theorem copyB_c {w : World} {v : Value} {s : ByteArray} (h : Byt w w.heap.size v s) (hl : s.size ≤ 140737488351232) :
    Calls Tryd.prog 14 #[v] w fun e w' => ∃ u, e = .returned u ∧ Byts.Own w' w.heap.size u s.data.toList ∧ Below w.heap.size w w' := by
  obtain ⟨i0, hi, hz0, hz1, hz2⟩ := info_parts info5
  have hbyt := h
  obtain ⟨a, cap, rfl, hlc, hm, hnil, hcell⟩ := h
  have hb := (Below.refl w.heap.size w).alloc (Nat.le_refl _) (.cells #[] 5)
  have ho : Byts.Own (w.alloc (.cells #[] 5)) w.heap.size (.slice (some ⟨w.heap.size, 0, none⟩) 0 0) [] :=
    ⟨rfl, .inr ⟨w.heap.size, 0, #[], rfl, Nat.le_refl _, heap_alloc_new w _, Nat.le_refl _, by unfold maxLen; omega, rfl, rfl⟩⟩
  have hsl : s.data.toList.length = s.size := by simp
  cases a with
  | none =>
    obtain rfl := hnil rfl
    have h0 : s.size = 0 := by omega
    have e : s.data.toList = [] := List.eq_nil_of_length_eq_zero (by omega)
    rw [e]
    rw [h0]
    clear hcell hbyt hsl e h0 hlc
    go_enter Tryd.func14, Tryd.ntmps14
    go_wp2
    go_ret
    exact ⟨_, rfl, ho, hb⟩
  | some x =>
    obtain ⟨g, o, sp⟩ := x
    have hnews : ∀ j u, (Lib.byteCells s.data.toList)[j]? = some u → (w.alloc (.cells #[] 5)).cell? ((⟨g, o, sp⟩ : Addr).add j) = some u := by
      intro j u hj
      have hl : j < s.size := by
        have := (List.getElem?_eq_some_iff.1 hj).1
        rw [Lib.byteCells_length] at this
        omega
      rcases hcell with h0 | ⟨g', o', e, hg, hc⟩
      · omega
      · cases e
        exact (World.grownBy_alloc w _ none).cell (cells_of hc j u hj) (by simp)
    have hlen : (Lib.byteCells s.data.toList).length = s.size * 1 := by rw [Lib.byteCells_length, hsl]; omega
    generalize hN : s.size = N at *
    clear hcell hbyt
    go_enter Tryd.func14, Tryd.ntmps14
    go_wp2_with (first
      | (at_builtin; refine wpList_append_own _ rfl _ _ 30 rfl w.heap.size 5 i0 (.int .u8 0) 1 1 Tryd.underlying30 hi hz0 hz1 hz2 rfl (by decide) _ _ _ rfl ho ⟨g, o, sp⟩ N cap (Lib.byteCells s.data.toList) rfl hlen hnews (bc_one _) (by unfold maxLen; simp; omega) (by simp; omega) (by simp) ?_))
    intro v' w2 hown' hgrow hnn
    have hb3 := hb.grown hgrow (by simp) (fun k hk => by cases hk; exact Nat.le_refl _)
    have ho2 : Byts.Own w2 w.heap.size v' s.data.toList := by
      unfold Byts.Own
      rw [hsl]
      have h := hown'
      rw [show Lib.byteCells ([] : List UInt8) = [] from rfl, List.nil_append] at h
      simpa using h
    clear hown' hgrow ho hb hnews
    go_wp2
    go_ret
    exact ⟨_, rfl, ho2, hb3⟩
def bl4 : Array Value := #[.int .u8 32, .int .u8 10, .int .u8 9, .int .u8 13]
/-- Four blanks that are laid for good, lengthened by bytes that came in. -/
theorem blank_run {w W : World} {p : Nat} {g o cap : Nat} {s : ByteArray} (hp : W.heap[p]? = some (.cells bl4 5 (4, 5))) (hc : ∀ j, j < s.size → W.cell? ⟨g, o + j, none⟩ = some (.int .u8 (at' s j : Nat))) (h0 : 0 < s.size) (hs : s.size ≤ 65536) (ty : TypeId) :
    ∃ v' w', (Builtin.append_ #[30, 30] ty #[.slice (some ⟨p, 0, none⟩) 4 4, .slice (some ⟨g, o, none⟩) s.size cap]).run Tryd.prog W = .ok v' w' ∧ Byts.Own w' W.heap.size v' ([32, 10, 9, 13] ++ s.data.toList) ∧ Below W.heap.size W w' := by
  obtain ⟨i0, hi, hz0, hz1, hz2⟩ := info_parts info5
  have hsl : s.data.toList.length = s.size := by simp
  have hol : ∀ j v, (Lib.byteCells [32, 10, 9, 13])[j]? = some v → W.cell? ((⟨p, 0, none⟩ : Addr).add j) = some v := by
    intro j v hj
    rw [add_none, Nat.zero_add, cell_of_row W p j bl4 5 (4, 5) hp]
    match j, hj with
    | 0, hj | 1, hj | 2, hj | 3, hj => exact hj
    | j + 4, hj => simp [Lib.byteCells] at hj
  have hr := run_append_grow (P := Tryd.prog) W 30 ty 5 i0 (.int .u8 0) Tryd.underlying30 hi hz0 ⟨p, 0, none⟩ 4 4 (Lib.byteCells [32, 10, 9, 13]) (by rw [hz1]; rfl) hol ⟨g, o, none⟩ s.size cap (Lib.byteCells s.data.toList) (by rw [hz1, Lib.byteCells_length, hsl]; omega) (cells_of hc) (by omega) (by omega) (growslice_fits (by omega) (by rw [hz2]; omega))
  refine ⟨_, _, hr, ?_, ?_⟩
  · have hge := grownCap_ge W (4 + s.size) 4 5
    have hcm : grownCap W (4 + s.size) 4 5 ≤ maxLen := grownCap_le_maxLen W (4 + s.size) 4 5 (by unfold maxLen; omega)
    have hlen : ([32, 10, 9, 13] ++ s.data.toList : List UInt8).length = 4 + s.size := by simp; omega
    refine ⟨by rw [Lib.byteCells_length, hlen]; omega, .inr ⟨W.heap.size, _, _, by rw [hlen], Nat.le_refl _, heap_alloc_new W.drew _, by omega, hcm, ?_, ?_⟩⟩
    · simp only [Array.size_append, List.size_toArray, size_zeroCells, Lib.byteCells_length, hsl]
      show 4 + s.size + (_ - _) * 1 = _
      omega
    · simp only [Array.toList_append, List.append_assoc]
      rw [← List.append_assoc, ← Lib.byteCells_append]
      have : ([32, 10, 9, 13] ++ s.data.toList : List UInt8).length * 1 = (Lib.byteCells ([32, 10, 9, 13] ++ s.data.toList)).length := by rw [Lib.byteCells_length]; omega
      rw [this]
      exact List.take_left
  · exact ⟨rfl, rfl, rfl, by simp, fun k hk => Below.heap_alloc W.drew _ k hk⟩
/-- An append whose run is known. -/
theorem wpList_append_run {P : Program} {w w' : World} {ops : Array Oper} {rest : List Oper} {o : Oper} {a : Act} {Q : Exit → Act → World → Prop} (hgd : o.guard = none) (s x : Operand) (t t2 : TypeId)
    (ho : o.op = .call { callee := .builtin .append, args := #[s, x], argTypes := #[t, t2] }) (sv xv v' : Value) (hs : a.eval s = sv) (hx : a.eval x = xv)
    (hr : (Builtin.append_ #[t, t2] o.type #[sv, xv]).run P w = .ok v' w') (h : wpList P ops Q rest (a.put o.dst v') w') : wpList P ops Q (o :: rest) a w := by
  refine wpList_plain hgd fun K hK => ?_
  unfold Oper.wp execOp
  simp only [ho, resolve, invoke, builtin, Sem.run_bind, Sem.run_pure, Result.andThen_ok, List.map_toArray, List.map_cons, List.map_nil, hs, hx, hr]
  exact hK _ _ h
end Go.Proofs.YtopjadjaknmfeabDoor.FBy
namespace Go.Proofs.YtopjadjaknmfeabDoor.FSm
open Go.RowKit Go.Proofs.YtopjadjaknmfeabDoor.Base Go.Proofs.YtopjadjaknmfeabDoor.UBase Go.Proofs.YtopjadjaknmfeabDoor.Spec Go.Proofs.YtopjadjaknmfeabDoor.Byts Go.Proofs.YtopjadjaknmfeabDoor.Shallow
set_option linter.unusedVariables false
/-- The bytes of v are L: what string(v) reads. -/
def Rd (w : World) (v : Value) (L : List UInt8) : Prop := (∃ a n c, v = .slice a n c) ∧ (convert 30 9 v).run Tryd.prog w = .ok (.string ⟨L.toArray⟩) w
theorem own_shape {w : World} {B : Nat} {v : Value} {L : List UInt8} (h : Byts.Own w B v L) : ∃ a c, v = .slice a L.length c := by
  obtain ⟨a, cap, e, -⟩ := h.len
  exact ⟨a, cap, e⟩
theorem rd_own {w : World} {B : Nat} {v : Value} {L : List UInt8} (h : Byts.Own w B v L) : Rd w v L := by
  obtain ⟨a, c, e⟩ := own_shape h
  exact ⟨⟨_, _, _, e⟩, own_conv h⟩
theorem sameB_c {w : World} {a b : Value} {L M : List UInt8} (ha : Rd w a L) (hb : Rd w b M) :
    Calls Tryd.prog 15 #[a, b] w fun e w' => e = .returned (.bool (L == M)) ∧ w' = w := by
  obtain ⟨⟨a1, n1, c1, rfl⟩, h1⟩ := ha
  obtain ⟨⟨a2, n2, c2, rfl⟩, h2⟩ := hb
  go_enter Tryd.func15, Tryd.ntmps15
  go_wp2_with fail
  go_ret
  exact ⟨rfl, rfl⟩
theorem numF (x : Int) (w : World) : Calls Tryd.prog 10 #[.int .i64 x] w fun e w' => e = .returned (.int .i64 x) ∧ w = w' := by
  go_enter Tryd.func10, Tryd.ntmps10
  go_wp2_with fail
  go_ret
  exact ⟨rfl, rfl⟩
theorem dep_in {r : Bool} {S : Nat → Prop} {w : World} : ∀ m v c, In r S w m v c → dep c ≤ m := by
  intro m
  induction m with
  | zero => intro v c h; rw [In] at h; exact h.elim
  | succ m ih =>
    intro v c h
    obtain ⟨k, b, i, s, n, l⟩ := c
    rw [in_iff] at h
    obtain ⟨nv, lv, rfl, hk, hi, hs, hn, a, cap, rfl, -, -, -, -, hL⟩ := h
    have hl : ∀ l' : List C, (∀ c ∈ l', dep c ≤ m) → depL l' ≤ m := by
      intro l'
      induction l' with
      | nil => intro _; simp [depL]
      | cons c cs ihl =>
        intro hc
        rw [depL_cons, Nat.max_le]
        exact ⟨hc c List.mem_cons_self, ihl fun x hx => hc x (List.mem_cons_of_mem _ hx)⟩
    have : depL l ≤ m := hl l fun c hc => by
      obtain ⟨q, hq, rfl⟩ := List.getElem_of_mem hc
      rcases hL with ⟨rfl, -⟩ | ⟨g, o, -, -, hel, -⟩
      · simp at hq
      · obtain ⟨u, -, hu⟩ := hel q hq
        exact ih u _ hu
    rw [dep]
    omega
end Go.Proofs.YtopjadjaknmfeabDoor.FSm
namespace Go.Proofs.YtopjadjaknmfeabDoor.RBv
open Go.RowKit Go.Proofs.YtopjadjaknmfeabDoor.Base Go.Proofs.YtopjadjaknmfeabDoor.UBase Go.Proofs.YtopjadjaknmfeabDoor.Spec Go.Proofs.YtopjadjaknmfeabDoor.Sums Go.Proofs.YtopjadjaknmfeabDoor.Nums Go.Proofs.YtopjadjaknmfeabDoor.Dec Go.Proofs.YtopjadjaknmfeabDoor.RBt Go.Proofs.YtopjadjaknmfeabDoor.WRow Go.Proofs.YtopjadjaknmfeabDoor.WChk Go.Proofs.YtopjadjaknmfeabDoor.Pure Go.Proofs.YtopjadjaknmfeabDoor.Names Go.Proofs.YtopjadjaknmfeabDoor.Fault Go.Proofs.YtopjadjaknmfeabDoor.Walk Go.Proofs.YtopjadjaknmfeabDoor.Measure Go.Proofs.YtopjadjaknmfeabDoor.UValid
set_option linter.unusedVariables false
theorem dig_of {x : UInt8} (h : isDig x = true) : dig x.toNat = true := by
  have := isDig_le h
  simp [dig, this]
theorem dgs_run {s : ByteArray} : ∀ (L : List UInt8) (i : Nat), L.all isDig = true → St s i L → dig (at' s (i + L.length)) = false → dgs s i = i + L.length
  | [], i, _, _, h => by rw [List.length_nil, Nat.add_zero] at *; exact dgs_stop h
  | x :: L, i, ha, hs, h => by
    rw [List.all_cons, Bool.and_eq_true] at ha
    have e : i + (x :: L).length = i + 1 + L.length := by rw [List.length_cons]; omega
    rw [e] at h ⊢
    rw [dgs_step hs.lt (by rw [hs.head]; exact dig_of ha.1)]
    exact dgs_run L (i + 1) ha.2 hs.tail h
theorem ext_bs {s : ByteArray} {i : Nat} {L : List UInt8} (h : St s i L) : bs (s.extract i (i + L.length)) = L := by
  have hsz : (s.extract i (i + L.length)).size = L.length := by
    have := h.1
    simp
    omega
  have hb : ∀ t : ByteArray, bs t = t.data.toList := fun t => rfl
  rw [hb]
  apply List.ext_getElem
  · rw [Array.length_toList]; exact hsz
  · intro j h1 h2
    have hj : j < (s.extract i (i + L.length)).size := by omega
    have e := h.2 j _ (List.getElem?_eq_getElem h2)
    rw [at_get _ _ (by have := h.1; omega)] at e
    have : (s.extract i (i + L.length)).data.toList[j] = (s.extract i (i + L.length))[j]'hj := rfl
    rw [this, ByteArray.getElem_extract]
    exact UInt8.toNat_inj.1 e
theorem rd_back {s : ByteArray} {i : Nat} {x : Int} (h : St s i (Lib.itoa x)) (h0 : -9223372036854775808 ≤ x ∧ x ≤ 9223372036854775807) : rd s i (i + (Lib.itoa x).length) = .ok (x, i + (Lib.itoa x).length) := by
  obtain ⟨e1, e2⟩ := parse_itoa x h0.1 h0.2
  rw [rd, ext_bs h, e1, e2, if_pos rfl]
theorem pos_head {l : List UInt8} (h : posForm l = true) : ∃ d r, l = d :: r ∧ d.toNat ≠ 48 ∧ (d :: r).all isDig = true := by
  match l, h with
  | d :: r, h =>
    simp only [posForm, Bool.and_eq_true] at h
    exact ⟨d, r, rfl, by simpa using h.1, h.2⟩
theorem nm_back {s : ByteArray} {i : Nat} {x : Int} (h : St s i (Lib.itoa x)) (h0 : -9223372036854775808 ≤ x ∧ x ≤ 9223372036854775807) (hd : dig (at' s (i + (Lib.itoa x).length)) = false) : nm s i = .ok (x, i + (Lib.itoa x).length) := by
  have hr := rd_back h h0
  by_cases hx : x < 0
  · obtain ⟨u, hu, rfl⟩ : ∃ u : Nat, 1 ≤ u ∧ x = -(u : Int) := ⟨x.natAbs, by omega, by omega⟩
    rw [Lib.itoa_neg u hu] at h hd hr ⊢
    obtain ⟨d, r, e, hd48, hall⟩ := pos_head (posForm_digits (N := u) (by omega))
    have hh := h.head
    have ht := h.tail
    have hdg : dig (at' s (i + 1)) = true := by
      rw [e] at ht
      rw [ht.head]
      exact dig_of (List.all_eq_true.1 hall d List.mem_cons_self)
    have h48 : at' s (i + 1) ≠ 48 := by
      rw [e] at ht
      rw [ht.head]
      exact hd48
    have hs : sgn s i = i + 1 := by rw [sgn, if_pos (by rw [hh]; rfl)]
    have hlen : i + (45 :: Lib.decDigits u).length = i + 1 + (Lib.decDigits u).length := by rw [List.length_cons]; omega
    have hrun := dgs_run (Lib.decDigits u) (i + 1) (by rw [e]; exact hall) ht (by rw [← hlen]; exact hd)
    rw [nm, hs, hdg, if_neg (by simp), if_neg h48, hrun, ← hlen]
    exact hr
  · obtain ⟨u, rfl⟩ : ∃ u : Nat, x = (u : Int) := ⟨x.natAbs, by omega⟩
    rw [Lib.itoa_nonneg u] at h hd hr ⊢
    by_cases hu : u = 0
    · subst hu
      rw [Lib.decDigits_one (by omega)] at h hd ⊢
      have hh : at' s i = 48 := h.head
      have hs : sgn s i = i := by rw [sgn, if_neg (by omega)]
      have hd' : dig (at' s (i + 1)) = false := hd
      rw [nm, hs, hh, if_neg (by decide), if_pos rfl, if_neg (by omega), hd', if_neg (by decide)]
      rfl
    · obtain ⟨d, r, e, hd48, hall⟩ := pos_head (posForm_digits (N := u) (by omega))
      have hdig := isDig_le (List.all_eq_true.1 hall d List.mem_cons_self)
      have hh : at' s i = d.toNat := by rw [e] at h; exact h.head
      have hs : sgn s i = i := by rw [sgn, if_neg (by omega)]
      have hdg : dig (at' s i) = true := by rw [hh]; exact dig_of (List.all_eq_true.1 hall d List.mem_cons_self)
      have hrun := dgs_run (Lib.decDigits u) i (by rw [e]; exact hall) h hd
      rw [nm, hs, hdg, if_neg (by simp), if_neg (by omega), hrun]
      exact hr
theorem itoa_head (x : Int) : ∃ y r, Lib.itoa x = y :: r ∧ (y = 45 ∨ isDig y = true) := by
  by_cases hx : x < 0
  · obtain ⟨u, hu, rfl⟩ : ∃ u : Nat, 1 ≤ u ∧ x = -(u : Int) := ⟨x.natAbs, by omega, by omega⟩
    exact ⟨45, _, Lib.itoa_neg u hu, .inl rfl⟩
  · obtain ⟨u, rfl⟩ : ∃ u : Nat, x = (u : Int) := ⟨x.natAbs, by omega⟩
    rw [Lib.itoa_nonneg u]
    by_cases hu : u = 0
    · subst hu
      exact ⟨48, [], Lib.decDigits_one (by omega), .inr (by decide)⟩
    · obtain ⟨d, r, e, hd48, hall⟩ := pos_head (posForm_digits (N := u) (by omega))
      exact ⟨d, r, e, .inr (List.all_eq_true.1 hall d List.mem_cons_self)⟩
/-- What a value's text begins with. -/
theorem bd_head {k : Int} (hk : 1 ≤ k ∧ k ≤ 6) (b : Bool) (i : Int) (t : ByteArray) (n : List ByteArray) (ps : List (List UInt8)) : ∃ y r, bd k b i t n ps = y :: r ∧ beg y.toNat = true ∧ isb y.toNat = false := by
  unfold bd
  by_cases h1 : k = 1
  · rw [if_pos h1]; exact ⟨_, _, rfl, by decide, by decide⟩
  rw [if_neg h1]
  by_cases h2 : k = 2
  · rw [if_pos h2]
    cases b
    · exact ⟨102, _, rfl, by decide, by decide⟩
    · exact ⟨116, _, rfl, by decide, by decide⟩
  rw [if_neg h2]
  by_cases h3 : k = 3
  · rw [if_pos h3]
    obtain ⟨y, r, e, hy⟩ := itoa_head i
    refine ⟨y, r, e, ?_, ?_⟩
    · rcases hy with rfl | hy
      · decide
      · simp [beg, dig_of hy]
    · rcases hy with rfl | hy
      · decide
      · have := isDig_le hy
        simp [isb]
        omega
  rw [if_neg h3]
  by_cases h4 : k = 4
  · rw [if_pos h4]; exact ⟨34, _, rfl, by decide, by decide⟩
  rw [if_neg h4]
  by_cases h5 : k = 5
  · rw [if_pos h5]; exact ⟨91, _, rfl, by decide, by decide⟩
  rw [if_neg h5]
  exact ⟨123, _, rfl, by decide, by decide⟩
theorem pv_head {c : C} (hk : 1 ≤ c.k ∧ c.k ≤ 6) : ∃ y r, pv c = y :: r ∧ beg y.toNat = true ∧ isb y.toNat = false := by
  obtain ⟨k, b, i, t, n, l⟩ := c
  rw [pv]
  exact bd_head hk b i t n _
theorem blk_at {s : ByteArray} {i : Nat} {c : C} (hk : 1 ≤ c.k ∧ c.k ≤ 6) {M : List UInt8} (h : St s i (pv c ++ M)) : blk s i = i ∧ beg (at' s i) = true ∧ 1 ≤ (pv c).length := by
  obtain ⟨y, r, e, h1, h2⟩ := pv_head hk
  rw [e] at h
  have hh : at' s i = y.toNat := St.head h
  exact ⟨blk_stop (by rw [hh]; exact h2), by rw [hh]; exact h1, by rw [e]; simp⟩
/-- Of the fields that a kind does not use. -/
theorem pu_parts {k : Int} {b : Bool} {i : Int} {s : ByteArray} {n1 n2 : Nat} (h : pu k b i s n1 n2 = true) : (k = 2 ∨ b = false) ∧ (k = 3 ∨ i = 0) ∧ (k = 4 ∨ s = ⟨#[]⟩) ∧ ((k = 5 ∨ k = 6) ∨ n2 = 0) ∧ (k = 6 ∨ n1 = 0) := by
  unfold pu at h
  simp only [Bool.and_eq_true, Bool.or_eq_true, decide_eq_true_eq, Bool.not_eq_true'] at h
  obtain ⟨⟨⟨⟨h1, h2⟩, h3⟩, h4⟩, h5⟩ := h
  refine ⟨h1, h2, ?_, h4, h5⟩
  rcases h3 with h3 | h3
  · exact .inl h3
  · right
    rw [ByteArray.toList_eq] at h3
    have : s.data.toList = [] := by simpa using h3
    exact ByteArray.ext (Array.toList_inj.1 (by simpa using this))
theorem tg_parts {s : ByteArray} (h : tg s = true) : bad s 0 = none ∧ s.size ≤ 4096 := by
  unfold tg at h
  rw [Bool.and_eq_true] at h
  refine ⟨?_, of_decide_eq_true h.1⟩
  have h2 := h.2
  unfold verr at h2
  by_cases hb : bad s 0 = none
  · exact hb
  · rw [if_neg hb] at h2; simp at h2
/-- What may be, from a depth on. -/
def G (d : Nat) (c : C) : Prop := ∀ x ∈ pl d c, (((1 ≤ x.2.k ∧ x.2.k ≤ 6) ∧ fm x.2 = true) ∧ x.1 ≤ 24) ∧ (-9223372036854775808 ≤ x.2.i ∧ x.2.i ≤ 9223372036854775807)
theorem G.elem {d : Nat} {k : Int} {b : Bool} {i : Int} {s : ByteArray} {n : List ByteArray} {l : List C} (h : G d (.mk k b i s n l)) : ∀ c ∈ l, G (d + 1) c := by
  intro c hc x hx
  exact h x (by rw [pl]; exact List.mem_cons_of_mem _ (mem_plL hc hx))
/-- v reads back what stands there. -/
def Bk (v : V) (s : ByteArray) (d : Nat) (c : C) : Prop := ∀ i b, St s i (pv c) → dig (at' s (i + (pv c).length)) = false → b + (pl d c).length ≤ 16384 → v i b = .ok (c, i + (pv c).length, b + (pl d c).length)
theorem lst_back {v : V} {s : ByteArray} {d : Nat} : ∀ (l : List C) (f i b : Nat) (acc : List C), l ≠ [] → l.length ≤ f → (∀ c ∈ l, (1 ≤ c.k ∧ c.k ≤ 6) ∧ Bk v s d c) → St s i (jn (pvL l) ++ [93]) → b + (plL d l).length ≤ 16384 →
    lst v s f i b acc = .ok (acc ++ l, i + (jn (pvL l)).length + 1, b + (plL d l).length)
  | [], _, _, _, _, h, _, _, _, _ => (h rfl).elim
  | [c], f, i, b, acc, _, hf, hv, hs, hb => by
    obtain ⟨f, rfl⟩ : ∃ g, f = g + 1 := ⟨f - 1, by rw [List.length_singleton] at hf; omega⟩
    have e : jn (pvL [c]) = pv c := by rw [pvL_map]; rfl
    rw [e] at hs ⊢
    have hp : plL d [c] = pl d c := by rw [plL_cons, plL, List.append_nil]
    rw [hp] at hb ⊢
    have h93 : at' s (i + (pv c).length) = 93 := St.head (L := []) hs.right
    have hbk : blk s (i + (pv c).length) = i + (pv c).length := blk_stop (by rw [h93]; decide)
    rw [lst, (hv c List.mem_cons_self).2 i b hs.left (by rw [h93]; decide) hb]
    dsimp only
    rw [hbk, h93, if_pos rfl]
  | c :: c2 :: l, f, i, b, acc, _, hf, hv, hs, hb => by
    obtain ⟨f, rfl⟩ : ∃ g, f = g + 1 := ⟨f - 1, by rw [List.length_cons] at hf; omega⟩
    have e : jn (pvL (c :: c2 :: l)) = pv c ++ 44 :: jn (pvL (c2 :: l)) := by rw [pvL_map, pvL_map]; rfl
    rw [e] at hs ⊢
    rw [plL_cons, List.length_append] at hb
    rw [List.append_assoc] at hs
    have hr : St s (i + (pv c).length) (44 :: (jn (pvL (c2 :: l)) ++ [93])) := hs.right
    have h44 : at' s (i + (pv c).length) = 44 := hr.head
    have hbk : blk s (i + (pv c).length) = i + (pv c).length := blk_stop (by rw [h44]; decide)
    have hn : blk s (i + (pv c).length + 1) = i + (pv c).length + 1 := by
      have h2 := hr.tail
      have hk2 := (hv c2 (List.mem_cons_of_mem _ List.mem_cons_self)).1
      cases l with
      | nil =>
        have e2 : jn (pvL [c2]) = pv c2 := by rw [pvL_map]; rfl
        rw [e2] at h2
        exact (blk_at hk2 h2).1
      | cons c3 l =>
        have e2 : jn (pvL (c2 :: c3 :: l)) = pv c2 ++ 44 :: jn (pvL (c3 :: l)) := by rw [pvL_map, pvL_map]; rfl
        rw [e2, List.append_assoc] at h2
        exact (blk_at hk2 h2).1
    rw [lst, (hv c List.mem_cons_self).2 i b hs.left (by rw [h44]; decide) (by omega)]
    dsimp only
    rw [hbk, h44, if_neg (by decide), if_pos rfl, hn, lst_back (c2 :: l) f _ _ _ (by simp) (by rw [List.length_cons] at hf; omega) (fun x hx => hv x (List.mem_cons_of_mem _ hx)) hr.tail (by omega)]
    rw [plL_cons d c, List.length_append, List.append_assoc, List.length_append, List.length_cons]
    simp only [List.singleton_append]
    rw [show i + (pv c).length + 1 + (jn (pvL (c2 :: l))).length + 1 = i + ((pv c).length + ((jn (pvL (c2 :: l))).length + 1)) + 1 by omega, show b + (pl d c).length + (plL d (c2 :: l)).length = b + ((pl d c).length + (plL d (c2 :: l)).length) by omega]
/-- A pair's text. -/
def pr (t : ByteArray) (p : List UInt8) : List UInt8 := qt t ++ 58 :: p
theorem rcd_back {v : V} {s : ByteArray} {d : Nat} : ∀ (l : List C) (n : List ByteArray) (f i b : Nat) (ns : List ByteArray) (acc : List C), l ≠ [] → n.length = l.length → l.length ≤ f → (∀ c ∈ l, (1 ≤ c.k ∧ c.k ≤ 6) ∧ Bk v s d c) → (∀ t ∈ n, bad t 0 = none ∧ t.size ≤ 4096) → (ns ++ n).Nodup →
    St s i (jn (List.zipWith pr n (pvL l)) ++ [125]) → b + (plL d l).length ≤ 16384 → rcd v s f i b ns acc = .ok (ns ++ n, acc ++ l, i + (jn (List.zipWith pr n (pvL l))).length + 1, b + (plL d l).length)
  | [], _, _, _, _, _, _, h, _, _, _, _, _, _, _ => (h rfl).elim
  | c :: l, [], _, _, _, _, _, _, hn, _, _, _, _, _, _ => by simp at hn
  | c :: l, t :: n, f, i, b, ns, acc, _, hn, hf, hv, ht, hnd, hs, hb => by
    obtain ⟨f, rfl⟩ : ∃ g, f = g + 1 := ⟨f - 1, by rw [List.length_cons] at hf; omega⟩
    obtain ⟨hk, hB⟩ := hv c List.mem_cons_self
    obtain ⟨t1, t2⟩ := ht t List.mem_cons_self
    have hno : has t ns = false := by
      cases hh : has t ns with
      | false => rfl
      | true =>
        rw [has_iff] at hh
        have := (List.nodup_append.1 hnd).2.2 t hh t List.mem_cons_self
        exact (this rfl).elim
    rw [plL_cons, List.length_append] at hb
    cases l with
    | nil =>
      have en : n = [] := List.eq_nil_of_length_eq_zero (by simpa using hn)
      subst en
      have e : jn (List.zipWith pr [t] (pvL [c])) = pr t (pv c) := by rw [pvL_map]; rfl
      rw [e] at hs ⊢
      unfold pr at hs ⊢
      rw [List.append_assoc] at hs
      have h1 : St s (i + (qt t).length) (58 :: (pv c ++ [125])) := hs.right
      have h58 : at' s (i + (qt t).length) = 58 := h1.head
      have hb1 : blk s (i + (qt t).length) = i + (qt t).length := blk_stop (by rw [h58]; decide)
      have h2 := h1.tail
      have h125 : at' s (i + (qt t).length + 1 + (pv c).length) = 125 := St.head (L := []) h2.right
      have hb2 : blk s (i + (qt t).length + 1 + (pv c).length) = i + (qt t).length + 1 + (pv c).length := blk_stop (by rw [h125]; decide)
      rw [rcd, txt_back t1 t2 hs.left]
      dsimp only
      rw [hno, if_neg (by decide), hb1, if_pos h58, hB _ b h2.left (by rw [h125]; decide) (by omega)]
      dsimp only
      rw [hb2, h125, if_pos rfl, plL_cons, plL, List.append_nil, List.length_append, List.length_cons]
      rw [show i + (qt t).length + 1 + (pv c).length + 1 = i + ((qt t).length + ((pv c).length + 1)) + 1 by omega]
    | cons c2 l =>
      match n, hn, ht, hnd, hs with
      | t2' :: n, hn, ht, hnd, hs =>
        have e : jn (List.zipWith pr (t :: t2' :: n) (pvL (c :: c2 :: l))) = pr t (pv c) ++ 44 :: jn (List.zipWith pr (t2' :: n) (pvL (c2 :: l))) := by rw [pvL_map, pvL_map]; rfl
        rw [e] at hs ⊢
        unfold pr at hs ⊢
        rw [List.append_assoc, List.append_assoc, List.cons_append, List.cons_append] at hs
        have h1 : St s (i + (qt t).length) (58 :: (pv c ++ 44 :: (jn (List.zipWith pr (t2' :: n) (pvL (c2 :: l))) ++ [125]))) := hs.right
        have h58 : at' s (i + (qt t).length) = 58 := h1.head
        have hb1 : blk s (i + (qt t).length) = i + (qt t).length := blk_stop (by rw [h58]; decide)
        have h2 := h1.tail
        have h3 := h2.right
        have h44 : at' s (i + (qt t).length + 1 + (pv c).length) = 44 := h3.head
        have hb2 : blk s (i + (qt t).length + 1 + (pv c).length) = i + (qt t).length + 1 + (pv c).length := blk_stop (by rw [h44]; decide)
        have h4 := h3.tail
        have hb3 : blk s (i + (qt t).length + 1 + (pv c).length + 1) = i + (qt t).length + 1 + (pv c).length + 1 := by
          refine blk_stop ?_
          have : ∃ r, jn (List.zipWith pr (t2' :: n) (pvL (c2 :: l))) ++ [125] = 34 :: r := by
            rw [pvL_map, List.map_cons, List.zipWith_cons_cons]
            cases hz : List.zipWith pr n (l.map pv) with
            | nil => exact ⟨_, rfl⟩
            | cons y ys => exact ⟨_, rfl⟩
          obtain ⟨r, er⟩ := this
          rw [er] at h4
          rw [h4.head]
          decide
        have hnd' : ((ns ++ [t]) ++ (t2' :: n)).Nodup := by rw [List.append_assoc]; exact hnd
        have ih := rcd_back (v := v) (s := s) (d := d) (c2 :: l) (t2' :: n) f (i + (qt t).length + 1 + (pv c).length + 1) (b + (pl d c).length) (ns ++ [t]) (acc ++ [c]) (by simp) (by simpa using hn) (by rw [List.length_cons] at hf; omega) (fun x hx => hv x (List.mem_cons_of_mem _ hx)) (fun x hx => ht x (List.mem_cons_of_mem _ hx)) hnd' h4 (by omega)
        rw [rcd, txt_back t1 t2 hs.left]
        dsimp only
        rw [hno, if_neg (by decide), hb1, if_pos h58, hB _ b h2.left (by rw [h44]; decide) (by omega)]
        dsimp only
        rw [hb2, h44, if_neg (by decide), if_pos rfl, hb3, ih, plL_cons d c, List.length_append, List.append_assoc, List.append_assoc, List.length_append, List.length_cons, List.length_append, List.length_cons]
        simp only [List.singleton_append]
        rw [show i + (qt t).length + 1 + (pv c).length + 1 + (jn (List.zipWith pr (t2' :: n) (pvL (c2 :: l)))).length + 1 = i + ((qt t).length + ((pv c).length + 1) + ((jn (List.zipWith pr (t2' :: n) (pvL (c2 :: l)))).length + 1)) + 1 by omega, show b + (pl d c).length + (plL d (c2 :: l)).length = b + ((pl d c).length + (plL d (c2 :: l)).length) by omega]
        rfl
theorem jn_ge : ∀ (l : List C), (∀ c ∈ l, 1 ≤ c.k ∧ c.k ≤ 6) → l.length ≤ (jn (pvL l)).length
  | [], _ => by simp
  | [c], h => by
    obtain ⟨y, r, e, -⟩ := pv_head (h c List.mem_cons_self)
    have e1 : jn (pvL [c]) = pv c := by rw [pvL_map]; rfl
    rw [e1, e]
    simp
  | c :: c2 :: l, h => by
    have ih := jn_ge (c2 :: l) fun x hx => h x (List.mem_cons_of_mem _ hx)
    have e : jn (pvL (c :: c2 :: l)) = pv c ++ 44 :: jn (pvL (c2 :: l)) := by rw [pvL_map, pvL_map]; rfl
    rw [e]
    simp only [List.length_cons, List.length_append] at ih ⊢
    omega
theorem jz_ge : ∀ (l : List C) (n : List ByteArray), n.length = l.length → l.length ≤ (jn (List.zipWith pr n (pvL l))).length
  | [], _, _ => by simp
  | c :: l, [], h => by simp at h
  | [c], t :: n, h => by
    have en : n = [] := List.eq_nil_of_length_eq_zero (by simpa using h)
    subst en
    have e1 : jn (List.zipWith pr [t] (pvL [c])) = pr t (pv c) := by rw [pvL_map]; rfl
    rw [e1]
    simp [pr]
    omega
  | c :: c2 :: l, t :: n, h => by
    match n, h with
    | t2 :: n, h =>
      have ih := jz_ge (c2 :: l) (t2 :: n) (by simpa using h)
      have e : jn (List.zipWith pr (t :: t2 :: n) (pvL (c :: c2 :: l))) = pr t (pv c) ++ 44 :: jn (List.zipWith pr (t2 :: n) (pvL (c2 :: l))) := by rw [pvL_map, pvL_map]; rfl
      rw [e]
      simp only [List.length_cons, List.length_append] at ih ⊢
      omega
theorem vl_back (s : ByteArray) : ∀ (n d : Nat) (c : C), n + d = 25 → G d c → Bk (vl s n) s d c := by
  intro n
  induction n with
  | zero =>
    intro d c hd hg
    obtain ⟨k, b, i, t, nn, l⟩ := c
    have := (hg (d, .mk k b i t nn l) (by rw [pl]; exact List.mem_cons_self)).1.2
    dsimp only at this
    omega
  | succ n ih =>
    intro d c hd hg i b hs hdg hb
    obtain ⟨k, bo, x, t, nn, l⟩ := c
    obtain ⟨⟨⟨hk, hf⟩, -⟩, hx⟩ := hg (d, .mk k bo x t nn l) (by rw [pl]; exact List.mem_cons_self)
    dsimp only [C.k, C.i] at hk hx
    have hels := hg.elem
    have hkids : ∀ c ∈ l, (1 ≤ c.k ∧ c.k ≤ 6) ∧ Bk (vl s n) s (d + 1) c := fun c hc => by
      refine ⟨?_, ih (d + 1) c (by omega) (hels c hc)⟩
      obtain ⟨k', b', i', t', n', l'⟩ := c
      exact (hels _ hc (d + 1, .mk k' b' i' t' n' l') (by rw [pl]; exact List.mem_cons_self)).1.1.1
    obtain ⟨h1, h2, -⟩ := blk_at (c := .mk k bo x t nn l) hk (M := []) (by rw [List.append_nil]; exact hs)
    unfold fm at hf
    simp only [Bool.and_eq_true, C.k, C.b, C.i, C.s, C.n, C.l] at hf
    obtain ⟨⟨hpu, htg⟩, hnm⟩ := hf
    obtain ⟨u1, u2, u3, u4, u5⟩ := pu_parts hpu
    rw [pl, List.length_cons] at hb
    rw [vl, h1, if_pos h2, if_neg (by omega), pl, List.length_cons]
    rw [pv] at hs hdg ⊢
    have hcase : k = 1 ∨ k = 2 ∨ k = 3 ∨ k = 4 ∨ k = 5 ∨ k = 6 := by omega
    rcases hcase with rfl | rfl | rfl | rfl | rfl | rfl
    · obtain rfl : bo = false := by simpa using u1
      obtain rfl : x = 0 := by simpa using u2
      obtain rfl : t = ⟨#[]⟩ := by simpa using u3
      obtain rfl : l = [] := List.eq_nil_of_length_eq_zero (by simpa using u4)
      obtain rfl : nn = [] := List.eq_nil_of_length_eq_zero (by simpa using u5)
      have e : bd 1 false 0 ⟨#[]⟩ [] (pvL []) = [110, 117, 108, 108] := rfl
      rw [e] at hs ⊢
      have a0 : at' s i = 110 := hs.head
      have a1 : at' s (i + 1) = 117 := hs.tail.head
      have a2 : at' s (i + 1 + 1) = 108 := hs.tail.tail.head
      have a3 : at' s (i + 1 + 1 + 1) = 108 := hs.tail.tail.tail.head
      simp [one, a0, wd, a1, a2, a3, plL_nil]
    · obtain rfl : x = 0 := by simpa using u2
      obtain rfl : t = ⟨#[]⟩ := by simpa using u3
      obtain rfl : l = [] := List.eq_nil_of_length_eq_zero (by simpa using u4)
      obtain rfl : nn = [] := List.eq_nil_of_length_eq_zero (by simpa using u5)
      cases bo with
      | true =>
        have e : bd 2 true 0 ⟨#[]⟩ [] (pvL []) = [116, 114, 117, 101] := rfl
        rw [e] at hs ⊢
        have a0 : at' s i = 116 := hs.head
        have a1 : at' s (i + 1) = 114 := hs.tail.head
        have a2 : at' s (i + 1 + 1) = 117 := hs.tail.tail.head
        have a3 : at' s (i + 1 + 1 + 1) = 101 := hs.tail.tail.tail.head
        simp [one, a0, wd, a1, a2, a3, plL_nil]
      | false =>
        have e : bd 2 false 0 ⟨#[]⟩ [] (pvL []) = [102, 97, 108, 115, 101] := rfl
        rw [e] at hs ⊢
        have a0 : at' s i = 102 := hs.head
        have a1 : at' s (i + 1) = 97 := hs.tail.head
        have a2 : at' s (i + 1 + 1) = 108 := hs.tail.tail.head
        have a3 : at' s (i + 1 + 1 + 1) = 115 := hs.tail.tail.tail.head
        have a4 : at' s (i + 1 + 1 + 1 + 1) = 101 := hs.tail.tail.tail.tail.head
        simp [one, a0, wd, a1, a2, a3, a4, plL_nil]
    · obtain rfl : bo = false := by simpa using u1
      obtain rfl : t = ⟨#[]⟩ := by simpa using u3
      obtain rfl : l = [] := List.eq_nil_of_length_eq_zero (by simpa using u4)
      obtain rfl : nn = [] := List.eq_nil_of_length_eq_zero (by simpa using u5)
      have e : bd 3 false x ⟨#[]⟩ [] (pvL []) = Lib.itoa x := rfl
      rw [e] at hs hdg ⊢
      have hnb := nm_back hs hx hdg
      obtain ⟨y, r, ey, hy⟩ := itoa_head x
      have hh : at' s i = y.toNat := by rw [ey] at hs; exact hs.head
      have hyr : y.toNat = 45 ∨ (48 ≤ y.toNat ∧ y.toNat ≤ 57) := by
        rcases hy with rfl | hy
        · exact .inl rfl
        · exact .inr (isDig_le hy)
      rw [one, if_neg (by omega), if_neg (by omega), if_neg (by omega), if_neg (by omega), if_neg (by omega), if_neg (by omega), hnb]
      simp [plL_nil]
    · obtain rfl : bo = false := by simpa using u1
      obtain rfl : x = 0 := by simpa using u2
      obtain rfl : l = [] := List.eq_nil_of_length_eq_zero (by simpa using u4)
      obtain rfl : nn = [] := List.eq_nil_of_length_eq_zero (by simpa using u5)
      have e : bd 4 false 0 t [] (pvL []) = qt t := rfl
      rw [e] at hs ⊢
      obtain ⟨t1, t2⟩ := tg_parts htg
      have hh : at' s i = 34 := St.head (x := 34) hs
      rw [one, hh, if_neg (by decide), if_neg (by decide), if_neg (by decide), if_pos rfl, txt_back t1 t2 hs]
      simp [plL_nil]
    · obtain rfl : bo = false := by simpa using u1
      obtain rfl : x = 0 := by simpa using u2
      obtain rfl : t = ⟨#[]⟩ := by simpa using u3
      obtain rfl : nn = [] := List.eq_nil_of_length_eq_zero (by simpa using u5)
      have e : bd 5 false 0 ⟨#[]⟩ [] (pvL l) = 91 :: (jn (pvL l) ++ [93]) := rfl
      rw [e] at hs ⊢
      have hh : at' s i = 91 := hs.head
      have ht := hs.tail
      rw [one, hh, if_neg (by decide), if_neg (by decide), if_neg (by decide), if_neg (by decide), if_pos rfl, lis]
      cases l with
      | nil =>
        have h93 : at' s (i + 1) = 93 := St.head (L := []) (by simpa [pvL, jn] using ht)
        have hbk : blk s (i + 1) = i + 1 := blk_stop (by rw [h93]; decide)
        rw [hbk, if_pos h93]
        simp [pvL, jn, plL_nil]
      | cons c l =>
        have hne : at' s (i + 1) ≠ 93 ∧ blk s (i + 1) = i + 1 := by
          have hkc := (hkids c List.mem_cons_self).1
          obtain ⟨y, r, ey, hy1, hy2⟩ := pv_head hkc
          have : ∃ r', jn (pvL (c :: l)) ++ [93] = y :: r' := by
            rw [pvL_map, List.map_cons]
            cases hz : l.map pv with
            | nil => exact ⟨r ++ [93], by show pv c ++ [93] = _; rw [ey]; rfl⟩
            | cons z zs => exact ⟨_, by show (pv c ++ 44 :: jn (z :: zs)) ++ [93] = _; rw [ey]; rfl⟩
          obtain ⟨r', er⟩ := this
          rw [er] at ht
          refine ⟨fun h => ?_, blk_stop (by rw [ht.head]; exact hy2)⟩
          rw [ht.head] at h
          rw [h] at hy1
          exact absurd hy1 (by decide)
        have hsz := ht.1
        rw [List.length_append] at hsz
        have hge := jn_ge (c :: l) fun x hx => (hkids x hx).1
        rw [hne.2, if_neg hne.1, lst_back (d := d + 1) (c :: l) _ _ _ [] (by simp) (by omega) hkids ht (by omega)]
        simp only [List.nil_append, List.length_cons, List.length_append, List.length_nil]
        rw [show i + 1 + (jn (pvL (c :: l))).length + 1 = i + ((jn (pvL (c :: l))).length + (0 + 1) + 1) by omega, show b + 1 + (plL (d + 1) (c :: l)).length = b + ((plL (d + 1) (c :: l)).length + 1) by omega]
    · obtain rfl : bo = false := by simpa using u1
      obtain rfl : x = 0 := by simpa using u2
      obtain rfl : t = ⟨#[]⟩ := by simpa using u3
      have e : bd 6 false 0 ⟨#[]⟩ nn (pvL l) = 123 :: (jn (List.zipWith pr nn (pvL l)) ++ [125]) := rfl
      rw [e] at hs ⊢
      have hnm' : nmb nn l.length = true := by simpa using hnm
      unfold nmb at hnm'
      simp only [Bool.and_eq_true, decide_eq_true_eq, List.all_eq_true] at hnm'
      obtain ⟨⟨hlen, hall⟩, hnd⟩ := hnm'
      have hh : at' s i = 123 := hs.head
      have ht := hs.tail
      rw [one, hh, if_neg (by decide), if_neg (by decide), if_neg (by decide), if_neg (by decide), if_neg (by decide), if_pos rfl, Spec.rec]
      cases l with
      | nil =>
        obtain rfl : nn = [] := List.eq_nil_of_length_eq_zero (by simpa using hlen)
        have h125 : at' s (i + 1) = 125 := St.head (L := []) (by simpa [pvL, jn] using ht)
        have hbk : blk s (i + 1) = i + 1 := blk_stop (by rw [h125]; decide)
        rw [hbk, if_pos h125]
        simp [pvL, jn, plL_nil]
      | cons c l =>
        match nn, hlen, hall, hnd, ht with
        | tt :: nn, hlen, hall, hnd, ht =>
          have hne : at' s (i + 1) = 34 := by
            have : ∃ r, jn (List.zipWith pr (tt :: nn) (pvL (c :: l))) ++ [125] = 34 :: r := by
              rw [pvL_map, List.map_cons, List.zipWith_cons_cons]
              cases hz : List.zipWith pr nn (l.map pv) with
              | nil => exact ⟨_, rfl⟩
              | cons y ys => exact ⟨_, rfl⟩
            obtain ⟨r, er⟩ := this
            rw [er] at ht
            exact ht.head
          have hbk : blk s (i + 1) = i + 1 := blk_stop (by rw [hne]; decide)
          have hsz := ht.1
          rw [List.length_append] at hsz
          have hge := jz_ge (c :: l) (tt :: nn) hlen
          rw [hbk, if_neg (by omega), rcd_back (d := d + 1) (c :: l) (tt :: nn) _ _ _ [] [] (by simp) hlen (by omega) hkids (fun t ht => tg_parts (hall t ht)) (by simpa using nd_iff.1 hnd) ht (by omega)]
          simp only [List.nil_append, List.length_cons, List.length_append, List.length_nil]
          rw [show i + 1 + (jn (List.zipWith pr (tt :: nn) (pvL (c :: l)))).length + 1 = i + ((jn (List.zipWith pr (tt :: nn) (pvL (c :: l)))).length + (0 + 1) + 1) by omega, show b + 1 + (plL (d + 1) (c :: l)).length = b + ((plL (d + 1) (c :: l)).length + 1) by omega]
/-- Reading what was written. -/
theorem prs_back {c : C} (hg : G 1 c) (hn : (pl 1 c).length ≤ 16384) (hl : (pv c).length ≤ 65536) : prs ⟨(pv c).toArray⟩ = .ok c := by
  have hs : (⟨(pv c).toArray⟩ : ByteArray).size = (pv c).length := by show (pv c).toArray.size = _; simp
  have hv := vl_back ⟨(pv c).toArray⟩ 24 1 c rfl hg 0 0 (St.whole _) (by rw [at_out _ _ (by omega)]; decide) (by omega)
  rw [prs, if_neg (by omega), hv]
  dsimp only
  rw [blk_end (by omega), if_neg (by omega)]
/-- A value that checks may be, part for part. -/
theorem range_in {S : Nat → Prop} {w : World} : ∀ m d v c, In false S w m v c → ∀ x ∈ pl d c, -9223372036854775808 ≤ x.2.i ∧ x.2.i ≤ 9223372036854775807 := by
  intro m
  induction m with
  | zero => intro d v c h; rw [In] at h; exact h.elim
  | succ m ih =>
    intro d v c h x hx
    obtain ⟨k, b, i, s, n, l⟩ := c
    rw [in_iff] at h
    obtain ⟨nv, lv, rfl, hk, hi, hs, hn, a, cap, rfl, -, -, -, -, hL⟩ := h
    rw [pl] at hx
    rcases List.mem_cons.1 hx with rfl | hx
    · exact hi
    · have : ∀ l' : List C, (∀ c ∈ l', c ∈ l) → ∀ x ∈ plL (d + 1) l', -9223372036854775808 ≤ x.2.i ∧ x.2.i ≤ 9223372036854775807 := by
        intro l'
        induction l' with
        | nil => intro _ x hx; rw [plL_nil] at hx; cases hx
        | cons c cs ihl =>
          intro hm x hx
          rw [plL_cons, List.mem_append] at hx
          rcases hx with hx | hx
          · obtain ⟨q, hq, rfl⟩ := List.getElem_of_mem (hm c List.mem_cons_self)
            rcases hL with ⟨rfl, -⟩ | ⟨g, o, -, -, hel, -⟩
            · simp at hq
            · obtain ⟨u, -, hu⟩ := hel q hq
              exact ih (d + 1) u _ hu x hx
          · exact ihl (fun c hc => hm c (List.mem_cons_of_mem _ hc)) x hx
      exact this l (fun c hc => hc) x hx
theorem good_of {S : Nat → Prop} {w : World} {m : Nat} {v : Value} {c : C} (h : In false S w m v c) (hz : (ms 0 0 (pl 1 c)).2.2 = 0) : G 1 c ∧ (pl 1 c).length ≤ 16384 := by
  obtain ⟨h1, h2⟩ := ms_parts _ _ _ hz
  refine ⟨fun x hx => ⟨h1 x hx, range_in m 1 v c h x hx⟩, ?_⟩
  rcases h2 with h2 | h2
  · rw [h2]; simp
  · omega
end Go.Proofs.YtopjadjaknmfeabDoor.RBv
