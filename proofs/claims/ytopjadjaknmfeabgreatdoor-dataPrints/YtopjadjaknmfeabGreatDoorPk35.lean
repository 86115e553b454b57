import Derived.Lib.SlBytesConst
import Derived.Test.YtopjadjaknmfeabGreatDoorPk07
import Derived.Test.YtopjadjaknmfeabGreatDoorPk08
import Derived.Test.YtopjadjaknmfeabGreatDoorPk09
import Derived.Test.YtopjadjaknmfeabGreatDoorPk18
import Derived.Test.YtopjadjaknmfeabGreatDoorPk21
import Derived.Test.YtopjadjaknmfeabGreatDoorPk22
import Derived.Test.YtopjadjaknmfeabGreatDoorPk25
import Derived.Test.YtopjadjaknmfeabGreatDoorPk34
namespace Go.Proofs.YtopjadjaknmfeabGreatDoor.AwP
open Go.RowKit Go.Proofs.YtopjadjaknmfeabGreatDoor.Base Go.Proofs.YtopjadjaknmfeabGreatDoor.UBase Go.Proofs.YtopjadjaknmfeabGreatDoor.Spec Go.Proofs.YtopjadjaknmfeabGreatDoor.Sums Go.Proofs.YtopjadjaknmfeabGreatDoor.Nums Go.Proofs.YtopjadjaknmfeabGreatDoor.Dec Go.Proofs.YtopjadjaknmfeabGreatDoor.RBt Go.Proofs.YtopjadjaknmfeabGreatDoor.WPrt Go.Proofs.YtopjadjaknmfeabGreatDoor.Pure Go.Proofs.YtopjadjaknmfeabGreatDoor.Names Go.Proofs.YtopjadjaknmfeabGreatDoor.Fault Go.Proofs.YtopjadjaknmfeabGreatDoor.Walk Go.Proofs.YtopjadjaknmfeabGreatDoor.Measure Go.Proofs.YtopjadjaknmfeabGreatDoor.Eq Go.Proofs.YtopjadjaknmfeabGreatDoor.UValid Go.Proofs.YtopjadjaknmfeabGreatDoor.Shallow
set_option linter.unusedVariables false
set_option maxRecDepth 20000
def s1 : ByteArray := ⟨#[32, 123, 34, 97, 34, 58, 32, 91, 49, 44, 32, 110, 117, 108, 108, 93, 125]⟩
def s2 : ByteArray := ⟨#[91, 49, 44, 93]⟩
def n1 : C := .mk 3 false 1 ⟨#[]⟩ [] []
def n0 : C := .mk 1 false 0 ⟨#[]⟩ [] []
def l1 : C := .mk 5 false 0 ⟨#[]⟩ [] [n1, n0]
def c1 : C := .mk 6 false 0 ⟨#[]⟩ [⟨#[97]⟩] [l1]
theorem ch (s : ByteArray) (i x : Nat) (h : at' s i = x) (hx : x < 128 ∧ x ≠ 92 ∧ 32 ≤ x) : chr s i = .ok (x, i + 1) := by
  have hl : len s i = 1 := by rw [len, if_pos (by omega)]
  rw [chr, if_neg (by omega), if_neg (by omega), hl, dec_small (by omega), h]
theorem p1 : prs s1 = .ok c1 := by
  have a1 : at' s1 1 = 123 := by decide
  have a2 : at' s1 2 = 34 := by decide
  have a3 : at' s1 3 = 97 := by decide
  have a4 : at' s1 4 = 34 := by decide
  have a5 : at' s1 5 = 58 := by decide
  have a7 : at' s1 7 = 91 := by decide
  have a8 : at' s1 8 = 49 := by decide
  have a9 : at' s1 9 = 44 := by decide
  have a11 : at' s1 11 = 110 := by decide
  have a12 : at' s1 12 = 117 := by decide
  have a13 : at' s1 13 = 108 := by decide
  have a14 : at' s1 14 = 108 := by decide
  have a15 : at' s1 15 = 93 := by decide
  have a16 : at' s1 16 = 125 := by decide
  have b0 : blk s1 0 = 1 := by rw [blk_step (by decide) (by decide), blk_stop (by decide)]
  have b2 : blk s1 2 = 2 := blk_stop (by decide)
  have b5 : blk s1 5 = 5 := blk_stop (by decide)
  have b6 : blk s1 6 = 7 := by rw [blk_step (by decide) (by decide), blk_stop (by decide)]
  have b8 : blk s1 8 = 8 := blk_stop (by decide)
  have b9 : blk s1 9 = 9 := blk_stop (by decide)
  have b10 : blk s1 10 = 11 := by rw [blk_step (by decide) (by decide), blk_stop (by decide)]
  have b11 : blk s1 11 = 11 := blk_stop (by decide)
  have b15 : blk s1 15 = 15 := blk_stop (by decide)
  have b16 : blk s1 16 = 16 := blk_stop (by decide)
  have b17 : blk s1 17 = 17 := blk_end (by decide)
  have hd : dgs s1 8 = 9 := by rw [dgs_step (by decide) (by decide), dgs_stop (by decide)]
  have hr : rd s1 8 9 = .ok (1, 9) := by
    have e : bs (s1.extract 8 9) = [49] := by decide
    have e1 : perr [49] = 0 := by decide
    have e2 : pnum [49] = 1 := by decide
    rw [rd, e, e1, e2]
    rfl
  have ht : txt s1 2 = .ok (⟨#[97]⟩, 5) := by
    have hsz : s1.size + 1 = 16 + 1 + 1 := by decide
    rw [txt, if_pos a2, hsz, txl, if_neg (by rw [a3]; decide), ch s1 3 97 a3 (by decide)]
    dsimp only
    rw [txl, if_pos a4]
    dsimp only
    rw [show Lib.encodeRune ((97 : Nat) : Int) = [97] from enc_small (by omega)]
    rfl
  have hv8 : ∀ b, b < 16384 → vl s1 22 8 b = .ok (n1, 9, b + 1) := by
    intro b hb
    rw [vl, b8, a8, if_pos (by decide), if_neg (by omega), one, a8]
    simp [nm, sgn, a8, hd, hr, dig, n1]
  have hv11 : ∀ b, b < 16384 → vl s1 22 11 b = .ok (n0, 15, b + 1) := by
    intro b hb
    rw [vl, b11, a11, if_pos (by decide), if_neg (by omega), one, a11, if_pos rfl]
    simp [wd, a11, a12, a13, a14, n0]
  have hsz : s1.size + 1 = 15 + 1 + 1 + 1 := by decide
  have hl : lst (vl s1 22) s1 (s1.size + 1) 8 2 [] = .ok ([n1, n0], 16, 4) := by
    rw [hsz, lst, hv8 2 (by omega)]
    dsimp only
    rw [b9, a9, if_neg (by decide), if_pos rfl, b10, lst, hv11 3 (by omega)]
    dsimp only
    rw [b15, a15, if_pos rfl]
    rfl
  have hv6 : vl s1 23 6 1 = .ok (l1, 16, 4) := by
    rw [vl, b6, a7, if_pos (by decide), if_neg (by decide), one, a7]
    simp [lis, b8, a8, hl, l1]
  have hrc : rcd (vl s1 23) s1 (s1.size + 1) 2 1 [] [] = .ok ([⟨#[97]⟩], [l1], 17, 4) := by
    rw [hsz, rcd, ht]
    dsimp only
    rw [if_neg (by simp [has]), b5, if_pos a5, hv6]
    dsimp only
    rw [b16, a16, if_pos rfl]
    rfl
  have hv0 : vl s1 24 0 0 = .ok (c1, 17, 4) := by
    rw [vl, b0, a1, if_pos (by decide), if_neg (by decide), one, a1]
    simp [rec, b2, a2, hrc, c1]
  rw [prs, if_neg (by decide), hv0]
  dsimp only
  rw [b17, if_neg (by decide)]
theorem p2 : prs s2 = .error (600, 3) := by
  have a0 : at' s2 0 = 91 := by decide
  have a1 : at' s2 1 = 49 := by decide
  have a2 : at' s2 2 = 44 := by decide
  have a3 : at' s2 3 = 93 := by decide
  have b0 : blk s2 0 = 0 := blk_stop (by decide)
  have b1 : blk s2 1 = 1 := blk_stop (by decide)
  have b2 : blk s2 2 = 2 := blk_stop (by decide)
  have b3 : blk s2 3 = 3 := blk_stop (by decide)
  have hd : dgs s2 1 = 2 := by rw [dgs_step (by decide) (by decide), dgs_stop (by decide)]
  have hr : rd s2 1 2 = .ok (1, 2) := by
    have e : bs (s2.extract 1 2) = [49] := by decide
    have e1 : perr [49] = 0 := by decide
    have e2 : pnum [49] = 1 := by decide
    rw [rd, e, e1, e2]
    rfl
  have hv1 : vl s2 23 1 1 = .ok (n1, 2, 2) := by
    rw [vl, b1, a1, if_pos (by decide), if_neg (by decide), one, a1]
    simp [nm, sgn, a1, hd, hr, dig, n1]
  have hv3 : vl s2 23 3 2 = .error (600, 3) := by
    rw [vl, b3, a3, if_neg (by decide)]
  have hsz : s2.size + 1 = 2 + 1 + 1 + 1 := by decide
  have hl : lst (vl s2 23) s2 (s2.size + 1) 1 1 [] = .error (600, 3) := by
    rw [hsz, lst, hv1]
    dsimp only
    rw [b2, a2, if_neg (by decide), if_pos rfl, b3, lst, hv3]
  have hv0 : vl s2 24 0 0 = .error (600, 3) := by
    rw [vl, b0, a0, if_pos (by decide), if_neg (by decide), one, a0]
    simp [lis, b1, a1, hl]
  rw [prs, if_neg (by decide), hv0]
theorem w1 : pv c1 = [123, 34, 97, 34, 58, 91, 49, 44, 110, 117, 108, 108, 93, 125] := by
  have i1 : Lib.itoa 1 = [49] := by
    have := Lib.itoa_nonneg 1
    rw [Lib.decDigits_one (by omega)] at this
    exact this
  simp [c1, l1, n1, n0, pv, pvL, bd, jn, qt, qb, i1]
theorem tg_none : tg ⟨#[]⟩ = true := by
  have : bad ⟨#[]⟩ 0 = none := bad_end (by decide)
  simp only [tg, (verr_none this).2]
  decide
theorem tg_a : tg ⟨#[97]⟩ = true := by
  have l0 : len ⟨#[97]⟩ 0 = 1 := by decide +kernel
  have : bad ⟨#[97]⟩ 0 = none := by
    rw [bad_step (by decide) (by rw [l0]; decide), l0]
    exact bad_end (by decide)
  simp only [tg, (verr_none this).2]
  decide
theorem fm_1 : fm n1 = true := by simp [fm, n1, C.k, C.b, C.i, C.s, C.n, C.l, tg_none, (show pu 3 false 1 ⟨#[]⟩ 0 0 = true by simp [pu])]
theorem fm_0 : fm n0 = true := by simp [fm, n0, C.k, C.b, C.i, C.s, C.n, C.l, tg_none, (show pu 1 false 0 ⟨#[]⟩ 0 0 = true by simp [pu])]
theorem fm_l : fm l1 = true := by simp [fm, l1, C.k, C.b, C.i, C.s, C.n, C.l, tg_none, (show pu 5 false 0 ⟨#[]⟩ 0 2 = true by simp [pu])]
theorem fm_c : fm c1 = true := by
  have h2 : nmb [⟨#[97]⟩] 1 = true := by simp [nmb, nd, tg_a]
  simp [fm, c1, C.k, C.b, C.i, C.s, C.n, C.l, tg_none, (show pu 6 false 0 ⟨#[]⟩ 1 1 = true by simp [pu]), h2]
theorem e1 : WPrt.pe c1 = 0 := by
  have f0 : ft c1 (1 : Nat) (0 + 1 : Nat) = 0 := by simp [ft, fm_c]; decide
  have f1 : ft l1 (1 + 1 : Nat) (0 + 1 + 1 : Nat) = 0 := by simp [ft, fm_l]; decide
  have f2 : ft n1 (1 + 1 + 1 : Nat) (0 + 1 + 1 + 1 : Nat) = 0 := by simp [ft, fm_1]; decide
  have f3 : ft n0 (1 + 1 + 1 : Nat) (0 + 1 + 1 + 1 + 1 : Nat) = 0 := by simp [ft, fm_0]; decide
  have e : pl 1 c1 = [(1, c1), (1 + 1, l1), (1 + 1 + 1, n1), (1 + 1 + 1, n0)] := by simp [c1, l1, n1, n0, pl, plL]
  rw [WPrt.pe, e, ms, if_pos f0, ms, if_pos f1, ms, if_pos f2, ms, if_pos f3, ms]
theorem d1 : dep c1 ≤ 4096 := by simp [c1, l1, n1, n0, dep, depL]
end Go.Proofs.YtopjadjaknmfeabGreatDoor.AwP
namespace Go.Proofs.YtopjadjaknmfeabGreatDoor.Aw
open Go.RowKit Go.Proofs.YtopjadjaknmfeabGreatDoor.Base Go.Proofs.YtopjadjaknmfeabGreatDoor.UBase Go.Proofs.YtopjadjaknmfeabGreatDoor.Spec Go.Proofs.YtopjadjaknmfeabGreatDoor.Byts Go.Proofs.YtopjadjaknmfeabGreatDoor.Rdr Go.Proofs.YtopjadjaknmfeabGreatDoor.WPk Go.Proofs.YtopjadjaknmfeabGreatDoor.WRow Go.Proofs.YtopjadjaknmfeabGreatDoor.WPrt Go.Proofs.YtopjadjaknmfeabGreatDoor.Digits Go.Proofs.YtopjadjaknmfeabGreatDoor.Own Go.Proofs.YtopjadjaknmfeabGreatDoor.Shallow Go.Proofs.YtopjadjaknmfeabGreatDoor.AwP
set_option linter.unusedVariables false
/-- The tables of the library hold what they are laid with. -/
structure T6 (w : World) : Prop where
  tab : Tab w
  utf : Lib.Utf8Tabs 0 1 w
  lt1 : 0 < w.heap.size
  lt2 : 1 < w.heap.size
theorem T6.later {w w' : World} (h : T6 w) (hb : Below w.heap.size w w') : T6 w' :=
  ⟨h.tab.later hb, tab_keep h.utf (hb.block _ h.lt1) (hb.block _ h.lt2), Nat.lt_of_lt_of_le h.lt1 hb.size, Nat.lt_of_lt_of_le h.lt2 hb.size⟩
def zeroV : Value := .agg #[.int .i64 0, .bool false, .int .i64 0, .string ⟨#[]⟩, .slice none 0 0, .slice none 0 0]
def P1 : Prop := ∀ (w : World) (g : Nat), Byt w w.heap.size (.slice (some ⟨g, 0, none⟩) 17 17) s1 → T6 w → Calls Tryz.prog 6 #[.slice (some ⟨g, 0, none⟩) 17 17] w fun e w' => Below w.heap.size w w' ∧ ∃ u, e = .returned (.tuple #[u, .int .i64 0, .int .i64 0]) ∧ Fs w' 24 (Rg w.heap.size w'.heap.size) u c1
def P2 : Prop := ∀ (w : World) (g : Nat), Byt w w.heap.size (.slice (some ⟨g, 0, none⟩) 4 4) s2 → T6 w → Calls Tryz.prog 6 #[.slice (some ⟨g, 0, none⟩) 4 4] w fun e w' => Below w.heap.size w w' ∧ e = .returned (.tuple #[zeroV, .int .i64 3, .int .i64 600])
theorem byt_new (w : World) (s : ByteArray) (hs : s.size ≤ 100) (cs : Array Value) (fr : Nat × Nat) (hc : ∀ j, j < s.size → cs[j]? = some (.int .u8 (at' s j : Nat))) : Byt (w.alloc (.cells cs 5 fr)) (w.alloc (.cells cs 5 fr)).heap.size (.slice (some ⟨w.heap.size, 0, none⟩) s.size s.size) s := by
  refine ⟨_, _, rfl, Nat.le_refl _, by unfold maxLen; omega, (fun h => by cases h), .inr ⟨_, 0, rfl, by simp, fun j hj => ?_⟩⟩
  rw [Nat.zero_add, cell_of_row _ w.heap.size j cs 5 fr (heap_alloc_new w _)]
  exact hc j hj
theorem own_later {w w' : World} {B : Nat} {v : Value} {L : List UInt8} (h : Byts.Own w B v L) (hb : Below w.heap.size w w') : Byts.Own w' B v L := own_keep h fun g _ hs _ => hb.block g hs
theorem num_c (x : Int) (w : World) : Calls Tryz.prog 8 #[.int .i64 x] w fun e w' => e = .returned (.int .i64 x) ∧ w' = w := by
  go_enter Tryz.func8, Tryz.ntmps8
  go_wp2_with fail
  go_ret
  exact ⟨rfl, rfl⟩
def r1 : Array Value := #[.int .u8 32, .int .u8 123, .int .u8 34, .int .u8 97, .int .u8 34, .int .u8 58, .int .u8 32, .int .u8 91, .int .u8 49, .int .u8 44, .int .u8 32, .int .u8 110, .int .u8 117, .int .u8 108, .int .u8 108, .int .u8 93, .int .u8 125]
theorem r1_at : ∀ j, j < s1.size → r1[j]? = some (.int .u8 (at' s1 j : Nat)) := by
  intro j hj
  have hj : j < 17 := hj
  match j, hj with
  | 0, _ | 1, _ | 2, _ | 3, _ | 4, _ | 5, _ | 6, _ | 7, _ | 8, _ | 9, _ | 10, _ | 11, _ | 12, _ | 13, _ | 14, _ | 15, _ | 16, _ => rfl
  | j + 17, h => omega
theorem r2_at : ∀ j, j < s2.size → (#[.int .u8 91, .int .u8 49, .int .u8 44, .int .u8 93] : Array Value)[j]? = some (.int .u8 (at' s2 j : Nat)) := by
  intro j hj
  have hj : j < 4 := hj
  match j, hj with
  | 0, _ | 1, _ | 2, _ | 3, _ => rfl
  | j + 4, h => omega
set_option maxRecDepth 20000 in
set_option maxHeartbeats 1600000 in
theorem awake_of (hP1 : P1) (hP2 : P2) (w : World) (ht : T6 w) : Calls Tryz.prog 12 #[] w fun e w' => e = .returned (.bool true) ∧ Below w.heap.size w w' := by
  obtain ⟨w0, hw0⟩ : ∃ w0, w.alloc (.cells r1 5 (r1.size, r1.size + 1)) = w0 := ⟨_, rfl⟩
  have cv1 := Lib.run_convert_bytes_const (P := Tryz.prog) w 22 5 r1 17 17 Tryz.underlying22 Tryz.underlying5
  rw [hw0] at cv1
  have b0 : Below w.heap.size w w0 := by rw [← hw0]; exact (Below.refl _ w).alloc (Nat.le_refl _) _
  have c1' := hP1 w0 w.heap.size (by rw [← hw0]; exact byt_new w s1 (by decide) r1 _ r1_at) (ht.later b0)
  have ht0 := ht.later b0
  unfold r1 at cv1
  clear hw0
  go_enter Tryz.func12, Tryz.ntmps12
  go_wp2_with fail
  refine c1'.mono ?_
  rintro e w1 ⟨b1, u, rfl, hfs⟩
  have hin := hfs.in
  obtain ⟨v0, v1, v2, v3, v4, v5, rfl, -⟩ := hin.six
  obtain ⟨a1, m1, k1, a2, m2, k2, rfl, rfl, rfl, rfl, rfl, rfl⟩ := hin.kinds
  clear c1' cv1
  rw [show c1.k = 6 from rfl, show c1.b = false from rfl, show c1.i = 0 from rfl, show c1.s = ⟨#[]⟩ from rfl] at hin
  rw [show c1.k = 6 from rfl, show c1.b = false from rfl, show c1.i = 0 from rfl, show c1.s = ⟨#[]⟩ from rfl]
  obtain ⟨w2, hw2⟩ : ∃ w2, w1.alloc (.cells #[.int .i64 6, .bool false, .int .i64 0, .string ⟨#[]⟩, .slice a1 m1 k1, .slice a2 m2 k2] 27) = w2 := ⟨_, rfl⟩
  have b2 : Below w1.heap.size w1 w2 := by rw [← hw2]; exact (Below.refl _ w1).alloc (Nat.le_refl _) _
  have B2 := nx (nx b0 b1) b2
  have hx2 : w2.heap[w1.heap.size]? = some (.cells #[.int .i64 6, .bool false, .int .i64 0, .string ⟨#[]⟩, .slice a1 m1 k1, .slice a2 m2 k2] 27 (0, 0)) := by rw [← hw2, heap_alloc_new]
  have hin2 : In false (Lo w2.heap.size) w2 24 (.agg #[.int .i64 6, .bool false, .int .i64 0, .string ⟨#[]⟩, .slice a1 m1 k1, .slice a2 m2 k2]) c1 := (hin.below b2).weak (fun b hb => Nat.lt_of_lt_of_le hb.2 b2.size) false id 24 (Nat.le_refl _)
  have cp := print_c hin2 d1 (ht.later B2).tab
  rw [e1] at cp
  obtain ⟨q0, q1, q2, q3, q4, q5⟩ := six_box hx2
  have HT2 : Hid (T6 w2) := ht.later B2
  have HB2 : Hid (Below w.heap.size w w2) := B2
  clear hfs hin hin2 hx2 b0 b1 b2 B2 ht ht0
  go_wp2_with fail
  refine cp.mono ?_
  rintro e w3 ⟨v, rfl, b3, h3⟩
  rcases h3 with ⟨-, hp⟩ | ⟨h, -⟩
  · obtain ⟨a3, n3, c3, rfl⟩ := hp.shape
    have hcv := own_conv hp.own
    rw [AwP.w1] at hcv
    clear cp hw2 q0 q1 q2 q3 q4 q5
    obtain ⟨w4, hw4⟩ : ∃ w4, w3.alloc (.cells #[.int .u8 91, .int .u8 49, .int .u8 44, .int .u8 93] 5 (4, 5)) = w4 := ⟨_, rfl⟩
    have cv2 := Lib.run_convert_bytes_const (P := Tryz.prog) w3 22 5 #[.int .u8 91, .int .u8 49, .int .u8 44, .int .u8 93] 4 4 Tryz.underlying22 Tryz.underlying5
    rw [show (w3.alloc (.cells #[.int .u8 91, .int .u8 49, .int .u8 44, .int .u8 93] 5 ((#[Value.int .u8 91, .int .u8 49, .int .u8 44, .int .u8 93] : Array Value).size, (#[Value.int .u8 91, .int .u8 49, .int .u8 44, .int .u8 93] : Array Value).size + 1))) = w4 from hw4] at cv2
    have b4 : Below w3.heap.size w3 w4 := by rw [← hw4]; exact (Below.refl _ w3).alloc (Nat.le_refl _) _
    have c2' := hP2 w4 w3.heap.size (by rw [← hw4]; exact byt_new w3 s2 (by decide) _ _ r2_at) (HT2.out.later (nx b3 b4))
    have HO : Hid (∀ w', Below w3.heap.size w3 w' → (convert 22 9 (.slice a3 n3 c3)).run Tryz.prog w' = .ok (.string ⟨#[123, 34, 97, 34, 58, 91, 49, 44, 110, 117, 108, 108, 93, 125]⟩) w') := by
      intro w' hb
      have := own_conv (own_later hp.own hb)
      rw [AwP.w1] at this
      exact this
    clear hcv hp hw4
    go_wp2_with fail
    refine c2'.mono ?_
    rintro e w5 ⟨b5, rfl⟩
    unfold zeroV
    have b6 : Below w5.heap.size w5 (w5.alloc (.cells #[.int .i64 0, .bool false, .int .i64 0, .string ⟨#[]⟩, .slice none 0 0, .slice none 0 0] 27)) := (Below.refl _ w5).alloc (Nat.le_refl _) _
    have hcv := HO.out _ (nx (nx b4 b5) b6)
    clear c2' cv2
    go_wp2_with (first | (go_at_call 8; refine (num_c _ _).mono ?_; rintro e w' ⟨rfl, rfl⟩))
    go_ret
    exact ⟨rfl, nx (nx HB2.out b3) (nx (nx b4 b5) b6)⟩
  · exact (h (by trivial)).elim
end Go.Proofs.YtopjadjaknmfeabGreatDoor.Aw
namespace Go.Proofs.YtopjadjaknmfeabGreatDoor.RPrc
open Go.RowKit Go.Proofs.YtopjadjaknmfeabGreatDoor.Base Go.Proofs.YtopjadjaknmfeabGreatDoor.WRow Go.Proofs.YtopjadjaknmfeabGreatDoor.WPrt Go.Proofs.YtopjadjaknmfeabGreatDoor.RPrt Go.Proofs.YtopjadjaknmfeabGreatDoor.Spec
theorem rprint_c {m : Nat} {u : Value} {c : C} {w : World} (hin : In false (Lo w.heap.size) w m u c) :
    Calls Tryz.prog 16 #[u] w fun e w' => ∃ v, e = .returned (.tuple #[v, .int .i64 (pe c)]) ∧ Below w.heap.size w w' ∧
      ((pe c = 0 ∧ Sn w.heap.size w' v (pv c)) ∨ (¬ pe c = 0 ∧ v = .slice none 0 0)) := rprint_of Alone.alone_c hin
end Go.Proofs.YtopjadjaknmfeabGreatDoor.RPrc
namespace Go.Proofs.YtopjadjaknmfeabGreatDoor.WPrints
open Go.RowKit Go.Proofs.YtopjadjaknmfeabGreatDoor.Base Go.Proofs.YtopjadjaknmfeabGreatDoor.UBase Go.Proofs.YtopjadjaknmfeabGreatDoor.Spec Go.Proofs.YtopjadjaknmfeabGreatDoor.Byts Go.Proofs.YtopjadjaknmfeabGreatDoor.WPk Go.Proofs.YtopjadjaknmfeabGreatDoor.WRow Go.Proofs.YtopjadjaknmfeabGreatDoor.WPrt Go.Proofs.YtopjadjaknmfeabGreatDoor.RPrt Go.Proofs.YtopjadjaknmfeabGreatDoor.RPrc Go.Proofs.YtopjadjaknmfeabGreatDoor.LBy Go.Proofs.YtopjadjaknmfeabGreatDoor.LSp Go.Proofs.YtopjadjaknmfeabGreatDoor.Digits Go.Proofs.YtopjadjaknmfeabGreatDoor.Shallow Go.Proofs.YtopjadjaknmfeabGreatDoor.LendV Go.Proofs.YtopjadjaknmfeabGreatDoor.KeptV Go.Proofs.YtopjadjaknmfeabGreatDoor.Aw
set_option linter.unusedVariables false
/-- What Print answers. -/
def out (c : C) : List UInt8 := if pe c = 0 then pv c else []
theorem out_pk {B : Nat} {w0 w : World} {v : Value} {c : C} (h : (pe c = 0 ∧ Pk B w0 w v (pv c) []) ∨ (¬ pe c = 0 ∧ v = .slice none 0 0)) : Byts.Own w B v (out c) := by
  unfold out
  rcases h with ⟨e, h⟩ | ⟨e, rfl⟩
  · rw [if_pos e]; exact h.own
  · rw [if_neg e]; exact Byts.Own.nil w B
theorem out_sn {B : Nat} {w : World} {v : Value} {c : C} (h : (pe c = 0 ∧ Sn B w v (pv c)) ∨ (¬ pe c = 0 ∧ v = .slice none 0 0)) : ∀ w', (∀ g, B ≤ g → g < w.heap.size → w'.heap[g]? = w.heap[g]?) → Rd w' v (out c) := by
  intro w' hk
  unfold out
  rcases h with ⟨e, h⟩ | ⟨e, rfl⟩
  · rw [if_pos e]
    obtain ⟨g, cap, rfl, h1, h2, hc⟩ := h
    refine ⟨⟨_, _, _, rfl⟩, run_convert_bytes_back (P := Tryz.prog) w' 22 9 5 ⟨g, 0, none⟩ cap _ Tryz.underlying22 Tryz.underlying5 Tryz.underlying9 fun j hj => ?_⟩
    rw [← hc j hj, add_none, Nat.zero_add]
    exact World.cell?_of_block (w := w) (hk g h1 h2)
  · rw [if_neg e]; exact rd_nil w'
theorem own_shape {w : World} {B : Nat} {v : Value} {L : List UInt8} (h : Byts.Own w B v L) : ∃ a n c, v = .slice a n c := by
  obtain ⟨a, cap, e, -⟩ := h.len
  exact ⟨a, _, cap, e⟩
theorem rd_own {w : World} {B : Nat} {v : Value} {L : List UInt8} (h : Byts.Own w B v L) : Rd w v L := ⟨own_shape h, own_conv h⟩
theorem out_len {S : Nat → Prop} {w : World} {m : Nat} {v : Value} {c : C} (h : In false S w m v c) : (out c).length ≤ 1000000000000 := by
  unfold out
  split
  · next e => have := (WChk.chk h e).2; omega
  · simp
theorem spoil0 (a : Option Addr) (cap : Nat) (w : World) : Calls Tryz.prog 19 #[.slice a 0 cap] w fun e w' => e = .returned (.tuple #[]) ∧ w' = w := by
  go_enter Tryz.func19, Tryz.ntmps19
  go_wp2
  go_loopw [2] (fun t wr => t = .int .i64 0 ∧ wr = w) (fun t _ => 0)
  case atStart => exact ⟨rfl, rfl⟩
  case round =>
    obtain ⟨rfl, rfl⟩ := hrel
    go_wp2
    go_end0
    exact ⟨rfl, rfl⟩
theorem spoilAny {w : World} {B : Nat} {v : Value} {L : List UInt8} (h : Byts.Own w B v L) (hl : L.length ≤ 1000000000000) : Calls Tryz.prog 19 #[v] w fun e w' => e = .returned (.tuple #[]) ∧ w.grownBy w' v.ownBlock := by
  by_cases hL : L = []
  · subst hL
    obtain ⟨a, cap, rfl, -⟩ := h.len
    refine (spoil0 a cap w).mono ?_
    rintro e w' ⟨rfl, rfl⟩
    exact ⟨rfl, World.grownBy.refl _ _⟩
  · exact spoil_c B v L w h hl hL
set_option maxRecDepth 20000 in
set_option maxHeartbeats 3200000 in
theorem walk_of (hP1 : P1) (hP2 : P2) {m : Nat} {v : Value} {c : C} {w : World} (h : In false All w m v c) (ht : T6 w) : Calls Tryz.prog 4 #[v] w fun e w' => e = .returned (.bool true) ∧ Below w.heap.size w w' := by
  have hlow := Fresh.In.low h
  obtain ⟨v0, v1, v2, v3, v4, v5, rfl, -⟩ := h.six
  obtain ⟨a1, n1, c1, a2, n2, c2, rfl, rfl, rfl, rfl, rfl, rfl⟩ := h.kinds
  obtain ⟨k, hk⟩ : ∃ k, c.k = k := ⟨_, rfl⟩
  obtain ⟨b, hb⟩ : ∃ b, c.b = b := ⟨_, rfl⟩
  obtain ⟨i, hi⟩ : ∃ i, c.i = i := ⟨_, rfl⟩
  obtain ⟨s, hs⟩ : ∃ s, c.s = s := ⟨_, rfl⟩
  rw [hk, hb, hi, hs] at h hlow
  rw [hk, hb, hi, hs]
  obtain ⟨W0, hW0⟩ : ∃ W0, w.alloc (.cells #[.int .i64 k, .bool b, .int .i64 i, .string s, .slice a1 n1 c1, .slice a2 n2 c2] 27) = W0 := ⟨_, rfl⟩
  have b0 : Below w.heap.size w W0 := by rw [← hW0]; exact (Below.refl _ w).alloc (Nat.le_refl _) _
  have hs0 : w.heap.size < W0.heap.size := by rw [← hW0]; simp
  have hx0 : W0.heap[w.heap.size]? = some (.cells #[.int .i64 k, .bool b, .int .i64 i, .string s, .slice a1 n1 c1, .slice a2 n2 c2] 27 (0, 0)) := by rw [← hW0, heap_alloc_new]
  have HV : Hid (∀ w', Below W0.heap.size W0 w' → In false All w' m (.agg #[.int .i64 k, .bool b, .int .i64 i, .string s, .slice a1 n1 c1, .slice a2 n2 c2]) c) := fun w' hb' => (h.below b0).below hb'
  have HVL : Hid (∀ w', Below W0.heap.size W0 w' → In false (Lo w'.heap.size) w' m (.agg #[.int .i64 k, .bool b, .int .i64 i, .string s, .slice a1 n1 c1, .slice a2 n2 c2]) c) := fun w' hb' => ((hlow.below b0).below hb').weak (fun g hg => by have := hb'.size; show g < _; have hg' : g < w.heap.size := hg; omega) false id m (Nat.le_refl _)
  have HB : Hid (∀ w', Below W0.heap.size W0 w' → w'.heap[w.heap.size]? = some (.cells #[.int .i64 k, .bool b, .int .i64 i, .string s, .slice a1 n1 c1, .slice a2 n2 c2] 27 (0, 0))) := fun w' hb' => (hb'.block _ hs0).trans hx0
  have HT : Hid (∀ w', Below W0.heap.size W0 w' → T6 w') := fun w' hb' => (ht.later b0).later hb'
  have hol := out_len h
  have c9 := shallow_c m _ c W0 (h.below b0)
  obtain ⟨k0, k1, k2, k3, k4, k5⟩ := six_box hx0
  clear h ht hx0 hlow
  go_enter Tryz.func4, Tryz.ntmps4
  go_wp2_with fail
  refine c9.mono ?_
  rintro e w1 ⟨rfl, b1⟩
  clear c9 k0 k1 k2 k3 k4 k5 hW0
  cases hd : decide (dep c ≤ 4096) with
  | false =>
    go_wp2_with fail
    go_ret
    exact ⟨rfl, nx b0 b1⟩
  | true =>
    have hdep : dep c ≤ 4096 := of_decide_eq_true hd
    obtain ⟨k0, k1, k2, k3, k4, k5⟩ := six_box (HB.out w1 b1)
    have c10 := lendV_c m _ c w1 (HV.out w1 b1)
    go_wp2_with fail
    refine c10.mono ?_
    rintro e w2 ⟨u, rfl, hx, b2⟩
    obtain ⟨y0, y1, y2, y3, y4, y5, rfl, -⟩ := hx.six
    obtain ⟨p1, q1, r1, p2, q2, r2, rfl, rfl, rfl, rfl, rfl, rfl⟩ := hx.kinds
    rw [hk, hb, hi, hs] at hx
    rw [hk, hb, hi, hs]
    clear c10 k0 k1 k2 k3 k4 k5
    have B2 := nx b1 b2
    obtain ⟨W3, hW3⟩ : ∃ W3, w2.alloc (.cells #[.int .i64 k, .bool b, .int .i64 i, .string s, .slice p1 q1 r1, .slice p2 q2 r2] 27) = W3 := ⟨_, rfl⟩
    have b3 : Below w2.heap.size w2 W3 := by rw [← hW3]; exact (Below.refl _ w2).alloc (Nat.le_refl _) _
    have hs3 : w2.heap.size < W3.heap.size := by rw [← hW3]; simp
    have hx3 : W3.heap[w2.heap.size]? = some (.cells #[.int .i64 k, .bool b, .int .i64 i, .string s, .slice p1 q1 r1, .slice p2 q2 r2] 27 (0, 0)) := by rw [← hW3, heap_alloc_new]
    have HX : Hid (∀ w', Below W3.heap.size W3 w' → In true (Rg w1.heap.size w2.heap.size) w' m (.agg #[.int .i64 k, .bool b, .int .i64 i, .string s, .slice p1 q1 r1, .slice p2 q2 r2]) c) := fun w' hb' => (hx.below b3).below hb'
    have HXL : Hid (∀ w', Below W3.heap.size W3 w' → In false (Lo w'.heap.size) w' m (.agg #[.int .i64 k, .bool b, .int .i64 i, .string s, .slice p1 q1 r1, .slice p2 q2 r2]) c) := fun w' hb' => ((hx.below b3).below hb').weak (fun g hg => by have := hb'.size; have := hg.2; show g < _; omega) false (fun h => by cases h) m (Nat.le_refl _)
    have HY : Hid (∀ w', Below W3.heap.size W3 w' → w'.heap[w2.heap.size]? = some (.cells #[.int .i64 k, .bool b, .int .i64 i, .string s, .slice p1 q1 r1, .slice p2 q2 r2] 27 (0, 0))) := fun w' hb' => (hb'.block _ hs3).trans hx3
    have B3 : Below W0.heap.size W0 W3 := nx B2 b3
    have c15 := print_c (HXL.out W3 (Below.refl _ _)) hdep (HT.out W3 B3).tab
    obtain ⟨k0, k1, k2, k3, k4, k5⟩ := six_box hx3
    generalize hE : pe c = E at c15
    clear hx hx3
    go_wp2_with fail
    refine c15.mono ?_
    rintro e w4 ⟨va, rfl, b4, ha⟩
    rw [← hE] at ha
    have ha := out_pk ha
    obtain ⟨aa, an, ac, rfl⟩ := own_shape ha
    have HA : Hid (Byts.Own w4 W3.heap.size (.slice aa an ac) (out c)) := ha
    clear c15 k0 k1 k2 k3 k4 k5 hW3 ha
    have B4 : Below W0.heap.size W0 w4 := nx B3 b4
    have c15 := print_c (HXL.out w4 b4) hdep (HT.out w4 B4).tab
    rw [hE] at c15
    obtain ⟨k0, k1, k2, k3, k4, k5⟩ := six_box (HY.out w4 b4)
    go_wp2_with fail
    refine c15.mono ?_
    rintro e w5 ⟨vb, rfl, b5, hb5⟩
    rw [← hE] at hb5
    have hb5 := out_pk hb5
    obtain ⟨ba, bn, bc, rfl⟩ := own_shape hb5
    have HBB : Hid (Byts.Own w5 w4.heap.size (.slice ba bn bc) (out c)) := hb5
    clear c15 k0 k1 k2 k3 k4 k5 hb5
    have B5 : Below W0.heap.size W0 w5 := nx B4 b5
    have c16 := rprint_c (HVL.out w5 B5)
    rw [hE] at c16
    obtain ⟨k0, k1, k2, k3, k4, k5⟩ := six_box (HB.out w5 B5)
    go_wp2_with fail
    refine c16.mono ?_
    rintro e w6 ⟨vu, rfl, b6, hu⟩
    rw [← hE] at hu
    have hu := out_sn hu
    obtain ⟨⟨ua, un, uc, rfl⟩, -⟩ := hu w6 (fun _ _ _ => rfl)
    have HU : Hid (∀ w', (∀ g, w5.heap.size ≤ g → g < w6.heap.size → w'.heap[g]? = w6.heap[g]?) → Rd w' (.slice ua un uc) (out c)) := hu
    clear c16 k0 k1 k2 k3 k4 k5 hu
    have B6 : Below W0.heap.size W0 w6 := nx B5 b6
    have b36 : Below W3.heap.size W3 w6 := nx (nx b4 b5) b6
    have c17 := sameB_c (rd_own (own_later HA.out (nx b5 b6))) (HU.out w6 (fun _ _ _ => rfl))
    rw [show (out c == out c) = true by simp] at c17
    have c18 := keptV_c m _ _ c w6 (HX.out w6 b36) (HV.out w6 B6)
    obtain ⟨k0, k1, k2, k3, k4, k5⟩ := six_box (HB.out w6 B6)
    obtain ⟨y0, y1, y2, y3, y4, y5⟩ := six_box (HY.out w6 b36)
    have HF : Hid (∀ w7, Below w6.heap.size w6 w7 → Calls Tryz.prog 19 #[.slice aa an ac] w7 fun e w8 => e = .returned (.tuple #[]) ∧ Below W0.heap.size W0 w8 ∧ Rd w8 (.slice ba bn bc) (out c) ∧ Rd w8 (.slice ua un uc) (out c)) := by
      intro w7 b7
      refine (spoilAny (own_later HA.out (nx (nx b5 b6) b7)) hol).mono ?_
      rintro e w8 ⟨rfl, hg⟩
      have hrow : ∀ k, (Value.slice aa an ac).ownBlock = some k → W3.heap.size ≤ k ∧ k < w4.heap.size := fun k hk => World.ownsRow.lt HA.out k hk
      have hB7 : Below W0.heap.size W0 w7 := nx B6 b7
      refine ⟨rfl, hB7.grown hg hB7.size (fun k hk => Nat.le_trans B3.size (hrow k hk).1), ?_, HU.out w8 (fun g h1 h2 => ?_)⟩
      · refine rd_own (own_keep (own_later HBB.out (nx b6 b7)) fun g h1 h2 _ => hg.block g h2 fun e => ?_)
        have := (hrow g e.symm).2
        omega
      · rw [hg.block g (Nat.lt_of_lt_of_le h2 b7.size) fun e => ?_]
        · exact b7.block g h2
        · have := (hrow g e.symm).2
          have := b5.size
          omega
    have HAW : Hid (∀ w8, Below W0.heap.size W0 w8 → Calls Tryz.prog 12 #[] w8 fun e w' => e = .returned (.bool true) ∧ Below w8.heap.size w8 w') := fun w8 hb8 => awake_of hP1 hP2 w8 (HT.out w8 hb8)
    clear HX HXL HY HV HVL HB HT hk hb hi hs hd hdep hE HA HBB HU
    go_wp2_with (first
      | (go_at_call 8; refine (num_c _ _).mono ?_; rintro e w' ⟨rfl, rfl⟩)
      | (refine c17.mono ?_; rintro e w' ⟨rfl, rfl⟩)
      | (go_at_call 18; refine c18.mono ?_; rintro e w7 ⟨rfl, b7⟩; have c19 := HF.out w7 b7)
      | (refine c19.mono ?_; rintro e w8 ⟨rfl, B8, hR1, hR2⟩; have c17' := sameB_c hR1 hR2; rw [show (out c == out c) = true by simp] at c17'; have c12 := HAW.out w8 B8; clear hR1 hR2)
      | (refine c17'.mono ?_; rintro e w' ⟨rfl, rfl⟩)
      | (refine c12.mono ?_; rintro e w9 ⟨rfl, b9⟩))
    go_ret
    exact ⟨rfl, nx b0 (nx B8 b9)⟩
end Go.Proofs.YtopjadjaknmfeabGreatDoor.WPrints
namespace Go.Proofs.YtopjadjaknmfeabGreatDoor.AwV
open Go.RowKit Go.Proofs.YtopjadjaknmfeabGreatDoor.Base Go.Proofs.YtopjadjaknmfeabGreatDoor.Spec Go.Proofs.YtopjadjaknmfeabGreatDoor.Rdr Go.Proofs.YtopjadjaknmfeabGreatDoor.Prs Go.Proofs.YtopjadjaknmfeabGreatDoor.AwP Go.Proofs.YtopjadjaknmfeabGreatDoor.Aw
set_option linter.unusedVariables false
theorem p1c : P1 := by
  intro w g hb ht
  have h := parse_c (s := s1) (cap := 17) (a := some ⟨g, 0, none⟩) (Vals.vis 24 1 rfl) hb ht.utf ⟨ht.lt1, ht.lt2⟩
  rw [AwP.p1] at h
  exact h
theorem p2c : P2 := by
  intro w g hb ht
  have h := parse_c (s := s2) (cap := 4) (a := some ⟨g, 0, none⟩) (Vals.vis 24 1 rfl) hb ht.utf ⟨ht.lt1, ht.lt2⟩
  rw [AwP.p2] at h
  exact h
end Go.Proofs.YtopjadjaknmfeabGreatDoor.AwV
