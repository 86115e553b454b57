import Derived.Lib.SlBytesConst
import Derived.Test.YthkpbhgbmagaeaaGreatDoorP07
import Derived.Test.YthkpbhgbmagaeaaGreatDoorP27
import Derived.Test.YthkpbhgbmagaeaaGreatDoorP28
import Derived.Test.YthkpbhgbmagaeaaGreatDoorP29
import Derived.Test.YthkpbhgbmagaeaaGreatDoorP32
namespace Go.Proofs.YthkpbhgbmagaeaaGreatDoor.AwP
open Go.RowKit Go.Proofs.YthkpbhgbmagaeaaGreatDoor.Base Go.Proofs.YthkpbhgbmagaeaaGreatDoor.UBase Go.Proofs.YthkpbhgbmagaeaaGreatDoor.Spec Go.Proofs.YthkpbhgbmagaeaaGreatDoor.Sums Go.Proofs.YthkpbhgbmagaeaaGreatDoor.Nums Go.Proofs.YthkpbhgbmagaeaaGreatDoor.Dec Go.Proofs.YthkpbhgbmagaeaaGreatDoor.RBt Go.Proofs.YthkpbhgbmagaeaaGreatDoor.WPrt Go.Proofs.YthkpbhgbmagaeaaGreatDoor.Pure Go.Proofs.YthkpbhgbmagaeaaGreatDoor.Names Go.Proofs.YthkpbhgbmagaeaaGreatDoor.Fault Go.Proofs.YthkpbhgbmagaeaaGreatDoor.Walk Go.Proofs.YthkpbhgbmagaeaaGreatDoor.Measure Go.Proofs.YthkpbhgbmagaeaaGreatDoor.Eq Go.Proofs.YthkpbhgbmagaeaaGreatDoor.UValid Go.Proofs.YthkpbhgbmagaeaaGreatDoor.Shallow
set_option linter.unusedVariables false
set_option maxRecDepth 20000
def s1 : ByteArray := ⟨#[32, 123, 34, 97, 34, 58, 32, 91, 49, 44, 32, 110, 117, 108, 108, 93, 125]⟩
def s2 : ByteArray := ⟨#[91, 49, 44, 93]⟩
def n1 : C := .mk 3 false 1 ⟨#[]⟩ [] []
def n0 : C := .mk 1 false 0 ⟨#[]⟩ [] []
def l1 : C := .mk 5 false 0 ⟨#[]⟩ [] [n1, n0]
def c1 : C := .mk 6 false 0 ⟨#[]⟩ [⟨#[97]⟩] [l1]
theorem ch (s : ByteArray) (i x : Nat) (h : at' s i = x) (hx : x < 128 ∧ x ≠ 92 ∧ 32 ≤ x) : chr s i = .ok (x, i + 1) := by
 have hl : len s i = 1 := by rw [len, if_pos (by omega)]
 rw [chr, if_neg (by omega), if_neg (by omega), hl, dec_small (by omega), h]
theorem p1 : prs s1 = .ok c1 := by
 have a1 : at' s1 1 = 123 := by decide
 have a2 : at' s1 2 = 34 := by decide
 have a3 : at' s1 3 = 97 := by decide
 have a4 : at' s1 4 = 34 := by decide
 have a5 : at' s1 5 = 58 := by decide
 have a7 : at' s1 7 = 91 := by decide
 have a8 : at' s1 8 = 49 := by decide
 have a9 : at' s1 9 = 44 := by decide
 have a11 : at' s1 11 = 110 := by decide
 have a12 : at' s1 12 = 117 := by decide
 have a13 : at' s1 13 = 108 := by decide
 have a14 : at' s1 14 = 108 := by decide
 have a15 : at' s1 15 = 93 := by decide
 have a16 : at' s1 16 = 125 := by decide
 have b0 : blk s1 0 = 1 := by rw [blk_step (by decide) (by decide), blk_stop (by decide)]
 have b2 : blk s1 2 = 2 := blk_stop (by decide)
 have b5 : blk s1 5 = 5 := blk_stop (by decide)
 have b6 : blk s1 6 = 7 := by rw [blk_step (by decide) (by decide), blk_stop (by decide)]
 have b8 : blk s1 8 = 8 := blk_stop (by decide)
 have b9 : blk s1 9 = 9 := blk_stop (by decide)
 have b10 : blk s1 10 = 11 := by rw [blk_step (by decide) (by decide), blk_stop (by decide)]
 have b11 : blk s1 11 = 11 := blk_stop (by decide)
 have b15 : blk s1 15 = 15 := blk_stop (by decide)
 have b16 : blk s1 16 = 16 := blk_stop (by decide)
 have b17 : blk s1 17 = 17 := blk_end (by decide)
 have hd : dgs s1 8 = 9 := by rw [dgs_step (by decide) (by decide), dgs_stop (by decide)]
 have hr : rd s1 8 9 = .ok (1, 9) := by
  have e : bs (s1.extract 8 9) = [49] := by decide
  have e1 : perr [49] = 0 := by decide
  have e2 : pnum [49] = 1 := by decide
  rw [rd, e, e1, e2]
  rfl
 have ht : txt s1 2 = .ok (⟨#[97]⟩, 5) := by
  have hsz : s1.size + 1 = 16 + 1 + 1 := by decide
  rw [txt, if_pos a2, hsz, txl, if_neg (by rw [a3]; decide), ch s1 3 97 a3 (by decide)]
  dsimp only
  rw [txl, if_pos a4]
  dsimp only
  rw [show Lib.encodeRune ((97 : Nat) : Int) = [97] from enc_small (by omega)]
  rfl
 have hv8 : ∀ b, b < 16384 → vl s1 22 8 b = .ok (n1, 9, b + 1) := by
  intro b hb
  rw [vl, b8, a8, if_pos (by decide), if_neg (by omega), one, a8]
  simp [nm, sgn, a8, hd, hr, dig, n1]
 have hv11 : ∀ b, b < 16384 → vl s1 22 11 b = .ok (n0, 15, b + 1) := by
  intro b hb
  rw [vl, b11, a11, if_pos (by decide), if_neg (by omega), one, a11, if_pos rfl]
  simp [wd, a11, a12, a13, a14, n0]
 have hsz : s1.size + 1 = 15 + 1 + 1 + 1 := by decide
 have hl : lst (vl s1 22) s1 (s1.size + 1) 8 2 [] = .ok ([n1, n0], 16, 4) := by
  rw [hsz, lst, hv8 2 (by omega)]
  dsimp only
  rw [b9, a9, if_neg (by decide), if_pos rfl, b10, lst, hv11 3 (by omega)]
  dsimp only
  rw [b15, a15, if_pos rfl]
  rfl
 have hv6 : vl s1 23 6 1 = .ok (l1, 16, 4) := by
  rw [vl, b6, a7, if_pos (by decide), if_neg (by decide), one, a7]
  simp [lis, b8, a8, hl, l1]
 have hrc : rcd (vl s1 23) s1 (s1.size + 1) 2 1 [] [] = .ok ([⟨#[97]⟩], [l1], 17, 4) := by
  rw [hsz, rcd, ht]
  dsimp only
  rw [if_neg (by simp [has]), b5, if_pos a5, hv6]
  dsimp only
  rw [b16, a16, if_pos rfl]
  rfl
 have hv0 : vl s1 24 0 0 = .ok (c1, 17, 4) := by
  rw [vl, b0, a1, if_pos (by decide), if_neg (by decide), one, a1]
  simp [rec, b2, a2, hrc, c1]
 rw [prs, if_neg (by decide), hv0]
 dsimp only
 rw [b17, if_neg (by decide)]
theorem p2 : prs s2 = .error (600, 3) := by
 have a0 : at' s2 0 = 91 := by decide
 have a1 : at' s2 1 = 49 := by decide
 have a2 : at' s2 2 = 44 := by decide
 have a3 : at' s2 3 = 93 := by decide
 have b0 : blk s2 0 = 0 := blk_stop (by decide)
 have b1 : blk s2 1 = 1 := blk_stop (by decide)
 have b2 : blk s2 2 = 2 := blk_stop (by decide)
 have b3 : blk s2 3 = 3 := blk_stop (by decide)
 have hd : dgs s2 1 = 2 := by rw [dgs_step (by decide) (by decide), dgs_stop (by decide)]
 have hr : rd s2 1 2 = .ok (1, 2) := by
  have e : bs (s2.extract 1 2) = [49] := by decide
  have e1 : perr [49] = 0 := by decide
  have e2 : pnum [49] = 1 := by decide
  rw [rd, e, e1, e2]
  rfl
 have hv1 : vl s2 23 1 1 = .ok (n1, 2, 2) := by
  rw [vl, b1, a1, if_pos (by decide), if_neg (by decide), one, a1]
  simp [nm, sgn, a1, hd, hr, dig, n1]
 have hv3 : vl s2 23 3 2 = .error (600, 3) := by
  rw [vl, b3, a3, if_neg (by decide)]
 have hsz : s2.size + 1 = 2 + 1 + 1 + 1 := by decide
 have hl : lst (vl s2 23) s2 (s2.size + 1) 1 1 [] = .error (600, 3) := by
  rw [hsz, lst, hv1]
  dsimp only
  rw [b2, a2, if_neg (by decide), if_pos rfl, b3, lst, hv3]
 have hv0 : vl s2 24 0 0 = .error (600, 3) := by
  rw [vl, b0, a0, if_pos (by decide), if_neg (by decide), one, a0]
  simp [lis, b1, a1, hl]
 rw [prs, if_neg (by decide), hv0]
theorem w1 : pv c1 = [123, 34, 97, 34, 58, 91, 49, 44, 110, 117, 108, 108, 93, 125] := by
 have i1 : Lib.itoa 1 = [49] := by
  have := Lib.itoa_nonneg 1
  rw [Lib.decDigits_one (by omega)] at this
  exact this
 simp [c1, l1, n1, n0, pv, pvL, bd, jn, qt, qb, i1]
theorem ne : ∀ s : ByteArray, s.toList.isEmpty = (s.size == 0) := by
 intro s
 rw [ByteArray.toList_eq]
 cases h : s.data.toList with
 | nil =>
  have : s.size = 0 := by rw [← ByteArray.size_data, ← Array.length_toList, h]; rfl
  simp [this]
 | cons a r =>
  have : s.size = r.length + 1 := by rw [← ByteArray.size_data, ← Array.length_toList, h]; rfl
  simp [this]
theorem tg_none : tg ⟨#[]⟩ = true := by
 have : bad ⟨#[]⟩ 0 = none := bad_end (by decide)
 simp only [tg, (verr_none this).2]
 decide
theorem tg_a : tg ⟨#[97]⟩ = true := by
 have l0 : len ⟨#[97]⟩ 0 = 1 := by decide +kernel
 have : bad ⟨#[97]⟩ 0 = none := by
  rw [bad_step (by decide) (by rw [l0]; decide), l0]
  exact bad_end (by decide)
 simp only [tg, (verr_none this).2]
 decide
theorem fm_1 : fm n1 = true := by simp [fm, n1, C.k, C.b, C.i, C.s, C.n, C.l, tg_none, (show pu 3 false 1 ⟨#[]⟩ 0 0 = true by simp [pu])]
theorem fm_0 : fm n0 = true := by simp [fm, n0, C.k, C.b, C.i, C.s, C.n, C.l, tg_none, (show pu 1 false 0 ⟨#[]⟩ 0 0 = true by simp [pu])]
theorem fm_l : fm l1 = true := by simp [fm, l1, C.k, C.b, C.i, C.s, C.n, C.l, tg_none, (show pu 5 false 0 ⟨#[]⟩ 0 2 = true by simp [pu])]
theorem fm_c : fm c1 = true := by
 have h2 : nmb [⟨#[97]⟩] 1 = true := by simp [nmb, nd, tg_a]
 simp [fm, c1, C.k, C.b, C.i, C.s, C.n, C.l, tg_none, (show pu 6 false 0 ⟨#[]⟩ 1 1 = true by simp [pu]), h2]
theorem e1 : WPrt.pe c1 = 0 := by
 have f0 : ft c1 (1 : Nat) (0 + 1 : Nat) = 0 := by simp [ft, fm_c]; decide
 have f1 : ft l1 (1 + 1 : Nat) (0 + 1 + 1 : Nat) = 0 := by simp [ft, fm_l]; decide
 have f2 : ft n1 (1 + 1 + 1 : Nat) (0 + 1 + 1 + 1 : Nat) = 0 := by simp [ft, fm_1]; decide
 have f3 : ft n0 (1 + 1 + 1 : Nat) (0 + 1 + 1 + 1 + 1 : Nat) = 0 := by simp [ft, fm_0]; decide
 have e : pl 1 c1 = [(1, c1), (1 + 1, l1), (1 + 1 + 1, n1), (1 + 1 + 1, n0)] := by simp [c1, l1, n1, n0, pl, plL]
 rw [WPrt.pe, e, ms, if_pos f0, ms, if_pos f1, ms, if_pos f2, ms, if_pos f3, ms]
theorem d1 : dep c1 ≤ 4096 := by simp [c1, l1, n1, n0, dep, depL]
end Go.Proofs.YthkpbhgbmagaeaaGreatDoor.AwP
namespace Go.Proofs.YthkpbhgbmagaeaaGreatDoor.Aw
open Go.RowKit Go.Proofs.YthkpbhgbmagaeaaGreatDoor.Base Go.Proofs.YthkpbhgbmagaeaaGreatDoor.UBase Go.Proofs.YthkpbhgbmagaeaaGreatDoor.Spec Go.Proofs.YthkpbhgbmagaeaaGreatDoor.Byts Go.Proofs.YthkpbhgbmagaeaaGreatDoor.Rdr Go.Proofs.YthkpbhgbmagaeaaGreatDoor.WPk Go.Proofs.YthkpbhgbmagaeaaGreatDoor.WRow Go.Proofs.YthkpbhgbmagaeaaGreatDoor.WPrt Go.Proofs.YthkpbhgbmagaeaaGreatDoor.Digits Go.Proofs.YthkpbhgbmagaeaaGreatDoor.Own Go.Proofs.YthkpbhgbmagaeaaGreatDoor.Shallow Go.Proofs.YthkpbhgbmagaeaaGreatDoor.AwP
set_option linter.unusedVariables false
/-- The tables of the library hold what they are laid with. -/
structure T6 (w : World) : Prop where
 tab : Tab w
 utf : Lib.Utf8Tabs 0 1 w
 lt1 : 0 < w.heap.size
 lt2 : 1 < w.heap.size
theorem T6.later {w w' : World} (h : T6 w) (hb : Below w.heap.size w w') : T6 w' :=
 ⟨h.tab.later hb, tab_keep h.utf (hb.block _ h.lt1) (hb.block _ h.lt2), Nat.lt_of_lt_of_le h.lt1 hb.size, Nat.lt_of_lt_of_le h.lt2 hb.size⟩
def zeroV : Value := .agg #[.int .i64 0, .bool false, .int .i64 0, .string ⟨#[]⟩, .slice none 0 0, .slice none 0 0]
def P1 : Prop := ∀ (w : World) (g : Nat), Byt w w.heap.size (.slice (some ⟨g, 0, none⟩) 17 17) s1 → T6 w → Calls Tryz.prog 5 #[.slice (some ⟨g, 0, none⟩) 17 17] w fun e w' => Below w.heap.size w w' ∧ ∃ u, e = .returned (.tuple #[u, .int .i64 0, .int .i64 0]) ∧ Fs w' 24 (Rg w.heap.size w'.heap.size) u c1
def P2 : Prop := ∀ (w : World) (g : Nat), Byt w w.heap.size (.slice (some ⟨g, 0, none⟩) 4 4) s2 → T6 w → Calls Tryz.prog 5 #[.slice (some ⟨g, 0, none⟩) 4 4] w fun e w' => Below w.heap.size w w' ∧ e = .returned (.tuple #[zeroV, .int .i64 3, .int .i64 600])
theorem byt_new (w : World) (s : ByteArray) (hs : s.size ≤ 100) (cs : Array Value) (fr : Nat × Nat) (hc : ∀ j, j < s.size → cs[j]? = some (.int .u8 (at' s j : Nat))) : Byt (w.alloc (.cells cs 5 fr)) (w.alloc (.cells cs 5 fr)).heap.size (.slice (some ⟨w.heap.size, 0, none⟩) s.size s.size) s := by
 refine ⟨_, _, rfl, Nat.le_refl _, by unfold maxLen; omega, (fun h => by cases h), .inr ⟨_, 0, rfl, by simp, fun j hj => ?_⟩⟩
 rw [Nat.zero_add, cell_of_row _ w.heap.size j cs 5 fr (heap_alloc_new w _)]
 exact hc j hj
theorem own_later {w w' : World} {B : Nat} {v : Value} {L : List UInt8} (h : Byts.Own w B v L) (hb : Below w.heap.size w w') : Byts.Own w' B v L := own_keep h fun g _ hs _ => hb.block g hs
theorem num_c (x : Int) (w : World) : Calls Tryz.prog 7 #[.int .i64 x] w fun e w' => e = .returned (.int .i64 x) ∧ w' = w := by
 go_enter Tryz.func7, Tryz.ntmps7
 go_wp2_with fail
 go_ret
 exact ⟨rfl, rfl⟩
def r1 : Array Value := #[.int .u8 32, .int .u8 123, .int .u8 34, .int .u8 97, .int .u8 34, .int .u8 58, .int .u8 32, .int .u8 91, .int .u8 49, .int .u8 44, .int .u8 32, .int .u8 110, .int .u8 117, .int .u8 108, .int .u8 108, .int .u8 93, .int .u8 125]
theorem r1_at : ∀ j, j < s1.size → r1[j]? = some (.int .u8 (at' s1 j : Nat)) := by
 intro j hj
 have hj : j < 17 := hj
 match j, hj with
 | 0, _ | 1, _ | 2, _ | 3, _ | 4, _ | 5, _ | 6, _ | 7, _ | 8, _ | 9, _ | 10, _ | 11, _ | 12, _ | 13, _ | 14, _ | 15, _ | 16, _ => rfl
 | j + 17, h => omega
theorem r2_at : ∀ j, j < s2.size → (#[.int .u8 91, .int .u8 49, .int .u8 44, .int .u8 93] : Array Value)[j]? = some (.int .u8 (at' s2 j : Nat)) := by
 intro j hj
 have hj : j < 4 := hj
 match j, hj with
 | 0, _ | 1, _ | 2, _ | 3, _ => rfl
 | j + 4, h => omega
set_option maxRecDepth 20000 in
set_option maxHeartbeats 1600000 in
theorem awake_of (hP1 : P1) (hP2 : P2) (w : World) (ht : T6 w) : Calls Tryz.prog 11 #[] w fun e w' => e = .returned (.bool true) ∧ Below w.heap.size w w' := by
 obtain ⟨w0, hw0⟩ : ∃ w0, w.alloc (.cells r1 5 (r1.size, r1.size + 1)) = w0 := ⟨_, rfl⟩
 have cv1 := Lib.run_convert_bytes_const (P := Tryz.prog) w 22 5 r1 17 17 Tryz.underlying22 Tryz.underlying5
 rw [hw0] at cv1
 have b0 : Below w.heap.size w w0 := by rw [← hw0]; exact (Below.refl _ w).alloc (Nat.le_refl _) _
 have c1' := hP1 w0 w.heap.size (by rw [← hw0]; exact byt_new w s1 (by decide) r1 _ r1_at) (ht.later b0)
 have ht0 := ht.later b0
 unfold r1 at cv1
 clear hw0
 go_enter Tryz.func11, Tryz.ntmps11
 go_wp2_with fail
 refine c1'.mono ?_
 rintro e w1 ⟨b1, u, rfl, hfs⟩
 have hin := hfs.in
 obtain ⟨v0, v1, v2, v3, v4, v5, rfl, -⟩ := hin.six
 obtain ⟨a1, m1, k1, a2, m2, k2, rfl, rfl, rfl, rfl, rfl, rfl⟩ := hin.kinds
 clear c1' cv1
 rw [show c1.k = 6 from rfl, show c1.b = false from rfl, show c1.i = 0 from rfl, show c1.s = ⟨#[]⟩ from rfl] at hin
 rw [show c1.k = 6 from rfl, show c1.b = false from rfl, show c1.i = 0 from rfl, show c1.s = ⟨#[]⟩ from rfl]
 obtain ⟨w2, hw2⟩ : ∃ w2, w1.alloc (.cells #[.int .i64 6, .bool false, .int .i64 0, .string ⟨#[]⟩, .slice a1 m1 k1, .slice a2 m2 k2] 27) = w2 := ⟨_, rfl⟩
 have b2 : Below w1.heap.size w1 w2 := by rw [← hw2]; exact (Below.refl _ w1).alloc (Nat.le_refl _) _
 have B2 := nx (nx b0 b1) b2
 have hx2 : w2.heap[w1.heap.size]? = some (.cells #[.int .i64 6, .bool false, .int .i64 0, .string ⟨#[]⟩, .slice a1 m1 k1, .slice a2 m2 k2] 27 (0, 0)) := by rw [← hw2, heap_alloc_new]
 have hin2 : In false (Lo w2.heap.size) w2 24 (.agg #[.int .i64 6, .bool false, .int .i64 0, .string ⟨#[]⟩, .slice a1 m1 k1, .slice a2 m2 k2]) c1 := (hin.below b2).weak (fun b hb => Nat.lt_of_lt_of_le hb.2 b2.size) false id 24 (Nat.le_refl _)
 have cp := print_c hin2 d1 (ht.later B2).tab
 rw [e1] at cp
 obtain ⟨q0, q1, q2, q3, q4, q5⟩ := six_box hx2
 have HT2 : Hid (T6 w2) := ht.later B2
 have HB2 : Hid (Below w.heap.size w w2) := B2
 clear hfs hin hin2 hx2 b0 b1 b2 B2 ht ht0
 go_wp2_with fail
 refine cp.mono ?_
 rintro e w3 ⟨v, rfl, b3, h3⟩
 rcases h3 with ⟨-, hp⟩ | ⟨h, -⟩
 ·obtain ⟨a3, n3, c3, rfl⟩ := hp.shape
  have hcv := own_conv hp.own
  rw [AwP.w1] at hcv
  clear cp hw2 q0 q1 q2 q3 q4 q5
  obtain ⟨w4, hw4⟩ : ∃ w4, w3.alloc (.cells #[.int .u8 91, .int .u8 49, .int .u8 44, .int .u8 93] 5 (4, 5)) = w4 := ⟨_, rfl⟩
  have cv2 := Lib.run_convert_bytes_const (P := Tryz.prog) w3 22 5 #[.int .u8 91, .int .u8 49, .int .u8 44, .int .u8 93] 4 4 Tryz.underlying22 Tryz.underlying5
  rw [show (w3.alloc (.cells #[.int .u8 91, .int .u8 49, .int .u8 44, .int .u8 93] 5 ((#[Value.int .u8 91, .int .u8 49, .int .u8 44, .int .u8 93] : Array Value).size, (#[Value.int .u8 91, .int .u8 49, .int .u8 44, .int .u8 93] : Array Value).size + 1))) = w4 from hw4] at cv2
  have b4 : Below w3.heap.size w3 w4 := by rw [← hw4]; exact (Below.refl _ w3).alloc (Nat.le_refl _) _
  have c2' := hP2 w4 w3.heap.size (by rw [← hw4]; exact byt_new w3 s2 (by decide) _ _ r2_at) (HT2.out.later (nx b3 b4))
  have HO : Hid (∀ w', Below w3.heap.size w3 w' → (convert 22 9 (.slice a3 n3 c3)).run Tryz.prog w' = .ok (.string ⟨#[123, 34, 97, 34, 58, 91, 49, 44, 110, 117, 108, 108, 93, 125]⟩) w') := by
   intro w' hb
   have := own_conv (own_later hp.own hb)
   rw [AwP.w1] at this
   exact this
  clear hcv hp hw4
  go_wp2_with fail
  refine c2'.mono ?_
  rintro e w5 ⟨b5, rfl⟩
  unfold zeroV
  have b6 : Below w5.heap.size w5 (w5.alloc (.cells #[.int .i64 0, .bool false, .int .i64 0, .string ⟨#[]⟩, .slice none 0 0, .slice none 0 0] 27)) := (Below.refl _ w5).alloc (Nat.le_refl _) _
  have hcv := HO.out _ (nx (nx b4 b5) b6)
  clear c2' cv2
  go_wp2_with (first | (go_at_call 7; refine (num_c _ _).mono ?_; rintro e w' ⟨rfl, rfl⟩))
  go_ret
  exact ⟨rfl, nx (nx HB2.out b3) (nx (nx b4 b5) b6)⟩
 ·exact (h (by trivial)).elim
end Go.Proofs.YthkpbhgbmagaeaaGreatDoor.Aw
namespace Go.Proofs.YthkpbhgbmagaeaaGreatDoor.Vals
open Go.RowKit Go.Proofs.YthkpbhgbmagaeaaGreatDoor.Base Go.Proofs.YthkpbhgbmagaeaaGreatDoor.UBase Go.Proofs.YthkpbhgbmagaeaaGreatDoor.Spec Go.Proofs.YthkpbhgbmagaeaaGreatDoor.Rdr Go.Proofs.YthkpbhgbmagaeaaGreatDoor.Skip Go.Proofs.YthkpbhgbmagaeaaGreatDoor.Own Go.Proofs.YthkpbhgbmagaeaaGreatDoor.LState Go.Proofs.YthkpbhgbmagaeaaGreatDoor.Val
set_option linter.unusedVariables false
theorem one_cases (V : Nat → Nat → Except F (C × Nat × Nat)) (s : ByteArray) (p b : Nat) (h : beg (at' s p) = true) :
  (at' s p = 110 ∧ one V s p b = wK 1 false b (wd s [110, 117, 108, 108] p)) ∨ (at' s p = 116 ∧ one V s p b = wK 2 true b (wd s [116, 114, 117, 101] p)) ∨ (at' s p = 102 ∧ one V s p b = wK 2 false b (wd s [102, 97, 108, 115, 101] p)) ∨
  (at' s p = 34 ∧ one V s p b = tK b (txt s p)) ∨ (at' s p = 91 ∧ one V s p b = lis V s p b) ∨ (at' s p = 123 ∧ one V s p b = rec V s p b) ∨ ((at' s p = 45 ∨ dig (at' s p) = true) ∧ one V s p b = nK b (nm s p)) := by
 by_cases h1 : at' s p = 110
 ·refine .inl ⟨h1, ?_⟩
  rw [one, if_pos h1]
  generalize wd s _ p = X
  cases X <;> rfl
 by_cases h2 : at' s p = 116
 ·refine .inr (.inl ⟨h2, ?_⟩)
  rw [one, if_neg h1, if_pos h2]
  generalize wd s _ p = X
  cases X <;> rfl
 by_cases h3 : at' s p = 102
 ·refine .inr (.inr (.inl ⟨h3, ?_⟩))
  rw [one, if_neg h1, if_neg h2, if_pos h3]
  generalize wd s _ p = X
  cases X <;> rfl
 by_cases h4 : at' s p = 34
 ·refine .inr (.inr (.inr (.inl ⟨h4, ?_⟩)))
  rw [one, if_neg h1, if_neg h2, if_neg h3, if_pos h4]
  generalize txt s p = X
  cases X <;> rfl
 by_cases h5 : at' s p = 91
 ·refine .inr (.inr (.inr (.inr (.inl ⟨h5, ?_⟩))))
  rw [one, if_neg h1, if_neg h2, if_neg h3, if_neg h4, if_pos h5]
 by_cases h6 : at' s p = 123
 ·refine .inr (.inr (.inr (.inr (.inr (.inl ⟨h6, ?_⟩)))))
  rw [one, if_neg h1, if_neg h2, if_neg h3, if_neg h4, if_neg h5, if_pos h6]
 ·refine .inr (.inr (.inr (.inr (.inr (.inr ⟨?_, ?_⟩)))))
  ·unfold beg at h
   simp only [h1, h2, h3, h4, h5, h6, decide_false, Bool.false_or, Bool.or_false, Bool.or_eq_true, decide_eq_true_eq] at h
   exact h
  ·rw [one, if_neg h1, if_neg h2, if_neg h3, if_neg h4, if_neg h5, if_neg h6]
   generalize nm s p = X
   cases X <;> rfl
theorem vis : ∀ (n d : Nat), n + d = 25 → VIs n d n
 | 0, d, e => by
  intro w R v s i b h
  have hx : ∃ x, vl s 0 i b = .error x ∧ bgn d (blk s i) b (at' s (blk s i)) = .error x := by
   rw [vl]
   unfold bgn
   split
   ·rw [if_pos (by omega)]; exact ⟨_, rfl, rfl⟩
   ·exact ⟨_, rfl, rfl⟩
  obtain ⟨x, h1, h2⟩ := hx
  rw [h1]
  exact value_err (by omega) h h2
 | n + 1, d, e => by
  have ih := vis n (d + 1) (by omega)
  intro w R v s i b h
  have hlb := h.lb
  by_cases hg : beg (at' s (blk s i)) = true
  ·by_cases hb : 16384 ≤ b
   ·have h1 : vl s (n + 1) i b = .error (604, blk s i) := by rw [vl, if_pos hg, if_pos hb]
    have h2 : bgn d (blk s i) b (at' s (blk s i)) = .error (604, blk s i) := by unfold bgn; rw [if_pos hg, if_neg (by omega), if_pos (by omega)]
    rw [h1]
    exact value_err (by omega) h h2
   ·have h1 : vl s (n + 1) i b = one (vl s n) s (blk s i) (b + 1) := by rw [vl, if_pos hg, if_neg hb]
    have h2 : bgn d (blk s i) b (at' s (blk s i)) = .ok () := by unfold bgn; rw [if_pos hg, if_neg (by omega), if_neg (by omega)]
    rw [h1]
    rcases one_cases (vl s n) s (blk s i) (b + 1) hg with ⟨hc, e⟩ | ⟨hc, e⟩ | ⟨hc, e⟩ | ⟨hc, e⟩ | ⟨hc, e⟩ | ⟨hc, e⟩ | ⟨hc, e⟩
    ·rw [e]; exact vnull_c (by omega) h h2 hc
    ·rw [e]; exact vtrue_c (by omega) h h2 hc
    ·rw [e]; exact vfalse_c (by omega) h h2 hc
    ·rw [e]; exact vtext_c (by omega) h h2 hc
    ·rw [e]; exact vlist_c (by omega) ih h h2 hc
    ·rw [e]; exact vrecord_c (by omega) ih h h2 hc
    ·rw [e]; exact vnum_c (by omega) h h2 hc
  ·have h1 : vl s (n + 1) i b = .error (600, blk s i) := by rw [vl, if_neg hg]
   have h2 : bgn d (blk s i) b (at' s (blk s i)) = .error (600, blk s i) := by unfold bgn; rw [if_neg hg]
   rw [h1]
   exact value_err (by omega) h h2
end Go.Proofs.YthkpbhgbmagaeaaGreatDoor.Vals
namespace Go.Proofs.YthkpbhgbmagaeaaGreatDoor.AwV
open Go.RowKit Go.Proofs.YthkpbhgbmagaeaaGreatDoor.Base Go.Proofs.YthkpbhgbmagaeaaGreatDoor.Spec Go.Proofs.YthkpbhgbmagaeaaGreatDoor.Rdr Go.Proofs.YthkpbhgbmagaeaaGreatDoor.Prs Go.Proofs.YthkpbhgbmagaeaaGreatDoor.AwP Go.Proofs.YthkpbhgbmagaeaaGreatDoor.Aw
set_option linter.unusedVariables false
theorem p1c : P1 := by
 intro w g hb ht
 have h := parse_c (s := s1) (cap := 17) (a := some ⟨g, 0, none⟩) (Vals.vis 24 1 rfl) hb ht.utf ⟨ht.lt1, ht.lt2⟩
 rw [AwP.p1] at h
 exact h
theorem p2c : P2 := by
 intro w g hb ht
 have h := parse_c (s := s2) (cap := 4) (a := some ⟨g, 0, none⟩) (Vals.vis 24 1 rfl) hb ht.utf ⟨ht.lt1, ht.lt2⟩
 rw [AwP.p2] at h
 exact h
theorem awake_c (w : World) (ht : T6 w) : Calls Tryz.prog 11 #[] w fun e w' => e = .returned (.bool true) ∧ Below w.heap.size w w' := awake_of p1c p2c w ht
end Go.Proofs.YthkpbhgbmagaeaaGreatDoor.AwV
namespace Go.Proofs.YthkpbhgbmagaeaaGreatDoor.FBy
open Go.RowKit Go.Proofs.YthkpbhgbmagaeaaGreatDoor.Base Go.Proofs.YthkpbhgbmagaeaaGreatDoor.UBase Go.Proofs.YthkpbhgbmagaeaaGreatDoor.Spec Go.Proofs.YthkpbhgbmagaeaaGreatDoor.Byts Go.Proofs.YthkpbhgbmagaeaaGreatDoor.Rdr Go.Proofs.YthkpbhgbmagaeaaGreatDoor.Prs Go.Proofs.YthkpbhgbmagaeaaGreatDoor.Aw
set_option linter.unusedVariables false
theorem byt_below {w w' : World} {v : Value} {s : ByteArray} (h : Byt w w.heap.size v s) (hb : Below w.heap.size w w') : Byt w' w'.heap.size v s := by
 obtain ⟨a, cap, h1, h2, h3, h4, h5⟩ := h
 refine ⟨a, cap, h1, h2, h3, h4, ?_⟩
 rcases h5 with h5 | ⟨g, o, rfl, hg, hc⟩
 ·exact .inl h5
 ·exact .inr ⟨g, o, rfl, Nat.lt_of_lt_of_le hg hb.size, fun j hj => (World.cell?_of_block (w := w) (hb.block g hg)).trans (hc j hj)⟩
/-- What Parse answers. -/
theorem parse_any {w : World} {v : Value} {s : ByteArray} (hb : Byt w w.heap.size v s) (ht : T6 w) : Calls Tryz.prog 5 #[v] w (Pout w (prs s)) := by
 have hb' := hb
 obtain ⟨a, cap, rfl, -⟩ := hb
 exact parse_c (Vals.vis 24 1 rfl) hb' ht.utf ⟨ht.lt1, ht.lt2⟩
theorem cells_of {w : World} {g o : Nat} {s : ByteArray} (hc : ∀ j, j < s.size → w.cell? ⟨g, o + j, none⟩ = some (.int .u8 (at' s j : Nat))) : ∀ j u, (Lib.byteCells s.data.toList)[j]? = some u → w.cell? ((⟨g, o, none⟩ : Addr).add j) = some u := by
 intro j u hj
 have hl : j < s.size := by
  have := (List.getElem?_eq_some_iff.1 hj).1
  rw [Lib.byteCells_length] at this
  simpa using this
 rw [add_none, hc j hl, at_get _ _ hl]
 simp only [Lib.byteCells, List.getElem?_map] at hj
 rw [List.getElem?_eq_getElem (by simpa using hl)] at hj
 simp only [Option.map_some, Option.some.injEq] at hj
 rw [← hj]
 rfl
theorem bc_one (l : List UInt8) : ∀ v ∈ Lib.byteCells l, v.oneCell' = true := by
 intro v hv
 simp only [Lib.byteCells, List.mem_map] at hv
 obtain ⟨x, -, rfl⟩ := hv
 rfl
set_option maxRecDepth 20000 in
theorem copyB_c {w : World} {v : Value} {s : ByteArray} (h : Byt w w.heap.size v s) (hl : s.size ≤ 140737488351232) :
  Calls Tryz.prog 12 #[v] w fun e w' => ∃ u, e = .returned u ∧ Byts.Own w' w.heap.size u s.data.toList ∧ Below w.heap.size w w' := by
 obtain ⟨i0, hi, hz0, hz1, hz2⟩ := info_parts info5
 have hbyt := h
 obtain ⟨a, cap, rfl, hlc, hm, hnil, hcell⟩ := h
 have hb := (Below.refl w.heap.size w).alloc (Nat.le_refl _) (.cells #[] 5)
 have ho : Byts.Own (w.alloc (.cells #[] 5)) w.heap.size (.slice (some ⟨w.heap.size, 0, none⟩) 0 0) [] :=
  ⟨rfl, .inr ⟨w.heap.size, 0, #[], rfl, Nat.le_refl _, heap_alloc_new w _, Nat.le_refl _, by unfold maxLen; omega, rfl, rfl⟩⟩
 have hsl : s.data.toList.length = s.size := by simp
 cases a with
 | none =>
  obtain rfl := hnil rfl
  have h0 : s.size = 0 := by omega
  have e : s.data.toList = [] := List.eq_nil_of_length_eq_zero (by omega)
  rw [e]
  rw [h0]
  clear hcell hbyt hsl e h0 hlc
  go_enter Tryz.func12, Tryz.ntmps12
  go_wp2
  go_ret
  exact ⟨_, rfl, ho, hb⟩
 | some x =>
  obtain ⟨g, o, sp⟩ := x
  have hnews : ∀ j u, (Lib.byteCells s.data.toList)[j]? = some u → (w.alloc (.cells #[] 5)).cell? ((⟨g, o, sp⟩ : Addr).add j) = some u := by
   intro j u hj
   have hl : j < s.size := by
    have := (List.getElem?_eq_some_iff.1 hj).1
    rw [Lib.byteCells_length] at this
    omega
   rcases hcell with h0 | ⟨g', o', e, hg, hc⟩
   ·omega
   ·cases e
    exact (World.grownBy_alloc w _ none).cell (cells_of hc j u hj) (by simp)
  have hlen : (Lib.byteCells s.data.toList).length = s.size * 1 := by rw [Lib.byteCells_length, hsl]; omega
  generalize hN : s.size = N at *
  clear hcell hbyt
  go_enter Tryz.func12, Tryz.ntmps12
  go_wp2_with (first
   | (at_builtin; refine wpList_append_own _ rfl _ _ 22 rfl w.heap.size 5 i0 (.int .u8 0) 1 1 Tryz.underlying22 hi hz0 hz1 hz2 rfl (by decide) _ _ _ rfl ho ⟨g, o, sp⟩ N cap (Lib.byteCells s.data.toList) rfl hlen hnews (bc_one _) (by unfold maxLen; simp; omega) (by simp; omega) (by simp) ?_))
  intro v' w2 hown' hgrow hnn
  have hb3 := hb.grown hgrow (by simp) (fun k hk => by cases hk; exact Nat.le_refl _)
  have ho2 : Byts.Own w2 w.heap.size v' s.data.toList := by
   unfold Byts.Own
   rw [hsl]
   have h := hown'
   rw [show Lib.byteCells ([] : List UInt8) = [] from rfl, List.nil_append] at h
   simpa using h
  clear hown' hgrow ho hb hnews
  go_wp2
  go_ret
  exact ⟨_, rfl, ho2, hb3⟩
end Go.Proofs.YthkpbhgbmagaeaaGreatDoor.FBy
