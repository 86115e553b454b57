import Derived.BigQuiet
import Derived.Test.YtaiackmmmlhgbaaGreatPV32
import Derived.Test.YtaiackmmmlhgbaaGreatPV33
open Go.Proofs.Tryz
set_option linter.unusedVariables false
set_option maxRecDepth 20000
set_option maxHeartbeats 12800000
namespace Go.Proofs.YtaiackmmmlhgbaaGreat.BQu
open Go.RowKit BPl BGd YRr BQb BQg BQr BQt BQw BRh BVf
open YPl (Oq Bk Pg)
open YEn (InPg)
open BSf (hid Lo)
open CPu (Ins)
open TBase (T Keep heap_alloc_new)
theorem rverify_c {K m : Nat} {w : World} {v : Value} {x : Pg} (h : InPg K m w v x) (hK : K <= w.heap.size) (hok : ∀ t ∈ x.s, TShallow.depL [t] <= 4096) :
  Calls prog 16 #[v] w fun e w' => e = .returned (.tuple #[.int .i64 (vf x).1, .int .i64 (vf x).2.1, .int .i64 (vf x).2.2]) /\ Below w.heap.size w w' := by
 have HPG : Hid (∀ W', Below w.heap.size w W' -> InPg K m W' v x) := fun W' hb => h.below (hb.mono hK)
 have HDP := hid hok
 obtain ⟨a, n1, c1, b, n2, c2, c, n3, c3, d, n4, c4, rfl, h1, h2, h3, h4⟩ := h
 have e1 : n1 = x.t.length := by obtain ⟨_, _, e, _⟩ := h1; cases e; rfl
 have e4 : n4 = x.b.length := by obtain ⟨_, _, e, _⟩ := h4; cases e; rfl
 have hb47 : x.b.length <= 140737488351232 := by obtain ⟨_, _, _, _, _, h, _⟩ := h4; exact h
 obtain ⟨n, hn⟩ : ∃ n, x.b.length = n := ⟨_, rfl⟩
 rw [hn] at e4 hb47
 subst e4
 have HN := hid hn
 have HN1 := hid e1
 obtain ⟨X, hX⟩ : ∃ X, w.heap.size + 1 = X := ⟨_, rfl⟩
 obtain ⟨W0, hW0⟩ : ∃ W, w.alloc (.cells #[.slice a n1 c1, .slice b n2 c2, .slice c n3 c3, .slice d n4 c4] 29) = W := ⟨_, rfl⟩
 have b0 : Below w.heap.size w W0 := by rw [<- hW0]; exact (Below.refl _ w).alloc (Nat.le_refl _) _
 have g0 : W0.heap[w.heap.size]? = some (.cells #[.slice a n1 c1, .slice b n2 c2, .slice c n3 c3, .slice d n4 c4] 29 (0, 0)) := by rw [<- hW0]; exact heap_alloc_new w _
 have s0 : W0.heap.size = X := by rw [<- hW0, World.size_alloc, hX]
 obtain ⟨W1, hW1⟩ : ∃ W, W0.alloc (.cells #[.slice a n1 c1, .slice b n2 c2, .slice c n3 c3, .slice d n4 c4, .slice none 0 0, .int .i64 0, .int .i64 0, .int .i64 0, .int .i64 0, .int .i64 0, .slice none 0 0, .slice none 0 0] 106) = W := ⟨_, rfl⟩
 have b1 : Below X W0 W1 := by rw [<- hW1, <- s0]; exact (Below.refl _ W0).alloc (Nat.le_refl _) _
 have l1 : Lw W1 X (.slice a n1 c1) (.slice b n2 c2) (.slice c n3 c3) (.slice d n4 c4) (.slice none 0 0) 0 0 0 0 0 (.slice none 0 0) (.slice none 0 0) := by rw [<- hW1, <- s0]; exact heap_alloc_new W0 _
 have s1 : W1.heap.size = X + 1 := by rw [<- hW1, World.size_alloc, s0]
 have bw1 : Below w.heap.size w W1 := b0.trans (b1.mono (by omega))
 have g1 := (b1.block w.heap.size (by omega)).trans g0
 obtain ⟨p0, p1, p2, p3⟩ := TBase.four_box g0
 obtain ⟨_, _, _, _, _, _, _, _, _, _, _, _, e, t1, t2, t3, t4⟩ := HPG.out W1 bw1
 cases e
 have cL := lists_c (R := Lo K) l1 t1 t2 t3 (fun g hg => by have : g < K := hg; omega) (fun hg => by have : X < K := hg; omega)
 have BW1 := hid bw1
 have G1 := hid g1
 have HX := hid hX
 have S1 := hid s1
 clear h1 h2 h3 h4 t1 t2 t3 t4 b0 g0 b1 bw1 g1 hn e1 l1 hok
 obtain ⟨Z, hZ⟩ : ∃ Z, vf x = Z := ⟨_, rfl⟩
 have HZ := hid hZ
 rw [hZ]
 clear hZ
 go_enter func16, ntmps16
 go_wp2_with fail
 try rw [show W0.heap.size = X from s0]
 refine cL.mono ?_
 rintro e W2 ⟨⟨vr, rfl⟩, l2, x2⟩
 obtain ⟨Y, hY⟩ : ∃ Y, shf x = Y := ⟨_, rfl⟩
 rw [hY] at l2
 have HY := hid hY
 obtain ⟨y1, y2⟩ := Y
 obtain ⟨pl, hpl⟩ : ∃ p, (if y2 = 0 then 0 else y1) = p := ⟨_, rfl⟩
 dsimp only at l2
 rw [hpl] at l2
 have HPL := hid hpl
 have L2 := hid l2
 have X2 := hid x2
 have s2 : X + 1 <= W2.heap.size := by have := x2.1.size; omega
 have bw2 : Below w.heap.size w W2 := BW1.out.trans (x2.1.mono (by omega))
 have BW2 := hid bw2
 have g2 := (x2.2 w.heap.size (by omega) (by omega)).trans G1.out
 have G2 := hid g2
 have q3 := (TBase.four_box g2).2.2.2
 have k7 := l2.cell.2.2.2.2.2.2.2.1
 obtain ⟨TT, hTT⟩ : ∃ t, ((y2 == 0) && (decide (n4 = 0) || decide (8192 < n4))) = t := ⟨_, rfl⟩
 have HTT := hid hTT
 clear cL l2 x2 hY hpl bw2 g2 hTT p0 p1 p2 p3 hW0 hW1
 go_upto_region 3 with fail
 go_cut [27] from 11 to 27 (fun t wx => t = .bool TT /\ wx = W2)
 case first =>
  by_cases hy : y2 = 0
  ·have dy : (y2 == 0) = true := by simp [hy]
   by_cases h0 : n4 = 0
   ·have d0 : ((n4 : Int) == 0) = true := by simp [h0]
    have ET : Hid (TT = true) := by show _ = _; rw [<- HTT.out, dy, decide_eq_true h0]; rfl
    clear hy h0
    go_wp2_with fail
    go_meet
    exact ⟨by rw [ET.out], rfl⟩
   ·have d0 : ((n4 : Int) == 0) = false := by rw [beq_eq_false_iff_ne]; omega
    obtain ⟨D, hD⟩ : ∃ D, decide (8192 < n4) = D := ⟨_, rfl⟩
    have hD2 : decide ((8192 : Int) < (n4 : Int)) = D := by rw [<- hD]; by_cases h : 8192 < n4 <;> simp [h] <;> omega
    have ET : Hid (TT = D) := by show _ = _; rw [<- HTT.out, dy, decide_eq_false h0, hD]; rfl
    clear hy h0
    go_wp2_with fail
    go_meet
    exact ⟨by rw [ET.out], rfl⟩
  ·have dy : (y2 == 0) = false := by simp [hy]
   have ET : Hid (TT = false) := by show _ = _; rw [<- HTT.out, dy]; rfl
   clear hy
   go_wp2_with fail
   go_meet
   exact ⟨by rw [ET.out], rfl⟩
 case rest =>
 obtain ⟨rfl, hwx⟩ := hcut
 obtain rfl := hwx.symm
 clear q3 k7
 cases TT with
 | true =>
  have hbad : y2 = 0 /\ (n4 = 0 \/ 8192 < n4) := by
   have h := HTT.out
   rw [Bool.and_eq_true, Bool.or_eq_true, decide_eq_true_iff, decide_eq_true_iff] at h
   exact ⟨by simpa using h.1, h.2⟩
  have EZ : Hid (Z = (0, 0, 2205)) := by
   show _ = _
   rw [<- HZ.out]
   unfold vf
   rw [HY.out, if_neg (by simp [hbad.1]), if_pos (by
    rcases hbad.2 with h | h
    ·left; rw [<- List.length_eq_zero_iff, HN.out, h]
    ·right; rw [HN.out]; exact h)]
  obtain rfl := hbad.1
  have cF := fail_c L2.out 2205 0
  rw [if_pos rfl, if_pos rfl] at cF
  clear hbad
  go_wp2_with fail
  refine cF.mono ?_
  rintro e W3 ⟨⟨vq, rfl⟩, l3, x3⟩
  have B3 := hid (BW2.out.trans (x3.1.mono (by have := HX.out; omega)) : Below w.heap.size w W3)
  have k6 := l3.cell.2.2.2.2.2.2.1
  have k7 := l3.cell.2.2.2.2.2.2.2.1
  clear cF l3 x3
  go_wp2_with fail
  go_quiet (fail)
  go_wp2_with fail
  go_ret3
  rw [EZ.out]
  exact ⟨rfl, IBase.below_drewN B3.out⟩
 | false =>
 by_cases hy : y2 = 0
 rotate_left 1
 ·have EZ : Hid (Z = (0, y1, y2)) := by
   show _ = _
   rw [<- HZ.out]
   unfold vf
   rw [HY.out, if_pos hy]
  have ep : Hid (pl = y1) := by show _ = _; rw [<- HPL.out, if_neg hy]
  have dn : (y2 != 0) = true := by simp [hy]
  have k6 := L2.out.cell.2.2.2.2.2.2.1
  have k7 := L2.out.cell.2.2.2.2.2.2.2.1
  clear hy
  go_wp2_with fail
  go_quiet (fail)
  go_wp2_with fail
  go_ret3
  rw [EZ.out, ep.out]
  exact ⟨rfl, IBase.below_drewN BW2.out⟩
 obtain rfl := hy
 have hn8 : n4 ≠ 0 /\ n4 <= 8192 := by
  have h := HTT.out
  rw [show ((0 : Int) == 0) = true from rfl, Bool.true_and, Bool.or_eq_false_iff, decide_eq_false_iff_not, decide_eq_false_iff_not] at h
  exact ⟨h.1, by omega⟩
 obtain ⟨hn0, hn8⟩ := hn8
 have HZ2 : Hid (bls (shd x) 0 x.b (hm0 n4) = Z) := by
  show _ = _
  rw [<- HZ.out]
  unfold vf
  rw [HY.out, if_neg (by simp), if_neg (by
   rintro (h | h)
   ·exact hn0 (by rw [<- HN.out, h]; rfl)
   ·rw [HN.out] at h; omega), HN.out]
 have HOK := hid (shf_ok (x := x) (by rw [HY.out]))
 have hmk := make_q hn8
 obtain ⟨Q, hQ⟩ : ∃ Q, W2.heap.size = Q := ⟨_, rfl⟩
 have hXQ : X < Q := by omega
 obtain ⟨V1, hV1⟩ : ∃ V, W2.alloc (.cells (mkq n4) 109) = V := ⟨_, rfl⟩
 have bv1 : Below Q W2 V1 := by rw [<- hV1, <- hQ]; exact (Below.refl _ _).alloc (Nat.le_refl _) _
 have qv1 : Hq V1 Q (List.replicate n4 ar0) := by rw [<- hV1, <- hQ]; unfold Hq; rw [<- mkq_eq]; exact heap_alloc_new W2 _
 have lv1 : Lw V1 X (.slice a n1 c1) (.slice b n2 c2) (.slice c n3 c3) (.slice d n4 c4) (.slice none 0 0) 0 pl 0 0 0 (.slice none 0 0) (.slice none 0 0) := (bv1.block X (by omega)).trans L2.out
 obtain ⟨V2, hV2⟩ : ∃ V, V1.setCell ⟨X, 4, none⟩ (.slice (some ⟨Q, 0, none⟩) n4 n4) = V := ⟨_, rfl⟩
 have lv2 : Lw V2 X (.slice a n1 c1) (.slice b n2 c2) (.slice c n3 c3) (.slice d n4 c4) (.slice (some ⟨Q, 0, none⟩) n4 n4) 0 pl 0 0 0 (.slice none 0 0) (.slice none 0 0) := by rw [<- hV2]; exact BVf.cell_set lv1 4 _
 have qv2 : Hq V2 Q (List.replicate n4 ar0) := by rw [<- hV2]; exact (Below.heap_setCell _ _ _ _ (by show Q ≠ X; omega)).trans qv1
 have hrl : 0 < (List.replicate n4 ar0).length := by rw [List.length_replicate]; omega
 have hcl : ∀ (j : Nat) (u : Value), (hd ar0)[j]? = some u -> j < 5 -> V2.cell? ⟨Q, j, none⟩ = some u := fun j u hu hj => by
  have h := Hq.cell qv2 hrl hj (v := u) (by rw [List.getElem_replicate]; exact hu)
  rw [Nat.zero_mul, Nat.zero_add] at h
  exact h
 obtain ⟨V3, hV3⟩ : ∃ V, ((((V2.setCell ⟨Q, 0, none⟩ (.int .i64 1)).setCell ⟨Q, 1, none⟩ (.int .i64 0)).setCell ⟨Q, 2, none⟩ (.int .i64 0)).setCell ⟨Q, 3, none⟩ (.bool true)).setCell ⟨Q, 4, none⟩ (.bool false) = V := ⟨_, rfl⟩
 have qv3 : Hq V3 Q (hm0 n4) := by
  rw [<- hV3]
  have h := Hq.set qv2 hrl ⟨true, false, 1, 0, 0⟩
  rw [Nat.zero_mul, Nat.zero_add, Nat.zero_add, Nat.zero_add, Nat.zero_add] at h
  exact h
 have kv3 : ∀ g, g ≠ Q -> V3.heap[g]? = V2.heap[g]? := fun g hg => by
  rw [<- hV3, Below.heap_setCell _ _ _ _ (by exact hg), Below.heap_setCell _ _ _ _ (by exact hg), Below.heap_setCell _ _ _ _ (by exact hg), Below.heap_setCell _ _ _ _ (by exact hg), Below.heap_setCell _ _ _ _ (by exact hg)]
 have lv3 : Lw V3 X (.slice a n1 c1) (.slice b n2 c2) (.slice c n3 c3) (.slice d n4 c4) (.slice (some ⟨Q, 0, none⟩) n4 n4) 0 pl 0 0 0 (.slice none 0 0) (.slice none 0 0) := (kv3 X (by omega)).trans lv2
 obtain ⟨V4, hV4⟩ : ∃ V, V3.setCell ⟨X, 5, none⟩ (.int .i64 0) = V := ⟨_, rfl⟩
 have lv4 : Lw V4 X (.slice a n1 c1) (.slice b n2 c2) (.slice c n3 c3) (.slice d n4 c4) (.slice (some ⟨Q, 0, none⟩) n4 n4) 0 pl 0 0 0 (.slice none 0 0) (.slice none 0 0) := by rw [<- hV4]; exact BVf.cell_set lv3 5 _
 have qv4 : Hq V4 Q (hm0 n4) := by rw [<- hV4]; exact (Below.heap_setCell _ _ _ _ (by show Q ≠ X; omega)).trans qv3
 have bv4 : Below X W2 V4 := by
  rw [<- hV4, <- hV3, <- hV2]
  exact ((((((((show Below X W2 V1 from bv1.mono (by omega)).setCell (p := ⟨X, 4, none⟩) (Nat.le_refl _) _).setCell (p := ⟨Q, 0, none⟩) (by show X <= Q; omega) _).setCell (p := ⟨Q, 1, none⟩) (by show X <= Q; omega) _).setCell (p := ⟨Q, 2, none⟩) (by show X <= Q; omega) _).setCell (p := ⟨Q, 3, none⟩) (by show X <= Q; omega) _).setCell (p := ⟨Q, 4, none⟩) (by show X <= Q; omega) _).setCell (p := ⟨X, 5, none⟩) (Nat.le_refl _) _)
 have LV4 := hid lv4
 have QV4 := hid qv4
 have BV4 := hid bv4
 have sV4 : Q < V4.heap.size := (Array.getElem?_eq_some_iff.1 qv4).1
 have q3 := (TBase.four_box G2.out).2.2.2
 have u4 := lv1.cell.2.2.2.2.1
 have f4 := BIn.frz lv1 4
 have u4' := lv2.cell.2.2.2.2.1
 have r0 := hcl 0 _ rfl (by omega)
 have r1 := hcl 1 _ rfl (by omega)
 have r2 := hcl 2 _ rfl (by omega)
 have r3 := hcl 3 _ rfl (by omega)
 have r4 := hcl 4 _ rfl (by omega)
 have z0 := BIn.frz qv2 0
 have z1 := BIn.frz qv2 1
 have z2 := BIn.frz qv2 2
 have z3 := BIn.frz qv2 3
 have z4 := BIn.frz qv2 4
 have u5 := lv3.cell.2.2.2.2.2.1
 have f5 := BIn.frz lv3 5
 have k7 := L2.out.cell.2.2.2.2.2.2.2.1
 have j0 : (0 : Int) < (n4 : Int) := by omega
 have HN0 := hid hn0
 have HN8 := hid hn8
 clear bv1 qv1 lv1 lv2 qv2 hcl hrl qv3 kv3 lv3 lv4 qv4 bv4 hn0
 go_wp2_with fail
 clear q3 u4 f4 u4' r0 r1 r2 r3 r4 z0 z1 z2 z3 z4 u5 f5 k7 j0 hmk hV1 hV2 hV3 hV4
 have HW : Hid (∀ W', Xr X Q V4 W' -> Below w.heap.size w W' /\ W'.heap[w.heap.size]? = some (.cells #[.slice a n1 c1, .slice b n2 c2, .slice c n3 c3, .slice d n4 c4] 29 (0, 0))) := fun W' hx => by
  have h1 := HX.out
  have h2 := BW2.out.size
  exact ⟨(BW2.out.trans (BV4.out.mono (by omega))).trans (hx.1.mono (by omega)), (hx.1.block w.heap.size (by omega)).trans ((BV4.out.block w.heap.size (by omega)).trans G2.out)⟩
 have HZ3 := hid (by rw [List.drop_zero]; exact HZ2.out : bls (shd x) 0 (x.b.drop 0) (hm0 n4) = Z)
 clear HZ2 HZ
 go_loopw [] (fun wr => ∃ (q : Nat) (H : List Ar), q <= n4 /\ (∃ pq aq dq a1 a2 a3 b1 b2 b3, Lw wr X (.slice a n1 c1) (.slice b n2 c2) (.slice c n3 c3) (.slice d n4 c4) (.slice (some ⟨Q, 0, none⟩) n4 n4) (q : Int) pq 0 aq dq (.slice a1 a2 a3) (.slice b1 b2 b3)) /\ Hq wr Q H /\ H.length = n4 /\ Gh H /\ bls (shd x) q (x.b.drop q) H = Z /\ Xr X Q V4 wr) (fun wr => n4 - (intOf ((wr.cell? ⟨X, 5, none⟩).getD undef)).toNat)
 case atStart => exact ⟨0, hm0 n4, Nat.zero_le _, ⟨_, _, _, _, _, _, _, _, _, LV4.out⟩, QV4.out, by simp [hm0], gh_0 _, HZ3.out, Below.refl _ _, fun _ _ _ _ => rfl⟩
 case round =>
  obtain ⟨q, H, hq, ⟨pq, aq, dq, a1, a2, a3, b1, b2, b3, hL⟩, hH, hHl, hG, hM, hx⟩ := hrel
  have HL := hid hL
  have HH := hid hH
  have HHL := hid hHl
  have HG := hid hG
  have HM := hid hM
  have HXR := hid hx
  have hsz : V4.heap.size <= wr.heap.size := hx.1.size
  have k5 := hL.cell.2.2.2.2.2.1
  have q3 := (TBase.four_box (HW.out wr hx).2).2.2.2
  obtain ⟨TT, hTT⟩ : ∃ t, decide ((q : Int) < (n4 : Int)) = t := ⟨_, rfl⟩
  have HTT := hid hTT
  clear hL hH hHl hG hM hx
  go_upto_region 10 with fail
  go_cut [66] from 59 to 66 (fun t wx => t = .bool TT /\ Below wr.heap.size wr wx)
  case first =>
   go_wp2_with fail
   go_quiet (fail)
   go_wp2_with fail
   go_meet
   exact ⟨by rw [<- HTT.out]; simp, IBase.below_drewN (Below.refl _ wr)⟩
  case rest =>
  obtain ⟨rfl, hwx⟩ := hcut
  obtain ⟨W7, hW7⟩ : ∃ W7, W7 = wc := ⟨_, rfl⟩
  subst hW7
  have hX7 : Xr X Q V4 W7 := ⟨HXR.out.1.trans (hwx.mono (by omega)), fun g h1 h2 h3 => (hwx.block g (by omega)).trans (HXR.out.2 g h1 h2 h3)⟩
  have HX7 := hid hX7
  have HL7 := hid ((hwx.block X (by omega)).trans HL.out : Lw W7 X (.slice a n1 c1) (.slice b n2 c2) (.slice c n3 c3) (.slice d n4 c4) (.slice (some ⟨Q, 0, none⟩) n4 n4) (q : Int) pq 0 aq dq (.slice a1 a2 a3) (.slice b1 b2 b3))
  have HH7 := hid ((hwx.block Q (by omega)).trans HH.out : Hq W7 Q H)
  have hs7 : V4.heap.size <= W7.heap.size := hX7.1.size
  clear hX7 hwx k5 q3 hTT
  cases TT with
  | false =>
   have hqe : q = n4 := by have h := HTT.out; rw [decide_eq_false_iff_not] at h; omega
   have EZ : Hid (Z = (0, 0, 0)) := by
    show _ = _
    rw [<- HM.out, List.drop_of_length_le (by rw [HN.out]; omega), bls]
   have B7 := hid (HW.out W7 HX7.out).1
   clear hqe
   go_wp2_with fail
   go_ret3
   rw [EZ.out]
   exact ⟨rfl, B7.out⟩
  | true =>
   have hlt : q < n4 := by have h := HTT.out; rw [decide_eq_true_iff] at h; omega
   have hltb : q < x.b.length := by rw [HN.out]; exact hlt
   obtain ⟨k, hk⟩ : ∃ k, x.b[q] = k := ⟨_, rfl⟩
   obtain ⟨_, _, _, _, _, _, _, _, _, _, _, _, e, t1, t2, t3, t4⟩ := HPG.out W7 (HW.out W7 HX7.out).1
   cases e
   have cO := one_c (R := Lo K) (S := shd x) (C := x.c) (ds := x.s) (B := x.b) HL7.out hXQ (by omega) HH7.out HHL.out (by rw [HHL.out]; exact hlt) rfl HG.out t1 t2 rfl (fun L hL => by have := HOK.out.2.1.2 L hL; rw [HN1.out]; exact this) t3 rfl HDP.out t4 (fun g hg => by have h1 : g < K := hg; have h2 := HX.out; omega) (fun hg => by have h1 : X < K := hg; have h2 := HX.out; omega) (fun hg => by have h1 : Q < K := hg; have h2 := HX.out; omega) hltb hk
   obtain ⟨r, hr⟩ : ∃ r, rone (shd x) q k H = r := ⟨_, rfl⟩
   rw [hr] at cO
   have HR := hid hr
   have HBS : Hid (Z = match blf (shd x) q k H with
     | .error e => ((q : Int), e)
     | .ok H' => bls (shd x) (q + 1) (x.b.drop (q + 1)) H') := by
    show _ = _
    rw [<- HM.out, bls_step hltb, hk]
    rfl
   clear t1 t2 t3 t4 hr hk
   go_wp2_with fail
   refine cO.mono ?_
   rintro e W8 ⟨⟨vq, rfl⟩, hO⟩
   cases r with
   | error e =>
    obtain ⟨f1, f2⟩ := e
    obtain ⟨⟨aa, dd, lv, nv, l8⟩, x8⟩ := hO
    obtain ⟨hbf, hne⟩ := rone_er HG.out HR.out
    have EZ : Hid (Z = ((q : Int), f1, f2)) := by
     show _ = _
     rw [HBS.out, hbf]
    have dn : (f2 != 0) = true := by have : f2 ≠ 0 := hne; simp [this]
    have hX8 : Xr X Q V4 W8 := ⟨HX7.out.1.trans x8.1, fun g h1 h2 h3 => (x8.2 g (by omega) h2 h3).trans (HX7.out.2 g h1 h2 h3)⟩
    have B8 := hid (HW.out W8 hX8).1
    have k5 := l8.cell.2.2.2.2.2.1
    have k6 := l8.cell.2.2.2.2.2.2.1
    have k7 := l8.cell.2.2.2.2.2.2.2.1
    clear l8 x8 hX8 hbf hne cO
    go_wp2_with fail
    go_quiet (fail)
    go_wp2_with fail
    go_ret3
    rw [EZ.out]
    exact ⟨rfl, IBase.below_drewN B8.out⟩
   | ok He =>
    obtain ⟨⟨pp, aa, dd, l1, l2, l3, m1, m2, m3, l8⟩, h8, x8⟩ := hO
    obtain ⟨hbf, hGe, hle⟩ := rone_ok HG.out HR.out
    have HME : Hid (bls (shd x) (q + 1) (x.b.drop (q + 1)) He = Z) := by
     show _ = _
     rw [HBS.out, hbf]
    have hX8 : Xr X Q V4 W8 := ⟨HX7.out.1.trans x8.1, fun g h1 h2 h3 => (x8.2 g (by omega) h2 h3).trans (HX7.out.2 g h1 h2 h3)⟩
    have k5 := l8.cell.2.2.2.2.2.1
    have r5 := BIn.frz l8 5
    have k7 := l8.cell.2.2.2.2.2.2.2.1
    have jw : IntKind.i64.wrap ((q : Int) + 1) = ((q + 1 : Nat) : Int) := by rw [IntKind.wrap_i64]; omega
    have HFIN : Hid (∃ (q' : Nat) (H : List Ar), q' <= n4 /\ (∃ pq aq dq a1 a2 a3 b1 b2 b3, Lw (W8.setCell ⟨X, 5, none⟩ (.int .i64 ((q + 1 : Nat) : Int))) X (.slice a n1 c1) (.slice b n2 c2) (.slice c n3 c3) (.slice d n4 c4) (.slice (some ⟨Q, 0, none⟩) n4 n4) (q' : Int) pq 0 aq dq (.slice a1 a2 a3) (.slice b1 b2 b3)) /\ Hq (W8.setCell ⟨X, 5, none⟩ (.int .i64 ((q + 1 : Nat) : Int))) Q H /\ H.length = n4 /\ Gh H /\ bls (shd x) q' (x.b.drop q') H = Z /\ Xr X Q V4 (W8.setCell ⟨X, 5, none⟩ (.int .i64 ((q + 1 : Nat) : Int)))) :=
     ⟨q + 1, He, by omega, ⟨_, _, _, _, _, _, _, _, _, BVf.cell_set l8 5 _⟩, (Below.heap_setCell _ _ _ _ (by show Q ≠ X; omega)).trans h8, hle.trans HHL.out, hGe, HME.out, hX8.1.setCell (p := ⟨X, 5, none⟩) (Nat.le_refl _) _, fun g h1 h2 h3 => (Below.heap_setCell _ _ _ _ (by exact h2)).trans (hX8.2 g h1 h2 h3)⟩
    have hc5 : Lw (W8.setCell ⟨X, 5, none⟩ (.int .i64 ((q + 1 : Nat) : Int))) X (.slice a n1 c1) (.slice b n2 c2) (.slice c n3 c3) (.slice d n4 c4) (.slice (some ⟨Q, 0, none⟩) n4 n4) ((q + 1 : Nat) : Int) pp 0 aa dd (.slice l1 l2 l3) (.slice m1 m2 m3) := BVf.cell_set l8 5 _
    have HC5 := hid hc5.cell.2.2.2.2.2.1
    have HC5r := hid HL.out.cell.2.2.2.2.2.1
    clear l8 h8 x8 hX8 hbf hGe hle cO hc5
    go_wp2_with fail
    go_roundw
    case rel => exact HFIN.out
    case measure =>
     rw [HC5r.out]
     have h := HC5.out
     rw [show ((q + 1 : Nat) : Int) = (q : Int) + 1 by omega] at h
     simp only [h, Option.getD_some, intOf]
     omega
end Go.Proofs.YtaiackmmmlhgbaaGreat.BQu
