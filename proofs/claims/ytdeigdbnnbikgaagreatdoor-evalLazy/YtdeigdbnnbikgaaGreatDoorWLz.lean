/- What is not looked at may be as wrong as it likes: the walk. -/
import Derived.Test.YtdeigdbnnbikgaaGreatDoorPL42
import Derived.Test.YtdeigdbnnbikgaaGreatDoorPL43
import Derived.Test.YtdeigdbnnbikgaaGreatDoorPL45
import Derived.Test.YtdeigdbnnbikgaaGreatDoorPL07
import Derived.LoopTactic
import Derived.LoopN
import Derived.Deep.CutBlock
namespace Go.Proofs.YtdeigdbnnbikgaaGreatDoor.WLz
open Go.RowKit Base EPure VPure VSm VVr VMp VNo VVa VEv VEa VOf VAw VLz Fresh
set_option linter.unusedVariables false

theorem pcd_of (x : Ex) : PPp.pcd x = if may x = true then 0 else 1003 := rfl
/-- Two values that hold the same. -/
theorem same_two {m : Nat} {V Y : World} {u v : Value} {c : C} (hu : Base.In false All V (m + 1) u c) (hv : Base.In false All V (m + 1) v c) (hy : Below V.heap.size V Y) :
  Calls Tryz.prog 15 #[u, v] Y fun e w' => e = .returned (.bool true) ∧ Below Y.heap.size Y w' := SameV.sameV_c _ u v c Y (hu.below hy) (hv.below hy)
/-- A new box, written. -/
theorem mk4 {W : World} {B : Nat} (T : TypeId) (hB : W.heap.size = B) (v0 v1 v2 v3 : Value) : ∃ Z X, W.alloc (.cells #[.int .i64 0, .int .i64 0, .string ⟨#[]⟩, .slice none 0 0] T) = Z ∧ ((((Z.setCell ⟨B, 0, none⟩ v0).setCell ⟨B, 1, none⟩ v1).setCell ⟨B, 2, none⟩ v2).setCell ⟨B, 3, none⟩ v3) = X ∧ (Z.cell? ⟨B, 0, none⟩ = some (.int .i64 0) ∧ Z.cell? ⟨B, 1, none⟩ = some (.int .i64 0) ∧ Z.cell? ⟨B, 2, none⟩ = some (.string ⟨#[]⟩) ∧ Z.cell? ⟨B, 3, none⟩ = some (.slice none 0 0)) ∧ (∀ j, Z.frozen? ⟨B, j, none⟩ = false) ∧ X.heap.size = B + 1 ∧ X.heap[B]? = some (.cells #[v0, v1, v2, v3] T (0, 0)) ∧ Below W.heap.size W X := by
 subst hB
 have gz := heap_alloc_new W (.cells #[.int .i64 0, .int .i64 0, .string ⟨#[]⟩, .slice none 0 0] T)
 obtain ⟨X, hX⟩ : ∃ X, ((((W.alloc (.cells #[.int .i64 0, .int .i64 0, .string ⟨#[]⟩, .slice none 0 0] T)).setCell ⟨W.heap.size, 0, none⟩ v0).setCell ⟨W.heap.size, 1, none⟩ v1).setCell ⟨W.heap.size, 2, none⟩ v2).setCell ⟨W.heap.size, 3, none⟩ v3 = X := ⟨_, rfl⟩
 obtain ⟨g1, g2, g3, g4⟩ := XLend.set4 _ _ _ _ gz hX
 exact ⟨_, X, rfl, hX, XBase.four_box gz, XBase.frozen_box gz, by rw [g3]; simp, g1, g4 _ _ (Nat.le_refl _) ((Below.refl _ _).alloc (Nat.le_refl _) _)⟩
theorem mk6 {W : World} {B : Nat} (T : TypeId) (hB : W.heap.size = B) (v0 v1 v2 v3 v4 v5 : Value) : ∃ Z X, W.alloc (.cells #[.int .i64 0, .bool false, .int .i64 0, .string ⟨#[]⟩, .slice none 0 0, .slice none 0 0] T) = Z ∧ ((((((Z.setCell ⟨B, 0, none⟩ v0).setCell ⟨B, 1, none⟩ v1).setCell ⟨B, 2, none⟩ v2).setCell ⟨B, 3, none⟩ v3).setCell ⟨B, 4, none⟩ v4).setCell ⟨B, 5, none⟩ v5) = X ∧ (Z.cell? ⟨B, 0, none⟩ = some (.int .i64 0) ∧ Z.cell? ⟨B, 1, none⟩ = some (.bool false) ∧ Z.cell? ⟨B, 2, none⟩ = some (.int .i64 0) ∧ Z.cell? ⟨B, 3, none⟩ = some (.string ⟨#[]⟩) ∧ Z.cell? ⟨B, 4, none⟩ = some (.slice none 0 0) ∧ Z.cell? ⟨B, 5, none⟩ = some (.slice none 0 0)) ∧ (∀ j, Z.frozen? ⟨B, j, none⟩ = false) ∧ X.heap.size = B + 1 ∧ X.heap[B]? = some (.cells #[v0, v1, v2, v3, v4, v5] T (0, 0)) ∧ Below W.heap.size W X := by
 subst hB
 have gz := heap_alloc_new W (.cells #[.int .i64 0, .bool false, .int .i64 0, .string ⟨#[]⟩, .slice none 0 0, .slice none 0 0] T)
 obtain ⟨X, hX⟩ : ∃ X, ((((((W.alloc (.cells #[.int .i64 0, .bool false, .int .i64 0, .string ⟨#[]⟩, .slice none 0 0, .slice none 0 0] T)).setCell ⟨W.heap.size, 0, none⟩ v0).setCell ⟨W.heap.size, 1, none⟩ v1).setCell ⟨W.heap.size, 2, none⟩ v2).setCell ⟨W.heap.size, 3, none⟩ v3).setCell ⟨W.heap.size, 4, none⟩ v4).setCell ⟨W.heap.size, 5, none⟩ v5 = X := ⟨_, rfl⟩
 obtain ⟨g1, g2, g3, g4⟩ := set6 _ _ _ _ _ _ gz hX
 exact ⟨_, X, rfl, hX, six_box gz, frozen_box gz, by rw [g3]; simp, g1, g4 _ _ (Nat.le_refl _) ((Below.refl _ _).alloc (Nat.le_refl _) _)⟩
set_option maxRecDepth 20000 in
set_option maxHeartbeats 12800000 in
theorem walk {m n : Nat} {v ve : Value} {x : Ex} {bs : List Bn} {w : World} (h : XBase.In false All w n v x) (hv : Bl w.heap.size (m + 1) w ve bs) (hT : TX w) :
  Calls Tryz.prog 8 #[v, ve] w fun e w' => e = .returned (.bool true) ∧ Below w.heap.size w w' := by
 obtain ⟨n', lv, rfl, hu, ho, hi, hs, hL⟩ := h.shape
 obtain ⟨a, cap, rfl, hLr⟩ := hL
 subst hu
 clear hLr
 have hvv := hv
 obtain ⟨va, vc, rfl, hvl, hvm, -, -, -, hBB⟩ := hvv
 have HIN : Hid (XBase.In false All w (n' + 1) (xv x.o x.i x.s (.slice a x.l.length cap)) x) := h
 have HBL : Hid (∀ W, Below w.heap.size w W → Bl W.heap.size (m + 1) W (.slice va bs.length vc) bs) := fun W hW => Bl.mono (hv.low hW) hW.size
 have HBW : Hid (Bl w.heap.size (m + 1) w (.slice va bs.length vc) bs) := hv
 have HBB : Hid _ := hBB
 have HT : Hid (TX w) := hT
 obtain ⟨W0, hW0⟩ : ∃ W0, w.alloc (.cells #[.int .i64 x.o, .int .i64 x.i, .string x.s, .slice a x.l.length cap] 24) = W0 := ⟨_, rfl⟩
 have b0 : Below w.heap.size w W0 := by rw [← hW0]; exact (Below.refl _ w).alloc (Nat.le_refl _) _
 have hs0 : W0.heap.size = w.heap.size + 1 := by rw [← hW0]; simp
 have q0 : W0.heap[w.heap.size]? = some (.cells #[.int .i64 x.o, .int .i64 x.i, .string x.s, .slice a x.l.length cap] 24 (0, 0)) := by rw [← hW0]; exact heap_alloc_new w _
 have HQ0 : Hid (W0.heap[w.heap.size]? = some (.cells #[.int .i64 x.o, .int .i64 x.i, .string x.s, .slice a x.l.length cap] 24 (0, 0))) := q0
 have HB0 : Hid (Below w.heap.size w W0) := b0
 have HS0 : Hid (W0.heap.size = w.heap.size + 1) := hs0
 have cA := awake_c (hT.later b0)
 obtain ⟨PC, hPC⟩ : ∃ PC, PPp.pcd x = PC := ⟨_, rfl⟩
 have HPC : Hid (PPp.pcd x = PC) := hPC
 obtain ⟨PS, hPS⟩ : ∃ PS : ByteArray, ⟨(PPp.ptx x).toArray⟩ = PS := ⟨_, rfl⟩
 have HPS : Hid ((⟨(PPp.ptx x).toArray⟩ : ByteArray) = PS) := hPS
 clear h hv hT hBB q0 b0 hPC hPS
 go_enter Tryz.func8, Tryz.ntmps8
 go_wp2_with fail
 try rw [hW0]
 refine cA.mono ?_
 rintro e W1 ⟨rfl, hb1⟩
 clear cA hW0
 have hs1 := hb1.size
 have B1 : Below w.heap.size w W1 := HB0.out.trans (hb1.mono HB0.out.size)
 have hq1 := (hb1.block w.heap.size (by omega)).trans HQ0.out
 obtain ⟨y0, y1, y2, y3⟩ := XBase.four_box hq1
 have HQ1 : Hid (W1.heap[w.heap.size]? = some (.cells #[.int .i64 x.o, .int .i64 x.i, .string x.s, .slice a x.l.length cap] 24 (0, 0))) := hq1
 have hI1 := EOpen.In.low (HIN.out.below B1)
 have cP := PLen.print_c (w := W1) hI1 (HT.out.later B1).tb
 rw [HPC.out, HPS.out] at cP
 have HB1 : Hid (Below w.heap.size w W1) := B1
 clear hb1 hq1 B1 hI1
 go_wp2_with fail
 refine cP.mono ?_
 rintro e W2 ⟨rfl, hb2⟩
 clear cP y0 y1 y2 y3
 have hs2 := hb2.size
 have B2 : Below w.heap.size w W2 := HB1.out.trans (hb2.mono HB1.out.size)
 have hq2 := (hb2.block w.heap.size (by omega)).trans HQ1.out
 obtain ⟨y0, y1, y2, y3⟩ := XBase.four_box hq2
 have HQ2 : Hid (W2.heap[w.heap.size]? = some (.cells #[.int .i64 x.o, .int .i64 x.i, .string x.s, .slice a x.l.length cap] 24 (0, 0))) := hq2
 have cS := VSh.shallow_c (w := W2) (HIN.out.below B2) (HBL.out W2 B2)
 have HB2 : Hid (Below w.heap.size w W2) := B2
 clear hb2 hq2 B2
 go_wp2_with fail
 refine cS.mono ?_
 rintro e W3 ⟨⟨b, rfl, hdep⟩, hb3⟩
 clear cS y0 y1 y2 y3
 have hs3 := hb3.size
 have B3 : Below w.heap.size w W3 := HB2.out.trans (hb3.mono HB2.out.size)
 have HQ3 : Hid (W3.heap[w.heap.size]? = some (.cells #[.int .i64 x.o, .int .i64 x.i, .string x.s, .slice a x.l.length cap] 24 (0, 0))) := (hb3.block w.heap.size (by omega)).trans HQ2.out
 have HB3 : Hid (Below w.heap.size w W3) := B3
 clear hb3 B3
 have cM := num_c PC
 cases b with
 | false =>
  go_wp2_with fail
  go_ret
  exact ⟨rfl, HB3.out⟩
 | true =>
  have HDEP : Hid (∀ c ∈ bs, Shallow.dep c.2 ≤ 4096) := hdep rfl
  clear hdep
  cases hm : may x with
  | false =>
   have hp : PC = 1003 := by rw [← HPC.out, pcd_of, hm]; rfl
   subst hp
   go_wp2_with (first | (go_at_call 14; refine (cM _).mono ?_; rintro e w9 ⟨rfl, h9⟩; obtain rfl := h9.symm))
   go_ret
   exact ⟨rfl, HB3.out⟩
  | true =>
   have hp : PC = 0 := by rw [← HPC.out, pcd_of, hm]; rfl
   subst hp
   have HM : Hid (may x = true) := hm
   clear hm
   by_cases h1000 : 1000 < PS.size
   ·have dS : decide ((1000 : Int) < (PS.size : Int)) = true := by simp; omega
    go_wp2_with (first | (go_at_call 14; refine (cM _).mono ?_; rintro e w9 ⟨rfl, h9⟩; obtain rfl := h9.symm))
    go_ret
    exact ⟨rfl, HB3.out⟩
   ·have dS : decide ((1000 : Int) < (PS.size : Int)) = false := by simp; omega
    clear h1000
    go_wp2_with (first | (go_at_call 14; refine (cM _).mono ?_; rintro e w9 ⟨rfl, h9⟩; obtain rfl := h9.symm))
    clear cM dS
    go_loopw [7] (fun i' wr => ∃ q : Nat, q ≤ bs.length ∧ i' = .int .i64 q ∧ Below W3.heap.size W3 wr ∧ ∀ j (h : j < bs.length), j < q → code bs[j].2 = 0) (fun i' _ => bs.length - (intOf i').toNat)
    case atStart => exact ⟨0, by omega, rfl, Below.refl _ _, fun j h h' => by omega⟩
    case round =>
     obtain ⟨q, hq, rfl, hb, hall⟩ := hrel
     have HA : Hid (∀ j (h : j < bs.length), j < q → code bs[j].2 = 0) := hall
     have hsb := hb.size
     have hs0 := HS0.out
     have HBX : Hid (Below w.heap.size w wr) := HB3.out.trans (hb.mono HB3.out.size)
     have HBY : Hid (Below W3.heap.size W3 wr) := hb
     have hqr := (hb.block w.heap.size (by omega)).trans HQ3.out
     obtain ⟨y0, y1, y2, y3⟩ := XBase.four_box hqr
     have HQR : Hid (wr.heap[w.heap.size]? = some (.cells #[.int .i64 x.o, .int .i64 x.i, .string x.s, .slice a x.l.length cap] 24 (0, 0))) := hqr
     clear hall hb hqr
     by_cases hlt : q < bs.length
     ·have d0 : decide ((q : Int) < (bs.length : Int)) = true := by simp; omega
      rcases HBB.out with h | ⟨g, oo, rfl, hg, hc⟩
      ·rw [h] at hlt; simp at hlt
      obtain ⟨an, ln, cn, al, ll, cl, c0, c1, c2, c3, c4, c5, c6, hI⟩ := hc q hlt
      have hdq := HDEP.out _ (List.getElem_mem hlt)
      obtain ⟨B, hBq⟩ : ∃ B, bs[q] = B := ⟨_, rfl⟩
      rw [hBq] at c1 c2 c3 c4 hI hdq
      have kw : ∀ (z : Nat) (u : Value), w.cell? ⟨g, z, none⟩ = some u → wr.cell? ⟨g, z, none⟩ = some u := fun z u h => (World.cell?_of_block (w := w) (HBX.out.block g hg)).trans h
      have k1 := kw _ _ c1
      have k2 := kw _ _ c2
      have k3 := kw _ _ c3
      have k4 := kw _ _ c4
      have k5 := kw _ _ c5
      have k6 := kw _ _ c6
      have hI2 : In false All wr (m + 1) (vl B.2.k B.2.b B.2.i B.2.s (.slice an ln cn) (.slice al ll cl)) B.2 := (hI.weak (S' := All) (fun _ _ => trivial) false id _ (Nat.le_refl _)).below HBX.out
      have cC : Calls Tryz.prog 28 #[vl B.2.k B.2.b B.2.i B.2.s (.slice an ln cn) (.slice al ll cl)] wr fun e w' => e = .returned (.int .i64 (code B.2)) ∧ Below wr.heap.size wr w' := MeasB.check_c hI2 (by omega)
      have HBq : Hid (bs[q] = B) := hBq
      obtain ⟨D, hD⟩ : ∃ D, code B.2 = D := ⟨_, rfl⟩
      rw [hD] at cC
      have HD : Hid (code B.2 = D) := hD
      have hcap : bs.length ≤ vc := hvl
      have cM := num_c D
      generalize B.2.k = bk at *
      generalize B.2.b = bb at *
      generalize B.2.i = bi at *
      generalize B.2.s = bss at *
      clear hI hI2 hBq hD c0 c1 c2 c3 c4 c5 c6 kw hc hdq
      by_cases h0 : D = 0
      ·have e0 : (D != 0) = false := by simp [h0]
       have H0 : Hid (D = 0) := h0
       clear h0
       go_wp2_with (first | (go_at_call 28; refine cC.mono ?_; rintro e W4 ⟨rfl, hb4⟩) | (go_at_call 14; refine (cM _).mono ?_; rintro e w9 ⟨rfl, h9⟩; obtain rfl := h9.symm))
       have HB4 : Hid (Below W3.heap.size W3 W4) := HBY.out.trans (hb4.mono hsb)
       clear hb4
       go_roundw
       case rel =>
        refine ⟨q + 1, by omega, by go_num, HB4.out, fun j hj hjq => ?_⟩
        by_cases ej : j = q
        ·subst ej; rw [HBq.out, HD.out]; exact H0.out
        ·exact HA.out j hj (by omega)
       case measure => simp only [intOf]; omega
      ·have e0 : (D != 0) = true := by simpa using h0
       clear h0
       go_wp2_with (first | (go_at_call 28; refine cC.mono ?_; rintro e W4 ⟨rfl, hb4⟩) | (go_at_call 14; refine (cM _).mono ?_; rintro e w9 ⟨rfl, h9⟩; obtain rfl := h9.symm))
       go_ret
       exact ⟨rfl, HBX.out.trans (hb4.mono HBX.out.size)⟩
     ·have d0 : decide ((q : Int) < (bs.length : Int)) = false := by simp; omega
      have HBAD : Hid (bad bs = false) := by
       show bad bs = false
       unfold bad
       rw [List.any_eq_false]
       intro b hb
       obtain ⟨j, hj, rfl⟩ := List.mem_iff_getElem.1 hb
       simp [HA.out j hj (by omega)]
      have cC := XCp.copyAll _ _ x wr (HIN.out.below HBX.out)
      go_wp2_with fail
      refine cC.mono ?_
      rintro e Wc ⟨u, rfl, hiu, hbc⟩
      clear cC y0 y1 y2 y3 d0
      have BC : Below w.heap.size w Wc := HBX.out.trans (hbc.mono HBX.out.size)
      have HBC : Hid (Below w.heap.size w Wc) := BC
      obtain ⟨n2, lv2, hn2, hu2, -, -, -, hL2⟩ := hiu.shape
      obtain ⟨a2, c2, rfl, -⟩ := hL2
      subst hu2
      have HIU : Hid (XBase.In false All Wc (n' + 1) (.agg #[.int .i64 x.o, .int .i64 x.i, .string x.s, .slice a2 x.l.length c2]) x) := hiu.plain
      clear hiu hbc BC hn2
      obtain ⟨Z0, X0, hZ0, hX0, ⟨n0_0, n0_1, n0_2, n0_3⟩, f0, z0', g0, w0⟩ := mk4 24 (W := Wc) (B := Wc.heap.size) rfl (.int .i64 x.o) (.int .i64 x.i) (.string x.s) (.slice a2 x.l.length c2)
      have z0 : X0.heap.size = Wc.heap.size + 1 := z0'
      have HG0 : Hid (X0.heap[Wc.heap.size]? = some _) := g0
      have HW0 : Hid (Below Wc.heap.size Wc X0) := w0
      clear z0' g0 w0
      obtain ⟨Z1, X1, hZ1, hX1, ⟨n1_0, n1_1, n1_2, n1_3⟩, f1, z1', g1, w1⟩ := mk4 24 (W := X0) (B := Wc.heap.size + 1) z0 (.int .i64 2) (.int .i64 0) (.string ⟨#[]⟩) (.slice none 0 0)
      have z1 : X1.heap.size = Wc.heap.size + 2 := z1'
      have HG1 : Hid (X1.heap[Wc.heap.size + 1]? = some _) := g1
      have HW1 : Hid (Below X0.heap.size X0 X1) := w1
      clear z1' g1 w1
      obtain ⟨Z2, X2, hZ2, hX2, ⟨n2_0, n2_1, n2_2, n2_3⟩, f2, z2', g2, w2⟩ := mk4 24 (W := X1) (B := Wc.heap.size + 2) z1 (.int .i64 3) (.int .i64 0) (.string ⟨#[]⟩) (.slice none 0 0)
      have z2 : X2.heap.size = Wc.heap.size + 3 := z2'
      have HG2 : Hid (X2.heap[Wc.heap.size + 2]? = some _) := g2
      have HW2 : Hid (Below X1.heap.size X1 X2) := w2
      clear z2' g2 w2
      go_upto_region 15 with fail
      try rw [hX0]
      try rw [hX1]
      try rw [hX2]
      clear hX0 hZ0 f0 n0_0 n0_1 n0_2 n0_3 hX1 hZ1 f1 n1_0 n1_1 n1_2 n1_3 hX2 hZ2 f2 n2_0 n2_1 n2_2 n2_3
      obtain ⟨p0, p1, p2, p3⟩ := XBase.four_box ((HW2.out.block (Wc.heap.size) (by omega)).trans ((HW1.out.block (Wc.heap.size) (by omega)).trans (HG0.out)))
      obtain ⟨q0, q1, q2, q3⟩ := XBase.four_box ((HW2.out.block (Wc.heap.size + 1) (by omega)).trans (HG1.out))
      obtain ⟨r0, r1, r2, r3⟩ := XBase.four_box (HG2.out)
      obtain ⟨X3, hX3⟩ : ∃ X3, X2.alloc (.cells #[.int .i64 2, .int .i64 0, .string ⟨#[]⟩, .slice none 0 0, .int .i64 x.o, .int .i64 x.i, .string x.s, .slice a2 x.l.length c2] 24) = X3 := ⟨_, rfl⟩
      have z3 : X3.heap.size = Wc.heap.size + 4 := by rw [← hX3]; simp [z2]
      have HG3 : Hid (X3.heap[Wc.heap.size + 3]? = some (.cells #[.int .i64 2, .int .i64 0, .string ⟨#[]⟩, .slice none 0 0, .int .i64 x.o, .int .i64 x.i, .string x.s, .slice a2 x.l.length c2] 24 (0, 0))) := by rw [← hX3, ← z2]; exact heap_alloc_new _ _
      have HW3 : Hid (Below X2.heap.size X2 X3) := by rw [← hX3]; exact (Below.refl _ _).alloc (Nat.le_refl _) _
      obtain ⟨Z4, X4, hZ4, hX4, ⟨n4_0, n4_1, n4_2, n4_3⟩, f4, z4', g4, w4⟩ := mk4 24 (W := X3) (B := Wc.heap.size + 4) z3 (.int .i64 29) (.int .i64 0) (.string ⟨#[]⟩) (.slice (some ⟨Wc.heap.size + 3, 0, none⟩) 2 2)
      have z4 : X4.heap.size = Wc.heap.size + 5 := z4'
      have HG4 : Hid (X4.heap[Wc.heap.size + 4]? = some _) := g4
      have HW4 : Hid (Below X3.heap.size X3 X4) := w4
      clear z4' g4 w4
      go_upto_region 16 with fail
      try rw [hX3]
      try rw [hX4]
      clear hX3 hX4 hZ4 f4 n4_0 n4_1 n4_2 n4_3 p0 p1 p2 p3 q0 q1 q2 q3 r0 r1 r2 r3
      obtain ⟨p0, p1, p2, p3⟩ := XBase.four_box ((HW4.out.block (Wc.heap.size) (by omega)).trans ((HW3.out.block (Wc.heap.size) (by omega)).trans ((HW2.out.block (Wc.heap.size) (by omega)).trans ((HW1.out.block (Wc.heap.size) (by omega)).trans (HG0.out)))))
      obtain ⟨q0, q1, q2, q3⟩ := XBase.four_box ((HW4.out.block (Wc.heap.size + 1) (by omega)).trans ((HW3.out.block (Wc.heap.size + 1) (by omega)).trans ((HW2.out.block (Wc.heap.size + 1) (by omega)).trans (HG1.out))))
      obtain ⟨r0, r1, r2, r3⟩ := XBase.four_box ((HW4.out.block (Wc.heap.size + 2) (by omega)).trans ((HW3.out.block (Wc.heap.size + 2) (by omega)).trans (HG2.out)))
      obtain ⟨X5, hX5⟩ : ∃ X5, X4.alloc (.cells #[.int .i64 3, .int .i64 0, .string ⟨#[]⟩, .slice none 0 0, .int .i64 x.o, .int .i64 x.i, .string x.s, .slice a2 x.l.length c2] 24) = X5 := ⟨_, rfl⟩
      have z5 : X5.heap.size = Wc.heap.size + 6 := by rw [← hX5]; simp [z4]
      have HG5 : Hid (X5.heap[Wc.heap.size + 5]? = some (.cells #[.int .i64 3, .int .i64 0, .string ⟨#[]⟩, .slice none 0 0, .int .i64 x.o, .int .i64 x.i, .string x.s, .slice a2 x.l.length c2] 24 (0, 0))) := by rw [← hX5, ← z4]; exact heap_alloc_new _ _
      have HW5 : Hid (Below X4.heap.size X4 X5) := by rw [← hX5]; exact (Below.refl _ _).alloc (Nat.le_refl _) _
      obtain ⟨Z6, X6, hZ6, hX6, ⟨n6_0, n6_1, n6_2, n6_3⟩, f6, z6', g6, w6⟩ := mk4 24 (W := X5) (B := Wc.heap.size + 6) z5 (.int .i64 30) (.int .i64 0) (.string ⟨#[]⟩) (.slice (some ⟨Wc.heap.size + 5, 0, none⟩) 2 2)
      have z6 : X6.heap.size = Wc.heap.size + 7 := z6'
      have HG6 : Hid (X6.heap[Wc.heap.size + 6]? = some _) := g6
      have HW6 : Hid (Below X5.heap.size X5 X6) := w6
      clear z6' g6 w6
      go_upto_region 17 with fail
      try rw [hX5]
      try rw [hX6]
      clear hX5 hX6 hZ6 f6 n6_0 n6_1 n6_2 n6_3 p0 p1 p2 p3 q0 q1 q2 q3 r0 r1 r2 r3
      obtain ⟨p0, p1, p2, p3⟩ := XBase.four_box ((HW6.out.block (Wc.heap.size) (by omega)).trans ((HW5.out.block (Wc.heap.size) (by omega)).trans ((HW4.out.block (Wc.heap.size) (by omega)).trans ((HW3.out.block (Wc.heap.size) (by omega)).trans ((HW2.out.block (Wc.heap.size) (by omega)).trans ((HW1.out.block (Wc.heap.size) (by omega)).trans (HG0.out)))))))
      obtain ⟨q0, q1, q2, q3⟩ := XBase.four_box ((HW6.out.block (Wc.heap.size + 1) (by omega)).trans ((HW5.out.block (Wc.heap.size + 1) (by omega)).trans ((HW4.out.block (Wc.heap.size + 1) (by omega)).trans ((HW3.out.block (Wc.heap.size + 1) (by omega)).trans ((HW2.out.block (Wc.heap.size + 1) (by omega)).trans (HG1.out))))))
      obtain ⟨r0, r1, r2, r3⟩ := XBase.four_box ((HW6.out.block (Wc.heap.size + 2) (by omega)).trans ((HW5.out.block (Wc.heap.size + 2) (by omega)).trans ((HW4.out.block (Wc.heap.size + 2) (by omega)).trans ((HW3.out.block (Wc.heap.size + 2) (by omega)).trans (HG2.out)))))
      obtain ⟨X7, hX7⟩ : ∃ X7, X6.alloc (.cells #[.int .i64 3, .int .i64 0, .string ⟨#[]⟩, .slice none 0 0, .int .i64 3, .int .i64 0, .string ⟨#[]⟩, .slice none 0 0, .int .i64 x.o, .int .i64 x.i, .string x.s, .slice a2 x.l.length c2] 24) = X7 := ⟨_, rfl⟩
      have z7 : X7.heap.size = Wc.heap.size + 8 := by rw [← hX7]; simp [z6]
      have HG7 : Hid (X7.heap[Wc.heap.size + 7]? = some (.cells #[.int .i64 3, .int .i64 0, .string ⟨#[]⟩, .slice none 0 0, .int .i64 3, .int .i64 0, .string ⟨#[]⟩, .slice none 0 0, .int .i64 x.o, .int .i64 x.i, .string x.s, .slice a2 x.l.length c2] 24 (0, 0))) := by rw [← hX7, ← z6]; exact heap_alloc_new _ _
      have HW7 : Hid (Below X6.heap.size X6 X7) := by rw [← hX7]; exact (Below.refl _ _).alloc (Nat.le_refl _) _
      obtain ⟨Z8, X8, hZ8, hX8, ⟨n8_0, n8_1, n8_2, n8_3⟩, f8, z8', g8, w8⟩ := mk4 24 (W := X7) (B := Wc.heap.size + 8) z7 (.int .i64 31) (.int .i64 0) (.string ⟨#[]⟩) (.slice (some ⟨Wc.heap.size + 7, 0, none⟩) 3 3)
      have z8 : X8.heap.size = Wc.heap.size + 9 := z8'
      have HG8 : Hid (X8.heap[Wc.heap.size + 8]? = some _) := g8
      have HW8 : Hid (Below X7.heap.size X7 X8) := w8
      clear z8' g8 w8
      go_upto_region 18 with fail
      try rw [hX7]
      try rw [hX8]
      clear hX7 hX8 hZ8 f8 n8_0 n8_1 n8_2 n8_3 p0 p1 p2 p3 q0 q1 q2 q3 r0 r1 r2 r3
      obtain ⟨p0, p1, p2, p3⟩ := XBase.four_box ((HW8.out.block (Wc.heap.size) (by omega)).trans ((HW7.out.block (Wc.heap.size) (by omega)).trans ((HW6.out.block (Wc.heap.size) (by omega)).trans ((HW5.out.block (Wc.heap.size) (by omega)).trans ((HW4.out.block (Wc.heap.size) (by omega)).trans ((HW3.out.block (Wc.heap.size) (by omega)).trans ((HW2.out.block (Wc.heap.size) (by omega)).trans ((HW1.out.block (Wc.heap.size) (by omega)).trans (HG0.out)))))))))
      obtain ⟨q0, q1, q2, q3⟩ := XBase.four_box ((HW8.out.block (Wc.heap.size + 1) (by omega)).trans ((HW7.out.block (Wc.heap.size + 1) (by omega)).trans ((HW6.out.block (Wc.heap.size + 1) (by omega)).trans ((HW5.out.block (Wc.heap.size + 1) (by omega)).trans ((HW4.out.block (Wc.heap.size + 1) (by omega)).trans ((HW3.out.block (Wc.heap.size + 1) (by omega)).trans ((HW2.out.block (Wc.heap.size + 1) (by omega)).trans (HG1.out))))))))
      obtain ⟨r0, r1, r2, r3⟩ := XBase.four_box ((HW8.out.block (Wc.heap.size + 2) (by omega)).trans ((HW7.out.block (Wc.heap.size + 2) (by omega)).trans ((HW6.out.block (Wc.heap.size + 2) (by omega)).trans ((HW5.out.block (Wc.heap.size + 2) (by omega)).trans ((HW4.out.block (Wc.heap.size + 2) (by omega)).trans ((HW3.out.block (Wc.heap.size + 2) (by omega)).trans (HG2.out)))))))
      obtain ⟨X9, hX9⟩ : ∃ X9, X8.alloc (.cells #[.int .i64 2, .int .i64 0, .string ⟨#[]⟩, .slice none 0 0, .int .i64 x.o, .int .i64 x.i, .string x.s, .slice a2 x.l.length c2, .int .i64 3, .int .i64 0, .string ⟨#[]⟩, .slice none 0 0] 24) = X9 := ⟨_, rfl⟩
      have z9 : X9.heap.size = Wc.heap.size + 10 := by rw [← hX9]; simp [z8]
      have HG9 : Hid (X9.heap[Wc.heap.size + 9]? = some (.cells #[.int .i64 2, .int .i64 0, .string ⟨#[]⟩, .slice none 0 0, .int .i64 x.o, .int .i64 x.i, .string x.s, .slice a2 x.l.length c2, .int .i64 3, .int .i64 0, .string ⟨#[]⟩, .slice none 0 0] 24 (0, 0))) := by rw [← hX9, ← z8]; exact heap_alloc_new _ _
      have HW9 : Hid (Below X8.heap.size X8 X9) := by rw [← hX9]; exact (Below.refl _ _).alloc (Nat.le_refl _) _
      obtain ⟨Z10, X10, hZ10, hX10, ⟨n10_0, n10_1, n10_2, n10_3⟩, f10, z10', g10, w10⟩ := mk4 24 (W := X9) (B := Wc.heap.size + 10) z9 (.int .i64 31) (.int .i64 0) (.string ⟨#[]⟩) (.slice (some ⟨Wc.heap.size + 9, 0, none⟩) 3 3)
      have z10 : X10.heap.size = Wc.heap.size + 11 := z10'
      have HG10 : Hid (X10.heap[Wc.heap.size + 10]? = some _) := g10
      have HW10 : Hid (Below X9.heap.size X9 X10) := w10
      clear z10' g10 w10
      go_upto_region 19 with fail
      try rw [hX9]
      try rw [hX10]
      clear hX9 hX10 hZ10 f10 n10_0 n10_1 n10_2 n10_3 p0 p1 p2 p3 q0 q1 q2 q3 r0 r1 r2 r3
      obtain ⟨p0, p1, p2, p3⟩ := XBase.four_box ((HW10.out.block (Wc.heap.size) (by omega)).trans ((HW9.out.block (Wc.heap.size) (by omega)).trans ((HW8.out.block (Wc.heap.size) (by omega)).trans ((HW7.out.block (Wc.heap.size) (by omega)).trans ((HW6.out.block (Wc.heap.size) (by omega)).trans ((HW5.out.block (Wc.heap.size) (by omega)).trans ((HW4.out.block (Wc.heap.size) (by omega)).trans ((HW3.out.block (Wc.heap.size) (by omega)).trans ((HW2.out.block (Wc.heap.size) (by omega)).trans ((HW1.out.block (Wc.heap.size) (by omega)).trans (HG0.out)))))))))))
      obtain ⟨q0, q1, q2, q3⟩ := XBase.four_box ((HW10.out.block (Wc.heap.size + 1) (by omega)).trans ((HW9.out.block (Wc.heap.size + 1) (by omega)).trans ((HW8.out.block (Wc.heap.size + 1) (by omega)).trans ((HW7.out.block (Wc.heap.size + 1) (by omega)).trans ((HW6.out.block (Wc.heap.size + 1) (by omega)).trans ((HW5.out.block (Wc.heap.size + 1) (by omega)).trans ((HW4.out.block (Wc.heap.size + 1) (by omega)).trans ((HW3.out.block (Wc.heap.size + 1) (by omega)).trans ((HW2.out.block (Wc.heap.size + 1) (by omega)).trans (HG1.out))))))))))
      obtain ⟨r0, r1, r2, r3⟩ := XBase.four_box ((HW10.out.block (Wc.heap.size + 2) (by omega)).trans ((HW9.out.block (Wc.heap.size + 2) (by omega)).trans ((HW8.out.block (Wc.heap.size + 2) (by omega)).trans ((HW7.out.block (Wc.heap.size + 2) (by omega)).trans ((HW6.out.block (Wc.heap.size + 2) (by omega)).trans ((HW5.out.block (Wc.heap.size + 2) (by omega)).trans ((HW4.out.block (Wc.heap.size + 2) (by omega)).trans ((HW3.out.block (Wc.heap.size + 2) (by omega)).trans (HG2.out)))))))))
      obtain ⟨X11, hX11⟩ : ∃ X11, X10.alloc (.cells #[.int .i64 3, .int .i64 0, .string ⟨#[]⟩, .slice none 0 0, .int .i64 x.o, .int .i64 x.i, .string x.s, .slice a2 x.l.length c2, .int .i64 2, .int .i64 0, .string ⟨#[]⟩, .slice none 0 0] 24) = X11 := ⟨_, rfl⟩
      have z11 : X11.heap.size = Wc.heap.size + 12 := by rw [← hX11]; simp [z10]
      have HG11 : Hid (X11.heap[Wc.heap.size + 11]? = some (.cells #[.int .i64 3, .int .i64 0, .string ⟨#[]⟩, .slice none 0 0, .int .i64 x.o, .int .i64 x.i, .string x.s, .slice a2 x.l.length c2, .int .i64 2, .int .i64 0, .string ⟨#[]⟩, .slice none 0 0] 24 (0, 0))) := by rw [← hX11, ← z10]; exact heap_alloc_new _ _
      have HW11 : Hid (Below X10.heap.size X10 X11) := by rw [← hX11]; exact (Below.refl _ _).alloc (Nat.le_refl _) _
      obtain ⟨Z12, X12, hZ12, hX12, ⟨n12_0, n12_1, n12_2, n12_3⟩, f12, z12', g12, w12⟩ := mk4 24 (W := X11) (B := Wc.heap.size + 12) z11 (.int .i64 31) (.int .i64 0) (.string ⟨#[]⟩) (.slice (some ⟨Wc.heap.size + 11, 0, none⟩) 3 3)
      have z12 : X12.heap.size = Wc.heap.size + 13 := z12'
      have HG12 : Hid (X12.heap[Wc.heap.size + 12]? = some _) := g12
      have HW12 : Hid (Below X11.heap.size X11 X12) := w12
      clear z12' g12 w12
      go_upto_region 20 with fail
      try rw [hX11]
      try rw [hX12]
      clear hX11 hX12 hZ12 f12 n12_0 n12_1 n12_2 n12_3 p0 p1 p2 p3 q0 q1 q2 q3 r0 r1 r2 r3
      obtain ⟨Z13, X13, hZ13, hX13, ⟨n13_0, n13_1, n13_2, n13_3, n13_4, n13_5⟩, f13, z13', g13, w13⟩ := mk6 32 (W := X12) (B := Wc.heap.size + 13) z12 (.int .i64 2) (.bool true) (.int .i64 0) (.string ⟨#[]⟩) (.slice none 0 0) (.slice none 0 0)
      have z13 : X13.heap.size = Wc.heap.size + 14 := z13'
      have HG13 : Hid (X13.heap[Wc.heap.size + 13]? = some _) := g13
      have HW13 : Hid (Below X12.heap.size X12 X13) := w13
      clear z13' g13 w13
      go_upto_region 21 with fail
      try rw [hX13]
      clear hX13 hZ13 f13 n13_0 n13_1 n13_2 n13_3 n13_4 n13_5
      have BX : Below Wc.heap.size Wc X13 := by
       exact (((((((((((((HW0.out).trans (HW1.out.mono (by omega))).trans (HW2.out.mono (by omega))).trans (HW3.out.mono (by omega))).trans (HW4.out.mono (by omega))).trans (HW5.out.mono (by omega))).trans (HW6.out.mono (by omega))).trans (HW7.out.mono (by omega))).trans (HW8.out.mono (by omega))).trans (HW9.out.mono (by omega))).trans (HW10.out.mono (by omega))).trans (HW11.out.mono (by omega))).trans (HW12.out.mono (by omega))).trans (HW13.out.mono (by omega))
      have HX13 : Hid (Below w.heap.size w X13) := HBC.out.trans (BX.mono HBC.out.size)
      have HIy : Hid (XBase.In false All X13 (n' + 1) (.agg #[.int .i64 x.o, .int .i64 x.i, .string x.s, .slice a2 x.l.length c2]) x) := HIU.out.below BX
      have HK0 : Hid (X13.heap[Wc.heap.size]? = some (.cells #[.int .i64 x.o, .int .i64 x.i, .string x.s, .slice a2 x.l.length c2] 24 (0, 0))) := (HW13.out.block (Wc.heap.size) (by omega)).trans ((HW12.out.block (Wc.heap.size) (by omega)).trans ((HW11.out.block (Wc.heap.size) (by omega)).trans ((HW10.out.block (Wc.heap.size) (by omega)).trans ((HW9.out.block (Wc.heap.size) (by omega)).trans ((HW8.out.block (Wc.heap.size) (by omega)).trans ((HW7.out.block (Wc.heap.size) (by omega)).trans ((HW6.out.block (Wc.heap.size) (by omega)).trans ((HW5.out.block (Wc.heap.size) (by omega)).trans ((HW4.out.block (Wc.heap.size) (by omega)).trans ((HW3.out.block (Wc.heap.size) (by omega)).trans ((HW2.out.block (Wc.heap.size) (by omega)).trans ((HW1.out.block (Wc.heap.size) (by omega)).trans (HG0.out)))))))))))))
      have HK1 : Hid (X13.heap[Wc.heap.size + 1]? = some (.cells #[.int .i64 2, .int .i64 0, .string ⟨#[]⟩, .slice none 0 0] 24 (0, 0))) := (HW13.out.block (Wc.heap.size + 1) (by omega)).trans ((HW12.out.block (Wc.heap.size + 1) (by omega)).trans ((HW11.out.block (Wc.heap.size + 1) (by omega)).trans ((HW10.out.block (Wc.heap.size + 1) (by omega)).trans ((HW9.out.block (Wc.heap.size + 1) (by omega)).trans ((HW8.out.block (Wc.heap.size + 1) (by omega)).trans ((HW7.out.block (Wc.heap.size + 1) (by omega)).trans ((HW6.out.block (Wc.heap.size + 1) (by omega)).trans ((HW5.out.block (Wc.heap.size + 1) (by omega)).trans ((HW4.out.block (Wc.heap.size + 1) (by omega)).trans ((HW3.out.block (Wc.heap.size + 1) (by omega)).trans ((HW2.out.block (Wc.heap.size + 1) (by omega)).trans (HG1.out))))))))))))
      have HK2 : Hid (X13.heap[Wc.heap.size + 2]? = some (.cells #[.int .i64 3, .int .i64 0, .string ⟨#[]⟩, .slice none 0 0] 24 (0, 0))) := (HW13.out.block (Wc.heap.size + 2) (by omega)).trans ((HW12.out.block (Wc.heap.size + 2) (by omega)).trans ((HW11.out.block (Wc.heap.size + 2) (by omega)).trans ((HW10.out.block (Wc.heap.size + 2) (by omega)).trans ((HW9.out.block (Wc.heap.size + 2) (by omega)).trans ((HW8.out.block (Wc.heap.size + 2) (by omega)).trans ((HW7.out.block (Wc.heap.size + 2) (by omega)).trans ((HW6.out.block (Wc.heap.size + 2) (by omega)).trans ((HW5.out.block (Wc.heap.size + 2) (by omega)).trans ((HW4.out.block (Wc.heap.size + 2) (by omega)).trans ((HW3.out.block (Wc.heap.size + 2) (by omega)).trans (HG2.out)))))))))))
      have HK3 : Hid (X13.heap[Wc.heap.size + 3]? = some (.cells #[.int .i64 2, .int .i64 0, .string ⟨#[]⟩, .slice none 0 0, .int .i64 x.o, .int .i64 x.i, .string x.s, .slice a2 x.l.length c2] 24 (0, 0))) := (HW13.out.block (Wc.heap.size + 3) (by omega)).trans ((HW12.out.block (Wc.heap.size + 3) (by omega)).trans ((HW11.out.block (Wc.heap.size + 3) (by omega)).trans ((HW10.out.block (Wc.heap.size + 3) (by omega)).trans ((HW9.out.block (Wc.heap.size + 3) (by omega)).trans ((HW8.out.block (Wc.heap.size + 3) (by omega)).trans ((HW7.out.block (Wc.heap.size + 3) (by omega)).trans ((HW6.out.block (Wc.heap.size + 3) (by omega)).trans ((HW5.out.block (Wc.heap.size + 3) (by omega)).trans ((HW4.out.block (Wc.heap.size + 3) (by omega)).trans (HG3.out))))))))))
      have HK4 : Hid (X13.heap[Wc.heap.size + 4]? = some (.cells #[.int .i64 29, .int .i64 0, .string ⟨#[]⟩, .slice (some ⟨Wc.heap.size + 3, 0, none⟩) 2 2] 24 (0, 0))) := (HW13.out.block (Wc.heap.size + 4) (by omega)).trans ((HW12.out.block (Wc.heap.size + 4) (by omega)).trans ((HW11.out.block (Wc.heap.size + 4) (by omega)).trans ((HW10.out.block (Wc.heap.size + 4) (by omega)).trans ((HW9.out.block (Wc.heap.size + 4) (by omega)).trans ((HW8.out.block (Wc.heap.size + 4) (by omega)).trans ((HW7.out.block (Wc.heap.size + 4) (by omega)).trans ((HW6.out.block (Wc.heap.size + 4) (by omega)).trans ((HW5.out.block (Wc.heap.size + 4) (by omega)).trans (HG4.out)))))))))
      have HK5 : Hid (X13.heap[Wc.heap.size + 5]? = some (.cells #[.int .i64 3, .int .i64 0, .string ⟨#[]⟩, .slice none 0 0, .int .i64 x.o, .int .i64 x.i, .string x.s, .slice a2 x.l.length c2] 24 (0, 0))) := (HW13.out.block (Wc.heap.size + 5) (by omega)).trans ((HW12.out.block (Wc.heap.size + 5) (by omega)).trans ((HW11.out.block (Wc.heap.size + 5) (by omega)).trans ((HW10.out.block (Wc.heap.size + 5) (by omega)).trans ((HW9.out.block (Wc.heap.size + 5) (by omega)).trans ((HW8.out.block (Wc.heap.size + 5) (by omega)).trans ((HW7.out.block (Wc.heap.size + 5) (by omega)).trans ((HW6.out.block (Wc.heap.size + 5) (by omega)).trans (HG5.out))))))))
      have HK6 : Hid (X13.heap[Wc.heap.size + 6]? = some (.cells #[.int .i64 30, .int .i64 0, .string ⟨#[]⟩, .slice (some ⟨Wc.heap.size + 5, 0, none⟩) 2 2] 24 (0, 0))) := (HW13.out.block (Wc.heap.size + 6) (by omega)).trans ((HW12.out.block (Wc.heap.size + 6) (by omega)).trans ((HW11.out.block (Wc.heap.size + 6) (by omega)).trans ((HW10.out.block (Wc.heap.size + 6) (by omega)).trans ((HW9.out.block (Wc.heap.size + 6) (by omega)).trans ((HW8.out.block (Wc.heap.size + 6) (by omega)).trans ((HW7.out.block (Wc.heap.size + 6) (by omega)).trans (HG6.out)))))))
      have HK7 : Hid (X13.heap[Wc.heap.size + 7]? = some (.cells #[.int .i64 3, .int .i64 0, .string ⟨#[]⟩, .slice none 0 0, .int .i64 3, .int .i64 0, .string ⟨#[]⟩, .slice none 0 0, .int .i64 x.o, .int .i64 x.i, .string x.s, .slice a2 x.l.length c2] 24 (0, 0))) := (HW13.out.block (Wc.heap.size + 7) (by omega)).trans ((HW12.out.block (Wc.heap.size + 7) (by omega)).trans ((HW11.out.block (Wc.heap.size + 7) (by omega)).trans ((HW10.out.block (Wc.heap.size + 7) (by omega)).trans ((HW9.out.block (Wc.heap.size + 7) (by omega)).trans ((HW8.out.block (Wc.heap.size + 7) (by omega)).trans (HG7.out))))))
      have HK8 : Hid (X13.heap[Wc.heap.size + 8]? = some (.cells #[.int .i64 31, .int .i64 0, .string ⟨#[]⟩, .slice (some ⟨Wc.heap.size + 7, 0, none⟩) 3 3] 24 (0, 0))) := (HW13.out.block (Wc.heap.size + 8) (by omega)).trans ((HW12.out.block (Wc.heap.size + 8) (by omega)).trans ((HW11.out.block (Wc.heap.size + 8) (by omega)).trans ((HW10.out.block (Wc.heap.size + 8) (by omega)).trans ((HW9.out.block (Wc.heap.size + 8) (by omega)).trans (HG8.out)))))
      have HK9 : Hid (X13.heap[Wc.heap.size + 9]? = some (.cells #[.int .i64 2, .int .i64 0, .string ⟨#[]⟩, .slice none 0 0, .int .i64 x.o, .int .i64 x.i, .string x.s, .slice a2 x.l.length c2, .int .i64 3, .int .i64 0, .string ⟨#[]⟩, .slice none 0 0] 24 (0, 0))) := (HW13.out.block (Wc.heap.size + 9) (by omega)).trans ((HW12.out.block (Wc.heap.size + 9) (by omega)).trans ((HW11.out.block (Wc.heap.size + 9) (by omega)).trans ((HW10.out.block (Wc.heap.size + 9) (by omega)).trans (HG9.out))))
      have HK10 : Hid (X13.heap[Wc.heap.size + 10]? = some (.cells #[.int .i64 31, .int .i64 0, .string ⟨#[]⟩, .slice (some ⟨Wc.heap.size + 9, 0, none⟩) 3 3] 24 (0, 0))) := (HW13.out.block (Wc.heap.size + 10) (by omega)).trans ((HW12.out.block (Wc.heap.size + 10) (by omega)).trans ((HW11.out.block (Wc.heap.size + 10) (by omega)).trans (HG10.out)))
      have HK11 : Hid (X13.heap[Wc.heap.size + 11]? = some (.cells #[.int .i64 3, .int .i64 0, .string ⟨#[]⟩, .slice none 0 0, .int .i64 x.o, .int .i64 x.i, .string x.s, .slice a2 x.l.length c2, .int .i64 2, .int .i64 0, .string ⟨#[]⟩, .slice none 0 0] 24 (0, 0))) := (HW13.out.block (Wc.heap.size + 11) (by omega)).trans ((HW12.out.block (Wc.heap.size + 11) (by omega)).trans (HG11.out))
      have HK12 : Hid (X13.heap[Wc.heap.size + 12]? = some (.cells #[.int .i64 31, .int .i64 0, .string ⟨#[]⟩, .slice (some ⟨Wc.heap.size + 11, 0, none⟩) 3 3] 24 (0, 0))) := (HW13.out.block (Wc.heap.size + 12) (by omega)).trans (HG12.out)
      have HK13 : Hid (X13.heap[Wc.heap.size + 13]? = some (.cells #[.int .i64 2, .bool true, .int .i64 0, .string ⟨#[]⟩, .slice none 0 0, .slice none 0 0] 32 (0, 0))) := HG13.out
      have HZ13 : Hid (X13.heap.size = Wc.heap.size + 14) := z13
      have hno : XBase.In false All X13 (n' + 1) (.agg #[.int .i64 2, .int .i64 0, .string ⟨#[]⟩, .slice none 0 0]) nE := XBase.In.leaf X13 _ All 2 0 ⟨#[]⟩ (by omega) (by omega) (by decide)
      have hye : XBase.In false All X13 (n' + 1) (.agg #[.int .i64 3, .int .i64 0, .string ⟨#[]⟩, .slice none 0 0]) yE := XBase.In.leaf X13 _ All 3 0 ⟨#[]⟩ (by omega) (by omega) (by decide)
      have HI12 : Hid (XBase.In false All X13 (n' + 1 + 1) (.agg #[.int .i64 29, .int .i64 0, .string ⟨#[]⟩, .slice (some ⟨Wc.heap.size + 3, 0, none⟩) 2 2]) (bothE x)) := in2 trivial (by omega) HK3.out hno HIy.out
      have HI13 : Hid (XBase.In false All X13 (n' + 1 + 1) (.agg #[.int .i64 30, .int .i64 0, .string ⟨#[]⟩, .slice (some ⟨Wc.heap.size + 5, 0, none⟩) 2 2]) (anyE x)) := in2 trivial (by omega) HK5.out hye HIy.out
      have HI14 : Hid (XBase.In false All X13 (n' + 1 + 1) (.agg #[.int .i64 31, .int .i64 0, .string ⟨#[]⟩, .slice (some ⟨Wc.heap.size + 7, 0, none⟩) 3 3]) (fstE x)) := in3 trivial (by omega) HK7.out hye hye HIy.out
      have HI15 : Hid (XBase.In false All X13 (n' + 1 + 1) (.agg #[.int .i64 31, .int .i64 0, .string ⟨#[]⟩, .slice (some ⟨Wc.heap.size + 9, 0, none⟩) 3 3]) (sndE x)) := in3 trivial (by omega) HK9.out hno HIy.out hye
      have HI16 : Hid (XBase.In false All X13 (n' + 1 + 1) (.agg #[.int .i64 31, .int .i64 0, .string ⟨#[]⟩, .slice (some ⟨Wc.heap.size + 11, 0, none⟩) 3 3]) (samE x)) := in3 trivial (by omega) HK11.out hye HIy.out hno
      clear hno hye BX HG0 HW0 HG1 HW1 HG2 HW2 HG3 HW3 HG4 HW4 HG5 HW5 HG6 HW6 HG7 HW7 HG8 HW8 HG9 HW9 HG10 HW10 HG11 HW11 HG12 HW12 HG13 HW13 z0 z1 z2 z3 z4 z5 z6 z7 z8 z9 z10 z11 z12 z13
      have HY0 : Hid (Below X13.heap.size X13 X13) := Below.refl _ _
      have hz13 := HZ13.out
      have hbx1 := HY0.out
      have sz1 := hbx1.size
      obtain ⟨p0, p1, p2, p3⟩ := XBase.four_box ((hbx1.block (Wc.heap.size + 4) (by omega)).trans HK4.out)
      have BW1 : Below w.heap.size w X13 := HX13.out.trans (hbx1.mono HX13.out.size)
      have cE := eval_all (w := X13) (EOpen.In.low (HI12.out.below hbx1)) (HBL.out X13 BW1) (fun b hb => by have := HDEP.out b hb; omega) (HT.out.later BW1).tb
      obtain ⟨N1, hN1⟩ : ∃ N1, nOf (evA bs (bothE x)) = N1 := ⟨_, rfl⟩
      have HN1 : Hid (nOf (evA bs (bothE x)) = N1) := hN1
      rw [hN1] at cE
      clear hN1 BW1 hz13
      go_wp2_with fail
      refine cE.mono ?_
      rintro e V1 ⟨hv1, u1, rfl, hfr1⟩
      clear cE p0 p1 p2 p3
      have hinu := hfr1.in
      obtain ⟨an1, ln1, cn1, al1, ll1, cl1, hu⟩ := VRs.in_shape hinu
      obtain ⟨c1, hc1⟩ : ∃ c, vOf (evA bs (bothE x)) = c := ⟨_, rfl⟩
      rw [hc1] at hinu hu
      have HC1 : Hid (vOf (evA bs (bothE x)) = c1) := hc1
      subst hu
      have HIc : Hid (Base.In false All V1 (m + 1) (vl c1.k c1.b c1.i c1.s (.slice an1 ln1 cn1) (.slice al1 ll1 cl1)) c1) := hinu.weak (S' := All) (fun _ _ => trivial) false id _ (Nat.le_refl _)
      clear hinu hfr1 hc1
      obtain ⟨k1, hk1⟩ : ∃ k, c1.k = k := ⟨_, rfl⟩
      obtain ⟨b1, hb1'⟩ : ∃ k, c1.b = k := ⟨_, rfl⟩
      obtain ⟨i1, hi1'⟩ : ∃ k, c1.i = k := ⟨_, rfl⟩
      obtain ⟨s1, hs1'⟩ : ∃ k, c1.s = k := ⟨_, rfl⟩
      rw [hk1, hb1', hi1', hs1'] at HIc
      try rw [hk1, hb1', hi1', hs1']
      obtain ⟨Q1, Y1, hQ1, hY1, ⟨n0, n1, n2, n3, n4, n5⟩, nf, zz, g1, hy1⟩ := mk6 32 (W := V1) (B := V1.heap.size) rfl (.int .i64 k1) (.bool b1) (.int .i64 i1) (.string s1) (.slice an1 ln1 cn1) (.slice al1 ll1 cl1)
      have HP1 : Hid (Y1.heap[V1.heap.size]? = some _) := g1
      have HL1 : Hid (V1.heap.size < Y1.heap.size) := (Array.getElem?_eq_some_iff.1 g1).1
      clear g1 zz
      have HR1 : Hid (Base.In false All Y1 (m + 1) (vl k1 b1 i1 s1 (.slice an1 ln1 cn1) (.slice al1 ll1 cl1)) c1) := HIc.out.below hy1
      have HVY1 : Hid (Below X13.heap.size X13 Y1) := hv1.trans (hy1.mono hv1.size)
      have HY1 : Hid (Below X13.heap.size X13 Y1) := hbx1.trans (HVY1.out.mono hbx1.size)
      clear hv1 hy1 HIc hbx1 sz1 hk1 hb1' hi1' hs1'
      go_upto_region 22 with fail
      try rw [hY1]
      clear hY1 hQ1 n0 n1 n2 n3 n4 n5 nf
      have hz13 := HZ13.out
      have hbx2 := HY1.out
      have sz2 := hbx2.size
      obtain ⟨p0, p1, p2, p3⟩ := XBase.four_box ((hbx2.block (Wc.heap.size + 6) (by omega)).trans HK6.out)
      have BW2 : Below w.heap.size w Y1 := HX13.out.trans (hbx2.mono HX13.out.size)
      have cE := eval_all (w := Y1) (EOpen.In.low (HI13.out.below hbx2)) (HBL.out Y1 BW2) (fun b hb => by have := HDEP.out b hb; omega) (HT.out.later BW2).tb
      obtain ⟨N2, hN2⟩ : ∃ N2, nOf (evA bs (anyE x)) = N2 := ⟨_, rfl⟩
      have HN2 : Hid (nOf (evA bs (anyE x)) = N2) := hN2
      rw [hN2] at cE
      clear hN2 BW2 hz13
      go_wp2_with fail
      refine cE.mono ?_
      rintro e V2 ⟨hv2, u2, rfl, hfr2⟩
      clear cE p0 p1 p2 p3
      have hinu := hfr2.in
      obtain ⟨an2, ln2, cn2, al2, ll2, cl2, hu⟩ := VRs.in_shape hinu
      obtain ⟨c2, hc2⟩ : ∃ c, vOf (evA bs (anyE x)) = c := ⟨_, rfl⟩
      rw [hc2] at hinu hu
      have HC2 : Hid (vOf (evA bs (anyE x)) = c2) := hc2
      subst hu
      have HIc : Hid (Base.In false All V2 (m + 1) (vl c2.k c2.b c2.i c2.s (.slice an2 ln2 cn2) (.slice al2 ll2 cl2)) c2) := hinu.weak (S' := All) (fun _ _ => trivial) false id _ (Nat.le_refl _)
      clear hinu hfr2 hc2
      obtain ⟨k2, hk2⟩ : ∃ k, c2.k = k := ⟨_, rfl⟩
      obtain ⟨b2, hb2'⟩ : ∃ k, c2.b = k := ⟨_, rfl⟩
      obtain ⟨i2, hi2'⟩ : ∃ k, c2.i = k := ⟨_, rfl⟩
      obtain ⟨s2, hs2'⟩ : ∃ k, c2.s = k := ⟨_, rfl⟩
      rw [hk2, hb2', hi2', hs2'] at HIc
      try rw [hk2, hb2', hi2', hs2']
      obtain ⟨Q2, Y2, hQ2, hY2, ⟨n0, n1, n2, n3, n4, n5⟩, nf, zz, g1, hy2⟩ := mk6 32 (W := V2) (B := V2.heap.size) rfl (.int .i64 k2) (.bool b2) (.int .i64 i2) (.string s2) (.slice an2 ln2 cn2) (.slice al2 ll2 cl2)
      have HP2 : Hid (Y2.heap[V2.heap.size]? = some _) := g1
      have HL2 : Hid (V2.heap.size < Y2.heap.size) := (Array.getElem?_eq_some_iff.1 g1).1
      clear g1 zz
      have HR2 : Hid (Base.In false All Y2 (m + 1) (vl k2 b2 i2 s2 (.slice an2 ln2 cn2) (.slice al2 ll2 cl2)) c2) := HIc.out.below hy2
      have HVY2 : Hid (Below Y1.heap.size Y1 Y2) := hv2.trans (hy2.mono hv2.size)
      have HY2 : Hid (Below X13.heap.size X13 Y2) := hbx2.trans (HVY2.out.mono hbx2.size)
      clear hv2 hy2 HIc hbx2 sz2 hk2 hb2' hi2' hs2'
      go_upto_region 23 with fail
      try rw [hY2]
      clear hY2 hQ2 n0 n1 n2 n3 n4 n5 nf
      have hz13 := HZ13.out
      have hbx3 := HY2.out
      have sz3 := hbx3.size
      obtain ⟨p0, p1, p2, p3⟩ := XBase.four_box ((hbx3.block (Wc.heap.size + 8) (by omega)).trans HK8.out)
      have BW3 : Below w.heap.size w Y2 := HX13.out.trans (hbx3.mono HX13.out.size)
      have cE := eval_all (w := Y2) (EOpen.In.low (HI14.out.below hbx3)) (HBL.out Y2 BW3) (fun b hb => by have := HDEP.out b hb; omega) (HT.out.later BW3).tb
      obtain ⟨N3, hN3⟩ : ∃ N3, nOf (evA bs (fstE x)) = N3 := ⟨_, rfl⟩
      have HN3 : Hid (nOf (evA bs (fstE x)) = N3) := hN3
      rw [hN3] at cE
      clear hN3 BW3 hz13
      go_wp2_with fail
      refine cE.mono ?_
      rintro e V3 ⟨hv3, u3, rfl, hfr3⟩
      clear cE p0 p1 p2 p3
      have hinu := hfr3.in
      obtain ⟨an3, ln3, cn3, al3, ll3, cl3, hu⟩ := VRs.in_shape hinu
      obtain ⟨c3, hc3⟩ : ∃ c, vOf (evA bs (fstE x)) = c := ⟨_, rfl⟩
      rw [hc3] at hinu hu
      have HC3 : Hid (vOf (evA bs (fstE x)) = c3) := hc3
      subst hu
      have HIc : Hid (Base.In false All V3 (m + 1) (vl c3.k c3.b c3.i c3.s (.slice an3 ln3 cn3) (.slice al3 ll3 cl3)) c3) := hinu.weak (S' := All) (fun _ _ => trivial) false id _ (Nat.le_refl _)
      clear hinu hfr3 hc3
      obtain ⟨k3, hk3⟩ : ∃ k, c3.k = k := ⟨_, rfl⟩
      obtain ⟨b3, hb3'⟩ : ∃ k, c3.b = k := ⟨_, rfl⟩
      obtain ⟨i3, hi3'⟩ : ∃ k, c3.i = k := ⟨_, rfl⟩
      obtain ⟨s3, hs3'⟩ : ∃ k, c3.s = k := ⟨_, rfl⟩
      rw [hk3, hb3', hi3', hs3'] at HIc
      try rw [hk3, hb3', hi3', hs3']
      obtain ⟨Q3, Y3, hQ3, hY3, ⟨n0, n1, n2, n3, n4, n5⟩, nf, zz, g1, hy3⟩ := mk6 32 (W := V3) (B := V3.heap.size) rfl (.int .i64 k3) (.bool b3) (.int .i64 i3) (.string s3) (.slice an3 ln3 cn3) (.slice al3 ll3 cl3)
      have HP3 : Hid (Y3.heap[V3.heap.size]? = some _) := g1
      have HL3 : Hid (V3.heap.size < Y3.heap.size) := (Array.getElem?_eq_some_iff.1 g1).1
      clear g1 zz
      have HR3 : Hid (Base.In false All Y3 (m + 1) (vl k3 b3 i3 s3 (.slice an3 ln3 cn3) (.slice al3 ll3 cl3)) c3) := HIc.out.below hy3
      have HVY3 : Hid (Below Y2.heap.size Y2 Y3) := hv3.trans (hy3.mono hv3.size)
      have HY3 : Hid (Below X13.heap.size X13 Y3) := hbx3.trans (HVY3.out.mono hbx3.size)
      clear hv3 hy3 HIc hbx3 sz3 hk3 hb3' hi3' hs3'
      go_upto_region 24 with fail
      try rw [hY3]
      clear hY3 hQ3 n0 n1 n2 n3 n4 n5 nf
      have hz13 := HZ13.out
      have hbx4 := HY3.out
      have sz4 := hbx4.size
      obtain ⟨p0, p1, p2, p3⟩ := XBase.four_box ((hbx4.block (Wc.heap.size + 10) (by omega)).trans HK10.out)
      have BW4 : Below w.heap.size w Y3 := HX13.out.trans (hbx4.mono HX13.out.size)
      have cE := eval_all (w := Y3) (EOpen.In.low (HI15.out.below hbx4)) (HBL.out Y3 BW4) (fun b hb => by have := HDEP.out b hb; omega) (HT.out.later BW4).tb
      obtain ⟨N4, hN4⟩ : ∃ N4, nOf (evA bs (sndE x)) = N4 := ⟨_, rfl⟩
      have HN4 : Hid (nOf (evA bs (sndE x)) = N4) := hN4
      rw [hN4] at cE
      clear hN4 BW4 hz13
      go_wp2_with fail
      refine cE.mono ?_
      rintro e V4 ⟨hv4, u4, rfl, hfr4⟩
      clear cE p0 p1 p2 p3
      have hinu := hfr4.in
      obtain ⟨an4, ln4, cn4, al4, ll4, cl4, hu⟩ := VRs.in_shape hinu
      obtain ⟨c4, hc4⟩ : ∃ c, vOf (evA bs (sndE x)) = c := ⟨_, rfl⟩
      rw [hc4] at hinu hu
      have HC4 : Hid (vOf (evA bs (sndE x)) = c4) := hc4
      subst hu
      have HIc : Hid (Base.In false All V4 (m + 1) (vl c4.k c4.b c4.i c4.s (.slice an4 ln4 cn4) (.slice al4 ll4 cl4)) c4) := hinu.weak (S' := All) (fun _ _ => trivial) false id _ (Nat.le_refl _)
      clear hinu hfr4 hc4
      obtain ⟨k4, hk4⟩ : ∃ k, c4.k = k := ⟨_, rfl⟩
      obtain ⟨b4, hb4'⟩ : ∃ k, c4.b = k := ⟨_, rfl⟩
      obtain ⟨i4, hi4'⟩ : ∃ k, c4.i = k := ⟨_, rfl⟩
      obtain ⟨s4, hs4'⟩ : ∃ k, c4.s = k := ⟨_, rfl⟩
      rw [hk4, hb4', hi4', hs4'] at HIc
      try rw [hk4, hb4', hi4', hs4']
      obtain ⟨Q4, Y4, hQ4, hY4, ⟨n0, n1, n2, n3, n4, n5⟩, nf, zz, g1, hy4⟩ := mk6 32 (W := V4) (B := V4.heap.size) rfl (.int .i64 k4) (.bool b4) (.int .i64 i4) (.string s4) (.slice an4 ln4 cn4) (.slice al4 ll4 cl4)
      have HP4 : Hid (Y4.heap[V4.heap.size]? = some _) := g1
      have HL4 : Hid (V4.heap.size < Y4.heap.size) := (Array.getElem?_eq_some_iff.1 g1).1
      clear g1 zz
      have HR4 : Hid (Base.In false All Y4 (m + 1) (vl k4 b4 i4 s4 (.slice an4 ln4 cn4) (.slice al4 ll4 cl4)) c4) := HIc.out.below hy4
      have HVY4 : Hid (Below Y3.heap.size Y3 Y4) := hv4.trans (hy4.mono hv4.size)
      have HY4 : Hid (Below X13.heap.size X13 Y4) := hbx4.trans (HVY4.out.mono hbx4.size)
      clear hv4 hy4 HIc hbx4 sz4 hk4 hb4' hi4' hs4'
      go_upto_region 25 with fail
      try rw [hY4]
      clear hY4 hQ4 n0 n1 n2 n3 n4 n5 nf
      have hz13 := HZ13.out
      have hbx5 := HY4.out
      have sz5 := hbx5.size
      obtain ⟨p0, p1, p2, p3⟩ := XBase.four_box ((hbx5.block (Wc.heap.size + 12) (by omega)).trans HK12.out)
      have BW5 : Below w.heap.size w Y4 := HX13.out.trans (hbx5.mono HX13.out.size)
      have cE := eval_all (w := Y4) (EOpen.In.low (HI16.out.below hbx5)) (HBL.out Y4 BW5) (fun b hb => by have := HDEP.out b hb; omega) (HT.out.later BW5).tb
      obtain ⟨N5, hN5⟩ : ∃ N5, nOf (evA bs (samE x)) = N5 := ⟨_, rfl⟩
      have HN5 : Hid (nOf (evA bs (samE x)) = N5) := hN5
      rw [hN5] at cE
      clear hN5 BW5 hz13
      go_wp2_with fail
      refine cE.mono ?_
      rintro e V5 ⟨hv5, u5, rfl, hfr5⟩
      clear cE p0 p1 p2 p3
      have hinu := hfr5.in
      obtain ⟨an5, ln5, cn5, al5, ll5, cl5, hu⟩ := VRs.in_shape hinu
      obtain ⟨c5, hc5⟩ : ∃ c, vOf (evA bs (samE x)) = c := ⟨_, rfl⟩
      rw [hc5] at hinu hu
      have HC5 : Hid (vOf (evA bs (samE x)) = c5) := hc5
      subst hu
      have HIc : Hid (Base.In false All V5 (m + 1) (vl c5.k c5.b c5.i c5.s (.slice an5 ln5 cn5) (.slice al5 ll5 cl5)) c5) := hinu.weak (S' := All) (fun _ _ => trivial) false id _ (Nat.le_refl _)
      clear hinu hfr5 hc5
      obtain ⟨k5, hk5⟩ : ∃ k, c5.k = k := ⟨_, rfl⟩
      obtain ⟨b5, hb5'⟩ : ∃ k, c5.b = k := ⟨_, rfl⟩
      obtain ⟨i5, hi5'⟩ : ∃ k, c5.i = k := ⟨_, rfl⟩
      obtain ⟨s5, hs5'⟩ : ∃ k, c5.s = k := ⟨_, rfl⟩
      rw [hk5, hb5', hi5', hs5'] at HIc
      try rw [hk5, hb5', hi5', hs5']
      obtain ⟨Q5, Y5, hQ5, hY5, ⟨n0, n1, n2, n3, n4, n5⟩, nf, zz, g1, hy5⟩ := mk6 32 (W := V5) (B := V5.heap.size) rfl (.int .i64 k5) (.bool b5) (.int .i64 i5) (.string s5) (.slice an5 ln5 cn5) (.slice al5 ll5 cl5)
      have HP5 : Hid (Y5.heap[V5.heap.size]? = some _) := g1
      have HL5 : Hid (V5.heap.size < Y5.heap.size) := (Array.getElem?_eq_some_iff.1 g1).1
      clear g1 zz
      have HR5 : Hid (Base.In false All Y5 (m + 1) (vl k5 b5 i5 s5 (.slice an5 ln5 cn5) (.slice al5 ll5 cl5)) c5) := HIc.out.below hy5
      have HVY5 : Hid (Below Y4.heap.size Y4 Y5) := hv5.trans (hy5.mono hv5.size)
      have HY5 : Hid (Below X13.heap.size X13 Y5) := hbx5.trans (HVY5.out.mono hbx5.size)
      clear hv5 hy5 HIc hbx5 sz5 hk5 hb5' hi5' hs5'
      go_upto_region 26 with fail
      try rw [hY5]
      clear hY5 hQ5 n0 n1 n2 n3 n4 n5 nf
      have hz13 := HZ13.out
      have hbx6 := HY5.out
      have sz6 := hbx6.size
      obtain ⟨p0, p1, p2, p3⟩ := XBase.four_box ((hbx6.block (Wc.heap.size) (by omega)).trans HK0.out)
      have BW6 : Below w.heap.size w Y5 := HX13.out.trans (hbx6.mono HX13.out.size)
      have cE := eval_all (w := Y5) (EOpen.In.low (HIy.out.below hbx6)) (HBL.out Y5 BW6) (fun b hb => by have := HDEP.out b hb; omega) (HT.out.later BW6).tb
      obtain ⟨N6, hN6⟩ : ∃ N6, nOf (evA bs (x)) = N6 := ⟨_, rfl⟩
      have HN6 : Hid (nOf (evA bs (x)) = N6) := hN6
      rw [hN6] at cE
      clear hN6 BW6 hz13
      go_wp2_with fail
      refine cE.mono ?_
      rintro e V6 ⟨hv6, u6, rfl, hfr6⟩
      clear cE p0 p1 p2 p3
      have hinu := hfr6.in
      obtain ⟨an6, ln6, cn6, al6, ll6, cl6, hu⟩ := VRs.in_shape hinu
      obtain ⟨c6, hc6⟩ : ∃ c, vOf (evA bs (x)) = c := ⟨_, rfl⟩
      rw [hc6] at hinu hu
      have HC6 : Hid (vOf (evA bs (x)) = c6) := hc6
      subst hu
      have HIc : Hid (Base.In false All V6 (m + 1) (vl c6.k c6.b c6.i c6.s (.slice an6 ln6 cn6) (.slice al6 ll6 cl6)) c6) := hinu.weak (S' := All) (fun _ _ => trivial) false id _ (Nat.le_refl _)
      clear hinu hfr6 hc6
      obtain ⟨k6, hk6⟩ : ∃ k, c6.k = k := ⟨_, rfl⟩
      obtain ⟨b6, hb6'⟩ : ∃ k, c6.b = k := ⟨_, rfl⟩
      obtain ⟨i6, hi6'⟩ : ∃ k, c6.i = k := ⟨_, rfl⟩
      obtain ⟨s6, hs6'⟩ : ∃ k, c6.s = k := ⟨_, rfl⟩
      rw [hk6, hb6', hi6', hs6'] at HIc
      try rw [hk6, hb6', hi6', hs6']
      obtain ⟨Q6, Y6, hQ6, hY6, ⟨n0, n1, n2, n3, n4, n5⟩, nf, zz, g1, hy6⟩ := mk6 32 (W := V6) (B := V6.heap.size) rfl (.int .i64 k6) (.bool b6) (.int .i64 i6) (.string s6) (.slice an6 ln6 cn6) (.slice al6 ll6 cl6)
      have HP6 : Hid (Y6.heap[V6.heap.size]? = some _) := g1
      have HL6 : Hid (V6.heap.size < Y6.heap.size) := (Array.getElem?_eq_some_iff.1 g1).1
      clear g1 zz
      have HR6 : Hid (Base.In false All Y6 (m + 1) (vl k6 b6 i6 s6 (.slice an6 ln6 cn6) (.slice al6 ll6 cl6)) c6) := HIc.out.below hy6
      have HVY6 : Hid (Below Y5.heap.size Y5 Y6) := hv6.trans (hy6.mono hv6.size)
      have HY6 : Hid (Below X13.heap.size X13 Y6) := hbx6.trans (HVY6.out.mono hbx6.size)
      clear hv6 hy6 HIc hbx6 sz6 hk6 hb6' hi6' hs6'
      go_upto_region 27 with fail
      try rw [hY6]
      clear hY6 hQ6 n0 n1 n2 n3 n4 n5 nf
      have BY6 : Below w.heap.size w Y6 := HX13.out.trans (HY6.out.mono HX13.out.size)
      have HBY6 : Hid (Below w.heap.size w Y6) := BY6
      clear BY6
      have HPP1 : Hid (Y6.heap[V1.heap.size]? = some (.cells #[.int .i64 k1, .bool b1, .int .i64 i1, .string s1, .slice an1 ln1 cn1, .slice al1 ll1 cl1] 32 (0, 0))) := (HVY6.out.block V1.heap.size (by have := HL1.out; have h2 := HVY2.out.size; have h3 := HVY3.out.size; have h4 := HVY4.out.size; have h5 := HVY5.out.size; omega)).trans ((HVY5.out.block V1.heap.size (by have := HL1.out; have h2 := HVY2.out.size; have h3 := HVY3.out.size; have h4 := HVY4.out.size; omega)).trans ((HVY4.out.block V1.heap.size (by have := HL1.out; have h2 := HVY2.out.size; have h3 := HVY3.out.size; omega)).trans ((HVY3.out.block V1.heap.size (by have := HL1.out; have h2 := HVY2.out.size; omega)).trans ((HVY2.out.block V1.heap.size (by have := HL1.out;  omega)).trans (HP1.out)))))
      have HRR1 : Hid (Base.In false All Y6 (m + 1) (vl k1 b1 i1 s1 (.slice an1 ln1 cn1) (.slice al1 ll1 cl1)) c1) := (((((HR1.out).below HVY2.out).below HVY3.out).below HVY4.out).below HVY5.out).below HVY6.out
      have HPP2 : Hid (Y6.heap[V2.heap.size]? = some (.cells #[.int .i64 k2, .bool b2, .int .i64 i2, .string s2, .slice an2 ln2 cn2, .slice al2 ll2 cl2] 32 (0, 0))) := (HVY6.out.block V2.heap.size (by have := HL2.out; have h3 := HVY3.out.size; have h4 := HVY4.out.size; have h5 := HVY5.out.size; omega)).trans ((HVY5.out.block V2.heap.size (by have := HL2.out; have h3 := HVY3.out.size; have h4 := HVY4.out.size; omega)).trans ((HVY4.out.block V2.heap.size (by have := HL2.out; have h3 := HVY3.out.size; omega)).trans ((HVY3.out.block V2.heap.size (by have := HL2.out;  omega)).trans (HP2.out))))
      have HRR2 : Hid (Base.In false All Y6 (m + 1) (vl k2 b2 i2 s2 (.slice an2 ln2 cn2) (.slice al2 ll2 cl2)) c2) := ((((HR2.out).below HVY3.out).below HVY4.out).below HVY5.out).below HVY6.out
      have HPP3 : Hid (Y6.heap[V3.heap.size]? = some (.cells #[.int .i64 k3, .bool b3, .int .i64 i3, .string s3, .slice an3 ln3 cn3, .slice al3 ll3 cl3] 32 (0, 0))) := (HVY6.out.block V3.heap.size (by have := HL3.out; have h4 := HVY4.out.size; have h5 := HVY5.out.size; omega)).trans ((HVY5.out.block V3.heap.size (by have := HL3.out; have h4 := HVY4.out.size; omega)).trans ((HVY4.out.block V3.heap.size (by have := HL3.out;  omega)).trans (HP3.out)))
      have HRR3 : Hid (Base.In false All Y6 (m + 1) (vl k3 b3 i3 s3 (.slice an3 ln3 cn3) (.slice al3 ll3 cl3)) c3) := (((HR3.out).below HVY4.out).below HVY5.out).below HVY6.out
      have HPP4 : Hid (Y6.heap[V4.heap.size]? = some (.cells #[.int .i64 k4, .bool b4, .int .i64 i4, .string s4, .slice an4 ln4 cn4, .slice al4 ll4 cl4] 32 (0, 0))) := (HVY6.out.block V4.heap.size (by have := HL4.out; have h5 := HVY5.out.size; omega)).trans ((HVY5.out.block V4.heap.size (by have := HL4.out;  omega)).trans (HP4.out))
      have HRR4 : Hid (Base.In false All Y6 (m + 1) (vl k4 b4 i4 s4 (.slice an4 ln4 cn4) (.slice al4 ll4 cl4)) c4) := ((HR4.out).below HVY5.out).below HVY6.out
      have HPP5 : Hid (Y6.heap[V5.heap.size]? = some (.cells #[.int .i64 k5, .bool b5, .int .i64 i5, .string s5, .slice an5 ln5 cn5, .slice al5 ll5 cl5] 32 (0, 0))) := (HVY6.out.block V5.heap.size (by have := HL5.out;  omega)).trans (HP5.out)
      have HRR5 : Hid (Base.In false All Y6 (m + 1) (vl k5 b5 i5 s5 (.slice an5 ln5 cn5) (.slice al5 ll5 cl5)) c5) := (HR5.out).below HVY6.out
      have HPP6 : Hid (Y6.heap[V6.heap.size]? = some (.cells #[.int .i64 k6, .bool b6, .int .i64 i6, .string s6, .slice an6 ln6 cn6, .slice al6 ll6 cl6] 32 (0, 0))) := HP6.out
      have HRR6 : Hid (Base.In false All Y6 (m + 1) (vl k6 b6 i6 s6 (.slice an6 ln6 cn6) (.slice al6 ll6 cl6)) c6) := HR6.out
      have HKt : Hid (Y6.heap[Wc.heap.size + 13]? = some (.cells #[.int .i64 2, .bool true, .int .i64 0, .string ⟨#[]⟩, .slice none 0 0, .slice none 0 0] 32 (0, 0))) := (HY6.out.block (Wc.heap.size + 13) (by have := HZ13.out; omega)).trans HK13.out
      have HLt : Hid (Wc.heap.size + 13 < Y6.heap.size) := (Array.getElem?_eq_some_iff.1 HKt.out).1
      have HLL1 : Hid (V1.heap.size < Y6.heap.size) := (Array.getElem?_eq_some_iff.1 HPP1.out).1
      have HLL2 : Hid (V2.heap.size < Y6.heap.size) := (Array.getElem?_eq_some_iff.1 HPP2.out).1
      have HLL3 : Hid (V3.heap.size < Y6.heap.size) := (Array.getElem?_eq_some_iff.1 HPP3.out).1
      have HLL4 : Hid (V4.heap.size < Y6.heap.size) := (Array.getElem?_eq_some_iff.1 HPP4.out).1
      have HLL5 : Hid (V5.heap.size < Y6.heap.size) := (Array.getElem?_eq_some_iff.1 HPP5.out).1
      have HLL6 : Hid (V6.heap.size < Y6.heap.size) := (Array.getElem?_eq_some_iff.1 HPP6.out).1
      clear HP1 HR1 HVY1 HL1 HP2 HR2 HVY2 HL2 HP3 HR3 HVY3 HL3 HP4 HR4 HVY4 HL4 HP5 HR5 HVY5 HL5 HP6 HR6 HVY6 HL6 HI12 HI13 HI14 HI15 HI16 HIy HIU HK0 HK1 HK2 HK3 HK4 HK5 HK6 HK7 HK8 HK9 HK10 HK11 HK12 HK13
      rcases VLz.ways (bs := bs) HM.out HBAD.out with ⟨wA, wB, wC, wD, wE⟩ | ⟨wA, wB, wC⟩ | ⟨wA, wB⟩
      ·obtain rfl : N1 = 0 := by rw [← HN1.out, wA]; rfl
       obtain rfl : N2 = 0 := by rw [← HN2.out, wB]; rfl
       obtain rfl : N3 = 0 := by rw [← HN3.out, wC]; rfl
       obtain rfl : N4 = 0 := by rw [← HN4.out, wD]; rfl
       obtain rfl : N6 = N5 := by rw [← HN6.out, ← HN5.out, wE]
       have e1 : c1 = booC false := by rw [← HC1.out, wA]; rfl
       have e2 : c2 = booC true := by rw [← HC2.out, wB]; rfl
       have e3 : c3 = booC true := by rw [← HC3.out, wC]; rfl
       have e4 : c4 = booC true := by rw [← HC4.out, wD]; rfl
       have e5 : c6 = c5 := by rw [← HC6.out, ← HC5.out, wE]
       have S1 := fun W hW => same_two (Y := W) (by rw [← e1]; exact HRR1.out) (VRs.in_boo All Y6 m false) hW
       have S2 := fun W hW => same_two (Y := W) (by rw [← e2]; exact HRR2.out) (VRs.in_boo All Y6 m true) hW
       have S3 := fun W hW => same_two (Y := W) (by rw [← e3]; exact HRR3.out) (VRs.in_boo All Y6 m true) hW
       have S4 := fun W hW => same_two (Y := W) (by rw [← e4]; exact HRR4.out) (VRs.in_boo All Y6 m true) hW
       have S5 := fun W hW => same_two (Y := W) HRR5.out (by rw [← e5]; exact HRR6.out) hW
       clear e1 e2 e3 e4 e5 wA wB wC wD wE
       obtain ⟨p0, p1, p2, p3, p4, p5⟩ := six_box HPP1.out
       have d1 := S1 Y6 (Below.refl _ _)
       go_wp2_with (first | (go_at_call 15; first | (have tt := G4; clear tt; refine d5.mono ?_; rintro e Z5 ⟨rfl, g5⟩; have G5 : Below Y6.heap.size Y6 Z5 := G4.trans (g5.mono G4.size)) | (have tt := G3; clear tt; refine d4.mono ?_; rintro e Z4 ⟨rfl, g4⟩; have G4 : Below Y6.heap.size Y6 Z4 := G3.trans (g4.mono G3.size); have d5 := S5 Z4 G4; obtain ⟨p0, p1, p2, p3, p4, p5⟩ := six_box ((G4.block V5.heap.size HLL5.out).trans HPP5.out); obtain ⟨r0, r1, r2, r3, r4, r5⟩ := six_box ((G4.block V6.heap.size HLL6.out).trans HPP6.out)) | (have tt := G2; clear tt; refine d3.mono ?_; rintro e Z3 ⟨rfl, g3⟩; have G3 : Below Y6.heap.size Y6 Z3 := G2.trans (g3.mono G2.size); have d4 := S4 Z3 G3; obtain ⟨p0, p1, p2, p3, p4, p5⟩ := six_box ((G3.block V4.heap.size HLL4.out).trans HPP4.out); obtain ⟨t0, t1, t2, t3, t4, t5⟩ := six_box ((G3.block (Wc.heap.size + 13) HLt.out).trans HKt.out)) | (have tt := G1; clear tt; refine d2.mono ?_; rintro e Z2 ⟨rfl, g2⟩; have G2 : Below Y6.heap.size Y6 Z2 := G1.trans (g2.mono G1.size); have d3 := S3 Z2 G2; obtain ⟨p0, p1, p2, p3, p4, p5⟩ := six_box ((G2.block V3.heap.size HLL3.out).trans HPP3.out); obtain ⟨t0, t1, t2, t3, t4, t5⟩ := six_box ((G2.block (Wc.heap.size + 13) HLt.out).trans HKt.out)) | (refine d1.mono ?_; rintro e Z1 ⟨rfl, G1⟩; have d2 := S2 Z1 G1; obtain ⟨p0, p1, p2, p3, p4, p5⟩ := six_box ((G1.block V2.heap.size HLL2.out).trans HPP2.out); obtain ⟨t0, t1, t2, t3, t4, t5⟩ := six_box ((G1.block (Wc.heap.size + 13) HLt.out).trans HKt.out))) | (go_at_call 14; refine (num_c _ _).mono ?_; rintro e w9 ⟨rfl, h9⟩; obtain rfl := h9.symm))
       go_ret
       exact ⟨rfl, HBY6.out.trans (G5.mono HBY6.out.size)⟩
      ·obtain rfl : N1 = 0 := by rw [← HN1.out, wA]; rfl
       obtain rfl : N2 = 0 := by rw [← HN2.out, wB]; rfl
       obtain rfl : N3 = 1108 := by rw [← HN3.out, wC]; rfl
       go_wp2_with (first | (go_at_call 14; refine (num_c _ _).mono ?_; rintro e w9 ⟨rfl, h9⟩; obtain rfl := h9.symm))
       go_ret
       exact ⟨rfl, HBY6.out⟩
      ·obtain rfl : N1 = 1108 := by rw [← HN1.out, wA]; rfl
       obtain rfl : N2 = 1108 := by rw [← HN2.out, wB]; rfl
       go_wp2_with (first | (go_at_call 14; refine (num_c _ _).mono ?_; rintro e w9 ⟨rfl, h9⟩; obtain rfl := h9.symm))
       go_ret
       exact ⟨rfl, HBY6.out⟩
end Go.Proofs.YtdeigdbnnbikgaaGreatDoor.WLz
