import Derived.BigQuiet
import Derived.Deep.CutBlock
import Derived.Deep.RegionHeld3
import Derived.LoopN
import Derived.LoopTactic
import Derived.Test.YtdeigdbnnbikgaaGreatDoorPA07
import Derived.Test.YtdeigdbnnbikgaaGreatDoorPA41
import Derived.Test.YtdeigdbnnbikgaaGreatDoorPA42
import Derived.Test.YtdeigdbnnbikgaaGreatDoorPA44
import Derived.Test.YtdeigdbnnbikgaaGreatDoorPA45
set_option linter.unusedVariables false
set_option maxRecDepth 20000
namespace Go.Proofs.YtdeigdbnnbikgaaGreatDoor.WAk
open Go.RowKit Base EPure VPure VSm VVr VMp VNo VVa VEv VEa VOf VAw VNa VGd VCb VCc VAk VApd VEr Fresh
theorem mk6 {W : World} {B : Nat} (T : TypeId) (hB : W.heap.size = B) (v0 v1 v2 v3 v4 v5 : Value) : ∃ Z X, W.alloc (.cells #[.int .i64 0, .bool false, .int .i64 0, .string ⟨#[]⟩, .slice none 0 0, .slice none 0 0] T) = Z ∧ ((((((Z.setCell ⟨B, 0, none⟩ v0).setCell ⟨B, 1, none⟩ v1).setCell ⟨B, 2, none⟩ v2).setCell ⟨B, 3, none⟩ v3).setCell ⟨B, 4, none⟩ v4).setCell ⟨B, 5, none⟩ v5) = X ∧ (Z.cell? ⟨B, 0, none⟩ = some (.int .i64 0) ∧ Z.cell? ⟨B, 1, none⟩ = some (.bool false) ∧ Z.cell? ⟨B, 2, none⟩ = some (.int .i64 0) ∧ Z.cell? ⟨B, 3, none⟩ = some (.string ⟨#[]⟩) ∧ Z.cell? ⟨B, 4, none⟩ = some (.slice none 0 0) ∧ Z.cell? ⟨B, 5, none⟩ = some (.slice none 0 0)) ∧ (∀ j, Z.frozen? ⟨B, j, none⟩ = false) ∧ X.heap.size = B + 1 ∧ X.heap[B]? = some (.cells #[v0, v1, v2, v3, v4, v5] T (0, 0)) ∧ Below W.heap.size W X := by
 subst hB
 have gz := heap_alloc_new W (.cells #[.int .i64 0, .bool false, .int .i64 0, .string ⟨#[]⟩, .slice none 0 0, .slice none 0 0] T)
 obtain ⟨X, hX⟩ : ∃ X, ((((((W.alloc (.cells #[.int .i64 0, .bool false, .int .i64 0, .string ⟨#[]⟩, .slice none 0 0, .slice none 0 0] T)).setCell ⟨W.heap.size, 0, none⟩ v0).setCell ⟨W.heap.size, 1, none⟩ v1).setCell ⟨W.heap.size, 2, none⟩ v2).setCell ⟨W.heap.size, 3, none⟩ v3).setCell ⟨W.heap.size, 4, none⟩ v4).setCell ⟨W.heap.size, 5, none⟩ v5 = X := ⟨_, rfl⟩
 obtain ⟨g1, g2, g3, g4⟩ := set6 _ _ _ _ _ _ gz hX
 exact ⟨_, X, rfl, hX, six_box gz, frozen_box gz, by rw [g3]; simp, g1, g4 _ _ (Nat.le_refl _) ((Below.refl _ _).alloc (Nat.le_refl _) _)⟩
theorem names_at {w wd : World} {B : Nat} {v : Value} {L : List ByteArray} (h : OwnT w B v L) (hb : Below w.heap.size w wd) : ∃ a cap, v = .slice a L.length cap ∧ L.length ≤ cap ∧ ∀ j (h : j < L.length), ∃ g, a = some ⟨g, 0, none⟩ ∧ g < wd.heap.size ∧ wd.cell? ⟨g, j, none⟩ = some (.string L[j]) := by
 have h' : OwnT wd B v L := own_below h hb
 rcases h'.2 with ⟨rfl, h0⟩ | ⟨g, cap, cur, rfl, -, -, hn2, -, -⟩
 ·have : L = [] := List.eq_nil_of_length_eq_zero h0
  subst this
  exact ⟨none, 0, rfl, by simp, fun j h => by simp at h⟩
 ·refine ⟨_, cap, rfl, hn2, fun j hj => ⟨g, rfl, (ownT_lt h').2, ?_⟩⟩
  have := ownT_cell h' j hj
  rwa [Nat.zero_add] at this
theorem below_drewN {w wr : World} {k n : Nat} (h : Below k w wr) : Below k w (wr.drewN n) := ⟨h.os, h.tape, h.output, h.size, h.block⟩
theorem text_ne {s : ByteArray} (h : (s.toList == [97]) = false) (h' : (s.toList == [119]) = false) : ¬ (s = ⟨#[97]⟩ ∨ s = ⟨#[119]⟩) := by
 rintro (rfl | rfl)
 ·exact absurd h (by decide +kernel)
 ·exact absurd h' (by decide +kernel)
theorem oth_dep {c : C} {bs : List Bn} (h : ∀ b ∈ bs, Shallow.dep b.2 ≤ 4096) (hc : Shallow.dep c ≤ 4096) : ∀ b ∈ oth c bs, Shallow.dep b.2 ≤ 4097 := by
 intro b hb
 unfold oth at hb
 rcases List.mem_append.1 hb with hb | hb
 ·simp only [List.mem_cons, List.not_mem_nil, or_false] at hb
  rcases hb with rfl | rfl
  ·exact Nat.le_succ_of_le hc
  ·exact Nat.le_succ_of_le hc
 ·exact Nat.le_succ_of_le (h b hb)
theorem text_eq {a b : ByteArray} (h : (a.toList == b.toList) = true) : a = b := Eq.eqB_eq.1 h
set_option maxHeartbeats 12800000 in
theorem walk {m n : Nat} {v ve vm : Value} {x : Ex} {bs : List Bn} {c : C} {w : World} (h : XBase.In false All w n v x) (hv : Bl w.heap.size (m + 1) w ve bs) (hbig : bs.length * 104 ≤ 140737488351232) (hc : Base.In false (fun b => b < w.heap.size) w (m + 1) vm c) (hT : TX w) :
  Calls Tryz.prog 5 #[v, ve, vm] w fun e w' => e = .returned (.bool true) ∧ Below w.heap.size w w' := by
 obtain ⟨n', lv, rfl, hu, ho, hi, hs, hL⟩ := h.shape
 obtain ⟨a, cap, rfl, hLr⟩ := hL
 subst hu
 clear hLr
 obtain ⟨man, mln, mcn, mal, mll, mcl, hvm⟩ := VRs.in_shape hc
 subst hvm
 have hvv := hv
 obtain ⟨va, vc, rfl, hvl, hvm, -, -, hnm, hBB⟩ := hvv
 have HIN : Hid (XBase.In false All w (n' + 1) (xv x.o x.i x.s (.slice a x.l.length cap)) x) := h
 have HXR : Hid (VGe.xr x) := in_xr _ _ _ h
 have HBL : Hid (∀ W, Below w.heap.size w W → Bl W.heap.size (m + 1) W (.slice va bs.length vc) bs) := fun W hW => Bl.mono (hv.low hW) hW.size
 have HBW : Hid (Bl w.heap.size (m + 1) w (.slice va bs.length vc) bs) := hv
 have HNM : Hid (∀ b ∈ bs, b.1.size ≤ 140737488351232) := hnm
 have HBIG : Hid (bs.length * 104 ≤ 140737488351232) := hbig
 have HT : Hid (TX w) := hT
 have HRG : Hid (∀ b ∈ bs, ∀ p ∈ Walk.pl 1 b.2, rg p.2.i) := by
  intro b hb p hp
  obtain ⟨j, hj, rfl⟩ := List.mem_iff_getElem.1 hb
  obtain ⟨g, oo, an, ln, cn, al, ll, cl, -, -, -, -, -, -, -, -, an', ln', cn', al', ll', cl', -, hI⟩ := Bl.at hv (Below.refl _ _) (Nat.le_refl _) hj
  exact in_rg _ _ _ 1 hI p hp
 have HC : Hid (Base.In false (fun b => b < w.heap.size) w (m + 1) (vl c.k c.b c.i c.s (.slice man mln mcn) (.slice mal mll mcl)) c) := hc
 obtain ⟨W0, hW0⟩ : ∃ W0, (w.alloc (.cells #[.int .i64 x.o, .int .i64 x.i, .string x.s, .slice a x.l.length cap] 24)).alloc (.cells #[.int .i64 c.k, .bool c.b, .int .i64 c.i, .string c.s, .slice man mln mcn, .slice mal mll mcl] 32) = W0 := ⟨_, rfl⟩
 have HBW0 : Hid (Below w.heap.size w W0) := by show Below _ _ _; rw [← hW0]; exact ((Below.refl _ w).alloc (Nat.le_refl _) _).alloc (by simp) _
 have HSW0 : Hid (w.heap.size + 2 ≤ W0.heap.size) := by show _ ≤ _; rw [← hW0]; simp
 have HQW0 : Hid (W0.heap[w.heap.size]? = some (.cells #[.int .i64 x.o, .int .i64 x.i, .string x.s, .slice a x.l.length cap] 24 (0, 0))) := by show _ = _; rw [← hW0, Below.heap_alloc _ _ _ (by simp), heap_alloc_new]
 have HPW0 : Hid (W0.heap[w.heap.size + 1]? = some (.cells #[.int .i64 c.k, .bool c.b, .int .i64 c.i, .string c.s, .slice man mln mcn, .slice mal mll mcl] 32 (0, 0))) := by
  have := heap_alloc_new (w.alloc (.cells #[.int .i64 x.o, .int .i64 x.i, .string x.s, .slice a x.l.length cap] 24)) (.cells #[.int .i64 c.k, .bool c.b, .int .i64 c.i, .string c.s, .slice man mln mcn, .slice mal mll mcl] 32)
  rw [World.size_alloc, hW0] at this
  exact this
 have cA := awake_c (hT.later HBW0.out)
 clear h hv hT hc hbig hnm hBB hvl hvm ho hi hs
 go_enter Tryz.func5, Tryz.ntmps5
 go_wp2_with fail
 try rw [hW0]
 refine cA.mono ?_
 rintro e W1 ⟨rfl, hb⟩
 clear cA hW0
 have HQW1 : Hid (W1.heap[w.heap.size]? = some (.cells #[.int .i64 x.o, .int .i64 x.i, .string x.s, .slice a x.l.length cap] 24 (0, 0))) := (hb.block w.heap.size (by have := HSW0.out; omega)).trans HQW0.out
 have HPW1 : Hid (W1.heap[w.heap.size + 1]? = some (.cells #[.int .i64 c.k, .bool c.b, .int .i64 c.i, .string c.s, .slice man mln mcn, .slice mal mll mcl] 32 (0, 0))) := (hb.block (w.heap.size + 1) (by have := HSW0.out; omega)).trans HPW0.out
 have HSW1 : Hid (w.heap.size + 2 ≤ W1.heap.size) := Nat.le_trans HSW0.out hb.size
 have HBW1 : Hid (Below w.heap.size w W1) := HBW0.out.trans (hb.mono HBW0.out.size)
 clear hb HQW0 HPW0
 obtain ⟨y0, y1, y2, y3⟩ := XBase.four_box HQW1.out
 have cS := VSh.shallow_c (w := W1) (HIN.out.below HBW1.out) (HBL.out W1 HBW1.out)
 go_wp2_with fail
 refine cS.mono ?_
 rintro e W2 ⟨⟨b, rfl, hdep⟩, hb⟩
 clear cS y0 y1 y2 y3
 have HQW2 : Hid (W2.heap[w.heap.size]? = some (.cells #[.int .i64 x.o, .int .i64 x.i, .string x.s, .slice a x.l.length cap] 24 (0, 0))) := (hb.block w.heap.size (by have := HSW1.out; omega)).trans HQW1.out
 have HPW2 : Hid (W2.heap[w.heap.size + 1]? = some (.cells #[.int .i64 c.k, .bool c.b, .int .i64 c.i, .string c.s, .slice man mln mcn, .slice mal mll mcl] 32 (0, 0))) := (hb.block (w.heap.size + 1) (by have := HSW1.out; omega)).trans HPW1.out
 have HSW2 : Hid (w.heap.size + 2 ≤ W2.heap.size) := Nat.le_trans HSW1.out hb.size
 have HBW2 : Hid (Below w.heap.size w W2) := HBW1.out.trans (hb.mono HBW1.out.size)
 clear hb
 cases b with
 | false =>
  go_wp2_with fail
  go_ret
  exact ⟨rfl, HBW2.out⟩
 | true =>
  have HDEP : Hid (∀ c ∈ bs, Shallow.dep c.2 ≤ 4096) := hdep rfl
  clear hdep
  obtain ⟨z0, z1, z2, z3, z4, z5⟩ := six_box HPW2.out
  have cV := Shallow.shallow_c _ _ _ W2 ((HC.out.weak (S' := All) (fun _ _ => trivial) false id _ (Nat.le_refl _)).below HBW2.out)
  by_cases h4 : Shallow.dep c ≤ 4096
  ·have e4 : decide (Shallow.dep c ≤ 4096) = true := decide_eq_true h4
   rw [e4] at cV
   have HD4 : Hid (Shallow.dep c ≤ 4096) := h4
   clear h4 e4
   go_upto_region 5 with (first | (go_at_call 25; refine cV.mono ?_; rintro e W3 ⟨rfl, hb⟩))
   clear cV z0 z1 z2 z3 z4 z5
   have HQW3 : Hid (W3.heap[w.heap.size]? = some (.cells #[.int .i64 x.o, .int .i64 x.i, .string x.s, .slice a x.l.length cap] 24 (0, 0))) := (hb.block w.heap.size (by have := HSW2.out; omega)).trans HQW2.out
   have HPW3 : Hid (W3.heap[w.heap.size + 1]? = some (.cells #[.int .i64 c.k, .bool c.b, .int .i64 c.i, .string c.s, .slice man mln mcn, .slice mal mll mcl] 32 (0, 0))) := (hb.block (w.heap.size + 1) (by have := HSW2.out; omega)).trans HPW2.out
   have HSW3 : Hid (w.heap.size + 2 ≤ W3.heap.size) := Nat.le_trans HSW2.out hb.size
   have HBW3 : Hid (Below w.heap.size w W3) := HBW2.out.trans (hb.mono HBW2.out.size)
   clear hb
   obtain ⟨y0, y1, y2, y3⟩ := XBase.four_box HQW3.out
   have cX := XCp.copyAll _ _ x W3 (HIN.out.below HBW3.out)
   go_wp2_with fail
   refine cX.mono ?_
   rintro e W4 ⟨u, rfl, hiu, hb⟩
   clear cX y0 y1 y2 y3
   have HWO : Hid (Below W3.heap.size W3 W4) := hb
   obtain ⟨n2, lv2, hn2, hu2, -, -, -, hL2⟩ := hiu.shape
   obtain ⟨xa4, xc4, rfl, -⟩ := hL2
   subst hu2
   have HIU4 : Hid (XBase.In false All W4 (n' + 1) (xv x.o x.i x.s (.slice xa4 x.l.length xc4)) x) := hiu.plain
   have HQW4 : Hid (W4.heap[w.heap.size]? = some (.cells #[.int .i64 x.o, .int .i64 x.i, .string x.s, .slice a x.l.length cap] 24 (0, 0))) := (hb.block w.heap.size (by have := HSW3.out; omega)).trans HQW3.out
   have HPW4 : Hid (W4.heap[w.heap.size + 1]? = some (.cells #[.int .i64 c.k, .bool c.b, .int .i64 c.i, .string c.s, .slice man mln mcn, .slice mal mll mcl] 32 (0, 0))) := (hb.block (w.heap.size + 1) (by have := HSW3.out; omega)).trans HPW3.out
   have HSW4 : Hid (w.heap.size + 2 ≤ W4.heap.size) := Nat.le_trans HSW3.out hb.size
   have HBW4 : Hid (Below w.heap.size w W4) := HBW3.out.trans (hb.mono HBW3.out.size)
   clear hiu hb hn2
   have cB := copies_c (HBL.out W4 HBW4.out) HBIG.out
   go_wp2_with fail
   refine cB.mono ?_
   rintro e W5 ⟨ub, us, rfl, hul, hown, hels, hb⟩
   clear cB
   have HBL5 : Hid (Bl W5.heap.size (m + 1) W5 ub bs) := OwnB.bl hown hul (by have := HBIG.out; omega) HNM.out fun j h h' => InB.keep (hels j h h') (fun _ _ _ => rfl) fun b hS => hS.2.1
   have HIU5 : Hid (XBase.In false All W5 (n' + 1) (xv x.o x.i x.s (.slice xa4 x.l.length xc4)) x) := HIU4.out.below hb
   have HQW5 : Hid (W5.heap[w.heap.size]? = some (.cells #[.int .i64 x.o, .int .i64 x.i, .string x.s, .slice a x.l.length cap] 24 (0, 0))) := (hb.block w.heap.size (by have := HSW4.out; omega)).trans HQW4.out
   have HPW5 : Hid (W5.heap[w.heap.size + 1]? = some (.cells #[.int .i64 c.k, .bool c.b, .int .i64 c.i, .string c.s, .slice man mln mcn, .slice mal mll mcl] 32 (0, 0))) := (hb.block (w.heap.size + 1) (by have := HSW4.out; omega)).trans HPW4.out
   have HSW5 : Hid (w.heap.size + 2 ≤ W5.heap.size) := Nat.le_trans HSW4.out hb.size
   have HBW5 : Hid (Below w.heap.size w W5) := HBW4.out.trans (hb.mono HBW4.out.size)
   clear hb hul hown hels HIU4
   have cE := eval_all (w := W5) (EOpen.In.low (HIU5.out)) (HBL5.out) (fun b hb => by have := HDEP.out b hb; omega) (HT.out.later HBW5.out).tb
   obtain ⟨N1, hN1⟩ : ∃ N, nOf (evA bs x) = N := ⟨_, rfl⟩
   have HN1 : Hid (nOf (evA bs x) = N1) := hN1
   rw [hN1] at cE
   clear hN1
   go_wp2_with fail
   refine cE.mono ?_
   rintro e V1 ⟨hv, u, rfl, hfr⟩
   clear cE
   have hinu := hfr.in
   obtain ⟨an1, ln1, cn1, al1, ll1, cl1, hu⟩ := VRs.in_shape hinu
   obtain ⟨c1, hc1⟩ : ∃ c9, vOf (evA bs x) = c9 := ⟨_, rfl⟩
   rw [hc1] at hinu hu
   have HC1 : Hid (vOf (evA bs x) = c1) := hc1
   subst hu
   have HI : Hid (Base.In false All V1 (m + 1) (vl c1.k c1.b c1.i c1.s (.slice an1 ln1 cn1) (.slice al1 ll1 cl1)) c1) := hinu.weak (S' := All) (fun _ _ => trivial) false id _ (Nat.le_refl _)
   clear hinu hfr hc1
   have HQV1 : Hid (V1.heap[w.heap.size]? = some (.cells #[.int .i64 x.o, .int .i64 x.i, .string x.s, .slice a x.l.length cap] 24 (0, 0))) := (hv.block w.heap.size (by have := HSW5.out; omega)).trans HQW5.out
   have HPV1 : Hid (V1.heap[w.heap.size + 1]? = some (.cells #[.int .i64 c.k, .bool c.b, .int .i64 c.i, .string c.s, .slice man mln mcn, .slice mal mll mcl] 32 (0, 0))) := (hv.block (w.heap.size + 1) (by have := HSW5.out; omega)).trans HPW5.out
   have HSV1 : Hid (w.heap.size + 2 ≤ V1.heap.size) := Nat.le_trans HSW5.out hv.size
   have HBV1 : Hid (Below w.heap.size w V1) := HBW5.out.trans (hv.mono HBW5.out.size)
   obtain ⟨Q, Y1, hQ, hY, ⟨n0, n1, n2, n3, n4, n5⟩, nf, zz, g1, hy⟩ := mk6 32 (W := V1) (B := V1.heap.size) rfl (.int .i64 c1.k) (.bool c1.b) (.int .i64 c1.i) (.string c1.s) (.slice an1 ln1 cn1) (.slice al1 ll1 cl1)
   have HQY1 : Hid (Y1.heap[w.heap.size]? = some (.cells #[.int .i64 x.o, .int .i64 x.i, .string x.s, .slice a x.l.length cap] 24 (0, 0))) := (hy.block w.heap.size (by have := HSV1.out; omega)).trans HQV1.out
   have HPY1 : Hid (Y1.heap[w.heap.size + 1]? = some (.cells #[.int .i64 c.k, .bool c.b, .int .i64 c.i, .string c.s, .slice man mln mcn, .slice mal mll mcl] 32 (0, 0))) := (hy.block (w.heap.size + 1) (by have := HSV1.out; omega)).trans HPV1.out
   have HSY1 : Hid (w.heap.size + 2 ≤ Y1.heap.size) := Nat.le_trans HSV1.out hy.size
   have HBY1 : Hid (Below w.heap.size w Y1) := HBV1.out.trans (hy.mono HBV1.out.size)
   have HV1 : Hid (Y1.heap[V1.heap.size]? = some (.cells #[.int .i64 c1.k, .bool c1.b, .int .i64 c1.i, .string c1.s, .slice an1 ln1 cn1, .slice al1 ll1 cl1] 32 (0, 0))) := g1
   have HL1 : Hid (V1.heap.size < Y1.heap.size) := (Array.getElem?_eq_some_iff.1 g1).1
   have HR1 : Hid (Base.In false All Y1 (m + 1) (vl c1.k c1.b c1.i c1.s (.slice an1 ln1 cn1) (.slice al1 ll1 cl1)) c1) := HI.out.below hy
   clear HI hv hy g1 zz
   go_upto_region 6 with fail
   try rw [hY]
   clear hY hQ n0 n1 n2 n3 n4 n5 nf
   clear HIU5 HBL5
   go_upto_if 39 with (first | (go_at_call 14; refine (num_c _ _).mono ?_; rintro e w9 ⟨rfl, h9⟩; obtain rfl := h9.symm))
   go_cut [9] from 40 to 44 (fun f wc => Below Y1.heap.size Y1 wc)
   case first =>
    by_cases h0 : N1 = 0
    ·have hok := evA_ok (bs := bs) (x := x) (by rw [HN1.out]; exact h0)
     rw [HC1.out] at hok
     have hgd := evA_gd HRG.out HXR.out hok
     have hcd := hgd.1
     have hdp := dep_code hcd
     have cC : Calls Tryz.prog 28 #[vl c1.k c1.b c1.i c1.s (.slice an1 ln1 cn1) (.slice al1 ll1 cl1)] Y1 fun e w' => e = .returned (.int .i64 0) ∧ Below Y1.heap.size Y1 w' := by
      have hh := MeasB.check_c HR1.out (by omega)
      have e0 : (Measure.ms 0 0 (Walk.pl 1 c1)).2.2 = 0 := hcd
      rw [e0] at hh
      exact hh
     clear hok hgd hcd hdp
     subst h0
     obtain ⟨p0, p1, p2, p3, p4, p5⟩ := six_box HV1.out
     go_wp2_with (first | (go_at_call 28; refine cC.mono ?_; rintro e W6 ⟨rfl, hb⟩) | (go_at_call 14; refine (num_c _ _).mono ?_; rintro e w9 ⟨rfl, h9⟩; obtain rfl := h9.symm))
     go_meet
     case rel => exact hb
    ·have e0 : (N1 == 0) = false := by simpa using h0
     clear h0
     go_wp2_with (first | (go_at_call 14; refine (num_c _ _).mono ?_; rintro e w9 ⟨rfl, h9⟩; obtain rfl := h9.symm))
     go_meet
     case rel => exact Below.refl _ _
   case rest =>
    obtain ⟨W6, hW6⟩ : ∃ W, W = wc := ⟨_, rfl⟩
    subst hW6
    have hb : Below Y1.heap.size Y1 W6 := hcut
    clear hcut
    have HQW6 : Hid (W6.heap[w.heap.size]? = some (.cells #[.int .i64 x.o, .int .i64 x.i, .string x.s, .slice a x.l.length cap] 24 (0, 0))) := (hb.block w.heap.size (by have := HSY1.out; omega)).trans HQY1.out
    have HPW6 : Hid (W6.heap[w.heap.size + 1]? = some (.cells #[.int .i64 c.k, .bool c.b, .int .i64 c.i, .string c.s, .slice man mln mcn, .slice mal mll mcl] 32 (0, 0))) := (hb.block (w.heap.size + 1) (by have := HSY1.out; omega)).trans HPY1.out
    have HSW6 : Hid (w.heap.size + 2 ≤ W6.heap.size) := Nat.le_trans HSY1.out hb.size
    have HBW6 : Hid (Below w.heap.size w W6) := HBY1.out.trans (hb.mono HBY1.out.size)
    have HVc : Hid (W6.heap[V1.heap.size]? = some (.cells #[.int .i64 c1.k, .bool c1.b, .int .i64 c1.i, .string c1.s, .slice an1 ln1 cn1, .slice al1 ll1 cl1] 32 (0, 0))) := (hb.block V1.heap.size HL1.out).trans HV1.out
    have HRc : Hid (Base.In false All W6 (m + 1) (vl c1.k c1.b c1.i c1.s (.slice an1 ln1 cn1) (.slice al1 ll1 cl1)) c1) := HR1.out.below hb
    have HEW6 : Hid (Below W6.heap.size W6 W6) := Below.refl _ _
    have HLc : Hid (V1.heap.size < W6.heap.size) := (Array.getElem?_eq_some_iff.1 HVc.out).1
    clear hb HR1 HV1
    obtain ⟨z0, z1, z2, z3, z4, z5⟩ := six_box HPW6.out
    have cC : Calls Tryz.prog 28 #[(vl c.k c.b c.i c.s (.slice man mln mcn) (.slice mal mll mcl))] W6 fun e w' => e = .returned (.int .i64 (code c)) ∧ Below W6.heap.size W6 w' := MeasB.check_c ((HC.out.weak (S' := All) (fun _ _ => trivial) false id _ (Nat.le_refl _)).below HBW6.out) (by have := HD4.out; omega)
    obtain ⟨D, hD⟩ : ∃ D, code c = D := ⟨_, rfl⟩
    rw [hD] at cC
    have HD : Hid (code c = D) := hD
    clear hD
    by_cases h0 : D = 0
    ·subst h0
     go_upto_region 13 with (first | (go_at_call 28; refine cC.mono ?_; rintro e W7 ⟨rfl, hb⟩) | (go_at_call 14; refine (num_c _ _).mono ?_; rintro e w9 ⟨rfl, h9⟩; obtain rfl := h9.symm))
     clear cC z0 z1 z2 z3 z4 z5
     have HQW7 : Hid (W7.heap[w.heap.size]? = some (.cells #[.int .i64 x.o, .int .i64 x.i, .string x.s, .slice a x.l.length cap] 24 (0, 0))) := (hb.block w.heap.size (by have := HSW6.out; omega)).trans HQW6.out
     have HPW7 : Hid (W7.heap[w.heap.size + 1]? = some (.cells #[.int .i64 c.k, .bool c.b, .int .i64 c.i, .string c.s, .slice man mln mcn, .slice mal mll mcl] 32 (0, 0))) := (hb.block (w.heap.size + 1) (by have := HSW6.out; omega)).trans HPW6.out
     have HSW7 : Hid (w.heap.size + 2 ≤ W7.heap.size) := Nat.le_trans HSW6.out hb.size
     have HBW7 : Hid (Below w.heap.size w W7) := HBW6.out.trans (hb.mono HBW6.out.size)
     have HEW7 : Hid (Below W6.heap.size W6 W7) := HEW6.out.trans (hb.mono HEW6.out.size)
     clear hb
     obtain ⟨y0, y1, y2, y3⟩ := XBase.four_box HQW7.out
     have cX := XCp.copyAll _ _ x W7 (HIN.out.below HBW7.out)
     go_wp2_with fail
     refine cX.mono ?_
     rintro e W8 ⟨u, rfl, hiu, hb⟩
     clear cX y0 y1 y2 y3
     have HWO : Hid (Below W7.heap.size W7 W8) := hb
     obtain ⟨n2, lv2, hn2, hu2, -, -, -, hL2⟩ := hiu.shape
     obtain ⟨xa8, xc8, rfl, -⟩ := hL2
     subst hu2
     have HIU8 : Hid (XBase.In false All W8 (n' + 1) (xv x.o x.i x.s (.slice xa8 x.l.length xc8)) x) := hiu.plain
     have HQW8 : Hid (W8.heap[w.heap.size]? = some (.cells #[.int .i64 x.o, .int .i64 x.i, .string x.s, .slice a x.l.length cap] 24 (0, 0))) := (hb.block w.heap.size (by have := HSW7.out; omega)).trans HQW7.out
     have HPW8 : Hid (W8.heap[w.heap.size + 1]? = some (.cells #[.int .i64 c.k, .bool c.b, .int .i64 c.i, .string c.s, .slice man mln mcn, .slice mal mll mcl] 32 (0, 0))) := (hb.block (w.heap.size + 1) (by have := HSW7.out; omega)).trans HPW7.out
     have HSW8 : Hid (w.heap.size + 2 ≤ W8.heap.size) := Nat.le_trans HSW7.out hb.size
     have HBW8 : Hid (Below w.heap.size w W8) := HBW7.out.trans (hb.mono HBW7.out.size)
     have HEW8 : Hid (Below W6.heap.size W6 W8) := HEW7.out.trans (hb.mono HEW7.out.size)
     clear hiu hb hn2
     have cN := names_c (w := W8) (EOpen.In.low HIU8.out) (HT.out.later HBW8.out).tb
     go_upto_region 14 with (first | (go_at_call 21; refine cN.mono ?_; rintro e W9 ⟨nv, rfl, hnt, hb⟩))
     clear cN HIU8
     have HQW9 : Hid (W9.heap[w.heap.size]? = some (.cells #[.int .i64 x.o, .int .i64 x.i, .string x.s, .slice a x.l.length cap] 24 (0, 0))) := (hb.block w.heap.size (by have := HSW8.out; omega)).trans HQW8.out
     have HPW9 : Hid (W9.heap[w.heap.size + 1]? = some (.cells #[.int .i64 c.k, .bool c.b, .int .i64 c.i, .string c.s, .slice man mln mcn, .slice mal mll mcl] 32 (0, 0))) := (hb.block (w.heap.size + 1) (by have := HSW8.out; omega)).trans HPW8.out
     have HSW9 : Hid (w.heap.size + 2 ≤ W9.heap.size) := Nat.le_trans HSW8.out hb.size
     have HBW9 : Hid (Below w.heap.size w W9) := HBW8.out.trans (hb.mono HBW8.out.size)
     have HEW9 : Hid (Below W6.heap.size W6 W9) := HEW8.out.trans (hb.mono HEW8.out.size)
     clear hb
     have HNT : Hid (OwnT W9 W8.heap.size nv (nms x)) := hnt
     clear hnt
     have HA1 : Hid (Below w.heap.size w W9.drew) := Below.drew HBW9.out
     have HA2 : Hid (Below w.heap.size w (W9.drew.alloc (twoB c (.slice man mln mcn) (.slice mal mll mcl)))) := HA1.out.alloc HA1.out.size _
     have HCd : Hid (Base.In false (fun b => b < W9.drew.heap.size) W9.drew (m + 1) (vl c.k c.b c.i c.s (.slice man mln mcn) (.slice mal mll mcl)) c) := (Base.In.keep (w := w) (w' := W9.drew) (fun b hS _ => HA1.out.block b hS) HC.out).weak (fun b hS => Nat.lt_of_lt_of_le hS HA1.out.size) false id _ (Nat.le_refl _)
     go_cut [12] from 53 to 60 (fun ov wd => Bl wd.heap.size (m + 1) wd ov (oth c bs) ∧ Below W9.heap.size W9 wd)
     case first =>
      obtain ⟨z0, z1, z2, z3, z4, z5⟩ := six_box HPW9.out
      go_region_held3 (fun w' => w'.cell? ⟨w.heap.size + 1, 0, none⟩ = some (.int .i64 c.k) ∧ w'.cell? ⟨w.heap.size + 1, 1, none⟩ = some (.bool c.b) ∧ w'.cell? ⟨w.heap.size + 1, 2, none⟩ = some (.int .i64 c.i) ∧ w'.cell? ⟨w.heap.size + 1, 3, none⟩ = some (.string c.s) ∧ w'.cell? ⟨w.heap.size + 1, 4, none⟩ = some (.slice man mln mcn) ∧ w'.cell? ⟨w.heap.size + 1, 5, none⟩ = some (.slice mal mll mcl)) (go_keep) (first | (go_at_call 27; first | (refine (copies_c (HBL.out _ HA2.out) HBIG.out).mono ?_; rintro e W10 ⟨ub, us, rfl, hul, hown, hels, hb⟩; have HRN : Hid (Rn W9.drew W10 W9.drew.heap.size (m + 1) c bs ub) := runA HCd.out hb hown hul HBIG.out HNM.out hels; obtain ⟨z0, z1, z2, z3, z4, z5⟩ := six_box ((hb.block (w.heap.size + 1) (by have := HSW9.out; simp; omega)).trans ((Below.heap_alloc _ _ _ (by have := HSW9.out; simp; omega)).trans HPW9.out)); clear hb hown hels hul) | (refine (copies_c (HBL.out _ HA1.out) HBIG.out).mono ?_; rintro e W10 ⟨ub, us, rfl, hul, hown, hels, hb⟩; have HRN : Hid (Rn W9.drew (W10.alloc (twoB c (.slice man mln mcn) (.slice mal mll mcl))) W10.heap.size (m + 1) c bs ub) := runB HCd.out hb hown hul HBIG.out HNM.out hels; obtain ⟨z0, z1, z2, z3, z4, z5⟩ := six_box ((hb.block (w.heap.size + 1) (by have := HSW9.out; simp; omega)).trans (HPW9.out)); clear hb hown hels hul)) | (refine step_two (by rfl) _ _ (by rfl) HRN.out (by rfl) (by rfl) ?_; intro ov W11 hbl hbd; obtain ⟨z0, z1, z2, z3, z4, z5⟩ := six_box ((hbd.block (w.heap.size + 1) (by have := HSW9.out; simp; omega)).trans HPW9.out)))
      all_goals
       go_wp2_with fail
       go_meet
       case rel => exact ⟨hbl, (Below.drew (Below.refl W9.heap.size W9)).trans hbd⟩
     case rest =>
      obtain ⟨wd, hwd⟩ : ∃ W, W = wc := ⟨_, rfl⟩
      subst hwd
      obtain ⟨hbl, hb⟩ := hcut
      have HOT : Hid (Bl wd.heap.size (m + 1) wd _ (oth c bs)) := hbl
      clear hbl HA1 HA2 HCd
      have HQwd : Hid (wd.heap[w.heap.size]? = some (.cells #[.int .i64 x.o, .int .i64 x.i, .string x.s, .slice a x.l.length cap] 24 (0, 0))) := (hb.block w.heap.size (by have := HSW9.out; omega)).trans HQW9.out
      have HPwd : Hid (wd.heap[w.heap.size + 1]? = some (.cells #[.int .i64 c.k, .bool c.b, .int .i64 c.i, .string c.s, .slice man mln mcn, .slice mal mll mcl] 32 (0, 0))) := (hb.block (w.heap.size + 1) (by have := HSW9.out; omega)).trans HPW9.out
      have HSwd : Hid (w.heap.size + 2 ≤ wd.heap.size) := Nat.le_trans HSW9.out hb.size
      have HBwd : Hid (Below w.heap.size w wd) := HBW9.out.trans (hb.mono HBW9.out.size)
      have HEwd : Hid (Below W6.heap.size W6 wd) := HEW9.out.trans (hb.mono HEW9.out.size)
      obtain ⟨na, nc, rfl, hncap, hnel⟩ := names_at HNT.out hb
      have hnl := nms_len x
      have HNE : Hid (∀ j (h : j < (nms x).length), ∃ g, na = some ⟨g, 0, none⟩ ∧ g < wd.heap.size ∧ wd.cell? ⟨g, j, none⟩ = some (.string (nms x)[j])) := hnel
      clear hb hnel HNT
      obtain ⟨NL, hNL⟩ : ∃ NL, (nms x).length = NL := ⟨_, rfl⟩
      have HNL : Hid ((nms x).length = NL) := hNL
      rw [hNL] at hncap hnl
      try rw [hNL]
      clear hNL
      go_wp2_with fail
      go_loopw [13] (fun iv wr => ∃ q : Nat, q ≤ NL ∧ iv = .int .i64 q ∧ Below wd.heap.size wd wr ∧ ∀ j (h : j < (nms x).length), j < q → ((nms x)[j] = ⟨#[97]⟩ ∨ (nms x)[j] = ⟨#[119]⟩) → ∃ b ∈ bs, b.1 = (nms x)[j]) (fun iv _ => NL - (intOf iv).toNat)
      case atStart => exact ⟨0, by omega, rfl, Below.refl _ _, fun j h h' => by omega⟩
      case round =>
       obtain ⟨wo, hwo⟩ : ∃ W, W = wr := ⟨_, rfl⟩
       subst hwo
       obtain ⟨q, hq, rfl, hbr, hall⟩ := hrel
       have HALL : Hid _ := hall
       have HBR : Hid (Below wd.heap.size wd wo) := hbr
       clear hall
       by_cases hlt : q < NL
       ·have d0 : decide ((q : Int) < (NL : Int)) = true := by simp; omega
        obtain ⟨ng, rfl, hng, hncell⟩ := HNE.out q (by have := HNL.out; omega)
        obtain ⟨S, hS⟩ : ∃ S, (nms x)[q]'(by have := HNL.out; omega) = S := ⟨_, rfl⟩
        rw [hS] at hncell
        have HSx : Hid ((nms x)[q]'(by have := HNL.out; omega) = S) := hS
        clear hS
        have HNC : Hid (∀ wy, Below wo.heap.size wo wy → wy.cell? ⟨ng, q, none⟩ = some (.string S)) := fun wy hy => (World.cell?_of_block (w := wd) ((hbr.trans (hy.mono hbr.size)).block ng hng)).trans hncell
        clear hncell hng hbr
        go_wp2_with fail
        go_loopw [14, 15] (fun kn kv wy => ∃ (p : Nat) (Kb : Bool), p ≤ bs.length ∧ kv = .int .i64 p ∧ kn = .bool Kb ∧ (Kb = true → ∃ b ∈ bs, b.1 = S) ∧ Below wo.heap.size wo wy) (fun _ kv _ => bs.length - (intOf kv).toNat)
        case atStart => exact ⟨0, false, by omega, rfl, rfl, (fun h => by cases h), Below.refl _ _⟩
        case round =>
         obtain ⟨wy, hwy⟩ : ∃ W, W = wr := ⟨_, rfl⟩
         subst hwy
         obtain ⟨p, Kb, hp, rfl, rfl, hkn, hby⟩ := hrel
         have HBY : Hid (Below wo.heap.size wo wy) := hby
         have hncell := HNC.out wy hby
         by_cases hpl : p < bs.length
         ·have d1 : decide ((p : Int) < (bs.length : Int)) = true := by simp; omega
          have HBWY : Hid (Below w.heap.size w wy) := (HBwd.out.trans (HBR.out.mono HBwd.out.size)).trans (hby.mono (HBwd.out.trans (HBR.out.mono HBwd.out.size)).size)
          obtain ⟨g, oo, an, ln, cn, al, ll, cl, rfl, k0, -⟩ := Bl.at HBW.out HBWY.out (Nat.le_refl _) hpl
          have HPm : Hid (bs[p] ∈ bs) := List.getElem_mem hpl
          obtain ⟨Bp, hBp⟩ : ∃ Bp, bs[p].1 = Bp := ⟨_, rfl⟩
          rw [hBp] at k0
          have HBp : Hid (bs[p].1 = Bp) := hBp
          clear hBp hby
          have hlb : bs.length ≤ 4398046511104 := by have := HBIG.out; omega
          have i0 : (0 : Int) ≤ (p : Int) := by omega
          have i1 : (p : Int) < (bs.length : Int) := by omega
          have i2 : (0 : Int) ≤ (q : Int) := by omega
          have i3 : (q : Int) < (NL : Int) := by omega
          cases Kb with
          | true =>
           have HKX : Hid (∃ b ∈ bs, b.1 = S) := hkn rfl
           clear hkn
           go_wp2_with fail
           go_quiet (fail)
           go_wp2_with fail
           go_roundw
           case rel => exact ⟨p + 1, true, by omega, by go_num, rfl, (fun _ => HKX.out), below_drewN HBY.out⟩
           case measure => simp only [intOf]; omega
          | false =>
           clear hkn
           cases he : (Bp.toList == S.toList) with
           | true =>
            go_wp2_with fail
            go_quiet (fail)
            go_wp2_with fail
            go_roundw
            case rel => exact ⟨p + 1, true, by omega, by go_num, rfl, fun _ => ⟨bs[p], HPm.out, HBp.out.trans (text_eq he)⟩, below_drewN HBY.out⟩
            case measure => simp only [intOf]; omega
           | false =>
            go_wp2_with fail
            go_quiet (fail)
            go_wp2_with fail
            go_roundw
            case rel => exact ⟨p + 1, false, by omega, by go_num, rfl, (fun h => by cases h), below_drewN HBY.out⟩
            case measure => simp only [intOf]; omega
         ·have d1 : decide ((p : Int) < (bs.length : Int)) = false := by simp; omega
          have i2 : (0 : Int) ≤ (q : Int) := by omega
          have i3 : (q : Int) < (NL : Int) := by omega
          have HBWY : Hid (Below wd.heap.size wd wy) := HBR.out.trans (hby.mono HBR.out.size)
          have HBWW : Hid (Below w.heap.size w wy) := HBwd.out.trans (HBWY.out.mono HBwd.out.size)
          clear hby
          cases Kb with
          | true =>
           have HKX : Hid (∃ b ∈ bs, b.1 = S) := hkn rfl
           clear hkn
           go_wp2_with fail
           go_roundw
           case rel =>
            refine ⟨q + 1, by omega, by go_num, HBWY.out, fun j hj hjq => ?_⟩
            by_cases ej : j = q
            ·subst ej; rw [HSx.out]; exact fun _ => HKX.out
            ·exact HALL.out j hj (by omega)
           case measure => simp only [intOf]; omega
          | false =>
           clear hkn
           cases he : (S.toList == [97]) with
           | true =>
            go_wp2_with fail
            go_ret
            exact ⟨rfl, HBWW.out⟩
           | false =>
            cases hf : (S.toList == [119]) with
            | true =>
             go_wp2_with fail
             go_ret
             exact ⟨rfl, HBWW.out⟩
            | false =>
             have HNO : Hid (¬ (S = ⟨#[97]⟩ ∨ S = ⟨#[119]⟩)) := text_ne he hf
             go_wp2_with fail
             go_roundw
             case rel =>
              refine ⟨q + 1, by omega, by go_num, HBWY.out, fun j hj hjq => ?_⟩
              by_cases ej : j = q
              ·subst ej; rw [HSx.out]; exact fun h => (HNO.out h).elim
              ·exact HALL.out j hj (by omega)
             case measure => simp only [intOf]; omega
       ·have d0 : decide ((q : Int) < (NL : Int)) = false := by simp; omega
        have HSM : Hid (evA (oth c bs) x = evA bs x) := asks HD.out fun s hs hs2 => by
         obtain ⟨j, hj, rfl⟩ := List.mem_iff_getElem.1 hs
         exact HALL.out j hj (by have := HNL.out; omega) hs2
        clear HALL HNE HNL
        have HQwo : Hid (wo.heap[w.heap.size]? = some (.cells #[.int .i64 x.o, .int .i64 x.i, .string x.s, .slice a x.l.length cap] 24 (0, 0))) := (HBR.out.block w.heap.size (by have := HSwd.out; omega)).trans HQwd.out
        have HPwo : Hid (wo.heap[w.heap.size + 1]? = some (.cells #[.int .i64 c.k, .bool c.b, .int .i64 c.i, .string c.s, .slice man mln mcn, .slice mal mll mcl] 32 (0, 0))) := (HBR.out.block (w.heap.size + 1) (by have := HSwd.out; omega)).trans HPwd.out
        have HSwo : Hid (w.heap.size + 2 ≤ wo.heap.size) := Nat.le_trans HSwd.out HBR.out.size
        have HBwo : Hid (Below w.heap.size w wo) := HBwd.out.trans (HBR.out.mono HBwd.out.size)
        have HEwo : Hid (Below W6.heap.size W6 wo) := HEwd.out.trans (HBR.out.mono HEwd.out.size)
        obtain ⟨y0, y1, y2, y3⟩ := XBase.four_box HQwo.out
        have cX := XCp.copyAll _ _ x wo (HIN.out.below HBwo.out)
        go_wp2_with fail
        refine cX.mono ?_
        rintro e W12 ⟨u, rfl, hiu, hb⟩
        clear cX y0 y1 y2 y3
        have HWO : Hid (Below wo.heap.size wo W12) := hb
        obtain ⟨n2, lv2, hn2, hu2, -, -, -, hL2⟩ := hiu.shape
        obtain ⟨xa12, xc12, rfl, -⟩ := hL2
        subst hu2
        have HIU12 : Hid (XBase.In false All W12 (n' + 1) (xv x.o x.i x.s (.slice xa12 x.l.length xc12)) x) := hiu.plain
        have HQW12 : Hid (W12.heap[w.heap.size]? = some (.cells #[.int .i64 x.o, .int .i64 x.i, .string x.s, .slice a x.l.length cap] 24 (0, 0))) := (hb.block w.heap.size (by have := HSwo.out; omega)).trans HQwo.out
        have HPW12 : Hid (W12.heap[w.heap.size + 1]? = some (.cells #[.int .i64 c.k, .bool c.b, .int .i64 c.i, .string c.s, .slice man mln mcn, .slice mal mll mcl] 32 (0, 0))) := (hb.block (w.heap.size + 1) (by have := HSwo.out; omega)).trans HPwo.out
        have HSW12 : Hid (w.heap.size + 2 ≤ W12.heap.size) := Nat.le_trans HSwo.out hb.size
        have HBW12 : Hid (Below w.heap.size w W12) := HBwo.out.trans (hb.mono HBwo.out.size)
        have HEW12 : Hid (Below W6.heap.size W6 W12) := HEwo.out.trans (hb.mono HEwo.out.size)
        clear hiu hb hn2
        have HWD : Hid (Below wd.heap.size wd W12) := HBR.out.trans (HWO.out.mono HBR.out.size)
        have HBL12 : Hid (Bl W12.heap.size (m + 1) W12 _ (oth c bs)) := Bl.mono (HOT.out.low HWD.out) HWD.out.size
        have cE := eval_all (w := W12) (EOpen.In.low (HIU12.out)) (HBL12.out) (fun b hb => oth_dep HDEP.out HD4.out b hb) (HT.out.later HBW12.out).tb
        obtain ⟨N2, hN2⟩ : ∃ N, nOf (evA (oth c bs) x) = N := ⟨_, rfl⟩
        have HN2 : Hid (nOf (evA (oth c bs) x) = N2) := hN2
        rw [hN2] at cE
        clear hN2
        go_wp2_with fail
        refine cE.mono ?_
        rintro e V2 ⟨hv, u, rfl, hfr⟩
        clear cE
        have hinu := hfr.in
        obtain ⟨an2, ln2, cn2, al2, ll2, cl2, hu⟩ := VRs.in_shape hinu
        obtain ⟨c2, hc2⟩ : ∃ c9, vOf (evA (oth c bs) x) = c9 := ⟨_, rfl⟩
        rw [hc2] at hinu hu
        have HC2 : Hid (vOf (evA (oth c bs) x) = c2) := hc2
        subst hu
        have HI : Hid (Base.In false All V2 (m + 1) (vl c2.k c2.b c2.i c2.s (.slice an2 ln2 cn2) (.slice al2 ll2 cl2)) c2) := hinu.weak (S' := All) (fun _ _ => trivial) false id _ (Nat.le_refl _)
        clear hinu hfr hc2
        have HQV2 : Hid (V2.heap[w.heap.size]? = some (.cells #[.int .i64 x.o, .int .i64 x.i, .string x.s, .slice a x.l.length cap] 24 (0, 0))) := (hv.block w.heap.size (by have := HSW12.out; omega)).trans HQW12.out
        have HPV2 : Hid (V2.heap[w.heap.size + 1]? = some (.cells #[.int .i64 c.k, .bool c.b, .int .i64 c.i, .string c.s, .slice man mln mcn, .slice mal mll mcl] 32 (0, 0))) := (hv.block (w.heap.size + 1) (by have := HSW12.out; omega)).trans HPW12.out
        have HSV2 : Hid (w.heap.size + 2 ≤ V2.heap.size) := Nat.le_trans HSW12.out hv.size
        have HBV2 : Hid (Below w.heap.size w V2) := HBW12.out.trans (hv.mono HBW12.out.size)
        have HEV2 : Hid (Below W6.heap.size W6 V2) := HEW12.out.trans (hv.mono HEW12.out.size)
        obtain ⟨Q, Y2, hQ, hY, ⟨n0, n1, n2, n3, n4, n5⟩, nf, zz, g1, hy⟩ := mk6 32 (W := V2) (B := V2.heap.size) rfl (.int .i64 c2.k) (.bool c2.b) (.int .i64 c2.i) (.string c2.s) (.slice an2 ln2 cn2) (.slice al2 ll2 cl2)
        have HQY2 : Hid (Y2.heap[w.heap.size]? = some (.cells #[.int .i64 x.o, .int .i64 x.i, .string x.s, .slice a x.l.length cap] 24 (0, 0))) := (hy.block w.heap.size (by have := HSV2.out; omega)).trans HQV2.out
        have HPY2 : Hid (Y2.heap[w.heap.size + 1]? = some (.cells #[.int .i64 c.k, .bool c.b, .int .i64 c.i, .string c.s, .slice man mln mcn, .slice mal mll mcl] 32 (0, 0))) := (hy.block (w.heap.size + 1) (by have := HSV2.out; omega)).trans HPV2.out
        have HSY2 : Hid (w.heap.size + 2 ≤ Y2.heap.size) := Nat.le_trans HSV2.out hy.size
        have HBY2 : Hid (Below w.heap.size w Y2) := HBV2.out.trans (hy.mono HBV2.out.size)
        have HEY2 : Hid (Below W6.heap.size W6 Y2) := HEV2.out.trans (hy.mono HEV2.out.size)
        have HV2 : Hid (Y2.heap[V2.heap.size]? = some (.cells #[.int .i64 c2.k, .bool c2.b, .int .i64 c2.i, .string c2.s, .slice an2 ln2 cn2, .slice al2 ll2 cl2] 32 (0, 0))) := g1
        have HL2 : Hid (V2.heap.size < Y2.heap.size) := (Array.getElem?_eq_some_iff.1 g1).1
        have HR2 : Hid (Base.In false All Y2 (m + 1) (vl c2.k c2.b c2.i c2.s (.slice an2 ln2 cn2) (.slice al2 ll2 cl2)) c2) := HI.out.below hy
        clear HI hv hy g1 zz
        go_upto_region 26 with fail
        try rw [hY]
        clear hY hQ n0 n1 n2 n3 n4 n5 nf
        obtain rfl : N2 = N1 := by rw [← HN2.out, ← HN1.out, HSM.out]
        obtain rfl : c2 = c1 := by rw [← HC2.out, ← HC1.out, HSM.out]
        have cS := SameV.sameV_c (m + 1) _ _ _ Y2 (HRc.out.below HEY2.out) HR2.out
        obtain ⟨p0, p1, p2, p3, p4, p5⟩ := six_box ((HEY2.out.block V1.heap.size HLc.out).trans HVc.out)
        obtain ⟨r0, r1, r2, r3, r4, r5⟩ := six_box HV2.out
        go_wp2_with (first | (go_at_call 15; refine cS.mono ?_; rintro e Z1 ⟨rfl, g1⟩) | (go_at_call 14; refine (num_c _ _).mono ?_; rintro e w9 ⟨rfl, h9⟩; obtain rfl := h9.symm))
        go_ret
        exact ⟨rfl, HBY2.out.trans (g1.mono HBY2.out.size)⟩
    ·have e0 : (D != 0) = true := by simpa using h0
     clear h0
     go_wp2_with (first | (go_at_call 28; refine cC.mono ?_; rintro e W7 ⟨rfl, hb⟩) | (go_at_call 14; refine (num_c _ _).mono ?_; rintro e w9 ⟨rfl, h9⟩; obtain rfl := h9.symm))
     go_ret
     exact ⟨rfl, HBW6.out.trans (hb.mono HBW6.out.size)⟩
  ·have e4 : decide (Shallow.dep c ≤ 4096) = false := decide_eq_false h4
   rw [e4] at cV
   go_wp2_with (first | (go_at_call 25; refine cV.mono ?_; rintro e W3 ⟨rfl, hb⟩))
   go_ret
   exact ⟨rfl, HBW2.out.trans (hb.mono HBW2.out.size)⟩
end Go.Proofs.YtdeigdbnnbikgaaGreatDoor.WAk
