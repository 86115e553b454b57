import Derived.Test.YtiijfmdfccdagaaGreatDoorPM43
open Go.Proofs.Tryz
set_option linter.unusedVariables false
set_option maxRecDepth 20000
set_option maxHeartbeats 6400000
namespace Go.Proofs.YtiijfmdfccdagaaGreatDoor.WRM
open Go.RowKit Base KBase KNd VJn VRs GRe GRn GAw GRa
open VPure hiding evL
open TBase (T)
open Shallow (dep)
theorem shallow2_c {m mc : Nat} {w : World} {cv v : Value} {cs : List Co} {c : C} (hcs : KBase.InL false (fun _ => True) w mc cv cs) (hin : Base.In false (fun _ => True) w (m + 1) v c) :
  Calls prog 8 #[cv, v] w fun e w' => (∃ b, e = .returned (.bool b)) /\ Below w.heap.size w w' := by
 obtain ⟨an, ln, cn, al, ll, cl, rfl⟩ := in_shape hin
 obtain ⟨W0, hW0⟩ : ∃ W, w.alloc (.cells #[.int .i64 c.k, .bool c.b, .int .i64 c.i, .string c.s, .slice an ln cn, .slice al ll cl] 26) = W := ⟨_, rfl⟩
 have b0 := alB hW0
 have s0 := alS hW0
 have g0 := alG hW0
 have HG : Hid (∀ W, Below W0.heap.size W0 W -> W.heap[w.heap.size]? = some (.cells #[.int .i64 c.k, .bool c.b, .int .i64 c.i, .string c.s, .slice an ln cn, .slice al ll cl] 26 (0, 0))) := fun W hW => (hW.block _ s0).trans g0
 have HU : Hid (∀ W, Below W0.heap.size W0 W -> Below w.heap.size w W) := fun W hW => b0.trans (hW.mono b0.size)
 have c1 := KSx.shallow_c (hcs.keep (Keep.of_below b0))
 have HV : Hid (∀ W, Below w.heap.size w W -> Calls prog 23 #[.agg #[.int .i64 c.k, .bool c.b, .int .i64 c.i, .string c.s, .slice an ln cn, .slice al ll cl]] W fun e w' => e = .returned (.bool (decide (dep c <= 4096))) /\ Below W.heap.size W w') := fun W hW => Shallow.shallow_c _ _ c W (hin.keep (w' := W) (fun b _ hl => hW.block b hl))
 clear hcs hin b0 g0
 go_enter func8, ntmps8
 go_wp2_with fail
 try rw [hW0]
 refine c1.mono ?_
 rintro e W1 ⟨⟨b, rfl⟩, b1⟩
 have c2 := HV.out W1 (HU.out W1 b1)
 obtain ⟨x0, x1, x2, x3, x4, x5⟩ := Base.six_box (HG.out W1 b1)
 have HB1 := hid (HU.out W1 b1)
 clear b1 c1
 cases b
 ·go_wp2_with fail
  go_ret
  exact ⟨⟨_, rfl⟩, HB1.out⟩
 ·go_wp2_with fail
  refine c2.mono ?_
  rintro e W2 ⟨rfl, b2⟩
  have HB2 := hid (HB1.out.trans (b2.mono HB1.out.size))
  clear b2
  go_wp2_with fail
  go_ret
  exact ⟨⟨_, rfl⟩, HB2.out⟩
theorem walk_of {m mc : Nat} {cv v : Value} {cs : List Co} {c : C} {w : World} {z1 z2 : Int} {A : Except Nat (List T)} (hcs : KBase.InL false (fun b => b < w.heap.size) w mc cv cs) (hin : Base.In false (fun b => b < w.heap.size) w (m + 1) v c) (hT : Digits.Tab w)
  (hz1 : chk cs = z1) (hz2 : vch c = z2) (hA : rnd cs c = A) (hcase : (∃ q : Nat, A = .error q /\ z1 = q /\ q ≠ 0) \/ (∃ q : Nat, A = .error q /\ z1 = 0 /\ z2 = q /\ q ≠ 0) \/ (∃ F, A = .ok F /\ z1 = 0 /\ z2 = 0 /\ TMeas.ck F = 0) \/ (∃ q : Nat, A = .error q /\ z1 = 0 /\ z2 = 0 /\ 1100 <= q /\ q <= 1107) \/ (A = .error 1600 /\ z1 = 0 /\ z2 = 0) \/ (A = .error 1601 /\ z1 = 0 /\ z2 = 0)) :
  Calls prog 3 #[cv, v] w fun e w' => e = .returned (.bool true) /\ Below w.heap.size w w' := by
 have ht : Tb w := fun W hW => hT.later hW
 obtain ⟨an, ln, cn, al, ll, cl, rfl⟩ := VRs.in_shape hin
 have HT := hid ht
 have HC : Hid (∀ W, Below w.heap.size w W -> KBase.InL false (fun b => b < W.heap.size) W mc cv cs) := fun W hW => (hcs.keep (w' := W) (fun b hb _ => hW.block b hb)).weak (fun b hb => Nat.lt_of_lt_of_le hb hW.size) false id mc (Nat.le_refl _)
 have HV : Hid (∀ W, Below w.heap.size w W -> Base.In false (fun b => b < W.heap.size) W (m + 1) (.agg #[.int .i64 c.k, .bool c.b, .int .i64 c.i, .string c.s, .slice an ln cn, .slice al ll cl]) c) := fun W hW => (hin.keep (w' := W) (fun b hb _ => hW.block b hb)).weak (fun b hb => Nat.lt_of_lt_of_le hb hW.size) false id _ (Nat.le_refl _)
 have HC' : Hid (∀ W, Below w.heap.size w W -> KBase.InL false (fun _ => True) W mc cv cs) := fun W hW => (HC.out W hW).weak (fun _ _ => trivial) false id mc (Nat.le_refl _)
 have HV' : Hid (∀ W, Below w.heap.size w W -> Base.In false (fun _ => True) W (m + 1) (.agg #[.int .i64 c.k, .bool c.b, .int .i64 c.i, .string c.s, .slice an ln cn, .slice al ll cl]) c) := fun W hW => (HV.out W hW).weak (fun _ _ => trivial) false id _ (Nat.le_refl _)
 have cR : Hid (∀ W, Below w.heap.size w W -> Calls prog 9 #[cv, .agg #[.int .i64 c.k, .bool c.b, .int .i64 c.i, .string c.s, .slice an ln cn, .slice al ll cl]] W fun e w' => RR W A e w') := fun W hW => by rw [<- hA]; exact render_all (HC.out W hW) (HV.out W hW) (HT.out.below hW)
 have cK : Hid (∀ W, Below w.heap.size w W -> Calls prog 10 #[cv] W fun e w' => e = .returned (.int .i64 z1) /\ Below W.heap.size W w') := fun W hW => by rw [<- hz1]; exact check_c (HC'.out W hW)
 have cM : Hid (∀ W, Below w.heap.size w W -> Calls prog 11 #[.agg #[.int .i64 c.k, .bool c.b, .int .i64 c.i, .string c.s, .slice an ln cn, .slice al ll cl]] W fun e w' => e = .returned (.int .i64 z2) /\ Below W.heap.size W w') := fun W hW => by rw [<- hz2]; exact GMw.check_all (HV'.out W hW)
 obtain ⟨W0, hW0⟩ : ∃ W, w.alloc (.cells #[.int .i64 c.k, .bool c.b, .int .i64 c.i, .string c.s, .slice an ln cn, .slice al ll cl] 26) = W := ⟨_, rfl⟩
 have b0 := alB hW0
 have s0 := alS hW0
 have g0 := alG hW0
 have HG : Hid (∀ W, Below W0.heap.size W0 W -> W.heap[w.heap.size]? = some (.cells #[.int .i64 c.k, .bool c.b, .int .i64 c.i, .string c.s, .slice an ln cn, .slice al ll cl] 26 (0, 0))) := fun W hW => (hW.block _ s0).trans g0
 have HU : Hid (∀ W, Below W0.heap.size W0 W -> Below w.heap.size w W) := fun W hW => b0.trans (hW.mono b0.size)
 have cA := awake_c W0 (ht.below b0)
 have cN := numE_c
 have HCASE := hid hcase
 clear ht hT hin hcs hz1 hz2 hA hcase b0 g0
 go_enter func3, ntmps3
 go_wp2_with fail
 try rw [hW0]
 refine cA.mono ?_
 rintro e W1 ⟨rfl, b1⟩
 have cS := shallow2_c (HC'.out W1 (HU.out W1 b1)) (HV'.out W1 (HU.out W1 b1))
 obtain ⟨x0, x1, x2, x3, x4, x5⟩ := Base.six_box (HG.out W1 b1)
 have H1 := hid b1
 clear cA b1 hW0
 go_wp2_with fail
 refine cS.mono ?_
 rintro e W2 ⟨⟨sb, rfl⟩, b2⟩
 have H2 := hid (H1.out.trans (b2.mono H1.out.size))
 clear b2 cS x0 x1 x2 x3 x4 x5
 obtain ⟨x0, x1, x2, x3, x4, x5⟩ := Base.six_box (HG.out W2 H2.out)
 cases sb
 ·go_wp2_with fail
  go_ret
  exact ⟨rfl, HU.out W2 H2.out⟩
 have c3 := cR.out W2 (HU.out W2 H2.out)
 go_wp2_with fail
 refine c3.mono ?_
 rintro e W3 ⟨b3, hAns⟩
 have H3 := hid (H2.out.trans (b3.mono H2.out.size))
 have c4 := cK.out W3 (HU.out W3 H3.out)
 clear c3 b3 x0 x1 x2 x3 x4 x5
 obtain ⟨x0, x1, x2, x3, x4, x5⟩ := Base.six_box (HG.out W3 H3.out)
 rcases HCASE.out with ⟨q, rfl, rfl, hq⟩ | ⟨q, rfl, rfl, rfl, hq⟩ | ⟨F, rfl, rfl, rfl, hck⟩ | ⟨q, rfl, rfl, rfl, hq1, hq2⟩ | ⟨rfl, rfl, rfl⟩ | ⟨rfl, rfl, rfl⟩
 ·obtain rfl := hAns
  have hq1 : ((q : Int) == 0) = false := by simp [hq]
  have hq2 : ((q : Int) == (q : Int)) = true := by simp
  go_wp2_with fail
  refine c4.mono ?_
  rintro e W4 ⟨rfl, b4⟩
  have H4 := hid (H3.out.trans (b4.mono H3.out.size))
  have H34 := hid b4
  have c5 := cM.out W4 (HU.out W4 H4.out)
  clear c4 b4 x0 x1 x2 x3 x4 x5
  obtain ⟨x0, x1, x2, x3, x4, x5⟩ := Base.six_box (HG.out W4 H4.out)
  go_wp2_with fail
  refine c5.mono ?_
  rintro e W5 ⟨rfl, b5⟩
  have H5 := hid (H4.out.trans (b5.mono H4.out.size))
  have H35 := hid (H34.out.trans (b5.mono H34.out.size))
  clear c5 b5 x0 x1 x2 x3 x4 x5
  go_wp2_with fail
  refine (cN _ _).mono ?_
  rintro e w9 ⟨rfl, h9⟩
  obtain rfl := h9
  go_wp2_with fail
  refine (cN _ _).mono ?_
  rintro e w9 ⟨rfl, h9⟩
  obtain rfl := h9
  go_wp2_with fail
  refine (cN _ _).mono ?_
  rintro e w9 ⟨rfl, h9⟩
  obtain rfl := h9
  go_wp2_with fail
  go_ret
  exact ⟨by simp, HU.out W5 H5.out⟩
 ·obtain rfl := hAns
  have hq1 : ((q : Int) == 0) = false := by simp [hq]
  have hq2 : ((q : Int) == (q : Int)) = true := by simp
  go_wp2_with fail
  refine c4.mono ?_
  rintro e W4 ⟨rfl, b4⟩
  have H4 := hid (H3.out.trans (b4.mono H3.out.size))
  have H34 := hid b4
  have c5 := cM.out W4 (HU.out W4 H4.out)
  clear c4 b4 x0 x1 x2 x3 x4 x5
  obtain ⟨x0, x1, x2, x3, x4, x5⟩ := Base.six_box (HG.out W4 H4.out)
  go_wp2_with fail
  refine c5.mono ?_
  rintro e W5 ⟨rfl, b5⟩
  have H5 := hid (H4.out.trans (b5.mono H4.out.size))
  have H35 := hid (H34.out.trans (b5.mono H34.out.size))
  clear c5 b5 x0 x1 x2 x3 x4 x5
  go_wp2_with fail
  refine (cN _ _).mono ?_
  rintro e w9 ⟨rfl, h9⟩
  obtain rfl := h9
  go_wp2_with fail
  refine (cN _ _).mono ?_
  rintro e w9 ⟨rfl, h9⟩
  obtain rfl := h9
  go_wp2_with fail
  refine (cN _ _).mono ?_
  rintro e w9 ⟨rfl, h9⟩
  obtain rfl := h9
  go_wp2_with fail
  refine (cN _ _).mono ?_
  rintro e w9 ⟨rfl, h9⟩
  obtain rfl := h9
  go_wp2_with fail
  go_ret
  exact ⟨by simp, HU.out W5 H5.out⟩
 ·obtain ⟨mt, tv, rfl, htv⟩ := hAns
  go_wp2_with fail
  refine c4.mono ?_
  rintro e W4 ⟨rfl, b4⟩
  have H4 := hid (H3.out.trans (b4.mono H3.out.size))
  have H34 := hid b4
  have c5 := cM.out W4 (HU.out W4 H4.out)
  clear c4 b4 x0 x1 x2 x3 x4 x5
  obtain ⟨x0, x1, x2, x3, x4, x5⟩ := Base.six_box (HG.out W4 H4.out)
  go_wp2_with fail
  refine c5.mono ?_
  rintro e W5 ⟨rfl, b5⟩
  have H5 := hid (H4.out.trans (b5.mono H4.out.size))
  have H35 := hid (H34.out.trans (b5.mono H34.out.size))
  clear c5 b5 x0 x1 x2 x3 x4 x5
  have c6 := TMeas.check_c mt tv F W5 (TBase.InL.keep (w := W3) (w' := W5) htv (fun b _ hl => H35.out.block b hl))
  rw [hck] at c6
  go_wp2_with fail
  refine (cN _ _).mono ?_
  rintro e w9 ⟨rfl, h9⟩
  obtain rfl := h9
  go_wp2_with fail
  refine (cN _ _).mono ?_
  rintro e w9 ⟨rfl, h9⟩
  obtain rfl := h9
  go_wp2_with fail
  refine (cN _ _).mono ?_
  rintro e w9 ⟨rfl, h9⟩
  obtain rfl := h9
  go_wp2_with fail
  refine c6.mono ?_
  rintro e W6 ⟨rfl, b6d⟩
  have H6 := hid (H5.out.trans (b6d.mono H5.out.size))
  clear b6d c6
  go_wp2_with fail
  refine (cN _ _).mono ?_
  rintro e w9 ⟨rfl, h9⟩
  obtain rfl := h9
  go_wp2_with fail
  go_ret
  exact ⟨rfl, HU.out W6 H6.out⟩
 ·obtain rfl := hAns
  have d0 : ((q : Int) == 0) = false := by simp; omega
  have d1 : decide ((1100 : Int) <= (q : Int)) = true := by simp; omega
  have d2 : decide ((q : Int) <= 1107) = true := by simp; omega
  go_wp2_with fail
  refine c4.mono ?_
  rintro e W4 ⟨rfl, b4⟩
  have H4 := hid (H3.out.trans (b4.mono H3.out.size))
  have H34 := hid b4
  have c5 := cM.out W4 (HU.out W4 H4.out)
  clear c4 b4 x0 x1 x2 x3 x4 x5
  obtain ⟨x0, x1, x2, x3, x4, x5⟩ := Base.six_box (HG.out W4 H4.out)
  go_wp2_with fail
  refine c5.mono ?_
  rintro e W5 ⟨rfl, b5⟩
  have H5 := hid (H4.out.trans (b5.mono H4.out.size))
  have H35 := hid (H34.out.trans (b5.mono H34.out.size))
  clear c5 b5 x0 x1 x2 x3 x4 x5
  go_wp2_with fail
  refine (cN _ _).mono ?_
  rintro e w9 ⟨rfl, h9⟩
  obtain rfl := h9
  go_wp2_with fail
  refine (cN _ _).mono ?_
  rintro e w9 ⟨rfl, h9⟩
  obtain rfl := h9
  go_wp2_with fail
  refine (cN _ _).mono ?_
  rintro e w9 ⟨rfl, h9⟩
  obtain rfl := h9
  go_wp2_with fail
  refine (cN _ _).mono ?_
  rintro e w9 ⟨rfl, h9⟩
  obtain rfl := h9
  go_wp2_with fail
  refine (cN _ _).mono ?_
  rintro e w9 ⟨rfl, h9⟩
  obtain rfl := h9
  go_wp2_with fail
  go_ret
  exact ⟨rfl, HU.out W5 H5.out⟩
 ·obtain rfl := hAns
  go_wp2_with fail
  refine c4.mono ?_
  rintro e W4 ⟨rfl, b4⟩
  have H4 := hid (H3.out.trans (b4.mono H3.out.size))
  have H34 := hid b4
  have c5 := cM.out W4 (HU.out W4 H4.out)
  clear c4 b4 x0 x1 x2 x3 x4 x5
  obtain ⟨x0, x1, x2, x3, x4, x5⟩ := Base.six_box (HG.out W4 H4.out)
  go_wp2_with fail
  refine c5.mono ?_
  rintro e W5 ⟨rfl, b5⟩
  have H5 := hid (H4.out.trans (b5.mono H4.out.size))
  have H35 := hid (H34.out.trans (b5.mono H34.out.size))
  clear c5 b5 x0 x1 x2 x3 x4 x5
  go_wp2_with fail
  refine (cN _ _).mono ?_
  rintro e w9 ⟨rfl, h9⟩
  obtain rfl := h9
  go_wp2_with fail
  refine (cN _ _).mono ?_
  rintro e w9 ⟨rfl, h9⟩
  obtain rfl := h9
  go_wp2_with fail
  refine (cN _ _).mono ?_
  rintro e w9 ⟨rfl, h9⟩
  obtain rfl := h9
  go_wp2_with fail
  refine (cN _ _).mono ?_
  rintro e w9 ⟨rfl, h9⟩
  obtain rfl := h9
  go_wp2_with fail
  refine (cN _ _).mono ?_
  rintro e w9 ⟨rfl, h9⟩
  obtain rfl := h9
  go_wp2_with fail
  refine (cN _ _).mono ?_
  rintro e w9 ⟨rfl, h9⟩
  obtain rfl := h9
  go_wp2_with fail
  go_ret
  exact ⟨rfl, HU.out W5 H5.out⟩
 ·obtain rfl := hAns
  go_wp2_with fail
  refine c4.mono ?_
  rintro e W4 ⟨rfl, b4⟩
  have H4 := hid (H3.out.trans (b4.mono H3.out.size))
  have H34 := hid b4
  have c5 := cM.out W4 (HU.out W4 H4.out)
  clear c4 b4 x0 x1 x2 x3 x4 x5
  obtain ⟨x0, x1, x2, x3, x4, x5⟩ := Base.six_box (HG.out W4 H4.out)
  go_wp2_with fail
  refine c5.mono ?_
  rintro e W5 ⟨rfl, b5⟩
  have H5 := hid (H4.out.trans (b5.mono H4.out.size))
  have H35 := hid (H34.out.trans (b5.mono H34.out.size))
  clear c5 b5 x0 x1 x2 x3 x4 x5
  go_wp2_with fail
  refine (cN _ _).mono ?_
  rintro e w9 ⟨rfl, h9⟩
  obtain rfl := h9
  go_wp2_with fail
  refine (cN _ _).mono ?_
  rintro e w9 ⟨rfl, h9⟩
  obtain rfl := h9
  go_wp2_with fail
  refine (cN _ _).mono ?_
  rintro e w9 ⟨rfl, h9⟩
  obtain rfl := h9
  go_wp2_with fail
  refine (cN _ _).mono ?_
  rintro e w9 ⟨rfl, h9⟩
  obtain rfl := h9
  go_wp2_with fail
  refine (cN _ _).mono ?_
  rintro e w9 ⟨rfl, h9⟩
  obtain rfl := h9
  go_wp2_with fail
  refine (cN _ _).mono ?_
  rintro e w9 ⟨rfl, h9⟩
  obtain rfl := h9
  go_wp2_with fail
  refine (cN _ _).mono ?_
  rintro e w9 ⟨rfl, h9⟩
  obtain rfl := h9
  go_wp2_with fail
  go_ret
  exact ⟨rfl, HU.out W5 H5.out⟩
theorem walk {m mc : Nat} {cv v : Value} {cs : List Co} {c : C} {w : World} (hcs : KBase.InL false (fun b => b < w.heap.size) w mc cv cs) (hin : Base.In false (fun b => b < w.heap.size) w (m + 1) v c) (hT : Digits.Tab w) :
  Calls prog 3 #[cv, v] w fun e w' => e = .returned (.bool true) /\ Below w.heap.size w w' := by
 have g1 := chk_ge cs
 have g2 : 0 <= vch c := ms_ge _ _ _
 have hi := GIr.ic_of mc cv cs hcs
 by_cases h1 : chk cs = 0
 ·by_cases h2 : vch c = 0
  ·cases hr : rnd cs c with
   | ok F => exact walk_of hcs hin hT h1 h2 hr (.inr (.inr (.inl ⟨F, rfl, rfl, rfl, GOk.rnd_ok hi (GIr.in_rg _ _ _ 1 hin) hr⟩)))
   | error q =>
    rcases GIs.rnd_er hi h1 h2 hr with h | rfl | rfl
    ·exact walk_of hcs hin hT h1 h2 hr (.inr (.inr (.inr (.inl ⟨q, rfl, rfl, rfl, h.1, h.2⟩))))
    ·exact walk_of hcs hin hT h1 h2 hr (.inr (.inr (.inr (.inr (.inl ⟨rfl, rfl, rfl⟩)))))
    ·exact walk_of hcs hin hT h1 h2 hr (.inr (.inr (.inr (.inr (.inr ⟨rfl, rfl, rfl⟩)))))
  ·refine walk_of hcs hin hT h1 rfl (A := .error (vch c).toNat) ?_ (.inr (.inl ⟨_, rfl, rfl, by omega, by omega⟩))
   unfold rnd
   rw [if_neg (by omega), if_pos h2]
 ·refine walk_of hcs hin hT rfl rfl (A := .error (chk cs).toNat) ?_ (.inl ⟨_, rfl, by omega, by omega⟩)
  unfold rnd
  rw [if_pos h1]
end Go.Proofs.YtiijfmdfccdagaaGreatDoor.WRM
