import Derived.Deep.CutBlock
import Derived.Deep.CutRange
import Derived.Laws.StructEq
import Derived.Test.YtiijfmdfccdagaaGreatDoorPL11
import Derived.Test.YtiijfmdfccdagaaGreatDoorPL40
open Go.Proofs.Tryz
set_option linter.unusedVariables false
set_option maxRecDepth 20000
set_option maxHeartbeats 12800000
namespace Go.Proofs.YtiijfmdfccdagaaGreatDoor.WRL
open Tak
open Go.RowKit Base KBase KNd VSm VJn GZp GRn GAp GRa
open GAw hiding lC
open GLq
open VPure hiding evL
open TBase (T)
open Shallow (dep depL)
open WLa
theorem walk {m : Nat} {v : Value} {vs : List C} {w : World} (hin : Base.InL false (fun b => b < w.heap.size) w m v vs) (hT : Digits.Tab w) :
  Calls prog 5 #[v] w fun e w' => e = .returned (.bool true) /\ Below w.heap.size w w' := by
 have ht : Tb w := fun W hW => hT.later hW
 obtain ⟨va, vcap, hve, hl1, hl2, hl3, -, -⟩ := id hin
 subst hve
 have HT := hid ht
 have HVL : Hid (∀ W, Below w.heap.size w W -> Base.InL false (fun b => b < W.heap.size) W m (.slice va vs.length vcap) vs) := fun W hW => (hin.keep (w' := W) (fun b hb _ => hW.block b hb)).weak (fun b hb => Nat.lt_of_lt_of_le hb hW.size) false id _ (Nat.le_refl _)
 have HVA : Hid (∀ W, Below w.heap.size w W -> Base.InL false All W m (.slice va vs.length vcap) vs) := fun W hW => (HVL.out W hW).weak (fun _ _ => trivial) false id _ (Nat.le_refl _)
 have HV : Hid (∀ W, Below w.heap.size w W -> Base.In false (fun b => b < W.heap.size) W (m + 1) (.agg #[.int .i64 5, .bool false, .int .i64 0, .string nl, ns, .slice va vs.length vcap]) (lV vs)) := fun W hW => v_in (HVL.out W hW)
 have cA := awake_c w ht
 have cN : ∀ (x : Int) (W : World), Calls prog 12 #[.int .i64 x] W fun e w' => e = .returned (.int .i64 x) /\ W = w' := numE_c
 obtain ⟨z, hz⟩ : ∃ z, vch (lV vs) = z := ⟨_, rfl⟩
 have HZ := hid hz
 clear ht hT hin hz
 go_enter func5, ntmps5
 go_wp2_with fail
 refine cA.mono ?_
 rintro e W1 ⟨rfl, b1⟩
 obtain ⟨W2, hW2⟩ : ∃ W, W1.alloc (.cells #[.int .i64 5, .bool false, .int .i64 0, .string nl, ns, .slice va vs.length vcap] 26) = W := ⟨_, rfl⟩
 obtain ⟨b2, g2, -, s2⟩ := al_next hW2 b1
 have HB2 := hid b2
 have HG : Hid (∀ W, Below W2.heap.size W2 W -> W.heap[W1.heap.size]? = some (.cells #[.int .i64 5, .bool false, .int .i64 0, .string nl, ns, .slice va vs.length vcap] 26 (0, 0))) := fun W hW => (hW.block _ (by omega)).trans g2
 have cC : Calls prog 11 #[.agg #[.int .i64 5, .bool false, .int .i64 0, .string nl, ns, .slice va vs.length vcap]] W2 fun e w' => e = .returned (.int .i64 z) /\ Below W2.heap.size W2 w' := by
  rw [<- HZ.out]
  exact GMw.check_all ((HV.out W2 b2).weak (fun _ _ => trivial) false id _ (Nat.le_refl _))
 obtain ⟨x0, x1, x2, x3, x4, x5⟩ := Base.six_box g2
 clear cA b1 b2 g2
 go_wp2_with fail
 try rw [hW2]
 refine cC.mono ?_
 rintro e W3 ⟨rfl, b3⟩
 have H23 := hid b3
 have HB3 := hid (HB2.out.trans (b3.mono HB2.out.size))
 have cS := GDe.shallows_c (HVA.out W3 HB3.out)
 clear cC b3 x0 x1 x2 x3 x4 x5 hW2
 by_cases hd : depL vs <= 4096
 case neg =>
  rw [decide_eq_false hd] at cS
  go_wp2_with fail
  refine cS.mono ?_
  rintro e W4 ⟨rfl, b4⟩
  have HB4 := hid (HB3.out.trans (b4.mono HB3.out.size))
  clear b4 cS
  go_wp2_with fail
  go_ret
  exact ⟨rfl, HB4.out⟩
 rw [decide_eq_true hd] at cS
 clear hd
 go_wp2_with fail
 refine cS.mono ?_
 rintro e W4 ⟨rfl, b4⟩
 have HB4 := hid (HB3.out.trans (b4.mono HB3.out.size))
 have H24 := hid (H23.out.trans (b4.mono H23.out.size))
 clear b4 cS
 go_wp2_with fail
 refine (cN _ _).mono ?_
 rintro e w9 ⟨rfl, h9⟩
 obtain rfl := h9
 by_cases h0 : z = 0
 case neg =>
  have hz0 : (z == 0) = false := by simpa using h0
  go_wp2_with fail
  go_ret
  exact ⟨rfl, HB4.out⟩
 subst h0
 by_cases hlen : 1000 < vs.length
 ·have hdl : decide ((1000 : Int) < (vs.length : Int)) = true := by simp; omega
  go_wp2_with fail
  go_ret
  exact ⟨rfl, HB4.out⟩
 have hdl : decide ((1000 : Int) < (vs.length : Int)) = false := by simp; omega
 have cX := text_c 2 W4
 go_wp2_with fail
 refine cX.mono ?_
 rintro e W5 ⟨gt, rfl, b5, hgt, ht5⟩
 have HB5 := hid (HB4.out.trans (b5.mono HB4.out.size))
 have H25 := hid (H24.out.trans (b5.mono H24.out.size))
 obtain ⟨W6, hW6⟩ : ∃ W, W5.alloc (.cells (tV gt) 45) = W := ⟨_, rfl⟩
 obtain ⟨W7, hW7⟩ : ∃ W, W6.alloc (.cells (eV ⟨#[105]⟩ W5.heap.size) 45) = W := ⟨_, rfl⟩
 obtain ⟨b6, g6, k6, s6⟩ := al_next hW6 HB5.out
 obtain ⟨b7, g7, k7, s7⟩ := al_next hW7 b6
 have ht7 := k7 _ _ (k6 _ _ ht5)
 have g67 := k7 _ _ g6
 have HB7 := hid b7
 have H27 : Hid (Below W2.heap.size W2 W7) := by
  obtain ⟨y6, -, -, -⟩ := al_next hW6 H25.out
  exact (al_next hW7 y6).1
 obtain ⟨gi, hgi⟩ : ∃ g, W5.heap.size = g := ⟨_, rfl⟩
 have HT7 := hid ht7
 rw [hgi] at g67 g7
 have HG7 := hid g67
 obtain ⟨gb, hgb⟩ : ∃ g, W6.heap.size = g := ⟨_, rfl⟩
 rw [hgb] at g7
 have hgb0 : gi ≠ gb := by have := (Array.getElem?_eq_some_iff.1 g6).1; omega
 have HI7 := hid g7
 have hgt7 := (Array.getElem?_eq_some_iff.1 ht7).1
 obtain ⟨y0, y1, y2, y3, y4, y5, y6⟩ := GSz.seven_b HI7.out
 clear cX b5 ht5 b6 g6 k6 b7 g7 k7 ht7 g67
 go_upto_region 8 with fail
 try rw [hW6]
 try rw [hgi]
 rw [hgi] at hW7
 try rw [hW7]
 try rw [hgb]
 go_cut [6] from 38 to 44 (fun p wc => ∃ BB, p = ptr BB /\ Made W7 2 gi BB wc)
 case first =>
  rename_i JJ KK hJJ hKK
  obtain ⟨U0, hD⟩ : ∃ D, W7.drew = D := ⟨_, rfl⟩
  have b0 : Below W7.heap.size W7 U0 := by rw [<- hD]; exact (Below.refl _ W7).drew
  have HSD : Hid (U0.heap.size = W7.heap.size) := by rw [<- hD]; rfl
  have hgs := (Array.getElem?_eq_some_iff.1 HI7.out).1
  have gI := (b0.block (gb) hgs).trans HI7.out
  have hs0 := b0.size
  refine wp_region_held_drew (S := fun w' => w'.cell? ⟨gb, 0, none⟩ = some (.int .i64 2) /\ w'.cell? ⟨gb, 1, none⟩ = some (.string ⟨#[105]⟩) /\ w'.cell? ⟨gb, 2, none⟩ = some ns /\ w'.cell? ⟨gb, 3, none⟩ = some ns /\ w'.cell? ⟨gb, 4, none⟩ = some ns /\ w'.cell? ⟨gb, 5, none⟩ = some (row1 gi) /\ w'.cell? ⟨gb, 6, none⟩ = some ns) (by kernel_rfl) (by exact ⟨y0, y1, y2, y3, y4, y5, y6⟩) (fun hHeld => ?_)
  refine tkH 1 rfl ?_; try simp only [ptH]
  refine tkH 3 rfl ?_; try simp only [ptH]
  refine rdH [0, 4, 6] ?_
  refine AllReadyH.cons rfl (fun K0 hK => ?_) (AllReadyH.cons rfl (fun K0 hK => ?_) (AllReadyH.cons rfl (fun K0 hK => ?_) (AllReadyH.nil)))
  ·go_simp
   try rw [hD]
   try rw [<- HSD.out]
   refine (zero_c U0).mono ?_
   rintro ee U1 ⟨rfl, bz⟩
   obtain ⟨b1, k1, s1⟩ := be_next bz b0
   clear bz
   have gI := k1 _ _ gI
   obtain ⟨y0, y1, y2, y3, y4, y5, y6⟩ := GSz.seven_b gI
   refine hK.out _ _ (by exact ⟨y0, y1, y2, y3, y4, y5, y6⟩) (fun hHeld => ?_)
   clear hK K0
   try simp only [ptH]
   refine rdH [2, 4, 6] ?_
   refine AllReadyH.cons rfl (fun K0 hK => ?_) (AllReadyH.cons rfl (fun K0 hK => ?_) (AllReadyH.cons rfl (fun K0 hK => ?_) (AllReadyH.nil)))
   ·go_simp
    try rw [hD]
    try rw [<- HSD.out]
    obtain ⟨U2, hU2⟩ : ∃ U, U1.alloc (.cells (xV 2) 47) = U := ⟨_, rfl⟩
    try rw [hU2]
    obtain ⟨b2, gX, k2, s2⟩ := al_next hU2 b1
    clear hU2
    have gI := k2 _ _ gI
    obtain ⟨y0, y1, y2, y3, y4, y5, y6⟩ := GSz.seven_b gI
    refine hK.out _ _ (by exact ⟨y0, y1, y2, y3, y4, y5, y6⟩) (fun hHeld => ?_)
    clear hK K0
    try simp only [ptH]
    refine rdH [4, 6] ?_
    refine AllReadyH.cons rfl (fun K0 hK => ?_) (AllReadyH.cons rfl (fun K0 hK => ?_) (AllReadyH.nil))
    ·go_simp
     try rw [hD]
     try rw [<- HSD.out]
     obtain ⟨U3, hU3⟩ : ∃ U, U2.alloc (.cells (eV ⟨#[105]⟩ gi) 45) = U := ⟨_, rfl⟩
     try rw [hU3]
     obtain ⟨b3, gK, k3, s3⟩ := al_next hU3 b2
     clear hU3
     have gX := k3 _ _ gX
     have gI := k3 _ _ gI
     obtain ⟨y0, y1, y2, y3, y4, y5, y6⟩ := GSz.seven_b gI
     refine hK.out _ _ (by exact ⟨y0, y1, y2, y3, y4, y5, y6⟩) (fun hHeld => ?_)
     clear hK K0
     try simp only [ptH]
     refine tkH 5 rfl ?_; try simp only [ptH]
     refine rdH [6] ?_
     refine alH rfl fun K0 hK => ?_
     go_simp
     try rw [hD]
     try rw [<- HSD.out]
     obtain ⟨U4, hU4⟩ : ∃ U, U3.alloc (.cells zA 45) = U := ⟨_, rfl⟩
     try rw [hU4]
     obtain ⟨b4, gB, k4, s4⟩ := al_next hU4 b3
     clear hU4
     have gX := k4 _ _ gX
     have gK := k4 _ _ gK
     have gI := k4 _ _ gI
     obtain ⟨y0, y1, y2, y3, y4, y5, y6⟩ := GSz.seven_b gI
     refine hK.out _ _ (by exact ⟨y0, y1, y2, y3, y4, y5, y6⟩) (fun hHeld => ?_)
     clear hK K0
     try simp only [ptH]
     obtain ⟨BB, hBB⟩ : ∃ BB, U3.heap.size = BB := ⟨_, rfl⟩
     obtain ⟨gx, hgx⟩ : ∃ g, U1.heap.size = g := ⟨_, rfl⟩
     obtain ⟨gk, hgk⟩ : ∃ g, U2.heap.size = g := ⟨_, rfl⟩
     rw [hBB] at gB
     rw [hgx] at gX
     rw [hgk] at gK
     try rw [hBB]
     try rw [hgx]
     try rw [hgk]
     obtain ⟨z0, z1, z2, z3, z4, z5, z6⟩ := GSz.seven_b gB
     obtain ⟨f0, f1, f2, f3, f4, f5, f6⟩ := Base.frz7 gB
     obtain ⟨Uf, hUf⟩ := stc7 U4 BB (.int .i64 4) (.string nl) ns ns (.slice (some ⟨gx, 0, none⟩) 2 2) (row1 gk) ns
     obtain ⟨e1, e2, e3⟩ := set7 gB hUf
     have hb0 := b0.size
     have hb4 := b4.size
     have HL := hid (made_of b4 e1 e2 e3 gX gK (by omega) (by omega) (by omega) (by omega) (by omega))
     have gI := (e3 (gb) (by omega)).trans gI
     obtain ⟨y0, y1, y2, y3, y4, y5, y6⟩ := GSz.seven_b gI
     clear e1 e2 e3 gB gX gK
     refine rdH [7] ?_
     refine alH rfl fun K0 hK => ?_
     go_wp2_with fail
     try rw [hUf]
     refine hK.out _ _ (by exact ⟨y0, y1, y2, y3, y4, y5, y6⟩) (fun hHeld => ?_)
     clear hK K0
     try simp only [ptH]
     refine dnH ?_
     go_wp2_with fail
     exact Met.intro (hJJ _ _ ⟨_, _, _, _, _, _, _, _, ⟨_, rfl, HL.out⟩, rfl⟩)
    ·go_simp
     try rw [hD]
     try rw [<- HSD.out]
     obtain ⟨U3, hU3⟩ : ∃ U, U2.alloc (.cells zA 45) = U := ⟨_, rfl⟩
     try rw [hU3]
     obtain ⟨b3, gB, k3, s3⟩ := al_next hU3 b2
     clear hU3
     have gX := k3 _ _ gX
     have gI := k3 _ _ gI
     obtain ⟨y0, y1, y2, y3, y4, y5, y6⟩ := GSz.seven_b gI
     refine hK.out _ _ (by exact ⟨y0, y1, y2, y3, y4, y5, y6⟩) (fun hHeld => ?_)
     clear hK K0
     try simp only [ptH]
     refine rdH [4] ?_
     refine alH rfl fun K0 hK => ?_
     go_simp
     try rw [hD]
     try rw [<- HSD.out]
     obtain ⟨U4, hU4⟩ : ∃ U, U3.alloc (.cells (eV ⟨#[105]⟩ gi) 45) = U := ⟨_, rfl⟩
     try rw [hU4]
     obtain ⟨b4, gK, k4, s4⟩ := al_next hU4 b3
     clear hU4
     have gX := k4 _ _ gX
     have gB := k4 _ _ gB
     have gI := k4 _ _ gI
     obtain ⟨y0, y1, y2, y3, y4, y5, y6⟩ := GSz.seven_b gI
     refine hK.out _ _ (by exact ⟨y0, y1, y2, y3, y4, y5, y6⟩) (fun hHeld => ?_)
     clear hK K0
     try simp only [ptH]
     refine tkH 5 rfl ?_; try simp only [ptH]
     obtain ⟨BB, hBB⟩ : ∃ BB, U2.heap.size = BB := ⟨_, rfl⟩
     obtain ⟨gx, hgx⟩ : ∃ g, U1.heap.size = g := ⟨_, rfl⟩
     obtain ⟨gk, hgk⟩ : ∃ g, U3.heap.size = g := ⟨_, rfl⟩
     rw [hBB] at gB
     rw [hgx] at gX
     rw [hgk] at gK
     try rw [hBB]
     try rw [hgx]
     try rw [hgk]
     obtain ⟨z0, z1, z2, z3, z4, z5, z6⟩ := GSz.seven_b gB
     obtain ⟨f0, f1, f2, f3, f4, f5, f6⟩ := Base.frz7 gB
     obtain ⟨Uf, hUf⟩ := stc7 U4 BB (.int .i64 4) (.string nl) ns ns (.slice (some ⟨gx, 0, none⟩) 2 2) (row1 gk) ns
     obtain ⟨e1, e2, e3⟩ := set7 gB hUf
     have hb0 := b0.size
     have hb4 := b4.size
     have HL := hid (made_of b4 e1 e2 e3 gX gK (by omega) (by omega) (by omega) (by omega) (by omega))
     have gI := (e3 (gb) (by omega)).trans gI
     obtain ⟨y0, y1, y2, y3, y4, y5, y6⟩ := GSz.seven_b gI
     clear e1 e2 e3 gB gX gK
     refine rdH [7] ?_
     refine alH rfl fun K0 hK => ?_
     go_wp2_with fail
     try rw [hUf]
     refine hK.out _ _ (by exact ⟨y0, y1, y2, y3, y4, y5, y6⟩) (fun hHeld => ?_)
     clear hK K0
     try simp only [ptH]
     refine dnH ?_
     go_wp2_with fail
     exact Met.intro (hJJ _ _ ⟨_, _, _, _, _, _, _, _, ⟨_, rfl, HL.out⟩, rfl⟩)
   ·go_simp
    try rw [hD]
    try rw [<- HSD.out]
    obtain ⟨U2, hU2⟩ : ∃ U, U1.alloc (.cells (eV ⟨#[105]⟩ gi) 45) = U := ⟨_, rfl⟩
    try rw [hU2]
    obtain ⟨b2, gK, k2, s2⟩ := al_next hU2 b1
    clear hU2
    have gI := k2 _ _ gI
    obtain ⟨y0, y1, y2, y3, y4, y5, y6⟩ := GSz.seven_b gI
    refine hK.out _ _ (by exact ⟨y0, y1, y2, y3, y4, y5, y6⟩) (fun hHeld => ?_)
    clear hK K0
    try simp only [ptH]
    refine rdH [2, 6] ?_
    refine AllReadyH.cons rfl (fun K0 hK => ?_) (AllReadyH.cons rfl (fun K0 hK => ?_) (AllReadyH.nil))
    ·go_simp
     try rw [hD]
     try rw [<- HSD.out]
     obtain ⟨U3, hU3⟩ : ∃ U, U2.alloc (.cells (xV 2) 47) = U := ⟨_, rfl⟩
     try rw [hU3]
     obtain ⟨b3, gX, k3, s3⟩ := al_next hU3 b2
     clear hU3
     have gK := k3 _ _ gK
     have gI := k3 _ _ gI
     obtain ⟨y0, y1, y2, y3, y4, y5, y6⟩ := GSz.seven_b gI
     refine hK.out _ _ (by exact ⟨y0, y1, y2, y3, y4, y5, y6⟩) (fun hHeld => ?_)
     clear hK K0
     try simp only [ptH]
     refine tkH 5 rfl ?_; try simp only [ptH]
     refine rdH [6] ?_
     refine alH rfl fun K0 hK => ?_
     go_simp
     try rw [hD]
     try rw [<- HSD.out]
     obtain ⟨U4, hU4⟩ : ∃ U, U3.alloc (.cells zA 45) = U := ⟨_, rfl⟩
     try rw [hU4]
     obtain ⟨b4, gB, k4, s4⟩ := al_next hU4 b3
     clear hU4
     have gK := k4 _ _ gK
     have gX := k4 _ _ gX
     have gI := k4 _ _ gI
     obtain ⟨y0, y1, y2, y3, y4, y5, y6⟩ := GSz.seven_b gI
     refine hK.out _ _ (by exact ⟨y0, y1, y2, y3, y4, y5, y6⟩) (fun hHeld => ?_)
     clear hK K0
     try simp only [ptH]
     obtain ⟨BB, hBB⟩ : ∃ BB, U3.heap.size = BB := ⟨_, rfl⟩
     obtain ⟨gx, hgx⟩ : ∃ g, U2.heap.size = g := ⟨_, rfl⟩
     obtain ⟨gk, hgk⟩ : ∃ g, U1.heap.size = g := ⟨_, rfl⟩
     rw [hBB] at gB
     rw [hgx] at gX
     rw [hgk] at gK
     try rw [hBB]
     try rw [hgx]
     try rw [hgk]
     obtain ⟨z0, z1, z2, z3, z4, z5, z6⟩ := GSz.seven_b gB
     obtain ⟨f0, f1, f2, f3, f4, f5, f6⟩ := Base.frz7 gB
     obtain ⟨Uf, hUf⟩ := stc7 U4 BB (.int .i64 4) (.string nl) ns ns (.slice (some ⟨gx, 0, none⟩) 2 2) (row1 gk) ns
     obtain ⟨e1, e2, e3⟩ := set7 gB hUf
     have hb0 := b0.size
     have hb4 := b4.size
     have HL := hid (made_of b4 e1 e2 e3 gX gK (by omega) (by omega) (by omega) (by omega) (by omega))
     have gI := (e3 (gb) (by omega)).trans gI
     obtain ⟨y0, y1, y2, y3, y4, y5, y6⟩ := GSz.seven_b gI
     clear e1 e2 e3 gB gX gK
     refine rdH [7] ?_
     refine alH rfl fun K0 hK => ?_
     go_wp2_with fail
     try rw [hUf]
     refine hK.out _ _ (by exact ⟨y0, y1, y2, y3, y4, y5, y6⟩) (fun hHeld => ?_)
     clear hK K0
     try simp only [ptH]
     refine dnH ?_
     go_wp2_with fail
     exact Met.intro (hJJ _ _ ⟨_, _, _, _, _, _, _, _, ⟨_, rfl, HL.out⟩, rfl⟩)
    ·go_simp
     try rw [hD]
     try rw [<- HSD.out]
     obtain ⟨U3, hU3⟩ : ∃ U, U2.alloc (.cells zA 45) = U := ⟨_, rfl⟩
     try rw [hU3]
     obtain ⟨b3, gB, k3, s3⟩ := al_next hU3 b2
     clear hU3
     have gK := k3 _ _ gK
     have gI := k3 _ _ gI
     obtain ⟨y0, y1, y2, y3, y4, y5, y6⟩ := GSz.seven_b gI
     refine hK.out _ _ (by exact ⟨y0, y1, y2, y3, y4, y5, y6⟩) (fun hHeld => ?_)
     clear hK K0
     try simp only [ptH]
     refine rdH [2] ?_
     refine alH rfl fun K0 hK => ?_
     go_simp
     try rw [hD]
     try rw [<- HSD.out]
     obtain ⟨U4, hU4⟩ : ∃ U, U3.alloc (.cells (xV 2) 47) = U := ⟨_, rfl⟩
     try rw [hU4]
     obtain ⟨b4, gX, k4, s4⟩ := al_next hU4 b3
     clear hU4
     have gK := k4 _ _ gK
     have gB := k4 _ _ gB
     have gI := k4 _ _ gI
     obtain ⟨y0, y1, y2, y3, y4, y5, y6⟩ := GSz.seven_b gI
     refine hK.out _ _ (by exact ⟨y0, y1, y2, y3, y4, y5, y6⟩) (fun hHeld => ?_)
     clear hK K0
     try simp only [ptH]
     refine tkH 5 rfl ?_; try simp only [ptH]
     obtain ⟨BB, hBB⟩ : ∃ BB, U2.heap.size = BB := ⟨_, rfl⟩
     obtain ⟨gx, hgx⟩ : ∃ g, U3.heap.size = g := ⟨_, rfl⟩
     obtain ⟨gk, hgk⟩ : ∃ g, U1.heap.size = g := ⟨_, rfl⟩
     rw [hBB] at gB
     rw [hgx] at gX
     rw [hgk] at gK
     try rw [hBB]
     try rw [hgx]
     try rw [hgk]
     obtain ⟨z0, z1, z2, z3, z4, z5, z6⟩ := GSz.seven_b gB
     obtain ⟨f0, f1, f2, f3, f4, f5, f6⟩ := Base.frz7 gB
     obtain ⟨Uf, hUf⟩ := stc7 U4 BB (.int .i64 4) (.string nl) ns ns (.slice (some ⟨gx, 0, none⟩) 2 2) (row1 gk) ns
     obtain ⟨e1, e2, e3⟩ := set7 gB hUf
     have hb0 := b0.size
     have hb4 := b4.size
     have HL := hid (made_of b4 e1 e2 e3 gX gK (by omega) (by omega) (by omega) (by omega) (by omega))
     have gI := (e3 (gb) (by omega)).trans gI
     obtain ⟨y0, y1, y2, y3, y4, y5, y6⟩ := GSz.seven_b gI
     clear e1 e2 e3 gB gX gK
     refine rdH [7] ?_
     refine alH rfl fun K0 hK => ?_
     go_wp2_with fail
     try rw [hUf]
     refine hK.out _ _ (by exact ⟨y0, y1, y2, y3, y4, y5, y6⟩) (fun hHeld => ?_)
     clear hK K0
     try simp only [ptH]
     refine dnH ?_
     go_wp2_with fail
     exact Met.intro (hJJ _ _ ⟨_, _, _, _, _, _, _, _, ⟨_, rfl, HL.out⟩, rfl⟩)
   ·go_simp
    try rw [hD]
    try rw [<- HSD.out]
    obtain ⟨U2, hU2⟩ : ∃ U, U1.alloc (.cells zA 45) = U := ⟨_, rfl⟩
    try rw [hU2]
    obtain ⟨b2, gB, k2, s2⟩ := al_next hU2 b1
    clear hU2
    have gI := k2 _ _ gI
    obtain ⟨y0, y1, y2, y3, y4, y5, y6⟩ := GSz.seven_b gI
    refine hK.out _ _ (by exact ⟨y0, y1, y2, y3, y4, y5, y6⟩) (fun hHeld => ?_)
    clear hK K0
    try simp only [ptH]
    refine rdH [2, 4] ?_
    refine AllReadyH.cons rfl (fun K0 hK => ?_) (AllReadyH.cons rfl (fun K0 hK => ?_) (AllReadyH.nil))
    ·go_simp
     try rw [hD]
     try rw [<- HSD.out]
     obtain ⟨U3, hU3⟩ : ∃ U, U2.alloc (.cells (xV 2) 47) = U := ⟨_, rfl⟩
     try rw [hU3]
     obtain ⟨b3, gX, k3, s3⟩ := al_next hU3 b2
     clear hU3
     have gB := k3 _ _ gB
     have gI := k3 _ _ gI
     obtain ⟨y0, y1, y2, y3, y4, y5, y6⟩ := GSz.seven_b gI
     refine hK.out _ _ (by exact ⟨y0, y1, y2, y3, y4, y5, y6⟩) (fun hHeld => ?_)
     clear hK K0
     try simp only [ptH]
     refine rdH [4] ?_
     refine alH rfl fun K0 hK => ?_
     go_simp
     try rw [hD]
     try rw [<- HSD.out]
     obtain ⟨U4, hU4⟩ : ∃ U, U3.alloc (.cells (eV ⟨#[105]⟩ gi) 45) = U := ⟨_, rfl⟩
     try rw [hU4]
     obtain ⟨b4, gK, k4, s4⟩ := al_next hU4 b3
     clear hU4
     have gB := k4 _ _ gB
     have gX := k4 _ _ gX
     have gI := k4 _ _ gI
     obtain ⟨y0, y1, y2, y3, y4, y5, y6⟩ := GSz.seven_b gI
     refine hK.out _ _ (by exact ⟨y0, y1, y2, y3, y4, y5, y6⟩) (fun hHeld => ?_)
     clear hK K0
     try simp only [ptH]
     refine tkH 5 rfl ?_; try simp only [ptH]
     obtain ⟨BB, hBB⟩ : ∃ BB, U1.heap.size = BB := ⟨_, rfl⟩
     obtain ⟨gx, hgx⟩ : ∃ g, U2.heap.size = g := ⟨_, rfl⟩
     obtain ⟨gk, hgk⟩ : ∃ g, U3.heap.size = g := ⟨_, rfl⟩
     rw [hBB] at gB
     rw [hgx] at gX
     rw [hgk] at gK
     try rw [hBB]
     try rw [hgx]
     try rw [hgk]
     obtain ⟨z0, z1, z2, z3, z4, z5, z6⟩ := GSz.seven_b gB
     obtain ⟨f0, f1, f2, f3, f4, f5, f6⟩ := Base.frz7 gB
     obtain ⟨Uf, hUf⟩ := stc7 U4 BB (.int .i64 4) (.string nl) ns ns (.slice (some ⟨gx, 0, none⟩) 2 2) (row1 gk) ns
     obtain ⟨e1, e2, e3⟩ := set7 gB hUf
     have hb0 := b0.size
     have hb4 := b4.size
     have HL := hid (made_of b4 e1 e2 e3 gX gK (by omega) (by omega) (by omega) (by omega) (by omega))
     have gI := (e3 (gb) (by omega)).trans gI
     obtain ⟨y0, y1, y2, y3, y4, y5, y6⟩ := GSz.seven_b gI
     clear e1 e2 e3 gB gX gK
     refine rdH [7] ?_
     refine alH rfl fun K0 hK => ?_
     go_wp2_with fail
     try rw [hUf]
     refine hK.out _ _ (by exact ⟨y0, y1, y2, y3, y4, y5, y6⟩) (fun hHeld => ?_)
     clear hK K0
     try simp only [ptH]
     refine dnH ?_
     go_wp2_with fail
     exact Met.intro (hJJ _ _ ⟨_, _, _, _, _, _, _, _, ⟨_, rfl, HL.out⟩, rfl⟩)
    ·go_simp
     try rw [hD]
     try rw [<- HSD.out]
     obtain ⟨U3, hU3⟩ : ∃ U, U2.alloc (.cells (eV ⟨#[105]⟩ gi) 45) = U := ⟨_, rfl⟩
     try rw [hU3]
     obtain ⟨b3, gK, k3, s3⟩ := al_next hU3 b2
     clear hU3
     have gB := k3 _ _ gB
     have gI := k3 _ _ gI
     obtain ⟨y0, y1, y2, y3, y4, y5, y6⟩ := GSz.seven_b gI
     refine hK.out _ _ (by exact ⟨y0, y1, y2, y3, y4, y5, y6⟩) (fun hHeld => ?_)
     clear hK K0
     try simp only [ptH]
     refine rdH [2] ?_
     refine alH rfl fun K0 hK => ?_
     go_simp
     try rw [hD]
     try rw [<- HSD.out]
     obtain ⟨U4, hU4⟩ : ∃ U, U3.alloc (.cells (xV 2) 47) = U := ⟨_, rfl⟩
     try rw [hU4]
     obtain ⟨b4, gX, k4, s4⟩ := al_next hU4 b3
     clear hU4
     have gB := k4 _ _ gB
     have gK := k4 _ _ gK
     have gI := k4 _ _ gI
     obtain ⟨y0, y1, y2, y3, y4, y5, y6⟩ := GSz.seven_b gI
     refine hK.out _ _ (by exact ⟨y0, y1, y2, y3, y4, y5, y6⟩) (fun hHeld => ?_)
     clear hK K0
     try simp only [ptH]
     refine tkH 5 rfl ?_; try simp only [ptH]
     obtain ⟨BB, hBB⟩ : ∃ BB, U1.heap.size = BB := ⟨_, rfl⟩
     obtain ⟨gx, hgx⟩ : ∃ g, U3.heap.size = g := ⟨_, rfl⟩
     obtain ⟨gk, hgk⟩ : ∃ g, U2.heap.size = g := ⟨_, rfl⟩
     rw [hBB] at gB
     rw [hgx] at gX
     rw [hgk] at gK
     try rw [hBB]
     try rw [hgx]
     try rw [hgk]
     obtain ⟨z0, z1, z2, z3, z4, z5, z6⟩ := GSz.seven_b gB
     obtain ⟨f0, f1, f2, f3, f4, f5, f6⟩ := Base.frz7 gB
     obtain ⟨Uf, hUf⟩ := stc7 U4 BB (.int .i64 4) (.string nl) ns ns (.slice (some ⟨gx, 0, none⟩) 2 2) (row1 gk) ns
     obtain ⟨e1, e2, e3⟩ := set7 gB hUf
     have hb0 := b0.size
     have hb4 := b4.size
     have HL := hid (made_of b4 e1 e2 e3 gX gK (by omega) (by omega) (by omega) (by omega) (by omega))
     have gI := (e3 (gb) (by omega)).trans gI
     obtain ⟨y0, y1, y2, y3, y4, y5, y6⟩ := GSz.seven_b gI
     clear e1 e2 e3 gB gX gK
     refine rdH [7] ?_
     refine alH rfl fun K0 hK => ?_
     go_wp2_with fail
     try rw [hUf]
     refine hK.out _ _ (by exact ⟨y0, y1, y2, y3, y4, y5, y6⟩) (fun hHeld => ?_)
     clear hK K0
     try simp only [ptH]
     refine dnH ?_
     go_wp2_with fail
     exact Met.intro (hJJ _ _ ⟨_, _, _, _, _, _, _, _, ⟨_, rfl, HL.out⟩, rfl⟩)
  ·go_simp
   try rw [hD]
   try rw [<- HSD.out]
   obtain ⟨U1, hU1⟩ : ∃ U, U0.alloc (.cells (eV ⟨#[105]⟩ gi) 45) = U := ⟨_, rfl⟩
   try rw [hU1]
   obtain ⟨b1, gK, k1, s1⟩ := al_next hU1 b0
   clear hU1
   have gI := k1 _ _ gI
   obtain ⟨y0, y1, y2, y3, y4, y5, y6⟩ := GSz.seven_b gI
   refine hK.out _ _ (by exact ⟨y0, y1, y2, y3, y4, y5, y6⟩) (fun hHeld => ?_)
   clear hK K0
   try simp only [ptH]
   refine rdH [0, 6] ?_
   refine AllReadyH.cons rfl (fun K0 hK => ?_) (AllReadyH.cons rfl (fun K0 hK => ?_) (AllReadyH.nil))
   ·go_simp
    try rw [hD]
    try rw [<- HSD.out]
    refine (zero_c U1).mono ?_
    rintro ee U2 ⟨rfl, bz⟩
    obtain ⟨b2, k2, s2⟩ := be_next bz b1
    clear bz
    have gK := k2 _ _ gK
    have gI := k2 _ _ gI
    obtain ⟨y0, y1, y2, y3, y4, y5, y6⟩ := GSz.seven_b gI
    refine hK.out _ _ (by exact ⟨y0, y1, y2, y3, y4, y5, y6⟩) (fun hHeld => ?_)
    clear hK K0
    try simp only [ptH]
    refine rdH [2, 6] ?_
    refine AllReadyH.cons rfl (fun K0 hK => ?_) (AllReadyH.cons rfl (fun K0 hK => ?_) (AllReadyH.nil))
    ·go_simp
     try rw [hD]
     try rw [<- HSD.out]
     obtain ⟨U3, hU3⟩ : ∃ U, U2.alloc (.cells (xV 2) 47) = U := ⟨_, rfl⟩
     try rw [hU3]
     obtain ⟨b3, gX, k3, s3⟩ := al_next hU3 b2
     clear hU3
     have gK := k3 _ _ gK
     have gI := k3 _ _ gI
     obtain ⟨y0, y1, y2, y3, y4, y5, y6⟩ := GSz.seven_b gI
     refine hK.out _ _ (by exact ⟨y0, y1, y2, y3, y4, y5, y6⟩) (fun hHeld => ?_)
     clear hK K0
     try simp only [ptH]
     refine tkH 5 rfl ?_; try simp only [ptH]
     refine rdH [6] ?_
     refine alH rfl fun K0 hK => ?_
     go_simp
     try rw [hD]
     try rw [<- HSD.out]
     obtain ⟨U4, hU4⟩ : ∃ U, U3.alloc (.cells zA 45) = U := ⟨_, rfl⟩
     try rw [hU4]
     obtain ⟨b4, gB, k4, s4⟩ := al_next hU4 b3
     clear hU4
     have gK := k4 _ _ gK
     have gX := k4 _ _ gX
     have gI := k4 _ _ gI
     obtain ⟨y0, y1, y2, y3, y4, y5, y6⟩ := GSz.seven_b gI
     refine hK.out _ _ (by exact ⟨y0, y1, y2, y3, y4, y5, y6⟩) (fun hHeld => ?_)
     clear hK K0
     try simp only [ptH]
     obtain ⟨BB, hBB⟩ : ∃ BB, U3.heap.size = BB := ⟨_, rfl⟩
     obtain ⟨gx, hgx⟩ : ∃ g, U2.heap.size = g := ⟨_, rfl⟩
     obtain ⟨gk, hgk⟩ : ∃ g, U0.heap.size = g := ⟨_, rfl⟩
     rw [hBB] at gB
     rw [hgx] at gX
     rw [hgk] at gK
     try rw [hBB]
     try rw [hgx]
     try rw [hgk]
     obtain ⟨z0, z1, z2, z3, z4, z5, z6⟩ := GSz.seven_b gB
     obtain ⟨f0, f1, f2, f3, f4, f5, f6⟩ := Base.frz7 gB
     obtain ⟨Uf, hUf⟩ := stc7 U4 BB (.int .i64 4) (.string nl) ns ns (.slice (some ⟨gx, 0, none⟩) 2 2) (row1 gk) ns
     obtain ⟨e1, e2, e3⟩ := set7 gB hUf
     have hb0 := b0.size
     have hb4 := b4.size
     have HL := hid (made_of b4 e1 e2 e3 gX gK (by omega) (by omega) (by omega) (by omega) (by omega))
     have gI := (e3 (gb) (by omega)).trans gI
     obtain ⟨y0, y1, y2, y3, y4, y5, y6⟩ := GSz.seven_b gI
     clear e1 e2 e3 gB gX gK
     refine rdH [7] ?_
     refine alH rfl fun K0 hK => ?_
     go_wp2_with fail
     try rw [hUf]
     refine hK.out _ _ (by exact ⟨y0, y1, y2, y3, y4, y5, y6⟩) (fun hHeld => ?_)
     clear hK K0
     try simp only [ptH]
     refine dnH ?_
     go_wp2_with fail
     exact Met.intro (hJJ _ _ ⟨_, _, _, _, _, _, _, _, ⟨_, rfl, HL.out⟩, rfl⟩)
    ·go_simp
     try rw [hD]
     try rw [<- HSD.out]
     obtain ⟨U3, hU3⟩ : ∃ U, U2.alloc (.cells zA 45) = U := ⟨_, rfl⟩
     try rw [hU3]
     obtain ⟨b3, gB, k3, s3⟩ := al_next hU3 b2
     clear hU3
     have gK := k3 _ _ gK
     have gI := k3 _ _ gI
     obtain ⟨y0, y1, y2, y3, y4, y5, y6⟩ := GSz.seven_b gI
     refine hK.out _ _ (by exact ⟨y0, y1, y2, y3, y4, y5, y6⟩) (fun hHeld => ?_)
     clear hK K0
     try simp only [ptH]
     refine rdH [2] ?_
     refine alH rfl fun K0 hK => ?_
     go_simp
     try rw [hD]
     try rw [<- HSD.out]
     obtain ⟨U4, hU4⟩ : ∃ U, U3.alloc (.cells (xV 2) 47) = U := ⟨_, rfl⟩
     try rw [hU4]
     obtain ⟨b4, gX, k4, s4⟩ := al_next hU4 b3
     clear hU4
     have gK := k4 _ _ gK
     have gB := k4 _ _ gB
     have gI := k4 _ _ gI
     obtain ⟨y0, y1, y2, y3, y4, y5, y6⟩ := GSz.seven_b gI
     refine hK.out _ _ (by exact ⟨y0, y1, y2, y3, y4, y5, y6⟩) (fun hHeld => ?_)
     clear hK K0
     try simp only [ptH]
     refine tkH 5 rfl ?_; try simp only [ptH]
     obtain ⟨BB, hBB⟩ : ∃ BB, U2.heap.size = BB := ⟨_, rfl⟩
     obtain ⟨gx, hgx⟩ : ∃ g, U3.heap.size = g := ⟨_, rfl⟩
     obtain ⟨gk, hgk⟩ : ∃ g, U0.heap.size = g := ⟨_, rfl⟩
     rw [hBB] at gB
     rw [hgx] at gX
     rw [hgk] at gK
     try rw [hBB]
     try rw [hgx]
     try rw [hgk]
     obtain ⟨z0, z1, z2, z3, z4, z5, z6⟩ := GSz.seven_b gB
     obtain ⟨f0, f1, f2, f3, f4, f5, f6⟩ := Base.frz7 gB
     obtain ⟨Uf, hUf⟩ := stc7 U4 BB (.int .i64 4) (.string nl) ns ns (.slice (some ⟨gx, 0, none⟩) 2 2) (row1 gk) ns
     obtain ⟨e1, e2, e3⟩ := set7 gB hUf
     have hb0 := b0.size
     have hb4 := b4.size
     have HL := hid (made_of b4 e1 e2 e3 gX gK (by omega) (by omega) (by omega) (by omega) (by omega))
     have gI := (e3 (gb) (by omega)).trans gI
     obtain ⟨y0, y1, y2, y3, y4, y5, y6⟩ := GSz.seven_b gI
     clear e1 e2 e3 gB gX gK
     refine rdH [7] ?_
     refine alH rfl fun K0 hK => ?_
     go_wp2_with fail
     try rw [hUf]
     refine hK.out _ _ (by exact ⟨y0, y1, y2, y3, y4, y5, y6⟩) (fun hHeld => ?_)
     clear hK K0
     try simp only [ptH]
     refine dnH ?_
     go_wp2_with fail
     exact Met.intro (hJJ _ _ ⟨_, _, _, _, _, _, _, _, ⟨_, rfl, HL.out⟩, rfl⟩)
   ·go_simp
    try rw [hD]
    try rw [<- HSD.out]
    obtain ⟨U2, hU2⟩ : ∃ U, U1.alloc (.cells zA 45) = U := ⟨_, rfl⟩
    try rw [hU2]
    obtain ⟨b2, gB, k2, s2⟩ := al_next hU2 b1
    clear hU2
    have gK := k2 _ _ gK
    have gI := k2 _ _ gI
    obtain ⟨y0, y1, y2, y3, y4, y5, y6⟩ := GSz.seven_b gI
    refine hK.out _ _ (by exact ⟨y0, y1, y2, y3, y4, y5, y6⟩) (fun hHeld => ?_)
    clear hK K0
    try simp only [ptH]
    refine rdH [0] ?_
    refine alH rfl fun K0 hK => ?_
    go_simp
    try rw [hD]
    try rw [<- HSD.out]
    refine (zero_c U2).mono ?_
    rintro ee U3 ⟨rfl, bz⟩
    obtain ⟨b3, k3, s3⟩ := be_next bz b2
    clear bz
    have gK := k3 _ _ gK
    have gB := k3 _ _ gB
    have gI := k3 _ _ gI
    obtain ⟨y0, y1, y2, y3, y4, y5, y6⟩ := GSz.seven_b gI
    refine hK.out _ _ (by exact ⟨y0, y1, y2, y3, y4, y5, y6⟩) (fun hHeld => ?_)
    clear hK K0
    try simp only [ptH]
    refine rdH [2] ?_
    refine alH rfl fun K0 hK => ?_
    go_simp
    try rw [hD]
    try rw [<- HSD.out]
    obtain ⟨U4, hU4⟩ : ∃ U, U3.alloc (.cells (xV 2) 47) = U := ⟨_, rfl⟩
    try rw [hU4]
    obtain ⟨b4, gX, k4, s4⟩ := al_next hU4 b3
    clear hU4
    have gK := k4 _ _ gK
    have gB := k4 _ _ gB
    have gI := k4 _ _ gI
    obtain ⟨y0, y1, y2, y3, y4, y5, y6⟩ := GSz.seven_b gI
    refine hK.out _ _ (by exact ⟨y0, y1, y2, y3, y4, y5, y6⟩) (fun hHeld => ?_)
    clear hK K0
    try simp only [ptH]
    refine tkH 5 rfl ?_; try simp only [ptH]
    obtain ⟨BB, hBB⟩ : ∃ BB, U1.heap.size = BB := ⟨_, rfl⟩
    obtain ⟨gx, hgx⟩ : ∃ g, U3.heap.size = g := ⟨_, rfl⟩
    obtain ⟨gk, hgk⟩ : ∃ g, U0.heap.size = g := ⟨_, rfl⟩
    rw [hBB] at gB
    rw [hgx] at gX
    rw [hgk] at gK
    try rw [hBB]
    try rw [hgx]
    try rw [hgk]
    obtain ⟨z0, z1, z2, z3, z4, z5, z6⟩ := GSz.seven_b gB
    obtain ⟨f0, f1, f2, f3, f4, f5, f6⟩ := Base.frz7 gB
    obtain ⟨Uf, hUf⟩ := stc7 U4 BB (.int .i64 4) (.string nl) ns ns (.slice (some ⟨gx, 0, none⟩) 2 2) (row1 gk) ns
    obtain ⟨e1, e2, e3⟩ := set7 gB hUf
    have hb0 := b0.size
    have hb4 := b4.size
    have HL := hid (made_of b4 e1 e2 e3 gX gK (by omega) (by omega) (by omega) (by omega) (by omega))
    have gI := (e3 (gb) (by omega)).trans gI
    obtain ⟨y0, y1, y2, y3, y4, y5, y6⟩ := GSz.seven_b gI
    clear e1 e2 e3 gB gX gK
    refine rdH [7] ?_
    refine alH rfl fun K0 hK => ?_
    go_wp2_with fail
    try rw [hUf]
    refine hK.out _ _ (by exact ⟨y0, y1, y2, y3, y4, y5, y6⟩) (fun hHeld => ?_)
    clear hK K0
    try simp only [ptH]
    refine dnH ?_
    go_wp2_with fail
    exact Met.intro (hJJ _ _ ⟨_, _, _, _, _, _, _, _, ⟨_, rfl, HL.out⟩, rfl⟩)
  ·go_simp
   try rw [hD]
   try rw [<- HSD.out]
   obtain ⟨U1, hU1⟩ : ∃ U, U0.alloc (.cells zA 45) = U := ⟨_, rfl⟩
   try rw [hU1]
   obtain ⟨b1, gB, k1, s1⟩ := al_next hU1 b0
   clear hU1
   have gI := k1 _ _ gI
   obtain ⟨y0, y1, y2, y3, y4, y5, y6⟩ := GSz.seven_b gI
   refine hK.out _ _ (by exact ⟨y0, y1, y2, y3, y4, y5, y6⟩) (fun hHeld => ?_)
   clear hK K0
   try simp only [ptH]
   refine rdH [0, 4] ?_
   refine AllReadyH.cons rfl (fun K0 hK => ?_) (AllReadyH.cons rfl (fun K0 hK => ?_) (AllReadyH.nil))
   ·go_simp
    try rw [hD]
    try rw [<- HSD.out]
    refine (zero_c U1).mono ?_
    rintro ee U2 ⟨rfl, bz⟩
    obtain ⟨b2, k2, s2⟩ := be_next bz b1
    clear bz
    have gB := k2 _ _ gB
    have gI := k2 _ _ gI
    obtain ⟨y0, y1, y2, y3, y4, y5, y6⟩ := GSz.seven_b gI
    refine hK.out _ _ (by exact ⟨y0, y1, y2, y3, y4, y5, y6⟩) (fun hHeld => ?_)
    clear hK K0
    try simp only [ptH]
    refine rdH [2, 4] ?_
    refine AllReadyH.cons rfl (fun K0 hK => ?_) (AllReadyH.cons rfl (fun K0 hK => ?_) (AllReadyH.nil))
    ·go_simp
     try rw [hD]
     try rw [<- HSD.out]
     obtain ⟨U3, hU3⟩ : ∃ U, U2.alloc (.cells (xV 2) 47) = U := ⟨_, rfl⟩
     try rw [hU3]
     obtain ⟨b3, gX, k3, s3⟩ := al_next hU3 b2
     clear hU3
     have gB := k3 _ _ gB
     have gI := k3 _ _ gI
     obtain ⟨y0, y1, y2, y3, y4, y5, y6⟩ := GSz.seven_b gI
     refine hK.out _ _ (by exact ⟨y0, y1, y2, y3, y4, y5, y6⟩) (fun hHeld => ?_)
     clear hK K0
     try simp only [ptH]
     refine rdH [4] ?_
     refine alH rfl fun K0 hK => ?_
     go_simp
     try rw [hD]
     try rw [<- HSD.out]
     obtain ⟨U4, hU4⟩ : ∃ U, U3.alloc (.cells (eV ⟨#[105]⟩ gi) 45) = U := ⟨_, rfl⟩
     try rw [hU4]
     obtain ⟨b4, gK, k4, s4⟩ := al_next hU4 b3
     clear hU4
     have gB := k4 _ _ gB
     have gX := k4 _ _ gX
     have gI := k4 _ _ gI
     obtain ⟨y0, y1, y2, y3, y4, y5, y6⟩ := GSz.seven_b gI
     refine hK.out _ _ (by exact ⟨y0, y1, y2, y3, y4, y5, y6⟩) (fun hHeld => ?_)
     clear hK K0
     try simp only [ptH]
     refine tkH 5 rfl ?_; try simp only [ptH]
     obtain ⟨BB, hBB⟩ : ∃ BB, U0.heap.size = BB := ⟨_, rfl⟩
     obtain ⟨gx, hgx⟩ : ∃ g, U2.heap.size = g := ⟨_, rfl⟩
     obtain ⟨gk, hgk⟩ : ∃ g, U3.heap.size = g := ⟨_, rfl⟩
     rw [hBB] at gB
     rw [hgx] at gX
     rw [hgk] at gK
     try rw [hBB]
     try rw [hgx]
     try rw [hgk]
     obtain ⟨z0, z1, z2, z3, z4, z5, z6⟩ := GSz.seven_b gB
     obtain ⟨f0, f1, f2, f3, f4, f5, f6⟩ := Base.frz7 gB
     obtain ⟨Uf, hUf⟩ := stc7 U4 BB (.int .i64 4) (.string nl) ns ns (.slice (some ⟨gx, 0, none⟩) 2 2) (row1 gk) ns
     obtain ⟨e1, e2, e3⟩ := set7 gB hUf
     have hb0 := b0.size
     have hb4 := b4.size
     have HL := hid (made_of b4 e1 e2 e3 gX gK (by omega) (by omega) (by omega) (by omega) (by omega))
     have gI := (e3 (gb) (by omega)).trans gI
     obtain ⟨y0, y1, y2, y3, y4, y5, y6⟩ := GSz.seven_b gI
     clear e1 e2 e3 gB gX gK
     refine rdH [7] ?_
     refine alH rfl fun K0 hK => ?_
     go_wp2_with fail
     try rw [hUf]
     refine hK.out _ _ (by exact ⟨y0, y1, y2, y3, y4, y5, y6⟩) (fun hHeld => ?_)
     clear hK K0
     try simp only [ptH]
     refine dnH ?_
     go_wp2_with fail
     exact Met.intro (hJJ _ _ ⟨_, _, _, _, _, _, _, _, ⟨_, rfl, HL.out⟩, rfl⟩)
    ·go_simp
     try rw [hD]
     try rw [<- HSD.out]
     obtain ⟨U3, hU3⟩ : ∃ U, U2.alloc (.cells (eV ⟨#[105]⟩ gi) 45) = U := ⟨_, rfl⟩
     try rw [hU3]
     obtain ⟨b3, gK, k3, s3⟩ := al_next hU3 b2
     clear hU3
     have gB := k3 _ _ gB
     have gI := k3 _ _ gI
     obtain ⟨y0, y1, y2, y3, y4, y5, y6⟩ := GSz.seven_b gI
     refine hK.out _ _ (by exact ⟨y0, y1, y2, y3, y4, y5, y6⟩) (fun hHeld => ?_)
     clear hK K0
     try simp only [ptH]
     refine rdH [2] ?_
     refine alH rfl fun K0 hK => ?_
     go_simp
     try rw [hD]
     try rw [<- HSD.out]
     obtain ⟨U4, hU4⟩ : ∃ U, U3.alloc (.cells (xV 2) 47) = U := ⟨_, rfl⟩
     try rw [hU4]
     obtain ⟨b4, gX, k4, s4⟩ := al_next hU4 b3
     clear hU4
     have gB := k4 _ _ gB
     have gK := k4 _ _ gK
     have gI := k4 _ _ gI
     obtain ⟨y0, y1, y2, y3, y4, y5, y6⟩ := GSz.seven_b gI
     refine hK.out _ _ (by exact ⟨y0, y1, y2, y3, y4, y5, y6⟩) (fun hHeld => ?_)
     clear hK K0
     try simp only [ptH]
     refine tkH 5 rfl ?_; try simp only [ptH]
     obtain ⟨BB, hBB⟩ : ∃ BB, U0.heap.size = BB := ⟨_, rfl⟩
     obtain ⟨gx, hgx⟩ : ∃ g, U3.heap.size = g := ⟨_, rfl⟩
     obtain ⟨gk, hgk⟩ : ∃ g, U2.heap.size = g := ⟨_, rfl⟩
     rw [hBB] at gB
     rw [hgx] at gX
     rw [hgk] at gK
     try rw [hBB]
     try rw [hgx]
     try rw [hgk]
     obtain ⟨z0, z1, z2, z3, z4, z5, z6⟩ := GSz.seven_b gB
     obtain ⟨f0, f1, f2, f3, f4, f5, f6⟩ := Base.frz7 gB
     obtain ⟨Uf, hUf⟩ := stc7 U4 BB (.int .i64 4) (.string nl) ns ns (.slice (some ⟨gx, 0, none⟩) 2 2) (row1 gk) ns
     obtain ⟨e1, e2, e3⟩ := set7 gB hUf
     have hb0 := b0.size
     have hb4 := b4.size
     have HL := hid (made_of b4 e1 e2 e3 gX gK (by omega) (by omega) (by omega) (by omega) (by omega))
     have gI := (e3 (gb) (by omega)).trans gI
     obtain ⟨y0, y1, y2, y3, y4, y5, y6⟩ := GSz.seven_b gI
     clear e1 e2 e3 gB gX gK
     refine rdH [7] ?_
     refine alH rfl fun K0 hK => ?_
     go_wp2_with fail
     try rw [hUf]
     refine hK.out _ _ (by exact ⟨y0, y1, y2, y3, y4, y5, y6⟩) (fun hHeld => ?_)
     clear hK K0
     try simp only [ptH]
     refine dnH ?_
     go_wp2_with fail
     exact Met.intro (hJJ _ _ ⟨_, _, _, _, _, _, _, _, ⟨_, rfl, HL.out⟩, rfl⟩)
   ·go_simp
    try rw [hD]
    try rw [<- HSD.out]
    obtain ⟨U2, hU2⟩ : ∃ U, U1.alloc (.cells (eV ⟨#[105]⟩ gi) 45) = U := ⟨_, rfl⟩
    try rw [hU2]
    obtain ⟨b2, gK, k2, s2⟩ := al_next hU2 b1
    clear hU2
    have gB := k2 _ _ gB
    have gI := k2 _ _ gI
    obtain ⟨y0, y1, y2, y3, y4, y5, y6⟩ := GSz.seven_b gI
    refine hK.out _ _ (by exact ⟨y0, y1, y2, y3, y4, y5, y6⟩) (fun hHeld => ?_)
    clear hK K0
    try simp only [ptH]
    refine rdH [0] ?_
    refine alH rfl fun K0 hK => ?_
    go_simp
    try rw [hD]
    try rw [<- HSD.out]
    refine (zero_c U2).mono ?_
    rintro ee U3 ⟨rfl, bz⟩
    obtain ⟨b3, k3, s3⟩ := be_next bz b2
    clear bz
    have gB := k3 _ _ gB
    have gK := k3 _ _ gK
    have gI := k3 _ _ gI
    obtain ⟨y0, y1, y2, y3, y4, y5, y6⟩ := GSz.seven_b gI
    refine hK.out _ _ (by exact ⟨y0, y1, y2, y3, y4, y5, y6⟩) (fun hHeld => ?_)
    clear hK K0
    try simp only [ptH]
    refine rdH [2] ?_
    refine alH rfl fun K0 hK => ?_
    go_simp
    try rw [hD]
    try rw [<- HSD.out]
    obtain ⟨U4, hU4⟩ : ∃ U, U3.alloc (.cells (xV 2) 47) = U := ⟨_, rfl⟩
    try rw [hU4]
    obtain ⟨b4, gX, k4, s4⟩ := al_next hU4 b3
    clear hU4
    have gB := k4 _ _ gB
    have gK := k4 _ _ gK
    have gI := k4 _ _ gI
    obtain ⟨y0, y1, y2, y3, y4, y5, y6⟩ := GSz.seven_b gI
    refine hK.out _ _ (by exact ⟨y0, y1, y2, y3, y4, y5, y6⟩) (fun hHeld => ?_)
    clear hK K0
    try simp only [ptH]
    refine tkH 5 rfl ?_; try simp only [ptH]
    obtain ⟨BB, hBB⟩ : ∃ BB, U0.heap.size = BB := ⟨_, rfl⟩
    obtain ⟨gx, hgx⟩ : ∃ g, U3.heap.size = g := ⟨_, rfl⟩
    obtain ⟨gk, hgk⟩ : ∃ g, U1.heap.size = g := ⟨_, rfl⟩
    rw [hBB] at gB
    rw [hgx] at gX
    rw [hgk] at gK
    try rw [hBB]
    try rw [hgx]
    try rw [hgk]
    obtain ⟨z0, z1, z2, z3, z4, z5, z6⟩ := GSz.seven_b gB
    obtain ⟨f0, f1, f2, f3, f4, f5, f6⟩ := Base.frz7 gB
    obtain ⟨Uf, hUf⟩ := stc7 U4 BB (.int .i64 4) (.string nl) ns ns (.slice (some ⟨gx, 0, none⟩) 2 2) (row1 gk) ns
    obtain ⟨e1, e2, e3⟩ := set7 gB hUf
    have hb0 := b0.size
    have hb4 := b4.size
    have HL := hid (made_of b4 e1 e2 e3 gX gK (by omega) (by omega) (by omega) (by omega) (by omega))
    have gI := (e3 (gb) (by omega)).trans gI
    obtain ⟨y0, y1, y2, y3, y4, y5, y6⟩ := GSz.seven_b gI
    clear e1 e2 e3 gB gX gK
    refine rdH [7] ?_
    refine alH rfl fun K0 hK => ?_
    go_wp2_with fail
    try rw [hUf]
    refine hK.out _ _ (by exact ⟨y0, y1, y2, y3, y4, y5, y6⟩) (fun hHeld => ?_)
    clear hK K0
    try simp only [ptH]
    refine dnH ?_
    go_wp2_with fail
    exact Met.intro (hJJ _ _ ⟨_, _, _, _, _, _, _, _, ⟨_, rfl, HL.out⟩, rfl⟩)
 case rest =>
  obtain ⟨BB, rfl, gx, gk, hB, hx, hk, bW, hs1, hs2, hs3, hs4, hs5⟩ := hcut
  have HB8 := hid (HB7.out.trans (bW.mono HB7.out.size))
  have H28 := hid (H27.out.trans (bW.mono H27.out.size))
  have hgs := (Array.getElem?_eq_some_iff.1 HG7.out).1
  have ht8 := (bW.block gt hgt7).trans HT7.out
  have gi8 := (bW.block gi hgs).trans HG7.out
  have bs := bW.size
  obtain ⟨W8, hW8⟩ : ∃ W, wc.alloc (.cells (lA gx gk) 45) = W := ⟨_, rfl⟩
  obtain ⟨b8, g8, k8, s8⟩ := al_next hW8 HB8.out
  have hxl := (Array.getElem?_eq_some_iff.1 hx).1
  have hkl := (Array.getElem?_eq_some_iff.1 hk).1
  have hBl := (Array.getElem?_eq_some_iff.1 hB).1
  have hcs : KBase.InL false (fun b => b < W8.heap.size) W8 3 (row1 wc.heap.size) [lC 2] := rw_one (by show _ < _; omega) (co_at g8) (l_in (g := gt) (g' := gi) (gx := gx) (gk := gk) (q := 2) (by omega) (by show _ < _; omega) (by show _ < _; omega) (by show _ < _; omega) (by show _ < _; omega) (k8 _ _ ht8) (k8 _ _ gi8) (k8 _ _ hx) (k8 _ _ hk)) (by omega)
  have cR := render_all (m := m) (mc := 3) hcs (HV.out W8 b8) (HT.out.below b8)
  rw [rnd_2 HZ.out (by omega)] at cR
  have HFX : Hid (W8.heap[gx]? = some (.cells (xV 2) 47 (0, 0)) /\ W8.heap[gk]? = some (.cells (eV ⟨#[105]⟩ gi) 45 (0, 0)) /\ W8.heap[gt]? = some (.cells (tP 2) 89 (0, 0)) /\ W8.heap[gi]? = some (.cells (tV gt) 45 (0, 0)) /\ W8.heap[BB]? = some (.cells (lA gx gk) 45 (0, 0))) := ⟨k8 _ _ hx, k8 _ _ hk, k8 _ _ ht8, k8 _ _ gi8, k8 _ _ hB⟩
  have H8 := hid b8
  have H28' := hid ((al_next hW8 H28.out).1)
  obtain ⟨q0, q1, q2, q3, q4, q5, q6⟩ := GSz.seven_b hB
  obtain ⟨x0, x1, x2, x3, x4, x5⟩ := Base.six_box (HG.out wc H28.out)
  obtain ⟨x0', x1', x2', x3', x4', x5'⟩ := Base.six_box (HG.out W8 H28'.out)
  clear hcs g8 k8 hx hk hB ht8 gi8 bW b8
  go_wp2_with fail
  try rw [hW8]
  refine cR.mono ?_
  rintro e W9 ⟨b9, mt, tv, rfl, htv⟩
  obtain ⟨ta, tcap, rfl, hta1, hta2, -, -, hTL⟩ := htv
  have hFl : ((List.range' 0 vs.length).map row).length = vs.length := by simp
  rw [hFl] at hta1
  rw [hFl]
  have HTL := hid hTL
  have HB9 := hid (H8.out.trans (b9.mono H8.out.size))
  have H29 := hid (H28'.out.trans (b9.mono H28'.out.size))
  have H89 := hid b9
  clear cR b9 hTL hFl q0 q1 q2 q3 q4 q5 q6 x0 x1 x2 x3 x4 x5 x0' x1' x2' x3' x4' x5' hW8
  go_wp2_with fail
  refine (cN _ _).mono ?_
  rintro e w9 ⟨rfl, h9⟩
  obtain rfl := h9
  go_wp2_with fail
  go_loopw [9] (fun i' wr => ∃ q : Nat, q <= vs.length /\ i' = .int .i64 q /\ Below W9.heap.size W9 wr) (fun i' _ => vs.length - (intOf i').toNat)
  case atStart => exact ⟨0, by omega, rfl, Below.refl _ _⟩
  case round =>
   obtain ⟨q, hq, rfl, hb⟩ := hrel
   by_cases hlt : q < vs.length
   ·obtain ⟨g, o, kg, ko, kc, rfl, t0, t3, t1, hkc⟩ := tree_q (n := 0) HTL.out hlt
    have cD := GDe.decimal_c (q + 1) q (by omega) (by omega)
    have t0 := Base.below_cell t0 hb
    have t3 := Base.below_cell t3 hb
    have t1 := Base.below_cell t1 hb
    have HBR := hid hb
    clear hb
    have cD2 : Calls prog 21 #[.int .i64 q] wr.drew fun e w' => e = .returned (.string ⟨(Lib.decDigits q).toArray⟩) /\ Hid (Below wr.heap.size wr w') /\ w'.cell? ⟨g, o + q * 4, none⟩ = some (.string ⟨#[105]⟩) /\ w'.cell? ⟨g, o + q * 4 + 3, none⟩ = some (.slice (some ⟨kg, ko, none⟩) 1 kc) /\ w'.cell? ⟨kg, ko + 1, none⟩ = some (.string ⟨(Lib.decDigits q).toArray⟩) := by
     refine (cD wr.drew).mono ?_
     rintro e w' ⟨rfl, b'⟩
     have b2 : Below wr.heap.size wr w' := (Below.refl _ wr).drew.trans b'
     exact ⟨rfl, b2, Base.below_cell t0 b2, Base.below_cell t3 b2, Base.below_cell t1 b2⟩
    clear cD
    go_wp2_with fail
    go_region_held3 (fun w' => w'.cell? ⟨g, o + q * 4, none⟩ = some (.string ⟨#[105]⟩) /\ w'.cell? ⟨g, o + q * 4 + 3, none⟩ = some (.slice (some ⟨kg, ko, none⟩) 1 kc) /\ w'.cell? ⟨kg, ko + 1, none⟩ = some (.string ⟨(Lib.decDigits q).toArray⟩)) (go_keep) (first | (go_at_call 21; refine cD2.mono ?_; rintro e Wd ⟨rfl, HBD, t0, t3, t1⟩))
    go_wp2_with fail
    go_roundw
    case rel => exact ⟨q + 1, by omega, by go_num, HBR.out.trans (HBD.out.mono HBR.out.size)⟩
    case measure => simp only [intOf]; omega
   ·have hlt' : decide ((q : Int) < (vs.length : Int)) = false := by simp; omega
    have HBR := hid hb
    clear hb
    go_wp2_with fail
    have H2r := hid (H29.out.trans (HBR.out.mono H29.out.size))
    have Hwr := hid (HB9.out.trans (HBR.out.mono HB9.out.size))
    have H8r := hid (H89.out.trans (HBR.out.mono H89.out.size))
    refine (zero_c wr).mono ?_
    rintro e W10 ⟨rfl, b10⟩
    obtain ⟨W11, hW11⟩ : ∃ W, W10.alloc (.cells (xV 1) 47) = W := ⟨_, rfl⟩
    have h8 := (al_next hW11 (be_next b10 H8r.out).1).1
    have hw11 := (al_next hW11 (be_next b10 Hwr.out).1).1
    have h211 := (al_next hW11 (be_next b10 H2r.out).1).1
    have hX := alG hW11
    obtain ⟨gy, hgy⟩ : ∃ g, W10.heap.size = g := ⟨_, rfl⟩
    rw [hgy] at hX
    obtain ⟨hfx, hfk, hft, hfi, hfb⟩ := HFX.out
    have ltB := (Array.getElem?_eq_some_iff.1 hfb).1
    have hBx := (h8.block BB ltB).trans hfb
    have hgyB : BB < gy := by have := b10.size; have := H8r.out.size; omega
    have f4 := Base.frozen_box hBx 4
    obtain ⟨q0, q1, q2, q3, q4, q5, q6⟩ := GSz.seven_b hBx
    obtain ⟨W12, hW12⟩ : ∃ W, W11.setCell ⟨BB, 4, none⟩ (.slice (some ⟨gy, 0, none⟩) 2 2) = W := ⟨_, rfl⟩
    have hB12 : W12.heap[BB]? = some (.cells (lA gy gk) 45 (0, 0)) := by rw [<- hW12, TBase.block_set hBx]; rfl
    have ho12 : ∀ k, k ≠ BB -> W12.heap[k]? = W11.heap[k]? := fun k hk => by rw [<- hW12]; exact Below.heap_setCell _ _ _ _ hk
    have hs2 := HB2.out.size
    have hsz7 := HB7.out.size
    have hsz27 := H27.out.size
    have b12 : Below w.heap.size w W12 := by rw [<- hW12]; exact hw11.setCell (by show _ <= BB; omega) _
    have b212 : Below W2.heap.size W2 W12 := by rw [<- hW12]; exact h211.setCell (by show _ <= BB; omega) _
    obtain ⟨W13, hW13⟩ : ∃ W, W12.alloc (.cells (lA gy gk) 45) = W := ⟨_, rfl⟩
    obtain ⟨b13, g13, k13, s13⟩ := al_next hW13 b12
    have H213 := hid ((al_next hW13 b212).1)
    have h12 : ∀ k x, W8.heap[k]? = some x -> k ≠ BB -> W13.heap[k]? = some x := fun k x hx hk => k13 _ _ ((ho12 k hk).trans ((h8.block k (Array.getElem?_eq_some_iff.1 hx).1).trans hx))
    have pt := h12 gt _ hft (by omega)
    have pi := h12 gi _ hfi (by omega)
    have pk := h12 gk _ hfk (by omega)
    have px := k13 _ _ ((ho12 gy (by omega)).trans hX)
    have hcs : KBase.InL false (fun b => b < W13.heap.size) W13 3 (row1 W12.heap.size) [lC 1] := rw_one (by show _ < _; omega) (co_at g13) (l_in (g := gt) (g' := gi) (gx := gy) (gk := gk) (q := 1) (by omega) ((Array.getElem?_eq_some_iff.1 pt).1) ((Array.getElem?_eq_some_iff.1 pi).1) ((Array.getElem?_eq_some_iff.1 px).1) ((Array.getElem?_eq_some_iff.1 pk).1) pt pi px pk) (by omega)
    have cR := render_all (m := m) (mc := 3) hcs (HV.out W13 b13) (HT.out.below b13)
    rw [rnd_1 HZ.out (by omega)] at cR
    obtain ⟨KA, hKA⟩ : ∃ A, kys [lV vs] (vE 1) vs 0 [] = A := ⟨_, rfl⟩
    have HKA := hid hKA
    rw [hKA] at cR
    obtain ⟨cd, hcd⟩ : ∃ c, kc KA = c := ⟨_, rfl⟩
    have HCD := hid hcd
    have cR3 : Calls prog 9 #[row1 W12.heap.size, .agg #[.int .i64 5, .bool false, .int .i64 0, .string nl, ns, .slice va vs.length vcap]] W13 fun e w' => Below W13.heap.size W13 w' /\ ∃ tv, e = .returned (.tuple #[tv, .int .i64 cd]) := by
     rw [<- hcd]
     exact cR.mono fun e w' h => rr_code h
    obtain ⟨x0, x1, x2, x3, x4, x5⟩ := Base.six_box (HG.out W12 b212)
    obtain ⟨x0', x1', x2', x3', x4', x5'⟩ := Base.six_box (HG.out W13 H213.out)
    obtain ⟨r0, r1, r2, r3, r4, r5, r6⟩ := GSz.seven_b hB12
    have HB13 := hid b13
    clear cR hcs g13 k13 h12 pt pi pk px hfx hfk hft hfi hfb hBx hB12 ho12 b12 b212 b13 hKA hcd h8 hw11 h211 hX b10
    go_wp2_with fail
    try rw [hW13]
    refine cR3.mono ?_
    rintro e W14 ⟨b14, tv2, rfl⟩
    have HB14 := hid (HB13.out.trans (b14.mono HB13.out.size))
    clear cR3 b14 q0 q1 q2 q3 q4 q5 q6 f4 x0 x1 x2 x3 x4 x5 x0' x1' x2' x3' x4' x5' r0 r1 r2 r3 r4 r5 r6 hW11 hW12 hW13
    go_wp2_with fail
    go_loopw [12, 13] (fun wt i' wr => ∃ (q : Nat) (x : Int), q <= vs.length /\ i' = .int .i64 q /\ wt = .int .i64 x /\ Below W14.heap.size W14 wr /\ Wq vs KA cd q x) (fun _ i' _ => vs.length - (intOf i').toNat)
    case atStart => exact ⟨0, 0, by omega, rfl, rfl, Below.refl _ _, wq_start HKA.out⟩
    case round =>
     obtain ⟨q, x, hq, rfl, rfl, hb, hW⟩ := hrel
     have HW := hid hW
     have HBR := hid hb
     clear hW
     by_cases hlt : q < vs.length
     ·by_cases hx : x = 0
      ·subst hx
       have hwr := HB14.out.trans (hb.mono HB14.out.size)
       obtain ⟨a', cap', e', -, -, -, -, hL⟩ := (HVA.out wr hwr).out
       cases e'
       obtain ⟨g, o, u, rfl, -, hu, hin⟩ := elem_at hL hlt
       obtain ⟨v0, v1, v2, v3, v4, v5, rfl, d0, d1, d2, d3, d4, d5⟩ := hu
       obtain ⟨a1, n1, c1, a2, n2, c2, rfl, rfl, rfl, rfl, rfl, rfl⟩ := hin.kinds
       clear hin hL hb hwr d1 d2 d3 d4 d5
       by_cases hk : vs[q].k = 3 \/ vs[q].k = 4
       ·have HKQ := hid hk
        rcases hk with hk | hk
        ·rw [hk] at d0
         clear hk
         go_wp2_with fail
         go_loopw [12, 14] (fun wt k' wr => ∃ (k : Nat) (y : Int), k <= q /\ k' = .int .i64 k /\ wt = .int .i64 y /\ Below W14.heap.size W14 wr /\ Iq (sq vs[q] vs) cd k y) (fun _ k' _ => q - (intOf k').toNat)
         case atStart => exact ⟨0, 0, by omega, rfl, rfl, HBR.out, .inl ⟨rfl, fun j h => by omega⟩⟩
         case round =>
          obtain ⟨k, y, hk', rfl, rfl, hbi, hY⟩ := hrel
          have HBI := hid hbi
          have HY := hid hY
          clear hY
          by_cases hkq : k < q
          ·have hkl : k < vs.length := by omega
           by_cases hy : y = 0
           ·subst hy
            have hwi := HB14.out.trans (hbi.mono HB14.out.size)
            obtain ⟨a', cap', e', -, -, -, -, hL⟩ := (HVA.out wr hwi).out
            cases e'
            obtain ⟨g2, o2, u, e1, -, hu, hin⟩ := elem_at hL hlt
            cases e1
            obtain ⟨g', o', u', e2, -, hu', hin'⟩ := elem_at hL hkl
            cases e2
            obtain ⟨v0, v1, v2, v3, v4, v5, rfl, d0, d1, d2, d3, d4, d5⟩ := hu
            obtain ⟨u0, u1, u2, u3, u4, u5, rfl, t0, t1, t2, t3, t4, t5⟩ := hu'
            obtain ⟨aq1, nq1, cq1, aq2, nq2, cq2, rfl, rfl, rfl, rfl, rfl, rfl⟩ := hin.kinds
            obtain ⟨ak1, nk1, ck1, ak2, nk2, ck2, rfl, rfl, rfl, rfl, rfl, rfl⟩ := hin'.kinds
            have cS : Calls prog 22 #[.agg #[.int .i64 vs[q].k, .bool vs[q].b, .int .i64 vs[q].i, .string vs[q].s, .slice aq1 nq1 cq1, .slice aq2 nq2 cq2], .agg #[.int .i64 vs[k].k, .bool vs[k].b, .int .i64 vs[k].i, .string vs[k].s, .slice ak1 nk1 ck1, .slice ak2 nk2 ck2]] wr.drew fun e w' => e = .returned (.bool (Eq.same vs[q] vs[k])) /\ Hid (Below wr.heap.size wr w') /\ (w'.cell? ⟨g, o + q * 6, none⟩ = some (.int .i64 vs[q].k) /\ w'.cell? ⟨g, o + q * 6 + 1, none⟩ = some (.bool vs[q].b) /\ w'.cell? ⟨g, o + q * 6 + 2, none⟩ = some (.int .i64 vs[q].i) /\ w'.cell? ⟨g, o + q * 6 + 3, none⟩ = some (.string vs[q].s) /\ w'.cell? ⟨g, o + q * 6 + 4, none⟩ = some (.slice aq1 nq1 cq1) /\ w'.cell? ⟨g, o + q * 6 + 5, none⟩ = some (.slice aq2 nq2 cq2)) /\ (w'.cell? ⟨g, o + k * 6, none⟩ = some (.int .i64 vs[k].k) /\ w'.cell? ⟨g, o + k * 6 + 1, none⟩ = some (.bool vs[k].b) /\ w'.cell? ⟨g, o + k * 6 + 2, none⟩ = some (.int .i64 vs[k].i) /\ w'.cell? ⟨g, o + k * 6 + 3, none⟩ = some (.string vs[k].s) /\ w'.cell? ⟨g, o + k * 6 + 4, none⟩ = some (.slice ak1 nk1 ck1) /\ w'.cell? ⟨g, o + k * 6 + 5, none⟩ = some (.slice ak2 nk2 ck2)) := by
             have bd : Below wr.heap.size wr wr.drew := (Below.refl _ wr).drew
             refine (Same.same_c (hin.below bd) (hin'.below bd)).mono ?_
             rintro e w' ⟨rfl, b'⟩
             have b2 := bd.trans b'
             exact ⟨rfl, b2, ⟨Base.below_cell d0 b2, Base.below_cell d1 b2, Base.below_cell d2 b2, Base.below_cell d3 b2, Base.below_cell d4 b2, Base.below_cell d5 b2⟩, ⟨Base.below_cell t0 b2, Base.below_cell t1 b2, Base.below_cell t2 b2, Base.below_cell t3 b2, Base.below_cell t4 b2, Base.below_cell t5 b2⟩⟩
            clear hin hin' hL hbi hwi
            obtain ⟨bs, hbs⟩ : ∃ b, Eq.same vs[q] vs[k] = b := ⟨_, rfl⟩
            rw [hbs] at cS
            have HBS := hid hbs
            clear hbs
            go_wp2_with fail
            go_region_held3 (fun w' => (w'.cell? ⟨g, o + q * 6, none⟩ = some (.int .i64 vs[q].k) /\ w'.cell? ⟨g, o + q * 6 + 1, none⟩ = some (.bool vs[q].b) /\ w'.cell? ⟨g, o + q * 6 + 2, none⟩ = some (.int .i64 vs[q].i) /\ w'.cell? ⟨g, o + q * 6 + 3, none⟩ = some (.string vs[q].s) /\ w'.cell? ⟨g, o + q * 6 + 4, none⟩ = some (.slice aq1 nq1 cq1) /\ w'.cell? ⟨g, o + q * 6 + 5, none⟩ = some (.slice aq2 nq2 cq2)) /\ (w'.cell? ⟨g, o + k * 6, none⟩ = some (.int .i64 vs[k].k) /\ w'.cell? ⟨g, o + k * 6 + 1, none⟩ = some (.bool vs[k].b) /\ w'.cell? ⟨g, o + k * 6 + 2, none⟩ = some (.int .i64 vs[k].i) /\ w'.cell? ⟨g, o + k * 6 + 3, none⟩ = some (.string vs[k].s) /\ w'.cell? ⟨g, o + k * 6 + 4, none⟩ = some (.slice ak1 nk1 ck1) /\ w'.cell? ⟨g, o + k * 6 + 5, none⟩ = some (.slice ak2 nk2 ck2))) (go_keep) (first | (go_at_call 22; refine cS.mono ?_; rintro e Wd ⟨rfl, HBD, ⟨d0, d1, d2, d3, d4, d5⟩, ⟨t0, t1, t2, t3, t4, t5⟩⟩))
            cases bs
            ·go_wp2_with fail
             go_roundw
             case rel =>
              exact ⟨k + 1, 0, by omega, by go_num, rfl, HBI.out.trans (HBD.out.mono HBI.out.size), iq_step HY.out ((sq_eq hkl).trans HBS.out)⟩
             case measure => simp only [intOf]; omega
            ·go_wp2_with fail
             go_roundw
             case rel => exact ⟨k + 1, 1600, by omega, by go_num, rfl, HBI.out.trans (HBD.out.mono HBI.out.size), .inr ⟨(wq_same HW.out hlt HKQ.out hkq HBS.out HCD.out).symm, by omega⟩⟩
             case measure => simp only [intOf]; omega
           ·have hy0 : (y == 0) = false := by simpa using hy
            have HX : Hid (y = cd /\ y ≠ 0) := by
             rcases HY.out with ⟨h, -⟩ | h
             ·exact absurd h hy
             ·exact h
            clear hbi
            go_wp2_with fail
            go_roundw
            case rel => exact ⟨q + 1, y, by omega, by go_num, rfl, HBI.out, .inr HX.out⟩
            case measure => simp only [intOf]; omega
          ·have hkq0 : decide ((k : Int) < (q : Int)) = false := by simp; omega
           clear hbi
           go_wp2_with fail
           go_roundw
           case rel =>
            rcases HY.out with ⟨rfl, h⟩ | h
            ·exact ⟨q + 1, 0, by omega, by go_num, rfl, HBI.out, wq_next HW.out hlt HKQ.out fun j hj hjq => (sq_eq hj).symm.trans (h j (by omega))⟩
            ·exact ⟨q + 1, y, by omega, by go_num, rfl, HBI.out, .inr h⟩
           case measure => simp only [intOf]; omega
        ·rw [hk] at d0
         clear hk
         go_wp2_with fail
         go_loopw [12, 14] (fun wt k' wr => ∃ (k : Nat) (y : Int), k <= q /\ k' = .int .i64 k /\ wt = .int .i64 y /\ Below W14.heap.size W14 wr /\ Iq (sq vs[q] vs) cd k y) (fun _ k' _ => q - (intOf k').toNat)
         case atStart => exact ⟨0, 0, by omega, rfl, rfl, HBR.out, .inl ⟨rfl, fun j h => by omega⟩⟩
         case round =>
          obtain ⟨k, y, hk', rfl, rfl, hbi, hY⟩ := hrel
          have HBI := hid hbi
          have HY := hid hY
          clear hY
          by_cases hkq : k < q
          ·have hkl : k < vs.length := by omega
           by_cases hy : y = 0
           ·subst hy
            have hwi := HB14.out.trans (hbi.mono HB14.out.size)
            obtain ⟨a', cap', e', -, -, -, -, hL⟩ := (HVA.out wr hwi).out
            cases e'
            obtain ⟨g2, o2, u, e1, -, hu, hin⟩ := elem_at hL hlt
            cases e1
            obtain ⟨g', o', u', e2, -, hu', hin'⟩ := elem_at hL hkl
            cases e2
            obtain ⟨v0, v1, v2, v3, v4, v5, rfl, d0, d1, d2, d3, d4, d5⟩ := hu
            obtain ⟨u0, u1, u2, u3, u4, u5, rfl, t0, t1, t2, t3, t4, t5⟩ := hu'
            obtain ⟨aq1, nq1, cq1, aq2, nq2, cq2, rfl, rfl, rfl, rfl, rfl, rfl⟩ := hin.kinds
            obtain ⟨ak1, nk1, ck1, ak2, nk2, ck2, rfl, rfl, rfl, rfl, rfl, rfl⟩ := hin'.kinds
            have cS : Calls prog 22 #[.agg #[.int .i64 vs[q].k, .bool vs[q].b, .int .i64 vs[q].i, .string vs[q].s, .slice aq1 nq1 cq1, .slice aq2 nq2 cq2], .agg #[.int .i64 vs[k].k, .bool vs[k].b, .int .i64 vs[k].i, .string vs[k].s, .slice ak1 nk1 ck1, .slice ak2 nk2 ck2]] wr.drew fun e w' => e = .returned (.bool (Eq.same vs[q] vs[k])) /\ Hid (Below wr.heap.size wr w') /\ (w'.cell? ⟨g, o + q * 6, none⟩ = some (.int .i64 vs[q].k) /\ w'.cell? ⟨g, o + q * 6 + 1, none⟩ = some (.bool vs[q].b) /\ w'.cell? ⟨g, o + q * 6 + 2, none⟩ = some (.int .i64 vs[q].i) /\ w'.cell? ⟨g, o + q * 6 + 3, none⟩ = some (.string vs[q].s) /\ w'.cell? ⟨g, o + q * 6 + 4, none⟩ = some (.slice aq1 nq1 cq1) /\ w'.cell? ⟨g, o + q * 6 + 5, none⟩ = some (.slice aq2 nq2 cq2)) /\ (w'.cell? ⟨g, o + k * 6, none⟩ = some (.int .i64 vs[k].k) /\ w'.cell? ⟨g, o + k * 6 + 1, none⟩ = some (.bool vs[k].b) /\ w'.cell? ⟨g, o + k * 6 + 2, none⟩ = some (.int .i64 vs[k].i) /\ w'.cell? ⟨g, o + k * 6 + 3, none⟩ = some (.string vs[k].s) /\ w'.cell? ⟨g, o + k * 6 + 4, none⟩ = some (.slice ak1 nk1 ck1) /\ w'.cell? ⟨g, o + k * 6 + 5, none⟩ = some (.slice ak2 nk2 ck2)) := by
             have bd : Below wr.heap.size wr wr.drew := (Below.refl _ wr).drew
             refine (Same.same_c (hin.below bd) (hin'.below bd)).mono ?_
             rintro e w' ⟨rfl, b'⟩
             have b2 := bd.trans b'
             exact ⟨rfl, b2, ⟨Base.below_cell d0 b2, Base.below_cell d1 b2, Base.below_cell d2 b2, Base.below_cell d3 b2, Base.below_cell d4 b2, Base.below_cell d5 b2⟩, ⟨Base.below_cell t0 b2, Base.below_cell t1 b2, Base.below_cell t2 b2, Base.below_cell t3 b2, Base.below_cell t4 b2, Base.below_cell t5 b2⟩⟩
            clear hin hin' hL hbi hwi
            obtain ⟨bs, hbs⟩ : ∃ b, Eq.same vs[q] vs[k] = b := ⟨_, rfl⟩
            rw [hbs] at cS
            have HBS := hid hbs
            clear hbs
            go_wp2_with fail
            go_region_held3 (fun w' => (w'.cell? ⟨g, o + q * 6, none⟩ = some (.int .i64 vs[q].k) /\ w'.cell? ⟨g, o + q * 6 + 1, none⟩ = some (.bool vs[q].b) /\ w'.cell? ⟨g, o + q * 6 + 2, none⟩ = some (.int .i64 vs[q].i) /\ w'.cell? ⟨g, o + q * 6 + 3, none⟩ = some (.string vs[q].s) /\ w'.cell? ⟨g, o + q * 6 + 4, none⟩ = some (.slice aq1 nq1 cq1) /\ w'.cell? ⟨g, o + q * 6 + 5, none⟩ = some (.slice aq2 nq2 cq2)) /\ (w'.cell? ⟨g, o + k * 6, none⟩ = some (.int .i64 vs[k].k) /\ w'.cell? ⟨g, o + k * 6 + 1, none⟩ = some (.bool vs[k].b) /\ w'.cell? ⟨g, o + k * 6 + 2, none⟩ = some (.int .i64 vs[k].i) /\ w'.cell? ⟨g, o + k * 6 + 3, none⟩ = some (.string vs[k].s) /\ w'.cell? ⟨g, o + k * 6 + 4, none⟩ = some (.slice ak1 nk1 ck1) /\ w'.cell? ⟨g, o + k * 6 + 5, none⟩ = some (.slice ak2 nk2 ck2))) (go_keep) (first | (go_at_call 22; refine cS.mono ?_; rintro e Wd ⟨rfl, HBD, ⟨d0, d1, d2, d3, d4, d5⟩, ⟨t0, t1, t2, t3, t4, t5⟩⟩))
            cases bs
            ·go_wp2_with fail
             go_roundw
             case rel =>
              exact ⟨k + 1, 0, by omega, by go_num, rfl, HBI.out.trans (HBD.out.mono HBI.out.size), iq_step HY.out ((sq_eq hkl).trans HBS.out)⟩
             case measure => simp only [intOf]; omega
            ·go_wp2_with fail
             go_roundw
             case rel => exact ⟨k + 1, 1600, by omega, by go_num, rfl, HBI.out.trans (HBD.out.mono HBI.out.size), .inr ⟨(wq_same HW.out hlt HKQ.out hkq HBS.out HCD.out).symm, by omega⟩⟩
             case measure => simp only [intOf]; omega
           ·have hy0 : (y == 0) = false := by simpa using hy
            have HX : Hid (y = cd /\ y ≠ 0) := by
             rcases HY.out with ⟨h, -⟩ | h
             ·exact absurd h hy
             ·exact h
            clear hbi
            go_wp2_with fail
            go_roundw
            case rel => exact ⟨q + 1, y, by omega, by go_num, rfl, HBI.out, .inr HX.out⟩
            case measure => simp only [intOf]; omega
          ·have hkq0 : decide ((k : Int) < (q : Int)) = false := by simp; omega
           clear hbi
           go_wp2_with fail
           go_roundw
           case rel =>
            rcases HY.out with ⟨rfl, h⟩ | h
            ·exact ⟨q + 1, 0, by omega, by go_num, rfl, HBI.out, wq_next HW.out hlt HKQ.out fun j hj hjq => (sq_eq hj).symm.trans (h j (by omega))⟩
            ·exact ⟨q + 1, y, by omega, by go_num, rfl, HBI.out, .inr h⟩
           case measure => simp only [intOf]; omega
       ·have h1 : ¬ vs[q].k = 3 := fun h => hk (.inl h)
        have h2 : ¬ vs[q].k = 4 := fun h => hk (.inr h)
        have h3 : (vs[q].k != 3) = true := by simpa using h1
        have h4 : (vs[q].k != 4) = true := by simpa using h2
        have HC := hid (wq_bad HW.out hlt hk HCD.out)
        clear hk
        go_wp2_with fail
        go_loopw [12, 14] (fun wt k' wr' => wt = .int .i64 1101 /\ k' = .int .i64 0 /\ wr = wr') (fun _ _ _ => 0)
        case atStart => exact ⟨rfl, rfl, rfl⟩
        case round =>
         obtain ⟨rfl, rfl, hw'⟩ := hrel
         subst hw'
         by_cases hq0 : 0 < q
         ·have h0q : decide ((0 : Int) < (q : Int)) = true := by simp; omega
          go_wp2_with fail
          go_roundw
          case rel => exact ⟨q + 1, 1101, by omega, by go_num, rfl, HBR.out, .inr ⟨HC.out.symm, by omega⟩⟩
          case measure => simp only [intOf]; omega
         ·have h0q : decide ((0 : Int) < (q : Int)) = false := by simp; omega
          go_wp2_with fail
          go_roundw
          case rel => exact ⟨q + 1, 1101, by omega, by go_num, rfl, HBR.out, .inr ⟨HC.out.symm, by omega⟩⟩
          case measure => simp only [intOf]; omega
      ·have hx0 : (x == 0) = false := by simpa using hx
       have HX : Hid (cd = x) := by
        rcases HW.out with ⟨h, -⟩ | ⟨h, -⟩
        ·exact absurd h hx
        ·exact h.symm
       clear hb
       go_wp2_with fail
       refine (cN _ _).mono ?_
       rintro e w9 ⟨rfl, h9⟩
       obtain rfl := h9
       go_wp2_with fail
       go_ret
       exact ⟨by simp [HX.out], HB14.out.trans (HBR.out.mono HB14.out.size)⟩
     ·have hlt0 : decide ((q : Int) < (vs.length : Int)) = false := by simp; omega
      obtain rfl : q = vs.length := by omega
      have HX := hid (wq_end HW.out HCD.out)
      clear hb
      go_wp2_with fail
      refine (cN _ _).mono ?_
      rintro e w9 ⟨rfl, h9⟩
      obtain rfl := h9
      go_wp2_with fail
      go_ret
      exact ⟨by simp [HX.out], HB14.out.trans (HBR.out.mono HB14.out.size)⟩
end Go.Proofs.YtiijfmdfccdagaaGreatDoor.WRL
