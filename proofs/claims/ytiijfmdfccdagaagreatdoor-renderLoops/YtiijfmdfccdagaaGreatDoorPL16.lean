import Derived.BigQuiet
import Derived.Deep.CutBlock
import Derived.Deep.CutRange
import Derived.Deep.RegionHeld3
import Derived.Test.YtiijfmdfccdagaaGreatDoorPL02
import Derived.Test.YtiijfmdfccdagaaGreatDoorPL04
import Derived.Test.YtiijfmdfccdagaaGreatDoorPL15
open Go.Proofs.Tryz
set_option linter.unusedVariables false
set_option maxRecDepth 20000
set_option maxHeartbeats 6400000
namespace Go.Proofs.YtiijfmdfccdagaaGreatDoor.GAt
open Tak
open Go.RowKit Base EPure JPure VSm VJn VRs GPl GVa GEn
open VPure hiding evL
theorem eight_b {w : World} {B : Nat} {v0 v1 v2 v3 v4 v5 v6 v7 : Value} {t : TypeId} (h : w.heap[B]? = some (.cells #[v0, v1, v2, v3, v4, v5, v6, v7] t (0, 0))) :
  w.cell? ⟨B, 0, none⟩ = some v0 /\ w.cell? ⟨B, 1, none⟩ = some v1 /\ w.cell? ⟨B, 2, none⟩ = some v2 /\ w.cell? ⟨B, 3, none⟩ = some v3 /\ w.cell? ⟨B, 4, none⟩ = some v4 /\ w.cell? ⟨B, 5, none⟩ = some v5 /\ w.cell? ⟨B, 6, none⟩ = some v6 /\ w.cell? ⟨B, 7, none⟩ = some v7 := by
 refine ⟨?_, ?_, ?_, ?_, ?_, ?_, ?_, ?_⟩ <;> simp [World.cell?, h]
theorem heap_at (w : World) (o : Obj) (k : Nat) (h : k = w.heap.size) : (w.alloc o).heap[k]? = some o := by subst h; exact heap_alloc_new w o
def aV (c : C) : Except Nat (ByteArray × Bool) := if c.k = 1 then .ok (⟨#[]⟩, false) else if c.k = 2 then .ok (⟨#[]⟩, c.b) else bnd (txt c) fun t => .ok (t, true)
def atr (L : List C) (p : ByteArray) (b : Bool) (x : Ex) : Except Nat (ByteArray × Bool) := if b = true then bnd (ev (rh L) x) aV else .ok (p, true)
abbrev tb2 (a : ByteArray × Bool) : Value := .tuple #[.string a.1, .bool a.2]
theorem attr_c {K m n : Nat} {w : World} {B : Nat} {Pv mk sv : Value} {r : Int} {L : List C} {fn fp : ByteArray} {fb : Bool} {fa : Int} {xa : Option Addr} {xc : Nat} {x : Ex}
  (h : w.heap[B]? = some (.cells (wk Pv mk sv r) 105 (0, 0))) (hsk : Sk K (m + 1) w Pv L) (hb : fb = true -> Rk K m n w Pv L (.agg #[.int .i64 x.o, .int .i64 x.i, .string x.s, .slice xa x.l.length xc]) x) :
  Calls prog 138 #[ptr B, .agg #[.string fn, .string fp, .bool fb, .int .i64 x.o, .int .i64 x.i, .string x.s, .slice xa x.l.length xc, .int .i64 fa]] w fun e w' => An w w' e tb2 (atr L fp fb x) := by
 obtain ⟨ps, pc, rfl, -⟩ := hsk
 have hBl := (Array.getElem?_eq_some_iff.1 h).1
 obtain ⟨W0, hW0⟩ : ∃ W0, w.alloc (.cells #[.string fn, .string fp, .bool fb, .int .i64 x.o, .int .i64 x.i, .string x.s, .slice xa x.l.length xc, .int .i64 fa] 59) = W0 := ⟨_, rfl⟩
 have b0 := alB hW0
 have hs0 : W0.heap.size = w.heap.size + 1 := by rw [<- hW0]; simp
 have HB0 := hid b0
 have HF0 := hid (alG hW0)
 have HW0 := hid ((b0.block B hBl).trans h)
 obtain ⟨k0, -, -, -⟩ := wk_box HW0.out
 obtain ⟨f0, f1, f2, f3, f4, f5, f6, f7⟩ := eight_b HF0.out
 have HWW := hid hW0
 clear b0 h hW0
 cases fb with
 | false =>
  have e0 : atr L fp false x = .ok (fp, true) := rfl
  rw [e0]
  clear hb e0
  go_enter func138, ntmps138
  go_wp2_with fail
  try rw [HWW.out]
  go_ret2
  exact ⟨rfl, HB0.out⟩
 | true =>
  have e0 : atr L fp true x = bnd (ev (rh L) x) aV := rfl
  rw [e0]
  obtain ⟨A, hA0⟩ : ∃ A, bnd (ev (rh L) x) aV = A := ⟨_, rfl⟩
  rw [hA0]
  have hrk := hb rfl
  have hlow := hrk.low
  have cV : Hid (∀ W, Below w.heap.size w W -> Calls prog 134 #[.slice ps L.length pc, .agg #[.int .i64 x.o, .int .i64 x.i, .string x.s, .slice xa x.l.length xc]] W fun e w' => VR K (m + 1) W (ev (rh L) x) e w') := fun W hW => value_c (hrk.below hW)
  have cT : Hid (∀ W u c, Below w.heap.size w W -> Base.In false (fun b => b < K) W (m + 1) u c -> Calls prog 133 #[u] W fun e w' => An W w' e Value.string (txt c)) := fun W u c hW hu => GPl.textOf_c hu.plain (hrk.tb.below hW)
  generalize ev (rh L) x = U at *
  have HA := hid hA0
  clear hb e0 hA0 hrk
  cases U with
  | error q =>
   have hA := HA.out
   subst hA
   go_enter func138, ntmps138
   go_wp2_with fail
   try rw [HWW.out]
   refine wp_region_held_drew (S := fun w' => w'.cell? ⟨B, 0, none⟩ = some (.slice ps L.length pc) /\ w'.cell? ⟨w.heap.size, 3, none⟩ = some (.int .i64 x.o) /\ w'.cell? ⟨w.heap.size, 4, none⟩ = some (.int .i64 x.i) /\ w'.cell? ⟨w.heap.size, 5, none⟩ = some (.string x.s) /\ w'.cell? ⟨w.heap.size, 6, none⟩ = some (.slice xa x.l.length xc)) (by kernel_rfl) (by exact ⟨k0, f3, f4, f5, f6⟩) (fun hHeld => ?_)
   refine tkH 0 rfl ?_; try simp only [ptH]
   refine tkH 1 rfl ?_; try simp only [ptH]
   refine tkH 2 rfl ?_; try simp only [ptH]
   refine tkH 3 rfl ?_; try simp only [ptH]
   refine tkH 4 rfl ?_; try simp only [ptH]
   refine tkH 5 rfl ?_; try simp only [ptH]
   refine rdH [6, 7] ?_
   refine AllReadyH.cons rfl (fun K0 hK => ?_) (AllReadyH.cons rfl (fun K0 hK => ?_) (AllReadyH.nil))
   ·go_simp
    refine (cV.out _ HB0.out.drew).mono ?_
    rintro ee Wq ⟨bq, hq⟩
    obtain rfl := hq
    exact ⟨rfl, rfl, HB0.out.drew.trans (bq.mono (by have := HB0.out.size; simp; omega))⟩
   ·obtain ⟨W1, hW1⟩ : ∃ W, (W0.drew).alloc (.cells #[.int .i64 0, .bool false, .int .i64 0, .string ⟨#[]⟩, .slice none 0 0, .slice none 0 0] 26) = W := ⟨_, rfl⟩
    have hs1 : W1.heap.size = W0.heap.size + 1 := by rw [<- hW1]; simp
    have HZ1 : Hid (W1.heap[W0.heap.size]? = some (.cells #[.int .i64 0, .bool false, .int .i64 0, .string ⟨#[]⟩, .slice none 0 0, .slice none 0 0] 26 (0, 0))) := by rw [<- hW1]; exact heap_at _ _ _ (by simp)
    have b1 : Below W0.heap.size W0 W1 := by rw [<- hW1]; exact ((Below.refl _ W0).drew).alloc (by simp) _
    have HB1 := hid (nx HB0.out b1)
    have HW1 := hid ((b1.block B (by omega)).trans HW0.out)
    have HF1 := hid ((b1.block w.heap.size (by omega)).trans HF0.out)
    go_simp
    try rw [hW1]
    obtain ⟨k0, -, -, -⟩ := wk_box HW1.out
    obtain ⟨-, -, -, f3, f4, f5, f6, -⟩ := eight_b HF1.out
    refine hK.out _ _ (by exact ⟨k0, f3, f4, f5, f6⟩) (fun hHeld => ?_)
    clear hK K0
    try simp only [ptH]
    refine rdH [6] ?_
    refine alH rfl fun K0 hK => ?_
    go_simp
    refine (cV.out _ HB1.out).mono ?_
    rintro ee Wq ⟨bq, hq⟩
    obtain rfl := hq
    exact ⟨rfl, rfl, nx HB1.out bq⟩
  | ok c =>
   go_enter func138, ntmps138
   go_upto_region 3 with fail
   try rw [HWW.out]
   go_cut [6] from 12 to 18 (fun p wc => ∃ R, p = ptr R /\ Below w.heap.size w wc /\ ∃ an ln cn al ll cl, wc.heap[R]? = some (.cells #[.int .i64 c.k, .bool c.b, .int .i64 c.i, .string c.s, .slice an ln cn, .slice al ll cl] 26 (0, 0)) /\ Base.In false (fun b => b < K) wc (m + 1) (vl c.k c.b c.i c.s (.slice an ln cn) (.slice al ll cl)) c)
   case first =>
    refine wp_region_held_drew (S := fun w' => w'.cell? ⟨B, 0, none⟩ = some (.slice ps L.length pc) /\ w'.cell? ⟨w.heap.size, 3, none⟩ = some (.int .i64 x.o) /\ w'.cell? ⟨w.heap.size, 4, none⟩ = some (.int .i64 x.i) /\ w'.cell? ⟨w.heap.size, 5, none⟩ = some (.string x.s) /\ w'.cell? ⟨w.heap.size, 6, none⟩ = some (.slice xa x.l.length xc)) (by kernel_rfl) (by exact ⟨k0, f3, f4, f5, f6⟩) (fun hHeld => ?_)
    refine tkH 0 rfl ?_; try simp only [ptH]
    refine tkH 1 rfl ?_; try simp only [ptH]
    refine tkH 2 rfl ?_; try simp only [ptH]
    refine tkH 3 rfl ?_; try simp only [ptH]
    refine tkH 4 rfl ?_; try simp only [ptH]
    refine tkH 5 rfl ?_; try simp only [ptH]
    refine rdH [6, 7] ?_
    refine AllReadyH.cons rfl (fun K0 hK => ?_) (AllReadyH.cons rfl (fun K0 hK => ?_) (AllReadyH.nil))
    ·go_simp
     refine (cV.out _ HB0.out.drew).mono ?_
     rintro ee W1 ⟨b1, u, rfl, hin⟩
     have b1 : Below W0.heap.size W0 W1 := (Below.refl _ W0).drew.trans b1
     obtain ⟨an, ln, cn, al, ll, cl, rfl⟩ := in_shape hin
     have hs1 := b1.size
     have HB1 := hid (nx HB0.out b1)
     have HW1 := hid ((b1.block B (by omega)).trans HW0.out)
     have HF1 := hid ((b1.block w.heap.size (by omega)).trans HF0.out)
     have HI1 := hid hin
     obtain ⟨k0, -, -, -⟩ := wk_box HW1.out
     obtain ⟨-, -, -, f3, f4, f5, f6, -⟩ := eight_b HF1.out
     refine hK.out _ _ (by exact ⟨k0, f3, f4, f5, f6⟩) (fun hHeld => ?_)
     clear hK K0
     try simp only [ptH]
     obtain ⟨W2, hW2⟩ : ∃ W, (W1).alloc (.cells #[.int .i64 0, .bool false, .int .i64 0, .string ⟨#[]⟩, .slice none 0 0, .slice none 0 0] 26) = W := ⟨_, rfl⟩
     have hs2 : W2.heap.size = W1.heap.size + 1 := by rw [<- hW2]; simp
     have HZ2 : Hid (W2.heap[W1.heap.size]? = some (.cells #[.int .i64 0, .bool false, .int .i64 0, .string ⟨#[]⟩, .slice none 0 0, .slice none 0 0] 26 (0, 0))) := by rw [<- hW2]; exact heap_at _ _ _ (by simp)
     have b2 : Below W1.heap.size W1 W2 := by rw [<- hW2]; exact ((Below.refl _ W1)).alloc (by simp) _
     have HB2 := hid (nx HB1.out b2)
     have HI2 := hid (HI1.out.below b2)
     have HW2 := hid ((b2.block B (by omega)).trans HW1.out)
     have HF2 := hid ((b2.block w.heap.size (by omega)).trans HF1.out)
     refine rdH [7] ?_
     refine alH rfl fun K0 hK => ?_
     go_simp
     try rw [hW2]
     obtain ⟨k0, -, -, -⟩ := wk_box HW2.out
     obtain ⟨-, -, -, f3, f4, f5, f6, -⟩ := eight_b HF2.out
     refine hK.out _ _ (by exact ⟨k0, f3, f4, f5, f6⟩) (fun hHeld => ?_)
     clear hK K0
     try simp only [ptH]
     obtain ⟨r0, r1, r2, r3, r4, r5⟩ := six_box HZ2.out
     have rf0 := frozen_box HZ2.out 0
     have rf1 := frozen_box HZ2.out 1
     have rf2 := frozen_box HZ2.out 2
     have rf3 := frozen_box HZ2.out 3
     have rf4 := frozen_box HZ2.out 4
     have rf5 := frozen_box HZ2.out 5
     obtain ⟨W9, hW9⟩ := stc6 W2 W1.heap.size (.int .i64 c.k) (.bool c.b) (.int .i64 c.i) (.string c.s) (.slice an ln cn) (.slice al ll cl)
     obtain ⟨q1, q2, q3, q4⟩ := set6 _ _ _ _ _ _ HZ2.out hW9
     have HW9 := hid ((q2 B (by omega)).trans HW2.out)
     have HF9 := hid ((q2 w.heap.size (by omega)).trans HF2.out)
     have HI9 : Hid (∃ an ln cn al ll cl, W9.heap[W1.heap.size]? = some (.cells #[.int .i64 c.k, .bool c.b, .int .i64 c.i, .string c.s, .slice an ln cn, .slice al ll cl] 26 (0, 0)) /\ Base.In false (fun b => b < K) W9 (m + 1) (vl c.k c.b c.i c.s (.slice an ln cn) (.slice al ll cl)) c) := ⟨an, ln, cn, al, ll, cl, q1, HI2.out.keep (fun b hb hb2 => q2 b (by omega))⟩
     have HB9 := hid (q4 _ _ (by omega) HB2.out)
     refine rdH [8] ?_
     refine alH rfl fun K0 hK => ?_
     go_wp2_with fail
     try rw [hW9]
     obtain ⟨k0, -, -, -⟩ := wk_box HW9.out
     obtain ⟨-, -, -, f3, f4, f5, f6, -⟩ := eight_b HF9.out
     refine hK.out _ _ (by exact ⟨k0, f3, f4, f5, f6⟩) (fun hHeld => ?_)
     clear hK K0
     try simp only [ptH]
     refine dnH ?_
     go_wp2_with fail
     go_meet
     case rel => exact ⟨_, rfl, HB9.out, HI9.out⟩
    ·obtain ⟨W1, hW1⟩ : ∃ W, (W0.drew).alloc (.cells #[.int .i64 0, .bool false, .int .i64 0, .string ⟨#[]⟩, .slice none 0 0, .slice none 0 0] 26) = W := ⟨_, rfl⟩
     have hs1 : W1.heap.size = W0.heap.size + 1 := by rw [<- hW1]; simp
     have HZ1 : Hid (W1.heap[W0.heap.size]? = some (.cells #[.int .i64 0, .bool false, .int .i64 0, .string ⟨#[]⟩, .slice none 0 0, .slice none 0 0] 26 (0, 0))) := by rw [<- hW1]; exact heap_at _ _ _ (by simp)
     have b1 : Below W0.heap.size W0 W1 := by rw [<- hW1]; exact ((Below.refl _ W0).drew).alloc (by simp) _
     have HB1 := hid (nx HB0.out b1)
     have HW1 := hid ((b1.block B (by omega)).trans HW0.out)
     have HF1 := hid ((b1.block w.heap.size (by omega)).trans HF0.out)
     go_simp
     try rw [hW1]
     obtain ⟨k0, -, -, -⟩ := wk_box HW1.out
     obtain ⟨-, -, -, f3, f4, f5, f6, -⟩ := eight_b HF1.out
     refine hK.out _ _ (by exact ⟨k0, f3, f4, f5, f6⟩) (fun hHeld => ?_)
     clear hK K0
     try simp only [ptH]
     refine rdH [6] ?_
     refine alH rfl fun K0 hK => ?_
     go_simp
     refine (cV.out _ HB1.out).mono ?_
     rintro ee W2 ⟨b2, u, rfl, hin⟩
     obtain ⟨an, ln, cn, al, ll, cl, rfl⟩ := in_shape hin
     have hs2 := b2.size
     have HB2 := hid (nx HB1.out b2)
     have HW2 := hid ((b2.block B (by omega)).trans HW1.out)
     have HF2 := hid ((b2.block w.heap.size (by omega)).trans HF1.out)
     have HI2 := hid hin
     have HZ2 : Hid (W2.heap[w.heap.size + 1]? = some (.cells #[.int .i64 0, .bool false, .int .i64 0, .string ⟨#[]⟩, .slice none 0 0, .slice none 0 0] 26 (0, 0))) := by
      have := (b2.block W0.heap.size (by omega)).trans HZ1.out
      rw [hs0] at this
      exact this
     obtain ⟨k0, -, -, -⟩ := wk_box HW2.out
     obtain ⟨-, -, -, f3, f4, f5, f6, -⟩ := eight_b HF2.out
     refine hK.out _ _ (by exact ⟨k0, f3, f4, f5, f6⟩) (fun hHeld => ?_)
     clear hK K0
     try simp only [ptH]
     obtain ⟨r0, r1, r2, r3, r4, r5⟩ := six_box HZ2.out
     have rf0 := frozen_box HZ2.out 0
     have rf1 := frozen_box HZ2.out 1
     have rf2 := frozen_box HZ2.out 2
     have rf3 := frozen_box HZ2.out 3
     have rf4 := frozen_box HZ2.out 4
     have rf5 := frozen_box HZ2.out 5
     obtain ⟨W9, hW9⟩ := stc6 W2 (w.heap.size + 1) (.int .i64 c.k) (.bool c.b) (.int .i64 c.i) (.string c.s) (.slice an ln cn) (.slice al ll cl)
     obtain ⟨q1, q2, q3, q4⟩ := set6 _ _ _ _ _ _ HZ2.out hW9
     have HW9 := hid ((q2 B (by omega)).trans HW2.out)
     have HF9 : Hid _ := (q2 w.heap.size (by omega)).trans HF2.out
     have HI9 : Hid (∃ an ln cn al ll cl, W9.heap[w.heap.size + 1]? = some (.cells #[.int .i64 c.k, .bool c.b, .int .i64 c.i, .string c.s, .slice an ln cn, .slice al ll cl] 26 (0, 0)) /\ Base.In false (fun b => b < K) W9 (m + 1) (vl c.k c.b c.i c.s (.slice an ln cn) (.slice al ll cl)) c) := ⟨an, ln, cn, al, ll, cl, q1, HI2.out.keep (fun b hb hb2 => q2 b (by omega))⟩
     have HB9 : Hid (Below w.heap.size w W9) := q4 _ _ (by omega) HB2.out
     refine rdH [8] ?_
     refine alH rfl fun K0 hK => ?_
     go_wp2_with fail
     try rw [hW9]
     obtain ⟨k0, -, -, -⟩ := wk_box HW9.out
     obtain ⟨-, -, -, f3, f4, f5, f6, -⟩ := eight_b HF9.out
     refine hK.out _ _ (by exact ⟨k0, f3, f4, f5, f6⟩) (fun hHeld => ?_)
     clear hK K0
     try simp only [ptH]
     refine dnH ?_
     go_wp2_with fail
     go_meet
     case rel => exact ⟨_, rfl, HB9.out, HI9.out⟩
   case rest =>
    obtain ⟨R, rfl, hbc, an, ln, cn, al, ll, cl, hx, hin⟩ := hcut
    have HBc : Hid (Below w.heap.size w wc) := hbc
    obtain ⟨n0, n1, n2, n3, n4, n5⟩ := six_box hx
    have HA' : Hid (aV c = A) := HA.out
    have cTx := cT.out wc _ c hbc hin
    clear hbc hin hx k0 f0 f1 f2 f3 f4 f5 f6 f7 HA
    by_cases h1 : c.k = 1
    ·have e1 : (c.k == 1) = true := by simp [h1]
     have hA := HA'.out
     unfold aV at hA
     rw [if_pos h1] at hA
     subst hA
     clear h1
     go_wp2_with fail
     go_ret2
     exact ⟨rfl, HBc.out⟩
    have e1 : (c.k == 1) = false := by simp [h1]
    by_cases h2 : c.k = 2
    ·have e2 : (c.k == 2) = true := by simp [h2]
     have hA := HA'.out
     unfold aV at hA
     rw [if_neg h1, if_pos h2] at hA
     subst hA
     clear h1 h2
     go_wp2_with fail
     go_quiet (fail)
     go_wp2_with fail
     go_ret2
     exact ⟨rfl, HBc.out.trans ⟨rfl, rfl, rfl, by simp, fun _ _ => by simp⟩⟩
    have e2 : (c.k == 2) = false := by simp [h2]
    have hA := HA'.out
    unfold aV at hA
    rw [if_neg h1, if_neg h2] at hA
    clear h1 h2 HA'
    generalize txt c = X at *
    have HA2 := hid hA
    clear hA
    cases X with
    | error q =>
     have hA := HA2.out
     subst hA
     go_wp2_with fail
     refine cTx.mono ?_
     rintro ee W5 ⟨rfl, b5⟩
     exact ⟨rfl, rfl, nx HBc.out b5⟩
    | ok t =>
     have hA := HA2.out
     subst hA
     go_wp2_with fail
     refine cTx.mono ?_
     rintro ee W5 ⟨rfl, b5⟩
     have HB5 := hid (nx HBc.out b5)
     clear cTx b5
     go_wp2_with fail
     go_ret2
     exact ⟨rfl, HB5.out⟩
end Go.Proofs.YtiijfmdfccdagaaGreatDoor.GAt
namespace Go.Proofs.YtiijfmdfccdagaaGreatDoor.KBase
open Go.RowKit EPure
open Base (cell_lt Keep nx nxB add_none heap_alloc_new box_at below_box All below_cell)
structure Pt where
 mk ::
 (p : ByteArray) (b : Bool) (e : Ex)
structure Fld where
 mk ::
 (n : ByteArray) (p : ByteArray) (b : Bool) (e : Ex) (a : Int)
structure Co where
 mk ::
 (k0 : Int) (t0 : ByteArray) (f0 : List Fld) (p0 : List Pt) (x0 : List Ex) (l0 : List Co) (u0 : List Co)
def Co.k : Co -> Int | .mk k _ _ _ _ _ _ => k
def Co.t : Co -> ByteArray | .mk _ t _ _ _ _ _ => t
def Co.f : Co -> List Fld | .mk _ _ f _ _ _ _ => f
def Co.p : Co -> List Pt | .mk _ _ _ p _ _ _ => p
def Co.x : Co -> List Ex | .mk _ _ _ _ x _ _ => x
def Co.l : Co -> List Co | .mk _ _ _ _ _ l _ => l
def Co.u : Co -> List Co | .mk _ _ _ _ _ _ u => u
def Pt6 (w : World) (g o : Nat) (u : Value) : Prop :=
 ∃ v0 v1 e0 e1 e2 e3, u = .agg #[v0, v1, e0, e1, e2, e3] /\ w.cell? ⟨g, o, none⟩ = some v0 /\ w.cell? ⟨g, o + 1, none⟩ = some v1 /\ w.cell? ⟨g, o + 2, none⟩ = some e0 /\ w.cell? ⟨g, o + 3, none⟩ = some e1 /\ w.cell? ⟨g, o + 4, none⟩ = some e2 /\ w.cell? ⟨g, o + 5, none⟩ = some e3
def Fd8 (w : World) (g o : Nat) (u : Value) : Prop :=
 ∃ v0 v1 v2 e0 e1 e2 e3 v7, u = .agg #[v0, v1, v2, e0, e1, e2, e3, v7] /\ w.cell? ⟨g, o, none⟩ = some v0 /\ w.cell? ⟨g, o + 1, none⟩ = some v1 /\ w.cell? ⟨g, o + 2, none⟩ = some v2 /\ w.cell? ⟨g, o + 3, none⟩ = some e0 /\ w.cell? ⟨g, o + 4, none⟩ = some e1 /\ w.cell? ⟨g, o + 5, none⟩ = some e2 /\ w.cell? ⟨g, o + 6, none⟩ = some e3 /\ w.cell? ⟨g, o + 7, none⟩ = some v7
def Co7 (w : World) (g o : Nat) (u : Value) : Prop :=
 ∃ v0 v1 v2 v3 v4 v5 v6, u = .agg #[v0, v1, v2, v3, v4, v5, v6] /\ w.cell? ⟨g, o, none⟩ = some v0 /\ w.cell? ⟨g, o + 1, none⟩ = some v1 /\ w.cell? ⟨g, o + 2, none⟩ = some v2 /\ w.cell? ⟨g, o + 3, none⟩ = some v3 /\ w.cell? ⟨g, o + 4, none⟩ = some v4 /\ w.cell? ⟨g, o + 5, none⟩ = some v5 /\ w.cell? ⟨g, o + 6, none⟩ = some v6
theorem Keep.pt {S : Nat -> Prop} {w w' : World} (h : Keep S w w') {g o : Nat} {v : Value} (hS : S g) (hc : Pt6 w g o v) : Pt6 w' g o v := by
 obtain ⟨v0, v1, v2, v3, v4, v5, rfl, c0, c1, c2, c3, c4, c5⟩ := hc
 exact ⟨v0, v1, v2, v3, v4, v5, rfl, h.cell hS c0, h.cell hS c1, h.cell hS c2, h.cell hS c3, h.cell hS c4, h.cell hS c5⟩
theorem Keep.fd {S : Nat -> Prop} {w w' : World} (h : Keep S w w') {g o : Nat} {v : Value} (hS : S g) (hc : Fd8 w g o v) : Fd8 w' g o v := by
 obtain ⟨v0, v1, v2, v3, v4, v5, v6, v7, rfl, c0, c1, c2, c3, c4, c5, c6, c7⟩ := hc
 exact ⟨v0, v1, v2, v3, v4, v5, v6, v7, rfl, h.cell hS c0, h.cell hS c1, h.cell hS c2, h.cell hS c3, h.cell hS c4, h.cell hS c5, h.cell hS c6, h.cell hS c7⟩
theorem Keep.co {S : Nat -> Prop} {w w' : World} (h : Keep S w w') {g o : Nat} {v : Value} (hS : S g) (hc : Co7 w g o v) : Co7 w' g o v := by
 obtain ⟨v0, v1, v2, v3, v4, v5, v6, rfl, c0, c1, c2, c3, c4, c5, c6⟩ := hc
 exact ⟨v0, v1, v2, v3, v4, v5, v6, rfl, h.cell hS c0, h.cell hS c1, h.cell hS c2, h.cell hS c3, h.cell hS c4, h.cell hS c5, h.cell hS c6⟩
def RwAt {α : Type} (n : Nat) (Ly : World -> Nat -> Nat -> Value -> Prop) (rm : Value) (r : Bool) (S : Nat -> Prop) (w : World) (P : Value -> α -> Prop) (a : Option Addr) (cap : Nat) (l : List α) : Prop :=
 (l = [] /\ r = false) \/ ∃ g o, a = some ⟨g, o, none⟩ /\ S g /\ (∀ j (h : j < l.length), ∃ u, Ly w g (o + j * n) u /\ P u l[j]) /\ (r = true -> l.length + 2 <= cap /\ Ly w g (o + l.length * n) rm /\ Ly w g (o + l.length * n + n) rm)
def Rw {α : Type} (n z : Nat) (Ly : World -> Nat -> Nat -> Value -> Prop) (rm : Value) (r : Bool) (S : Nat -> Prop) (w : World) (P : Value -> α -> Prop) (v : Value) (l : List α) : Prop :=
 ∃ a cap, v = .slice a l.length cap /\ l.length <= cap /\ cap <= 9223372036854775807 /\ l.length * z <= 140737488351232 /\ (a = none -> cap = 0) /\ RwAt n Ly rm r S w P a cap l
theorem Rw.keep_of {α : Type} {n z : Nat} {Ly : World -> Nat -> Nat -> Value -> Prop} {rm : Value} {r : Bool} {S : Nat -> Prop} {w w' : World} {P P' : Value -> α -> Prop} {v : Value} {l : List α} (hL : ∀ {g o : Nat} {v : Value}, S g -> Ly w g o v -> Ly w' g o v)
  (hP : ∀ u c, c ∈ l -> P u c -> P' u c) (h : Rw n z Ly rm r S w P v l) : Rw n z Ly rm r S w' P' v l := by
 obtain ⟨a, cap, h1, h2, h3, h4, h5, h6⟩ := h
 refine ⟨a, cap, h1, h2, h3, h4, h5, ?_⟩
 rcases h6 with h6 | ⟨g, o, ha, hS, hc, hr⟩
 ·exact .inl h6
 ·refine .inr ⟨g, o, ha, hS, fun j hj => ?_, fun hr' => ⟨(hr hr').1, hL hS (hr hr').2.1, hL hS (hr hr').2.2⟩⟩
  obtain ⟨u, hu, hi⟩ := hc j hj
  exact ⟨u, hL hS hu, hP _ _ (List.getElem_mem hj) hi⟩
theorem Rw.weak_of {α : Type} {n z : Nat} {Ly : World -> Nat -> Nat -> Value -> Prop} {rm : Value} {r : Bool} {S S' : Nat -> Prop} {w : World} {P P' : Value -> α -> Prop} {v : Value} {l : List α} (hS : ∀ b, S b -> S' b) (r' : Bool) (hr : r' = true -> r = true)
  (hP : ∀ u c, c ∈ l -> P u c -> P' u c) (h : Rw n z Ly rm r S w P v l) : Rw n z Ly rm r' S' w P' v l := by
 obtain ⟨a, cap, h1, h2, h3, h4, h5, h6⟩ := h
 refine ⟨a, cap, h1, h2, h3, h4, h5, ?_⟩
 rcases h6 with ⟨h7, h8⟩ | ⟨g, o, ha, hg, hc, hr0⟩
 ·refine .inl ⟨h7, ?_⟩
  cases r' with
  | true => rw [hr rfl] at h8; cases h8
  | false => rfl
 ·refine .inr ⟨g, o, ha, hS _ hg, fun j hj => ?_, fun h => hr0 (hr h)⟩
  obtain ⟨u, hu, hi⟩ := hc j hj
  exact ⟨u, hu, hP _ _ (List.getElem_mem hj) hi⟩
theorem RwAt.elem {α : Type} {n : Nat} {Ly : World -> Nat -> Nat -> Value -> Prop} {rm : Value} {r : Bool} {S : Nat -> Prop} {w : World} {P : Value -> α -> Prop} {a : Option Addr} {cap : Nat} {l : List α} (hL : RwAt n Ly rm r S w P a cap l) {q : Nat} (h : q < l.length) :
  ∃ g o u, a = some ⟨g, o, none⟩ /\ S g /\ Ly w g (o + q * n) u /\ P u l[q] := by
 rcases hL with ⟨rfl, _⟩ | ⟨g, o, ha, hS, hc, _⟩
 ·simp at h
 ·obtain ⟨u, hu, hi⟩ := hc q h
  exact ⟨g, o, u, ha, hS, hu, hi⟩
theorem Rw.nil {α : Type} {n z : Nat} {Ly : World -> Nat -> Nat -> Value -> Prop} {rm : Value} {S : Nat -> Prop} {w : World} {P : Value -> α -> Prop} : Rw n z Ly rm false S w P (.slice none 0 0) ([] : List α) :=
 ⟨none, 0, rfl, by simp, by simp, by simp, fun _ => rfl, .inl ⟨rfl, rfl⟩⟩
def rmP : Value := .agg #[.string Base.room, .bool false, .int .i64 0, .int .i64 0, .string ⟨#[]⟩, .slice none 0 0]
def rmF : Value := .agg #[.string Base.room, .string ⟨#[]⟩, .bool false, .int .i64 0, .int .i64 0, .string ⟨#[]⟩, .slice none 0 0, .int .i64 0]
def rmC : Value := .agg #[.int .i64 (-7), .string ⟨#[]⟩, .slice none 0 0, .slice none 0 0, .slice none 0 0, .slice none 0 0, .slice none 0 0]
def InP (r : Bool) (S : Nat -> Prop) (w : World) (u : Value) (c : Pt) : Prop := ∃ m e0 e1 e2 e3, u = .agg #[.string c.p, .bool c.b, e0, e1, e2, e3] /\ c.p.size <= 140737488351232 /\ XBase.In r S w m (.agg #[e0, e1, e2, e3]) c.e
def InF (r : Bool) (S : Nat -> Prop) (w : World) (u : Value) (c : Fld) : Prop := ∃ m e0 e1 e2 e3, u = .agg #[.string c.n, .string c.p, .bool c.b, e0, e1, e2, e3, .int .i64 c.a] /\ c.n.size <= 140737488351232 /\ c.p.size <= 140737488351232 /\ XBase.In r S w m (.agg #[e0, e1, e2, e3]) c.e /\ (-9223372036854775808 <= c.a /\ c.a <= 9223372036854775807)
abbrev RP (r : Bool) (S : Nat -> Prop) (w : World) (v : Value) (l : List Pt) : Prop := Rw 6 80 Pt6 rmP r S w (InP r S w) v l
abbrev RF (r : Bool) (S : Nat -> Prop) (w : World) (v : Value) (l : List Fld) : Prop := Rw 8 104 Fd8 rmF r S w (InF r S w) v l
abbrev RX (r : Bool) (S : Nat -> Prop) (w : World) (v : Value) (l : List Ex) : Prop := ∃ m, XBase.InL r S w m v l
def In (r : Bool) (S : Nat -> Prop) (w : World) : Nat -> Value -> Co -> Prop
 | 0, _, _ => False
 | m + 1, v, c => ∃ fv pv xv lv uv, v = .agg #[.int .i64 c.k, .string c.t, fv, pv, xv, lv, uv] /\ (-9223372036854775808 <= c.k /\ c.k <= 9223372036854775807) /\ c.t.size <= 140737488351232 /\ RF r S w fv c.f /\ RP r S w pv c.p /\ RX r S w xv c.x /\
   Rw 7 144 Co7 rmC r S w (In r S w m) lv c.l /\ Rw 7 144 Co7 rmC r S w (In r S w m) uv c.u
abbrev InL (r : Bool) (S : Nat -> Prop) (w : World) (m : Nat) (v : Value) (l : List Co) : Prop := Rw 7 144 Co7 rmC r S w (In r S w m) v l
theorem in_zero {r : Bool} {S : Nat -> Prop} {w : World} {v : Value} {c : Co} (h : In r S w 0 v c) : False := by rw [In] at h; exact h
theorem in_succ {r : Bool} {S : Nat -> Prop} {w : World} {m : Nat} {v : Value} {c : Co} : In r S w (m + 1) v c ↔ ∃ fv pv xv lv uv, v = .agg #[.int .i64 c.k, .string c.t, fv, pv, xv, lv, uv] /\ (-9223372036854775808 <= c.k /\ c.k <= 9223372036854775807) /\ c.t.size <= 140737488351232 /\ RF r S w fv c.f /\ RP r S w pv c.p /\ RX r S w xv c.x /\
   InL r S w m lv c.l /\ InL r S w m uv c.u := by rw [In]
theorem InP.keep {r : Bool} {S : Nat -> Prop} {w w' : World} (hk : Keep S w w') {u : Value} {c : Pt} (h : InP r S w u c) : InP r S w' u c := by
 obtain ⟨m, e0, e1, e2, e3, h1, h2, h3⟩ := h
 exact ⟨m, e0, e1, e2, e3, h1, h2, h3.keep hk⟩
theorem InF.keep {r : Bool} {S : Nat -> Prop} {w w' : World} (hk : Keep S w w') {u : Value} {c : Fld} (h : InF r S w u c) : InF r S w' u c := by
 obtain ⟨m, e0, e1, e2, e3, h1, h2, h3, h4, h5⟩ := h
 exact ⟨m, e0, e1, e2, e3, h1, h2, h3, h4.keep hk, h5⟩
theorem RP.keep {r : Bool} {S : Nat -> Prop} {w w' : World} (hk : Keep S w w') {v : Value} {l : List Pt} (h : RP r S w v l) : RP r S w' v l := h.keep_of (Keep.pt hk) (fun _ _ _ h => h.keep hk)
theorem RF.keep {r : Bool} {S : Nat -> Prop} {w w' : World} (hk : Keep S w w') {v : Value} {l : List Fld} (h : RF r S w v l) : RF r S w' v l := h.keep_of (Keep.fd hk) (fun _ _ _ h => h.keep hk)
theorem RX.keep {r : Bool} {S : Nat -> Prop} {w w' : World} (hk : Keep S w w') {v : Value} {l : List Ex} (h : RX r S w v l) : RX r S w' v l := by
 obtain ⟨m, h⟩ := h
 exact ⟨m, h.keep hk⟩
theorem In.keep {r : Bool} {S : Nat -> Prop} {w w' : World} (hk : Keep S w w') : ∀ {m : Nat} {v : Value} {c : Co}, In r S w m v c -> In r S w' m v c := by
 intro m
 induction m with
 | zero => intro v c h; exact (in_zero h).elim
 | succ m ih =>
  intro v c h
  rw [in_succ] at h ⊢
  obtain ⟨fv, pv, xv, lv, uv, h1, h2, h3, h4, h5, h6, h7, h8⟩ := h
  exact ⟨fv, pv, xv, lv, uv, h1, h2, h3, RF.keep hk h4, RP.keep hk h5, RX.keep hk h6, h7.keep_of (Keep.co hk) (fun _ _ _ h => ih h), h8.keep_of (Keep.co hk) (fun _ _ _ h => ih h)⟩
theorem InL.keep {r : Bool} {S : Nat -> Prop} {w w' : World} (hk : Keep S w w') {m : Nat} {v : Value} {l : List Co} (h : InL r S w m v l) : InL r S w' m v l := h.keep_of (Keep.co hk) (fun _ _ _ h => h.keep hk)
theorem In.below {r : Bool} {S : Nat -> Prop} {w w' : World} {m : Nat} {v : Value} {c : Co} (h : In r S w m v c) (hk : Below w.heap.size w w') : In r S w' m v c := h.keep (.of_below hk)
theorem InL.below {r : Bool} {S : Nat -> Prop} {w w' : World} {m : Nat} {v : Value} {l : List Co} (h : InL r S w m v l) (hk : Below w.heap.size w w') : InL r S w' m v l := InL.keep (.of_below hk) h
theorem InP.weak {r : Bool} {S S' : Nat -> Prop} {w : World} (hS : ∀ b, S b -> S' b) (r' : Bool) (hr : r' = true -> r = true) {u : Value} {c : Pt} (h : InP r S w u c) : InP r' S' w u c := by
 obtain ⟨m, e0, e1, e2, e3, h1, h2, h3⟩ := h
 exact ⟨m, e0, e1, e2, e3, h1, h2, h3.weak hS r' hr m (Nat.le_refl _)⟩
theorem InF.weak {r : Bool} {S S' : Nat -> Prop} {w : World} (hS : ∀ b, S b -> S' b) (r' : Bool) (hr : r' = true -> r = true) {u : Value} {c : Fld} (h : InF r S w u c) : InF r' S' w u c := by
 obtain ⟨m, e0, e1, e2, e3, h1, h2, h3, h4, h5⟩ := h
 exact ⟨m, e0, e1, e2, e3, h1, h2, h3, h4.weak hS r' hr m (Nat.le_refl _), h5⟩
theorem In.weak {r : Bool} {S S' : Nat -> Prop} {w : World} (hS : ∀ b, S b -> S' b) (r' : Bool) (hr : r' = true -> r = true) : ∀ {m : Nat} (m' : Nat) {v : Value} {c : Co}, m <= m' -> In r S w m v c -> In r' S' w m' v c := by
 intro m
 induction m with
 | zero => intro m' v c _ h; exact (in_zero h).elim
 | succ m ih =>
  intro m' v c hm h
  obtain ⟨m', rfl⟩ : ∃ q, m' = q + 1 := ⟨m' - 1, by omega⟩
  rw [in_succ] at h ⊢
  obtain ⟨fv, pv, xv, lv, uv, h1, h2, h3, h4, h5, ⟨mx, h6⟩, h7, h8⟩ := h
  exact ⟨fv, pv, xv, lv, uv, h1, h2, h3, h4.weak_of hS r' hr (fun _ _ _ h => h.weak hS r' hr), h5.weak_of hS r' hr (fun _ _ _ h => h.weak hS r' hr), ⟨mx, h6.weak hS r' hr mx (Nat.le_refl _)⟩,
   h7.weak_of hS r' hr (fun _ _ _ h => ih m' (by omega) h), h8.weak_of hS r' hr (fun _ _ _ h => ih m' (by omega) h)⟩
theorem InL.weak {r : Bool} {S S' : Nat -> Prop} {w : World} (hS : ∀ b, S b -> S' b) (r' : Bool) (hr : r' = true -> r = true) {m : Nat} (m' : Nat) {v : Value} {l : List Co} (hm : m <= m') (h : InL r S w m v l) : InL r' S' w m' v l :=
 h.weak_of hS r' hr (fun v c _ h => h.weak hS r' hr m' hm)
theorem In4.low {r : Bool} {S : Nat -> Prop} {w : World} : ∀ {m : Nat} {v : Value} {c : Ex}, XBase.In r S w m v c -> XBase.In r (fun b => S b /\ b < w.heap.size) w m v c := by
 intro m
 induction m with
 | zero => intro v c h; rw [XBase.In] at h; exact h.elim
 | succ m ih =>
  intro v c h
  obtain ⟨k, i, s, l⟩ := c
  rw [XBase.in_iff] at h ⊢
  obtain ⟨lv, h1, h3, h4, h5, a, cap, g1, g2, g3, g4, g5, g6⟩ := h
  refine ⟨lv, h1, h3, h4, h5, a, cap, g1, g2, g3, g4, g5, ?_⟩
  rcases g6 with g6 | ⟨g, o, ha, hS, hc, hr⟩
  ·exact .inl g6
  ·by_cases hl : l = [] /\ r = false
   ·exact .inl hl
   ·refine .inr ⟨g, o, ha, ⟨hS, ?_⟩, fun j hj => ?_, hr⟩
    ·cases l with
     | nil =>
      have hrt : r = true := by
       cases r with
       | true => rfl
       | false => exact absurd ⟨rfl, rfl⟩ hl
      obtain ⟨_, _, _, _, _, c0, _⟩ := (hr hrt).2.1
      exact cell_lt c0
     | cons x t =>
      obtain ⟨u, ⟨_, _, _, _, _, c0, _⟩, _⟩ := hc 0 (by simp)
      exact cell_lt c0
    ·obtain ⟨u, hu, hi⟩ := hc j hj
     exact ⟨u, hu, ih hi⟩
theorem InL4.low {r : Bool} {S : Nat -> Prop} {w : World} {m : Nat} {v : Value} {l : List Ex} (h : XBase.InL r S w m v l) : XBase.InL r (fun b => S b /\ b < w.heap.size) w m v l := by
 obtain ⟨a, cap, g1, g2, g3, g4, g5, g6⟩ := h
 refine ⟨a, cap, g1, g2, g3, g4, g5, ?_⟩
 rcases g6 with g6 | ⟨g, o, ha, hS, hc, hr⟩
 ·exact .inl g6
 ·by_cases hl : l = [] /\ r = false
  ·exact .inl hl
  ·refine .inr ⟨g, o, ha, ⟨hS, ?_⟩, fun j hj => ?_, hr⟩
   ·cases l with
    | nil =>
     have hrt : r = true := by
      cases r with
      | true => rfl
      | false => exact absurd ⟨rfl, rfl⟩ hl
     obtain ⟨_, _, _, _, _, c0, _⟩ := (hr hrt).2.1
     exact cell_lt c0
    | cons x t =>
     obtain ⟨u, ⟨_, _, _, _, _, c0, _⟩, _⟩ := hc 0 (by simp)
     exact cell_lt c0
   ·obtain ⟨u, hu, hi⟩ := hc j hj
    exact ⟨u, hu, In4.low hi⟩
theorem Rw.low_of {α : Type} {n z : Nat} {Ly : World -> Nat -> Nat -> Value -> Prop} {rm : Value} {r : Bool} {S : Nat -> Prop} {w : World} {P P' : Value -> α -> Prop} {v : Value} {l : List α} (hLy : ∀ {g o : Nat} {v : Value}, Ly w g o v -> g < w.heap.size)
  (hP : ∀ u c, c ∈ l -> P u c -> P' u c) (h : Rw n z Ly rm r S w P v l) : Rw n z Ly rm r (fun b => S b /\ b < w.heap.size) w P' v l := by
 obtain ⟨a, cap, g1, g2, g3, g4, g5, g6⟩ := h
 refine ⟨a, cap, g1, g2, g3, g4, g5, ?_⟩
 rcases g6 with g6 | ⟨g, o, ha, hS, hc, hr⟩
 ·exact .inl g6
 ·by_cases hl : l = [] /\ r = false
  ·exact .inl hl
  ·refine .inr ⟨g, o, ha, ⟨hS, ?_⟩, fun j hj => ?_, hr⟩
   ·cases l with
    | nil =>
     have hrt : r = true := by
      cases r with
      | true => rfl
      | false => exact absurd ⟨rfl, rfl⟩ hl
     exact hLy (hr hrt).2.1
    | cons x t =>
     obtain ⟨u, hu, _⟩ := hc 0 (by simp)
     exact hLy hu
   ·obtain ⟨u, hu, hi⟩ := hc j hj
    exact ⟨u, hu, hP _ _ (List.getElem_mem hj) hi⟩
theorem Pt6.lt {w : World} {g o : Nat} {v : Value} (h : Pt6 w g o v) : g < w.heap.size := by obtain ⟨_, _, _, _, _, _, _, c0, _⟩ := h; exact cell_lt c0
theorem Fd8.lt {w : World} {g o : Nat} {v : Value} (h : Fd8 w g o v) : g < w.heap.size := by obtain ⟨_, _, _, _, _, _, _, _, _, c0, _⟩ := h; exact cell_lt c0
theorem Co7.lt {w : World} {g o : Nat} {v : Value} (h : Co7 w g o v) : g < w.heap.size := by obtain ⟨_, _, _, _, _, _, _, _, c0, _⟩ := h; exact cell_lt c0
theorem InP.low {r : Bool} {S : Nat -> Prop} {w : World} {u : Value} {c : Pt} (h : InP r S w u c) : InP r (fun b => S b /\ b < w.heap.size) w u c := by
 obtain ⟨m, e0, e1, e2, e3, h1, h2, h3⟩ := h
 exact ⟨m, e0, e1, e2, e3, h1, h2, In4.low h3⟩
theorem InF.low {r : Bool} {S : Nat -> Prop} {w : World} {u : Value} {c : Fld} (h : InF r S w u c) : InF r (fun b => S b /\ b < w.heap.size) w u c := by
 obtain ⟨m, e0, e1, e2, e3, h1, h2, h3, h4, h5⟩ := h
 exact ⟨m, e0, e1, e2, e3, h1, h2, h3, In4.low h4, h5⟩
theorem In.low {r : Bool} {S : Nat -> Prop} {w : World} : ∀ {m : Nat} {v : Value} {c : Co}, In r S w m v c -> In r (fun b => S b /\ b < w.heap.size) w m v c := by
 intro m
 induction m with
 | zero => intro v c h; exact (in_zero h).elim
 | succ m ih =>
  intro v c h
  rw [in_succ] at h ⊢
  obtain ⟨fv, pv, xv, lv, uv, h1, h2, h3, h4, h5, ⟨mx, h6⟩, h7, h8⟩ := h
  exact ⟨fv, pv, xv, lv, uv, h1, h2, h3, h4.low_of Fd8.lt (fun _ _ _ h => h.low), h5.low_of Pt6.lt (fun _ _ _ h => h.low), ⟨mx, InL4.low h6⟩, h7.low_of Co7.lt (fun _ _ _ h => ih h), h8.low_of Co7.lt (fun _ _ _ h => ih h)⟩
theorem InL.low {r : Bool} {S : Nat -> Prop} {w : World} {m : Nat} {v : Value} {l : List Co} (h : InL r S w m v l) : InL r (fun b => S b /\ b < w.heap.size) w m v l := h.low_of Co7.lt (fun _ _ _ h => h.low)
theorem InL.other {S : Nat -> Prop} {w w' : World} {m : Nat} {v : Value} {l : List Co} {R : Nat} (h : InL false S w m v l) (hb : Below w.heap.size w w') (hR : w.heap.size <= R := by omega) : InL false (fun b => b ≠ R) w' m v l :=
 InL.weak (fun b hb => by have := hb.2; omega) false (fun h => h) m (Nat.le_refl _) (InL.below h.low hb)
theorem seven_box {w : World} {B : Nat} {v0 v1 v2 v3 v4 v5 v6 : Value} {t : TypeId} (h : w.heap[B]? = some (.cells #[v0, v1, v2, v3, v4, v5, v6] t (0, 0))) :
  w.cell? ⟨B, 0, none⟩ = some v0 /\ w.cell? ⟨B, 1, none⟩ = some v1 /\ w.cell? ⟨B, 2, none⟩ = some v2 /\ w.cell? ⟨B, 3, none⟩ = some v3 /\ w.cell? ⟨B, 4, none⟩ = some v4 /\ w.cell? ⟨B, 5, none⟩ = some v5 /\ w.cell? ⟨B, 6, none⟩ = some v6 := by
 refine ⟨?_, ?_, ?_, ?_, ?_, ?_, ?_⟩ <;> simp [World.cell?, h]
theorem eight_box {w : World} {B : Nat} {v0 v1 v2 v3 v4 v5 v6 v7 : Value} {t : TypeId} (h : w.heap[B]? = some (.cells #[v0, v1, v2, v3, v4, v5, v6, v7] t (0, 0))) :
  w.cell? ⟨B, 0, none⟩ = some v0 /\ w.cell? ⟨B, 1, none⟩ = some v1 /\ w.cell? ⟨B, 2, none⟩ = some v2 /\ w.cell? ⟨B, 3, none⟩ = some v3 /\ w.cell? ⟨B, 4, none⟩ = some v4 /\ w.cell? ⟨B, 5, none⟩ = some v5 /\ w.cell? ⟨B, 6, none⟩ = some v6 /\ w.cell? ⟨B, 7, none⟩ = some v7 := by
 refine ⟨?_, ?_, ?_, ?_, ?_, ?_, ?_, ?_⟩ <;> simp [World.cell?, h]
theorem InP.kinds {r : Bool} {S : Nat -> Prop} {w : World} {v0 v1 e0 e1 e2 e3 : Value} {c : Pt} (h : InP r S w (.agg #[v0, v1, e0, e1, e2, e3]) c) :
  v0 = .string c.p /\ v1 = .bool c.b /\ c.p.size <= 140737488351232 /\ ∃ m, XBase.In r S w m (.agg #[e0, e1, e2, e3]) c.e := by
 obtain ⟨m, x0, x1, x2, x3, e, h1, h2⟩ := h
 simp only [Value.agg.injEq, Array.mk.injEq, List.cons.injEq, and_true] at e
 obtain ⟨rfl, rfl, rfl, rfl, rfl, rfl⟩ := e
 exact ⟨rfl, rfl, h1, m, h2⟩
theorem InF.kinds {r : Bool} {S : Nat -> Prop} {w : World} {v0 v1 v2 e0 e1 e2 e3 v7 : Value} {c : Fld} (h : InF r S w (.agg #[v0, v1, v2, e0, e1, e2, e3, v7]) c) :
  v0 = .string c.n /\ v1 = .string c.p /\ v2 = .bool c.b /\ v7 = .int .i64 c.a /\ c.n.size <= 140737488351232 /\ c.p.size <= 140737488351232 /\ (-9223372036854775808 <= c.a /\ c.a <= 9223372036854775807) /\ ∃ m, XBase.In r S w m (.agg #[e0, e1, e2, e3]) c.e := by
 obtain ⟨m, x0, x1, x2, x3, e, h1, h2, h3, h4⟩ := h
 simp only [Value.agg.injEq, Array.mk.injEq, List.cons.injEq, and_true] at e
 obtain ⟨rfl, rfl, rfl, rfl, rfl, rfl, rfl, rfl⟩ := e
 exact ⟨rfl, rfl, rfl, rfl, h1, h2, h4, m, h3⟩
theorem InP.six {r : Bool} {S : Nat -> Prop} {w : World} {v0 v1 e0 e1 e2 e3 : Value} {c : Pt} (h : InP r S w (.agg #[v0, v1, e0, e1, e2, e3]) c) :
  ∃ a cap, v0 = .string c.p /\ v1 = .bool c.b /\ e0 = .int .i64 c.e.o /\ e1 = .int .i64 c.e.i /\ e2 = .string c.e.s /\ e3 = .slice a c.e.l.length cap /\ c.p.size <= 140737488351232 /\ c.e.l.length * 56 <= 140737488351232 := by
 obtain ⟨h1, h2, h3, m, h4⟩ := h.kinds
 obtain ⟨m', a, cap, -, k0, k1, k2, k3, -, -, -, hl⟩ := h4.kinds
 obtain ⟨aa, cc, hsl, -, -, hl, -, -⟩ := hl
 exact ⟨a, cap, h1, h2, k0, k1, k2, k3, h3, hl⟩
theorem InF.eight {r : Bool} {S : Nat -> Prop} {w : World} {v0 v1 v2 e0 e1 e2 e3 v7 : Value} {c : Fld} (h : InF r S w (.agg #[v0, v1, v2, e0, e1, e2, e3, v7]) c) :
  ∃ a cap, v0 = .string c.n /\ v1 = .string c.p /\ v2 = .bool c.b /\ e0 = .int .i64 c.e.o /\ e1 = .int .i64 c.e.i /\ e2 = .string c.e.s /\ e3 = .slice a c.e.l.length cap /\ v7 = .int .i64 c.a /\ c.n.size <= 140737488351232 /\ c.p.size <= 140737488351232 /\ c.e.l.length * 56 <= 140737488351232 /\ (-9223372036854775808 <= c.a /\ c.a <= 9223372036854775807) := by
 obtain ⟨h1, h2, h3, h4, h5, h6, h7, m, h8⟩ := h.kinds
 obtain ⟨m', a, cap, -, k0, k1, k2, k3, -, -, -, hl⟩ := h8.kinds
 obtain ⟨aa, cc, hsl, -, -, hl, -, -⟩ := hl
 exact ⟨a, cap, h1, h2, h3, k0, k1, k2, k3, h4, h5, h6, hl, h7⟩
theorem In.shape {r : Bool} {S : Nat -> Prop} {w : World} {m : Nat} {v : Value} {c : Co} (h : In r S w m v c) :
  ∃ m' fv pv xv lv uv, m = m' + 1 /\ v = .agg #[.int .i64 c.k, .string c.t, fv, pv, xv, lv, uv] /\ (-9223372036854775808 <= c.k /\ c.k <= 9223372036854775807) /\ c.t.size <= 140737488351232 /\ RF r S w fv c.f /\ RP r S w pv c.p /\ RX r S w xv c.x /\ InL r S w m' lv c.l /\ InL r S w m' uv c.u := by
 cases m with
 | zero => exact (in_zero h).elim
 | succ m =>
  rw [in_succ] at h
  obtain ⟨fv, pv, xv, lv, uv, h⟩ := h
  exact ⟨m, fv, pv, xv, lv, uv, rfl, h⟩
end Go.Proofs.YtiijfmdfccdagaaGreatDoor.KBase
