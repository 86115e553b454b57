import Derived.BigQuiet
import Derived.Deep.CutBlock
import Derived.Deep.CutRange
import Derived.Deep.RegionHeld3
import Derived.Laws.OwnMore
import Derived.Maps.AppendAt
import Derived.Test.YthonejomogkjjaaGreatDoorPA03
import Derived.Test.YthonejomogkjjaaGreatDoorPA12
import Derived.Test.YthonejomogkjjaaGreatDoorPA17
import Derived.Test.YthonejomogkjjaaGreatDoorPA21
set_option linter.unusedVariables false
set_option maxRecDepth 20000
namespace Go.Proofs.YthonejomogkjjaaGreatDoor.GAt
open Go.RowKit Base EPure JPure VSm VIn VJn VRs JVr JVa JRv GPl GVa GTr GEn
open VPure hiding evL
theorem eight_b {w : World} {B : Nat} {v0 v1 v2 v3 v4 v5 v6 v7 : Value} {t : TypeId} (h : w.heap[B]? = some (.cells #[v0, v1, v2, v3, v4, v5, v6, v7] t (0, 0))) :
  w.cell? ⟨B, 0, none⟩ = some v0 ∧ w.cell? ⟨B, 1, none⟩ = some v1 ∧ w.cell? ⟨B, 2, none⟩ = some v2 ∧ w.cell? ⟨B, 3, none⟩ = some v3 ∧ w.cell? ⟨B, 4, none⟩ = some v4 ∧ w.cell? ⟨B, 5, none⟩ = some v5 ∧ w.cell? ⟨B, 6, none⟩ = some v6 ∧ w.cell? ⟨B, 7, none⟩ = some v7 := by
 refine ⟨?_, ?_, ?_, ?_, ?_, ?_, ?_, ?_⟩ <;> simp [World.cell?, h]
theorem heap_at (w : World) (o : Obj) (k : Nat) (h : k = w.heap.size) : (w.alloc o).heap[k]? = some o := by subst h; exact heap_alloc_new w o
def aV (c : C) : Except Nat (ByteArray × Bool) := if c.k = 1 then .ok (⟨#[]⟩, false) else if c.k = 2 then .ok (⟨#[]⟩, c.b) else bnd (txt c) fun t => .ok (t, true)
def atr (L : List C) (p : ByteArray) (b : Bool) (x : Ex) : Except Nat (ByteArray × Bool) := if b = true then bnd (ev (rh L) x) aV else .ok (p, true)
abbrev tb2 (a : ByteArray × Bool) : Value := .tuple #[.string a.1, .bool a.2]
set_option maxHeartbeats 6400000 in
theorem attr_c {K m n : Nat} {w : World} {B : Nat} {Pv mk sv : Value} {r : Int} {L : List C} {fn fp : ByteArray} {fb : Bool} {fa : Int} {xa : Option Addr} {xc : Nat} {x : Ex}
  (h : w.heap[B]? = some (.cells (wk Pv mk sv r) 139 (0, 0))) (hsk : Sk K (m + 1) w Pv L) (hb : fb = true → Rk K m n w Pv L (.agg #[.int .i64 x.o, .int .i64 x.i, .string x.s, .slice xa x.l.length xc]) x) :
  Calls Tryz.prog 247 #[ptr B, .agg #[.string fn, .string fp, .bool fb, .int .i64 x.o, .int .i64 x.i, .string x.s, .slice xa x.l.length xc, .int .i64 fa]] w fun e w' => An w w' e tb2 (atr L fp fb x) := by
 obtain ⟨ps, pc, rfl, -⟩ := hsk
 have hBl : B < w.heap.size := (Array.getElem?_eq_some_iff.1 h).1
 obtain ⟨W0, hW0⟩ : ∃ W0, w.alloc (.cells #[.string fn, .string fp, .bool fb, .int .i64 x.o, .int .i64 x.i, .string x.s, .slice xa x.l.length xc, .int .i64 fa] 76) = W0 := ⟨_, rfl⟩
 have b0 : Below w.heap.size w W0 := by rw [← hW0]; exact (Below.refl _ w).alloc (Nat.le_refl _) _
 have hs0 : W0.heap.size = w.heap.size + 1 := by rw [← hW0]; simp
 have HB0 : Hid (Below w.heap.size w W0) := b0
 have HF0 : Hid (W0.heap[w.heap.size]? = some (.cells #[.string fn, .string fp, .bool fb, .int .i64 x.o, .int .i64 x.i, .string x.s, .slice xa x.l.length xc, .int .i64 fa] 76 (0, 0))) := by rw [← hW0]; exact heap_alloc_new w _
 have HW0 : Hid (W0.heap[B]? = some (.cells (wk (.slice ps L.length pc) mk sv r) 139 (0, 0))) := (b0.block B hBl).trans h
 obtain ⟨k0, -, -, -⟩ := wk_box HW0.out
 obtain ⟨f0, f1, f2, f3, f4, f5, f6, f7⟩ := eight_b HF0.out
 have HWW : Hid (w.alloc (.cells #[.string fn, .string fp, .bool fb, .int .i64 x.o, .int .i64 x.i, .string x.s, .slice xa x.l.length xc, .int .i64 fa] 76) = W0) := hW0
 clear b0 h hW0
 cases fb with
 | false =>
  have e0 : atr L fp false x = .ok (fp, true) := rfl
  rw [e0]
  clear hb e0
  go_enter Tryz.func247, Tryz.ntmps247
  go_wp2_with fail
  try rw [HWW.out]
  go_ret2
  exact ⟨rfl, HB0.out⟩
 | true =>
  have e0 : atr L fp true x = bnd (ev (rh L) x) aV := rfl
  rw [e0]
  obtain ⟨A, hA0⟩ : ∃ A, bnd (ev (rh L) x) aV = A := ⟨_, rfl⟩
  rw [hA0]
  have hrk := hb rfl
  have hlow := hrk.low
  have cV : Hid (∀ W, Below w.heap.size w W → Calls Tryz.prog 243 #[.slice ps L.length pc, .agg #[.int .i64 x.o, .int .i64 x.i, .string x.s, .slice xa x.l.length xc]] W fun e w' => VR K (m + 1) W (ev (rh L) x) e w') := fun W hW => value_c (hrk.below hW)
  have cT : Hid (∀ W u c, Below w.heap.size w W → Base.In false (fun b => b < K) W (m + 1) u c → Calls Tryz.prog 242 #[u] W fun e w' => An W w' e Value.string (txt c)) := fun W u c hW hu => GPl.textOf_c hu.plain (hrk.tb.below hW)
  generalize ev (rh L) x = U at *
  have HA : Hid (bnd U aV = A) := hA0
  clear hb e0 hA0 hrk
  cases U with
  | error q =>
   have hA := HA.out
   subst hA
   go_enter Tryz.func247, Tryz.ntmps247
   go_wp2_with fail
   try rw [HWW.out]
   refine wp_region_held_drew (S := fun w' => w'.cell? ⟨B, 0, none⟩ = some (.slice ps L.length pc) ∧ w'.cell? ⟨w.heap.size, 3, none⟩ = some (.int .i64 x.o) ∧ w'.cell? ⟨w.heap.size, 4, none⟩ = some (.int .i64 x.i) ∧ w'.cell? ⟨w.heap.size, 5, none⟩ = some (.string x.s) ∧ w'.cell? ⟨w.heap.size, 6, none⟩ = some (.slice xa x.l.length xc)) (by kernel_rfl) (by exact ⟨k0, f3, f4, f5, f6⟩) (fun hHeld => ?_)
   refine wpAnyH_take (i := 0) (v := ?_) rfl (by kernel_rfl) (by kernel_rfl) (by kernel_rfl) (fun _ _ _ h => h) (Or.inl ⟨by rfl, ?_⟩) (by assumption) ?_
   rotate_left 1
   ·intro w hSw; (try dsimp only at hSw); go_simp; first | done | with_reducible rfl | (rw [if_neg (by omega)])
   try simp only [Act.put, zA, zB, zD, zE, zF]
   refine wpAnyH_take (i := 1) (v := ?_) rfl (by kernel_rfl) (by kernel_rfl) (by kernel_rfl) (fun _ _ _ h => h) (Or.inl ⟨by rfl, ?_⟩) (by assumption) ?_
   rotate_left 1
   ·intro w hSw; (try dsimp only at hSw); go_simp; first | done | with_reducible rfl | (rw [if_neg (by omega)])
   try simp only [Act.put, zA, zB, zC, zD, zE, zF]
   refine wpAnyH_take (i := 2) (v := ?_) rfl (by kernel_rfl) (by kernel_rfl) (by kernel_rfl) (fun _ _ _ h => h) (Or.inl ⟨by rfl, ?_⟩) (by assumption) ?_
   rotate_left 1
   ·intro w hSw; (try dsimp only at hSw); go_simp; first | done | with_reducible rfl | (rw [if_neg (by omega)])
   try simp only [Act.put, zA, zB, zC, zD, zE, zF]
   refine wpAnyH_take (i := 3) (v := ?_) rfl (by kernel_rfl) (by kernel_rfl) (by kernel_rfl) (fun _ _ _ h => h) (Or.inl ⟨by rfl, ?_⟩) (by assumption) ?_
   rotate_left 1
   ·intro w hSw; (try dsimp only at hSw); go_simp; first | done | with_reducible rfl | (rw [if_neg (by omega)])
   try simp only [Act.put, zA, zB, zC, zD, zE, zF]
   refine wpAnyH_take (i := 4) (v := ?_) rfl (by kernel_rfl) (by kernel_rfl) (by kernel_rfl) (fun _ _ _ h => h) (Or.inl ⟨by rfl, ?_⟩) (by assumption) ?_
   rotate_left 1
   ·intro w hSw; (try dsimp only at hSw); go_simp; first | done | with_reducible rfl | (rw [if_neg (by omega)])
   try simp only [Act.put, zA, zB, zC, zD, zE, zF]
   refine wpAnyH_take (i := 5) (v := ?_) rfl (by kernel_rfl) (by kernel_rfl) (by kernel_rfl) (fun _ _ _ h => h) (Or.inl ⟨by rfl, ?_⟩) (by assumption) ?_
   rotate_left 1
   ·intro w hSw; (try dsimp only at hSw); go_simp; first | done | with_reducible rfl | (rw [if_neg (by omega)])
   try simp only [Act.put, zA, zB, zC, zD, zE, zF]
   refine wpAnyH_ready (rs := [6, 7]) (by kernel_rfl) (by simp) ?_
   refine AllReadyH.cons rfl (fun K0 hK => ?_) (AllReadyH.cons rfl (fun K0 hK => ?_) (AllReadyH.nil))
   ·go_simp
    refine (cV.out _ HB0.out.drew).mono ?_
    rintro ee Wq ⟨bq, hq⟩
    obtain rfl := hq
    exact ⟨rfl, rfl, HB0.out.drew.trans (bq.mono (by have := HB0.out.size; simp; omega))⟩
   ·obtain ⟨W1, hW1⟩ : ∃ W, (W0.drew).alloc (.cells #[.int .i64 0, .bool false, .int .i64 0, .string ⟨#[]⟩, .slice none 0 0, .slice none 0 0] 26) = W := ⟨_, rfl⟩
    have hs1 : W1.heap.size = W0.heap.size + 1 := by rw [← hW1]; simp
    have HZ1 : Hid (W1.heap[W0.heap.size]? = some (.cells #[.int .i64 0, .bool false, .int .i64 0, .string ⟨#[]⟩, .slice none 0 0, .slice none 0 0] 26 (0, 0))) := by rw [← hW1]; exact heap_at _ _ _ (by simp)
    have b1 : Below W0.heap.size W0 W1 := by rw [← hW1]; exact ((Below.refl _ W0).drew).alloc (by simp) _
    have HB1 : Hid (Below w.heap.size w W1) := nx HB0.out b1
    have HW1 : Hid _ := (b1.block B (by omega)).trans HW0.out
    have HF1 : Hid _ := (b1.block w.heap.size (by omega)).trans HF0.out
    go_simp
    try rw [hW1]
    obtain ⟨k0, -, -, -⟩ := wk_box HW1.out
    obtain ⟨-, -, -, f3, f4, f5, f6, -⟩ := eight_b HF1.out
    refine hK.out _ _ (by exact ⟨k0, f3, f4, f5, f6⟩) (fun hHeld => ?_)
    clear hK K0
    try simp only [Act.put, zA, zB, zC, zD, zE, zF]
    refine wpAnyH_ready (rs := [6]) (by kernel_rfl) (by simp) ?_
    refine AllReadyH.cons rfl (fun K0 hK => ?_) (AllReadyH.nil)
    go_simp
    refine (cV.out _ HB1.out).mono ?_
    rintro ee Wq ⟨bq, hq⟩
    obtain rfl := hq
    exact ⟨rfl, rfl, nx HB1.out bq⟩
  | ok c =>
   go_enter Tryz.func247, Tryz.ntmps247
   go_upto_region 3 with fail
   try rw [HWW.out]
   go_cut [6] from 12 to 18 (fun p wc => ∃ R, p = ptr R ∧ Below w.heap.size w wc ∧ ∃ an ln cn al ll cl, wc.heap[R]? = some (.cells #[.int .i64 c.k, .bool c.b, .int .i64 c.i, .string c.s, .slice an ln cn, .slice al ll cl] 26 (0, 0)) ∧ Base.In false (fun b => b < K) wc (m + 1) (vl c.k c.b c.i c.s (.slice an ln cn) (.slice al ll cl)) c)
   case first =>
    refine wp_region_held_drew (S := fun w' => w'.cell? ⟨B, 0, none⟩ = some (.slice ps L.length pc) ∧ w'.cell? ⟨w.heap.size, 3, none⟩ = some (.int .i64 x.o) ∧ w'.cell? ⟨w.heap.size, 4, none⟩ = some (.int .i64 x.i) ∧ w'.cell? ⟨w.heap.size, 5, none⟩ = some (.string x.s) ∧ w'.cell? ⟨w.heap.size, 6, none⟩ = some (.slice xa x.l.length xc)) (by kernel_rfl) (by exact ⟨k0, f3, f4, f5, f6⟩) (fun hHeld => ?_)
    refine wpAnyH_take (i := 0) (v := ?_) rfl (by kernel_rfl) (by kernel_rfl) (by kernel_rfl) (fun _ _ _ h => h) (Or.inl ⟨by rfl, ?_⟩) (by assumption) ?_
    rotate_left 1
    ·intro w hSw; (try dsimp only at hSw); go_simp; first | done | with_reducible rfl | (rw [if_neg (by omega)])
    try simp only [Act.put, zA, zB, zD, zE, zF]
    refine wpAnyH_take (i := 1) (v := ?_) rfl (by kernel_rfl) (by kernel_rfl) (by kernel_rfl) (fun _ _ _ h => h) (Or.inl ⟨by rfl, ?_⟩) (by assumption) ?_
    rotate_left 1
    ·intro w hSw; (try dsimp only at hSw); go_simp; first | done | with_reducible rfl | (rw [if_neg (by omega)])
    try simp only [Act.put, zA, zB, zC, zD, zE, zF]
    refine wpAnyH_take (i := 2) (v := ?_) rfl (by kernel_rfl) (by kernel_rfl) (by kernel_rfl) (fun _ _ _ h => h) (Or.inl ⟨by rfl, ?_⟩) (by assumption) ?_
    rotate_left 1
    ·intro w hSw; (try dsimp only at hSw); go_simp; first | done | with_reducible rfl | (rw [if_neg (by omega)])
    try simp only [Act.put, zA, zB, zC, zD, zE, zF]
    refine wpAnyH_take (i := 3) (v := ?_) rfl (by kernel_rfl) (by kernel_rfl) (by kernel_rfl) (fun _ _ _ h => h) (Or.inl ⟨by rfl, ?_⟩) (by assumption) ?_
    rotate_left 1
    ·intro w hSw; (try dsimp only at hSw); go_simp; first | done | with_reducible rfl | (rw [if_neg (by omega)])
    try simp only [Act.put, zA, zB, zC, zD, zE, zF]
    refine wpAnyH_take (i := 4) (v := ?_) rfl (by kernel_rfl) (by kernel_rfl) (by kernel_rfl) (fun _ _ _ h => h) (Or.inl ⟨by rfl, ?_⟩) (by assumption) ?_
    rotate_left 1
    ·intro w hSw; (try dsimp only at hSw); go_simp; first | done | with_reducible rfl | (rw [if_neg (by omega)])
    try simp only [Act.put, zA, zB, zC, zD, zE, zF]
    refine wpAnyH_take (i := 5) (v := ?_) rfl (by kernel_rfl) (by kernel_rfl) (by kernel_rfl) (fun _ _ _ h => h) (Or.inl ⟨by rfl, ?_⟩) (by assumption) ?_
    rotate_left 1
    ·intro w hSw; (try dsimp only at hSw); go_simp; first | done | with_reducible rfl | (rw [if_neg (by omega)])
    try simp only [Act.put, zA, zB, zC, zD, zE, zF]
    refine wpAnyH_ready (rs := [6, 7]) (by kernel_rfl) (by simp) ?_
    refine AllReadyH.cons rfl (fun K0 hK => ?_) (AllReadyH.cons rfl (fun K0 hK => ?_) (AllReadyH.nil))
    ·go_simp
     refine (cV.out _ HB0.out.drew).mono ?_
     rintro ee W1 ⟨b1, u, rfl, hin⟩
     have b1 : Below W0.heap.size W0 W1 := (Below.refl _ W0).drew.trans b1
     obtain ⟨an, ln, cn, al, ll, cl, rfl⟩ := in_shape hin
     have hs1 := b1.size
     have HB1 : Hid (Below w.heap.size w W1) := nx HB0.out b1
     have HW1 : Hid _ := (b1.block B (by omega)).trans HW0.out
     have HF1 : Hid _ := (b1.block w.heap.size (by omega)).trans HF0.out
     have HI1 : Hid (Base.In false (fun b => b < K) W1 (m + 1) (vl c.k c.b c.i c.s (.slice an ln cn) (.slice al ll cl)) c) := hin
     obtain ⟨k0, -, -, -⟩ := wk_box HW1.out
     obtain ⟨-, -, -, f3, f4, f5, f6, -⟩ := eight_b HF1.out
     refine hK.out _ _ (by exact ⟨k0, f3, f4, f5, f6⟩) (fun hHeld => ?_)
     clear hK K0
     try simp only [Act.put, zA, zB, zC, zD, zE, zF]
     obtain ⟨W2, hW2⟩ : ∃ W, (W1).alloc (.cells #[.int .i64 0, .bool false, .int .i64 0, .string ⟨#[]⟩, .slice none 0 0, .slice none 0 0] 26) = W := ⟨_, rfl⟩
     have hs2 : W2.heap.size = W1.heap.size + 1 := by rw [← hW2]; simp
     have HZ2 : Hid (W2.heap[W1.heap.size]? = some (.cells #[.int .i64 0, .bool false, .int .i64 0, .string ⟨#[]⟩, .slice none 0 0, .slice none 0 0] 26 (0, 0))) := by rw [← hW2]; exact heap_at _ _ _ (by simp)
     have b2 : Below W1.heap.size W1 W2 := by rw [← hW2]; exact ((Below.refl _ W1)).alloc (by simp) _
     have HB2 : Hid (Below w.heap.size w W2) := nx HB1.out b2
     have HI2 : Hid (Base.In false (fun b => b < K) W2 (m + 1) (vl c.k c.b c.i c.s (.slice an ln cn) (.slice al ll cl)) c) := HI1.out.below b2
     have HW2 : Hid _ := (b2.block B (by omega)).trans HW1.out
     have HF2 : Hid _ := (b2.block w.heap.size (by omega)).trans HF1.out
     refine wpAnyH_ready (rs := [7]) (by kernel_rfl) (by simp) ?_
     refine AllReadyH.cons rfl (fun K0 hK => ?_) (AllReadyH.nil)
     go_simp
     try rw [hW2]
     obtain ⟨k0, -, -, -⟩ := wk_box HW2.out
     obtain ⟨-, -, -, f3, f4, f5, f6, -⟩ := eight_b HF2.out
     refine hK.out _ _ (by exact ⟨k0, f3, f4, f5, f6⟩) (fun hHeld => ?_)
     clear hK K0
     try simp only [Act.put, zA, zB, zC, zD, zE, zF]
     obtain ⟨r0, r1, r2, r3, r4, r5⟩ := six_box HZ2.out
     have rf0 := frozen_box HZ2.out 0
     have rf1 := frozen_box HZ2.out 1
     have rf2 := frozen_box HZ2.out 2
     have rf3 := frozen_box HZ2.out 3
     have rf4 := frozen_box HZ2.out 4
     have rf5 := frozen_box HZ2.out 5
     obtain ⟨W9, hW9⟩ : ∃ W9, (((((W2.setCell ⟨W1.heap.size, 0, none⟩ (.int .i64 c.k)).setCell ⟨W1.heap.size, 1, none⟩ (.bool c.b)).setCell ⟨W1.heap.size, 2, none⟩ (.int .i64 c.i)).setCell ⟨W1.heap.size, 3, none⟩ (.string c.s)).setCell ⟨W1.heap.size, 4, none⟩ (.slice an ln cn)).setCell ⟨W1.heap.size, 5, none⟩ (.slice al ll cl) = W9 := ⟨_, rfl⟩
     obtain ⟨q1, q2, q3, q4⟩ := set6 _ _ _ _ _ _ HZ2.out hW9
     have HW9 : Hid _ := (q2 B (by omega)).trans HW2.out
     have HF9 : Hid _ := (q2 w.heap.size (by omega)).trans HF2.out
     have HI9 : Hid (∃ an ln cn al ll cl, W9.heap[W1.heap.size]? = some (.cells #[.int .i64 c.k, .bool c.b, .int .i64 c.i, .string c.s, .slice an ln cn, .slice al ll cl] 26 (0, 0)) ∧ Base.In false (fun b => b < K) W9 (m + 1) (vl c.k c.b c.i c.s (.slice an ln cn) (.slice al ll cl)) c) := ⟨an, ln, cn, al, ll, cl, q1, HI2.out.keep (fun b hb hb2 => q2 b (by omega))⟩
     have HB9 : Hid (Below w.heap.size w W9) := q4 _ _ (by omega) HB2.out
     refine wpAnyH_ready (rs := [8]) (by kernel_rfl) (by simp) ?_
     refine AllReadyH.cons rfl (fun K0 hK => ?_) (AllReadyH.nil)
     go_wp2_with fail
     try rw [hW9]
     obtain ⟨k0, -, -, -⟩ := wk_box HW9.out
     obtain ⟨-, -, -, f3, f4, f5, f6, -⟩ := eight_b HF9.out
     refine hK.out _ _ (by exact ⟨k0, f3, f4, f5, f6⟩) (fun hHeld => ?_)
     clear hK K0
     try simp only [Act.put, zA, zB, zC, zD, zE, zF]
     refine wpAnyH_done (by kernel_rfl) ?_ _
     go_wp2_with fail
     go_meet
     case rel => exact ⟨_, rfl, HB9.out, HI9.out⟩
    ·obtain ⟨W1, hW1⟩ : ∃ W, (W0.drew).alloc (.cells #[.int .i64 0, .bool false, .int .i64 0, .string ⟨#[]⟩, .slice none 0 0, .slice none 0 0] 26) = W := ⟨_, rfl⟩
     have hs1 : W1.heap.size = W0.heap.size + 1 := by rw [← hW1]; simp
     have HZ1 : Hid (W1.heap[W0.heap.size]? = some (.cells #[.int .i64 0, .bool false, .int .i64 0, .string ⟨#[]⟩, .slice none 0 0, .slice none 0 0] 26 (0, 0))) := by rw [← hW1]; exact heap_at _ _ _ (by simp)
     have b1 : Below W0.heap.size W0 W1 := by rw [← hW1]; exact ((Below.refl _ W0).drew).alloc (by simp) _
     have HB1 : Hid (Below w.heap.size w W1) := nx HB0.out b1
     have HW1 : Hid _ := (b1.block B (by omega)).trans HW0.out
     have HF1 : Hid _ := (b1.block w.heap.size (by omega)).trans HF0.out
     go_simp
     try rw [hW1]
     obtain ⟨k0, -, -, -⟩ := wk_box HW1.out
     obtain ⟨-, -, -, f3, f4, f5, f6, -⟩ := eight_b HF1.out
     refine hK.out _ _ (by exact ⟨k0, f3, f4, f5, f6⟩) (fun hHeld => ?_)
     clear hK K0
     try simp only [Act.put, zA, zB, zC, zD, zE, zF]
     refine wpAnyH_ready (rs := [6]) (by kernel_rfl) (by simp) ?_
     refine AllReadyH.cons rfl (fun K0 hK => ?_) (AllReadyH.nil)
     go_simp
     refine (cV.out _ HB1.out).mono ?_
     rintro ee W2 ⟨b2, u, rfl, hin⟩
     obtain ⟨an, ln, cn, al, ll, cl, rfl⟩ := in_shape hin
     have hs2 := b2.size
     have HB2 : Hid (Below w.heap.size w W2) := nx HB1.out b2
     have HW2 : Hid _ := (b2.block B (by omega)).trans HW1.out
     have HF2 : Hid _ := (b2.block w.heap.size (by omega)).trans HF1.out
     have HI2 : Hid (Base.In false (fun b => b < K) W2 (m + 1) (vl c.k c.b c.i c.s (.slice an ln cn) (.slice al ll cl)) c) := hin
     have HZ2 : Hid (W2.heap[w.heap.size + 1]? = some (.cells #[.int .i64 0, .bool false, .int .i64 0, .string ⟨#[]⟩, .slice none 0 0, .slice none 0 0] 26 (0, 0))) := by
      have := (b2.block W0.heap.size (by omega)).trans HZ1.out
      rw [hs0] at this
      exact this
     obtain ⟨k0, -, -, -⟩ := wk_box HW2.out
     obtain ⟨-, -, -, f3, f4, f5, f6, -⟩ := eight_b HF2.out
     refine hK.out _ _ (by exact ⟨k0, f3, f4, f5, f6⟩) (fun hHeld => ?_)
     clear hK K0
     try simp only [Act.put, zA, zB, zC, zD, zE, zF]
     obtain ⟨r0, r1, r2, r3, r4, r5⟩ := six_box HZ2.out
     have rf0 := frozen_box HZ2.out 0
     have rf1 := frozen_box HZ2.out 1
     have rf2 := frozen_box HZ2.out 2
     have rf3 := frozen_box HZ2.out 3
     have rf4 := frozen_box HZ2.out 4
     have rf5 := frozen_box HZ2.out 5
     obtain ⟨W9, hW9⟩ : ∃ W9, (((((W2.setCell ⟨w.heap.size + 1, 0, none⟩ (.int .i64 c.k)).setCell ⟨w.heap.size + 1, 1, none⟩ (.bool c.b)).setCell ⟨w.heap.size + 1, 2, none⟩ (.int .i64 c.i)).setCell ⟨w.heap.size + 1, 3, none⟩ (.string c.s)).setCell ⟨w.heap.size + 1, 4, none⟩ (.slice an ln cn)).setCell ⟨w.heap.size + 1, 5, none⟩ (.slice al ll cl) = W9 := ⟨_, rfl⟩
     obtain ⟨q1, q2, q3, q4⟩ := set6 _ _ _ _ _ _ HZ2.out hW9
     have HW9 : Hid _ := (q2 B (by omega)).trans HW2.out
     have HF9 : Hid _ := (q2 w.heap.size (by omega)).trans HF2.out
     have HI9 : Hid (∃ an ln cn al ll cl, W9.heap[w.heap.size + 1]? = some (.cells #[.int .i64 c.k, .bool c.b, .int .i64 c.i, .string c.s, .slice an ln cn, .slice al ll cl] 26 (0, 0)) ∧ Base.In false (fun b => b < K) W9 (m + 1) (vl c.k c.b c.i c.s (.slice an ln cn) (.slice al ll cl)) c) := ⟨an, ln, cn, al, ll, cl, q1, HI2.out.keep (fun b hb hb2 => q2 b (by omega))⟩
     have HB9 : Hid (Below w.heap.size w W9) := q4 _ _ (by omega) HB2.out
     refine wpAnyH_ready (rs := [8]) (by kernel_rfl) (by simp) ?_
     refine AllReadyH.cons rfl (fun K0 hK => ?_) (AllReadyH.nil)
     go_wp2_with fail
     try rw [hW9]
     obtain ⟨k0, -, -, -⟩ := wk_box HW9.out
     obtain ⟨-, -, -, f3, f4, f5, f6, -⟩ := eight_b HF9.out
     refine hK.out _ _ (by exact ⟨k0, f3, f4, f5, f6⟩) (fun hHeld => ?_)
     clear hK K0
     try simp only [Act.put, zA, zB, zC, zD, zE, zF]
     refine wpAnyH_done (by kernel_rfl) ?_ _
     go_wp2_with fail
     go_meet
     case rel => exact ⟨_, rfl, HB9.out, HI9.out⟩
   case rest =>
    obtain ⟨R, rfl, hbc, an, ln, cn, al, ll, cl, hx, hin⟩ := hcut
    have HBc : Hid (Below w.heap.size w wc) := hbc
    obtain ⟨n0, n1, n2, n3, n4, n5⟩ := six_box hx
    have HA' : Hid (aV c = A) := HA.out
    have cTx := cT.out wc _ c hbc hin
    clear hbc hin hx k0 f0 f1 f2 f3 f4 f5 f6 f7 HA
    by_cases h1 : c.k = 1
    ·have e1 : (c.k == 1) = true := by simp [h1]
     have hA := HA'.out
     unfold aV at hA
     rw [if_pos h1] at hA
     subst hA
     clear h1
     go_wp2_with fail
     go_ret2
     exact ⟨rfl, HBc.out⟩
    have e1 : (c.k == 1) = false := by simp [h1]
    by_cases h2 : c.k = 2
    ·have e2 : (c.k == 2) = true := by simp [h2]
     have hA := HA'.out
     unfold aV at hA
     rw [if_neg h1, if_pos h2] at hA
     subst hA
     clear h1 h2
     go_wp2_with fail
     go_quiet (fail)
     go_wp2_with fail
     go_ret2
     exact ⟨rfl, HBc.out.trans ⟨rfl, rfl, rfl, by simp, fun _ _ => by simp⟩⟩
    have e2 : (c.k == 2) = false := by simp [h2]
    have hA := HA'.out
    unfold aV at hA
    rw [if_neg h1, if_neg h2] at hA
    clear h1 h2 HA'
    generalize txt c = X at *
    have HA2 : Hid (bnd X (fun t => (.ok (t, true) : Except Nat (ByteArray × Bool))) = A) := hA
    clear hA
    cases X with
    | error q =>
     have hA := HA2.out
     subst hA
     go_wp2_with fail
     refine cTx.mono ?_
     rintro ee W5 ⟨rfl, b5⟩
     exact ⟨rfl, rfl, nx HBc.out b5⟩
    | ok t =>
     have hA := HA2.out
     subst hA
     go_wp2_with fail
     refine cTx.mono ?_
     rintro ee W5 ⟨rfl, b5⟩
     have HB5 : Hid (Below w.heap.size w W5) := nx HBc.out b5
     clear cTx b5
     go_wp2_with fail
     go_ret2
     exact ⟨rfl, HB5.out⟩
end Go.Proofs.YthonejomogkjjaaGreatDoor.GAt
namespace Go.Proofs.YthonejomogkjjaaGreatDoor.TBase
open Go.RowKit
theorem infoA : (Tryz.prog.info? 80).map (fun i => (i.zero, i.size, i.bytes)) = some (some (.agg #[.string ⟨#[]⟩, .string ⟨#[]⟩]), 2, 32) := by kernel_rfl
theorem infoT : (Tryz.prog.info? 69).map (fun i => (i.zero, i.size, i.bytes)) = some (some (.agg #[.string ⟨#[]⟩, .string ⟨#[]⟩, .slice none 0 0, .slice none 0 0]), 4, 80) := by kernel_rfl
def flatA (L : List (ByteArray × ByteArray)) : List Value := L.flatMap fun t => [.string t.1, .string t.2]
def OwnA (w : World) (B : Nat) (v : Value) (L : List (ByteArray × ByteArray)) : Prop := w.ownsRow B 80 2 v L.length (flatA L)
theorem flatA_append (a b : List (ByteArray × ByteArray)) : flatA (a ++ b) = flatA a ++ flatA b := by simp [flatA]
theorem flatA_get (L : List (ByteArray × ByteArray)) : ∀ (j : Nat) (hj : j < L.length), (flatA L)[j * 2]? = some (.string L[j].1) ∧ (flatA L)[j * 2 + 1]? = some (.string L[j].2) := by
 induction L with
 | nil => intro j hj; simp at hj
 | cons t L ih =>
  intro j hj
  have e : flatA (t :: L) = [.string t.1, .string t.2] ++ flatA L := by simp [flatA]
  rw [e]
  cases j with
  | zero => simp
  | succ j =>
   rw [List.getElem?_append_right (by simp; omega), List.getElem?_append_right (by simp; omega)]
   have e2 : (j + 1) * 2 - [Value.string t.1, .string t.2].length = j * 2 := by simp; omega
   have e3 : (j + 1) * 2 + 1 - [Value.string t.1, .string t.2].length = j * 2 + 1 := by simp; omega
   rw [e2, e3]
   exact ih j (by simpa using hj)
theorem ownA_cell {w : World} {B g n cap : Nat} {L : List (ByteArray × ByteArray)} (h : OwnA w B (.slice (some ⟨g, 0, none⟩) n cap) L) (j : Nat) (hj : j < L.length) : Two w g (0 + j * 2) L[j] := by
 have h1 := World.ownsRow.cells (g := g) h rfl (j * 2) _ (flatA_get L j hj).1
 have h2 := World.ownsRow.cells (g := g) h rfl (j * 2 + 1) _ (flatA_get L j hj).2
 rw [add_none] at h1 h2
 exact ⟨h1, h2⟩
def flat (us : List Value) : List Value := us.flatMap fun u => u.cells.toList
def Fours (us : List Value) : Prop := ∀ u ∈ us, ∃ v0 v1 v2 v3, u = .agg #[v0, v1, v2, v3] ∧ ∀ x ∈ [v0, v1, v2, v3], x.oneCell' = true
def OwnV (w : World) (B : Nat) (v : Value) (us : List Value) : Prop := w.ownsRow B 69 4 v us.length (flat us) ∧ Fours us
theorem flat_append (a b : List Value) : flat (a ++ b) = flat a ++ flat b := by simp [flat]
theorem flat_len {us : List Value} (h : Fours us) : (flat us).length = us.length * 4 := by
 induction us with
 | nil => rfl
 | cons u us ih =>
  obtain ⟨v0, v1, v2, v3, rfl, -⟩ := h u (by simp)
  have := ih (fun x hx => h x (by simp [hx]))
  simp only [flat, List.flatMap_cons, List.length_append] at this ⊢
  simp only [Value.cells, List.length_cons] at this ⊢
  simp [this]
  omega
theorem flat_get {us : List Value} (h : Fours us) : ∀ (j : Nat) (hj : j < us.length) (i : Nat), i < 4 → (flat us)[j * 4 + i]? = us[j].cells.toList[i]? := by
 induction us with
 | nil => intro j hj; simp at hj
 | cons u us ih =>
  intro j hj i hi
  obtain ⟨v0, v1, v2, v3, rfl, -⟩ := h u (by simp)
  have ih := ih (fun x hx => h x (by simp [hx]))
  have e : flat (.agg #[v0, v1, v2, v3] :: us) = [v0, v1, v2, v3] ++ flat us := by simp [flat, Value.cells]
  rw [e]
  cases j with
  | zero =>
   rw [List.getElem?_append_left (by simp; omega)]
   simp [Value.cells]
  | succ j =>
   rw [List.getElem?_append_right (by simp; omega)]
   have e2 : (j + 1) * 4 + i - [v0, v1, v2, v3].length = j * 4 + i := by simp; omega
   rw [e2, ih j (by simpa using hj) i hi]
   simp
theorem ownV_four {w : World} {B g n cap : Nat} {us : List Value} (h : OwnV w B (.slice (some ⟨g, 0, none⟩) n cap) us) (j : Nat) (hj : j < us.length) : Four w g (0 + j * 4) us[j] := by
 obtain ⟨v0, v1, v2, v3, e, -⟩ := h.2 us[j] (List.getElem_mem hj)
 have hc : ∀ i u, i < 4 → us[j].cells.toList[i]? = some u → w.cell? ⟨g, 0 + (j * 4 + i), none⟩ = some u := by
  intro i u hi hu
  rw [← add_none]
  exact World.ownsRow.cells (g := g) h.1 rfl (j * 4 + i) u (by rw [flat_get h.2 j hj i hi]; exact hu)
 rw [e] at hc ⊢
 refine ⟨v0, v1, v2, v3, rfl, ?_, ?_, ?_, ?_⟩
 ·exact hc 0 v0 (by omega) rfl
 ·exact hc 1 v1 (by omega) rfl
 ·exact hc 2 v2 (by omega) rfl
 ·exact hc 3 v3 (by omega) rfl
theorem new_cells (w : World) (cs : List Value) (t : TypeId) : ∀ j u, cs[j]? = some u → (w.alloc (.cells cs.toArray t)).cell? ((⟨w.heap.size, 0, none⟩ : Addr).add j) = some u := by
 intro j u hu
 rw [add_none, Nat.zero_add]
 have h := heap_alloc_new w (.cells cs.toArray t)
 have e : (w.alloc (.cells cs.toArray t)).cell? ⟨w.heap.size, j, none⟩ = cs.toArray[j]? := by
  unfold World.cell?
  rw [h]
  rfl
 rw [e]
 simpa using hu
theorem block_set {w : World} {B j : Nat} {cs : Array Value} {t : TypeId} {fz : Nat × Nat} (h : w.heap[B]? = some (.cells cs t fz)) (u : Value) : (w.setCell ⟨B, j, none⟩ u).heap[B]? = some (.cells (cs.setIfInBounds j u) t fz) := by
 simp [World.setCell, Array.getElem?_modify, h]
theorem frozen_box {w : World} {B : Nat} {cs : Array Value} {t : TypeId} (h : w.heap[B]? = some (.cells cs t (0, 0))) (j : Nat) : w.frozen? ⟨B, j, none⟩ = false := by
 simp [World.frozen?, h]
theorem own_below {w w' : World} {B : Nat} {e : TypeId} {s n : Nat} {v : Value} {xs : List Value} (h : w.ownsRow B e s v n xs) (hb : Below w.heap.size w w') : w'.ownsRow B e s v n xs := by
 refine ⟨h.1, ?_⟩
 rcases h.2 with h2 | ⟨g, cap, cur, hv, hg, hh, r⟩
 ·exact .inl h2
 ·exact .inr ⟨g, cap, cur, hv, hg, (hb.block g (Array.getElem?_eq_some_iff.1 hh).1).trans hh, r⟩
theorem fours_snoc {us : List Value} {u : Value} (h : Fours us) (hu : ∃ v0 v1 v2 v3, u = .agg #[v0, v1, v2, v3] ∧ ∀ x ∈ [v0, v1, v2, v3], x.oneCell' = true) : Fours (us ++ [u]) := by
 intro x hx
 rcases List.mem_append.1 hx with hx | hx
 ·exact h x hx
 ·simp at hx; subst hx; exact hu
end Go.Proofs.YthonejomogkjjaaGreatDoor.TBase
namespace Go.Proofs.YthonejomogkjjaaGreatDoor.GAs
open Go.RowKit Base EPure JPure VSm VIn VJn VRs JVr JVa JRv GPl GVa GTr GEn GAt
open VPure hiding evL
open KBase (Fld RF InF Fd8)
open TBase (OwnA flatA flatA_append infoA)
def ats (L : List C) : List Fld → Except Nat (List (ByteArray × ByteArray))
 | [] => .ok []
 | f :: t => bnd (atr L f.p f.b f.e) fun a => bnd (ats L t) fun r => .ok (if a.2 = true then (f.n, a.1) :: r else r)
def app {α : Type} (A : List α) (x : Except Nat (List α)) : Except Nat (List α) := bnd x fun r => .ok (A ++ r)
theorem app_nil {α : Type} (x : Except Nat (List α)) : app [] x = x := by cases x <;> rfl
structure Bs (K m : Nat) (w : World) (B : Nat) (Pv mk sv : Value) (r : Int) (L : List C) : Prop where
 box : w.heap[B]? = some (.cells (wk Pv mk sv r) 139 (0, 0))
 low : K ≤ w.heap.size
 wfs : ∀ (j : Int) c, rh L j = some c → wf c
 tb : Tb w
 sk : Sk K (m + 1) w Pv L
theorem Bs.below {K m : Nat} {w w' : World} {B : Nat} {Pv mk sv : Value} {r : Int} {L : List C} (h : Bs K m w B Pv mk sv r L) (hb : Below w.heap.size w w') : Bs K m w' B Pv mk sv r L :=
 ⟨(hb.block B (Array.getElem?_eq_some_iff.1 h.box).1).trans h.box, Nat.le_trans h.low hb.size, h.wfs, h.tb.below hb, h.sk.below hb⟩
theorem Bs.rk {K m n : Nat} {w : World} {B : Nat} {Pv mk sv : Value} {r : Int} {L : List C} (h : Bs K m w B Pv mk sv r L) {v : Value} {x : Ex} (hx : XBase.In false (fun b => b < K) w n v x) (hg : gd x) (ho : ops okOp x) : Rk K m n w Pv L v x :=
 ⟨hx, h.low, h.wfs, hg, ho, h.tb, h.sk⟩
theorem ats_yes {L : List C} {f : Fld} {t : List Fld} {A : List (ByteArray × ByteArray)} {a : ByteArray} (h : atr L f.p f.b f.e = .ok (a, true)) : app A (ats L (f :: t)) = app (A ++ [(f.n, a)]) (ats L t) := by
 rw [ats, h]
 cases ats L t with
 | error q => rfl
 | ok r => show Except.ok (A ++ (f.n, a) :: r) = Except.ok (A ++ [(f.n, a)] ++ r); simp
theorem ats_not {L : List C} {f : Fld} {t : List Fld} {A : List (ByteArray × ByteArray)} {a : ByteArray} (h : atr L f.p f.b f.e = .ok (a, false)) : app A (ats L (f :: t)) = app A (ats L t) := by
 rw [ats, h]
 cases ats L t with
 | error q => rfl
 | ok r => rfl
theorem ats_bad {L : List C} {f : Fld} {t : List Fld} {A : List (ByteArray × ByteArray)} {q : Nat} (h : atr L f.p f.b f.e = .error q) : app A (ats L (f :: t)) = .error q := by
 rw [ats, h]
 rfl
def AR (w : World) (a : Except Nat (List (ByteArray × ByteArray))) (e : Ending) (w' : World) : Prop := Below w.heap.size w w' ∧ match a with
 | .ok A => ∃ v, e = .returned v ∧ OwnA w' w.heap.size v A
 | .error n => e = .panicked (pkE n)
set_option maxHeartbeats 6400000 in
theorem attrs_c {K m : Nat} {w : World} {B : Nat} {Pv mk sv : Value} {r : Int} {L : List C} (h : Bs K m w B Pv mk sv r L) {fv : Value} {fs : List Fld} (hf : RF false (fun b => b < K) w fv fs) (hg : ∀ j (h : j < fs.length), fs[j].b = true → gd fs[j].e ∧ ops okOp fs[j].e) (hn : fs.length ≤ 4096) :
  Calls Tryz.prog 183 #[ptr B, fv] w fun e w' => AR w (ats L fs) e w' := by
 obtain ⟨ia, hia, ha0, ha1, ha2⟩ := XLend.info_parts infoA
 have HB : Hid (Bs K m w B Pv mk sv r L) := h
 have HF : Hid (RF false (fun b => b < K) w fv fs) := hf
 have HG : Hid (∀ j (h : j < fs.length), fs[j].b = true → gd fs[j].e ∧ ops okOp fs[j].e) := hg
 obtain ⟨T, hT⟩ : ∃ T, ats L fs = T := ⟨_, rfl⟩
 rw [hT]
 have HT : Hid (app [] (ats L (fs.drop 0)) = T) := by show _ = _; rw [app_nil, List.drop_zero]; exact hT
 obtain ⟨a, cap, rfl, hlc, hcm, hlen, -, -⟩ := hf
 clear h hg hT
 go_enter Tryz.func183, Tryz.ntmps183
 go_wp2_with fail
 go_loopw [5, 12] (fun out i wr => ∃ (q : Nat) (A : List (ByteArray × ByteArray)), i = .int .i64 q ∧ q ≤ fs.length ∧ A.length ≤ q ∧ app A (ats L (fs.drop q)) = T ∧ OwnA wr w.heap.size out A ∧ Below w.heap.size w wr) (fun _ i _ => fs.length - (intOf i).toNat)
 case atStart => exact ⟨0, [], rfl, by omega, by simp, HT.out, World.ownsRow_nil _ _ _ _, Below.refl _ _⟩
 case round =>
  clear HT
  obtain ⟨q, A, rfl, hq, hA, hM, hown, hb⟩ := hrel
  have HO : Hid (OwnA wr w.heap.size u5 A) := hown
  have HBr : Hid (Below w.heap.size w wr) := hb
  have hsz := hb.size
  by_cases hlt : q < fs.length
  ·have d0 : decide ((q : Int) < (fs.length : Int)) = true := by simp; omega
   have i0 : (0 : Int) ≤ (q : Int) := by omega
   have i1 : (q : Int) < (fs.length : Int) := by omega
   obtain ⟨aa, cc, hsl, -, -, -, -, hLA⟩ := HF.out
   cases hsl
   obtain ⟨g, o, u, rfl, -, hu, hi⟩ := hLA.elem hlt
   obtain ⟨v0, v1, v2, e0, e1, e2, e3, v7, rfl, c0, c1, c2, c3, c4, c5, c6, c7⟩ := hu
   obtain ⟨mm, hxi⟩ := hi.kinds.2.2.2.2.2.2.2
   obtain ⟨ea, ec, rfl, rfl, rfl, rfl, rfl, rfl, rfl, rfl, -, -, -, -⟩ := hi.eight
   have c0 := below_cell c0 hb
   have c1 := below_cell c1 hb
   have c2 := below_cell c2 hb
   have c3 := below_cell c3 hb
   have c4 := below_cell c4 hb
   have c5 := below_cell c5 hb
   have c6 := below_cell c6 hb
   have c7 := below_cell c7 hb
   have hgq := HG.out q hlt
   rw [List.drop_eq_getElem_cons hlt] at hM
   obtain ⟨f, hff⟩ : ∃ f, fs[q] = f := ⟨_, rfl⟩
   rw [hff] at c0 c1 c2 c3 c4 c5 c6 c7 hM hgq hxi
   obtain ⟨W1, hW1⟩ : ∃ W1, wr.alloc (.cells #[.string f.n, .string f.p, .bool f.b, .int .i64 f.e.o, .int .i64 f.e.i, .string f.e.s, .slice ea f.e.l.length ec, .int .i64 f.a] 76) = W1 := ⟨_, rfl⟩
   have b1 : Below wr.heap.size wr W1 := by rw [← hW1]; exact (Below.refl _ wr).alloc (Nat.le_refl _) _
   have hs1 : W1.heap.size = wr.heap.size + 1 := by rw [← hW1]; simp
   have hx1 : W1.heap[wr.heap.size]? = some (.cells #[.string f.n, .string f.p, .bool f.b, .int .i64 f.e.o, .int .i64 f.e.i, .string f.e.s, .slice ea f.e.l.length ec, .int .i64 f.a] 76 (0, 0)) := by rw [← hW1]; exact heap_alloc_new wr _
   have HX1 : Hid (W1.heap[wr.heap.size]? = some (.cells #[.string f.n, .string f.p, .bool f.b, .int .i64 f.e.o, .int .i64 f.e.i, .string f.e.s, .slice ea f.e.l.length ec, .int .i64 f.a] 76 (0, 0))) := hx1
   have hB1 := HB.out.below (nx hb b1)
   have cA := attr_c (n := mm) (fn := f.n) (fp := f.p) (fb := f.b) (fa := f.a) (xa := ea) (xc := ec) (x := f.e) hB1.box hB1.sk (fun hbt => hB1.rk (hxi.below (nx hb b1)) (hgq hbt).1 (hgq hbt).2)
   obtain ⟨z0, z1, z2, z3, z4, z5, z6, z7⟩ := eight_b hx1
   obtain ⟨U, hU⟩ : ∃ U, atr L f.p f.b f.e = U := ⟨_, rfl⟩
   rw [hU] at cA
   have HU : Hid (atr L f.p f.b f.e = U) := hU
   have HM : Hid (app A (ats L (f :: fs.drop (q + 1))) = T) := hM
   have HB1 : Hid (Below w.heap.size w W1) := nx hb b1
   have HO1 : Hid (OwnA W1 w.heap.size u5 A) := TBase.own_below hown b1
   have HW1 : Hid (wr.alloc (.cells #[.string f.n, .string f.p, .bool f.b, .int .i64 f.e.o, .int .i64 f.e.i, .string f.e.s, .slice ea f.e.l.length ec, .int .i64 f.a] 76) = W1) := hW1
   clear hLA hi hxi hff hgq hM hU hb hown b1 hx1 hB1 hW1
   go_wp2_with fail
   try rw [HW1.out]
   refine cA.mono ?_
   intro ee W2 hA2
   cases U with
   | error z =>
    obtain ⟨rfl, b2⟩ := hA2
    have hT := HM.out
    rw [ats_bad HU.out] at hT
    subst hT
    exact ⟨rfl, nx HB1.out b2, rfl⟩
   | ok y =>
    obtain ⟨rfl, b2⟩ := hA2
    obtain ⟨t, ok⟩ := y
    have HB2 : Hid (Below w.heap.size w W2) := nx HB1.out b2
    have hs2 := b2.size
    have HO2 : Hid (OwnA W2 w.heap.size u5 A) := TBase.own_below HO1.out b2
    obtain ⟨y0, -⟩ := eight_b ((b2.block wr.heap.size (by omega)).trans HX1.out)
    clear b2 cA z0 z1 z2 z3 z4 z5 z6 z7
    cases ok with
    | false =>
     have HM2 : Hid (app A (ats L (fs.drop (q + 1))) = T) := by show _ = _; rw [← HM.out, ats_not HU.out]
     go_wp2_with fail
     go_roundw
     case rel => exact ⟨q + 1, A, by go_num, by omega, by omega, HM2.out, HO2.out, HB2.out⟩
     case measure => simp only [intOf]; omega
    | true =>
     have HM2 : Hid (app (A ++ [(f.n, t)]) (ats L (fs.drop (q + 1))) = T) := by show _ = _; rw [← HM.out, ats_yes HU.out]
     have hrow := World.ownsRow.alloc HO2.out (.cells #[.string f.n, .string t] 80)
     have hsw := HB2.out.size
     have hAl : A.length ≤ 4096 := by omega
     go_wp2_with (first
      | (at_builtin; refine wpList_append_own_at _ rfl _ _ 67 rfl w.heap.size 80 ia (.agg #[.string ⟨#[]⟩, .string ⟨#[]⟩]) 2 32 Tryz.underlying67 hia ha0 ha1 ha2 rfl (by decide) _ _ _ rfl hrow ⟨W2.heap.size, 0, none⟩ 1 1 [.string f.n, .string t] rfl rfl (TBase.new_cells W2 _ 80) (by simp [Value.oneCell']) (by unfold maxLen; omega) (by omega) (by simp; omega) ?_))
     intro v' W4 hown' hgrow _ hat
     have HO4 : Hid (OwnA W4 w.heap.size v' (A ++ [(f.n, t)])) := by
      show World.ownsRow _ _ _ _ _ _ _
      rw [List.length_append, flatA_append]
      exact hown'
     have HB4 : Hid (Below w.heap.size w W4) := (HB2.out.alloc HB2.out.size _).grown hgrow (by simp; omega) (fun k hk => (World.ownsRow.lt HO2.out k hk).1)
     have hAl2 : (A ++ [(f.n, t)]).length ≤ q + 1 := by simp; omega
     clear hown' hgrow hat hrow
     go_wp2_with fail
     go_roundw
     case rel => exact ⟨q + 1, A ++ [(f.n, t)], by go_num, by omega, hAl2, HM2.out, HO4.out, HB4.out⟩
     case measure => simp only [intOf]; omega
  ·have d0 : decide ((q : Int) < (fs.length : Int)) = false := by simp; omega
   have hT : T = .ok A := by
    rw [← hM, List.drop_eq_nil_of_le (by omega)]
    show Except.ok (A ++ []) = _
    rw [List.append_nil]
   subst hT
   clear hM hb hown
   go_wp2_with fail
   go_ret
   exact ⟨HBr.out, _, rfl, HO.out⟩
end Go.Proofs.YthonejomogkjjaaGreatDoor.GAs
