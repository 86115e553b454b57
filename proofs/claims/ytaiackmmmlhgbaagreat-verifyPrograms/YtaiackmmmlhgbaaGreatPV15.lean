import Derived.Lib.SliceRun
import Derived.Test.YtaiackmmmlhgbaaGreatPV11
import Derived.Test.YtaiackmmmlhgbaaGreatPV14
open Go.Proofs.Tryz
set_option linter.unusedVariables false
set_option maxRecDepth 20000
set_option maxHeartbeats 3200000
namespace Go.Proofs.YtaiackmmmlhgbaaGreat.BIn
open Go.RowKit BPl YRr BBx BSm
open YPl (Oq Bk Pg)
open CBx (w64)
open Tak
open IBase (heap_alloc_new)
theorem frz {W : World} {B : Nat} {cs : Array Value} {t : TypeId} (h : W.heap[B]? = some (.cells cs t (0, 0))) (j : Nat) : W.frozen? ⟨B, j, none⟩ = false := by simp [World.frozen?, h]
theorem three (w : World) (c1 c2 c3 : Array Value) (t1 t2 t3 : TypeId) : ∃ W, ((w.alloc (.cells c1 t1)).alloc (.cells c2 t2)).alloc (.cells c3 t3) = W /\ Below w.heap.size w W /\ W.heap.size = w.heap.size + 3 /\ W.heap[w.heap.size]? = some (.cells c1 t1 (0, 0)) /\ W.heap[w.heap.size + 1]? = some (.cells c2 t2 (0, 0)) /\ W.heap[w.heap.size + 1 + 1]? = some (.cells c3 t3 (0, 0)) := by
 refine ⟨_, rfl, (((Below.refl _ w).alloc (Nat.le_refl _) _).alloc (by simp) _).alloc (by simp; omega) _, by simp, ?_, ?_, ?_⟩
 ·rw [Below.heap_alloc _ _ _ (by simp; omega), Below.heap_alloc _ _ _ (by simp), heap_alloc_new]
 ·rw [Below.heap_alloc _ _ _ (by simp)]
  have := heap_alloc_new (w.alloc (.cells c1 t1)) (.cells c2 t2)
  simpa using this
 ·have := heap_alloc_new ((w.alloc (.cells c1 t1)).alloc (.cells c2 t2)) (.cells c3 t3)
  simpa using this
abbrev arv (A : Ar) : Value := .agg #[.bool A.ow, .bool A.lp, .int .i64 A.st, .int .i64 A.el, .int .i64 A.ls]
theorem cell_ne {W : World} {g g' j j' : Nat} {v u : Value} (h : g ≠ g') (hc : W.cell? ⟨g, j, none⟩ = some u) : (W.setCell ⟨g', j', none⟩ v).cell? ⟨g, j, none⟩ = some u := (World.cell?_of_block (w := W) (Below.heap_setCell W _ _ _ h)).trans hc
theorem five_set {W : World} {B : Nat} {t : TypeId} {y0 y1 y2 y3 y4 : Value} (x0 x1 x2 x3 x4 : Value) (h : W.heap[B]? = some (.cells #[y0, y1, y2, y3, y4] t (0, 0))) : (((((W.setCell ⟨B, 0, none⟩ x0).setCell ⟨B, 1, none⟩ x1).setCell ⟨B, 2, none⟩ x2).setCell ⟨B, 3, none⟩ x3).setCell ⟨B, 4, none⟩ x4).heap[B]? = some (.cells #[x0, x1, x2, x3, x4] t (0, 0)) := by
 simp [World.setCell, Array.getElem?_modify, h]
theorem inside_c {w : World} {B P : Nat} {A : Ar} {nb : Nat} {ov : Value} {lt : Int} {uv : Value} {cl : Int} (hB : Bw w B P A nb ov lt uv cl) (o : Oq) (a : Option Addr) (cap : Nat) (hst : 0 <= A.st /\ A.st <= 64) (hls : 0 <= A.ls /\ A.ls <= 64) (ho : o.l.length <= 140737488351232) :
  Calls prog 197 #[.pointer (some ⟨B, 0, none⟩), opv o (.slice a o.l.length cap)] w fun e w' => e = .returned (arv (ins A o)) /\ Below w.heap.size w w' := by
 obtain ⟨W, hW, hb, hs, h0, h1, h2⟩ := three w #[.int .i64 o.k, .int .i64 o.a, .int .i64 o.b, .int .i64 o.c, .slice a o.l.length cap] #[.bool false, .bool false, .int .i64 0, .int .i64 0, .int .i64 0] #[.bool A.ow, .bool A.lp, .int .i64 A.st, .int .i64 A.el, .int .i64 A.ls] 127 96 96
 have x1 := cell_of hB 1 _ rfl
 have x2 := cell_of hB 2 _ rfl
 have x3 := cell_of hB 3 _ rfl
 have x4 := cell_of hB 4 _ rfl
 have x5 := cell_of hB 5 _ rfl
 have hlt := hB.lt
 have hg : 0 <= grows o /\ grows o <= 140737488351232 := by
  unfold grows
  split
  ·omega
  split
  ·omega
  split <;> omega
 have cG := fun W => grows_c o a cap W
 have HW : Hid (∀ W7, Below W.drew.heap.size W.drew W7 -> W7.heap[w.heap.size]? = some (.cells #[.int .i64 o.k, .int .i64 o.a, .int .i64 o.b, .int .i64 o.c, .slice a o.l.length cap] 127 (0, 0)) /\ W7.heap[w.heap.size + 1]? = some (.cells #[.bool false, .bool false, .int .i64 0, .int .i64 0, .int .i64 0] 96 (0, 0)) /\ W7.heap[w.heap.size + 1 + 1]? = some (.cells #[.bool A.ow, .bool A.lp, .int .i64 A.st, .int .i64 A.el, .int .i64 A.ls] 96 (0, 0)) /\ Below w.heap.size w W7) := by
  intro W7 b7
  have hd : W.drew.heap.size = W.heap.size := rfl
  exact ⟨(b7.block _ (by omega)).trans h0, (b7.block _ (by omega)).trans h1, (b7.block _ (by omega)).trans h2, hb.drew.trans (b7.mono (by omega))⟩
 have c0 := cell_of h0 0 _ rfl
 have c1 := cell_of h0 1 _ rfl
 have c2 := cell_of h0 2 _ rfl
 have c3 := cell_of h0 3 _ rfl
 have c4 := cell_of h0 4 _ rfl
 have i2 := cell_of h2 2 _ rfl
 unfold ins
 obtain ⟨k, x, y, z, l⟩ := o
 dsimp only at *
 generalize grows ⟨k, x, y, z, l⟩ = G at *
 have hw1 : IntKind.i64.wrap (A.st + G) = A.st + G := w64 (by omega) (by omega)
 have hw2 : IntKind.i64.wrap (A.ls + 1) = A.ls + 1 := w64 (by omega) (by omega)
 clear hb h0 h1 h2 hB hst hls hg ho
 obtain ⟨A0, A1, A2, A3, A4⟩ := A
 dsimp only at *
 generalize l.length = n at *
 obtain ⟨LS, hLS⟩ : ∃ LS, (if k = 9 then A4 + 1 else A4) = LS := ⟨_, rfl⟩
 rw [hLS]
 have HLS : Hid ((if k = 9 then A4 + 1 else A4) = LS) := hLS
 clear hLS
 go_enter func197, ntmps197
 go_wp2_with fail
 refine wp_region_held_drew (S := fun w' => (w'.cell? ⟨w.heap.size, 0, none⟩ = some (.int .i64 k) /\ w'.cell? ⟨w.heap.size, 1, none⟩ = some (.int .i64 x) /\ w'.cell? ⟨w.heap.size, 2, none⟩ = some (.int .i64 y) /\ w'.cell? ⟨w.heap.size, 3, none⟩ = some (.int .i64 z) /\ w'.cell? ⟨w.heap.size, 4, none⟩ = some (.slice a n cap))) (by kernel_rfl) (by exact ⟨c0, c1, c2, c3, c4⟩) (fun hHeld => ?_)
 refine tkH 0 rfl ?_; try simp only [ptH]
 refine tkH 2 rfl ?_; try simp only [ptH]
 refine rdH [1, 3] ?_
 refine AllReadyH.cons rfl (fun K0 hK => ?_) (AllReadyH.cons rfl (fun K0 hK => ?_) (AllReadyH.nil))
 ·go_simp
  refine hK.out _ _ (by assumption) (fun hHeld => ?_)
  clear hK K0
  try simp only [ptH]
  refine rdH [3] ?_
  refine alH rfl fun K0 hK => ?_
  go_simp
  refine (cG _).mono ?_
  rintro e W7 ⟨rfl, b7⟩
  obtain ⟨q0, q1, q2, q3⟩ := HW.out W7 b7
  have z0 := cell_of q0 0 _ rfl
  have z1 := cell_of q0 1 _ rfl
  have z2 := cell_of q0 2 _ rfl
  have z3 := cell_of q0 3 _ rfl
  have z4 := cell_of q0 4 _ rfl
  have u0 := cell_of q2 0 _ rfl
  have u1 := cell_of q2 1 _ rfl
  have u2 := cell_of q2 2 _ rfl
  have u3 := cell_of q2 3 _ rfl
  have u4 := cell_of q2 4 _ rfl
  have r0 := cell_of q1 0 _ rfl
  have r1 := cell_of q1 1 _ rfl
  have r2 := cell_of q1 2 _ rfl
  have r3 := cell_of q1 3 _ rfl
  have r4 := cell_of q1 4 _ rfl
  have v1 := frz q2 1
  have v2 := frz q2 2
  have v4 := frz q2 4
  have y0 := frz q1 0
  have y1 := frz q1 1
  have y2 := frz q1 2
  have y3 := frz q1 3
  have y4 := frz q1 4
  have Q1 : Hid (W7.heap[w.heap.size + 1]? = some (.cells #[.bool false, .bool false, .int .i64 0, .int .i64 0, .int .i64 0] 96 (0, 0))) := q1
  have Q3 : Hid (Below w.heap.size w W7) := q3
  clear q0 q1 q2 q3 b7
  refine hK.out _ _ ⟨z0, z1, z2, z3, z4⟩ (fun hHeld => ?_)
  clear hK K0
  try simp only [ptH]
  refine tkH 4 rfl ?_; try simp only [ptH]
  refine tkH 5 rfl ?_; try simp only [ptH]
  refine rdH [6] ?_
  refine alH rfl fun K0 hK => ?_
  go_simp
  refine hK.out _ _ ⟨cell_ne (by omega) z0, cell_ne (by omega) z1, cell_ne (by omega) z2, cell_ne (by omega) z3, cell_ne (by omega) z4⟩ (fun hHeld => ?_)
  clear hK K0
  try simp only [ptH]
  refine dnH ?_
  clear hHeld
  cases d9 : (k == 9)
  ·have e9 : ¬ k = 9 := by simpa using d9
   have hl := HLS.out
   rw [if_neg e9] at hl
   subst hl
   clear e9 HLS
   go_wp2_with fail
   refine bodyPost_ret (results_cell_row rfl _ _ (w.heap.size + 1) 96 _ (0, 0) _ rfl (five_set _ _ _ _ _ (by rw [Below.heap_setCell _ _ _ _ (by simp), Below.heap_setCell _ _ _ _ (by simp)]; exact Q1.out)) underlying96 rfl (by kernel_rfl)) rfl ?_
   rw [d9]
   exact ⟨rfl, (((((((Q3.out.setCell (p := ⟨w.heap.size + 1 + 1, 2, none⟩) (by dsimp only; omega) _).setCell (p := ⟨w.heap.size + 1 + 1, 1, none⟩) (by dsimp only; omega) _).setCell (p := ⟨w.heap.size + 1, 0, none⟩) (by dsimp only; omega) _).setCell (p := ⟨w.heap.size + 1, 1, none⟩) (by dsimp only; omega) _).setCell (p := ⟨w.heap.size + 1, 2, none⟩) (by dsimp only; omega) _).setCell (p := ⟨w.heap.size + 1, 3, none⟩) (by dsimp only; omega) _).setCell (p := ⟨w.heap.size + 1, 4, none⟩) (by dsimp only; omega) _)⟩
  ·have e9 : k = 9 := by simpa using d9
   have hl := HLS.out
   rw [if_pos e9] at hl
   subst hl
   clear e9 HLS
   go_wp2_with fail
   refine bodyPost_ret (results_cell_row rfl _ _ (w.heap.size + 1) 96 _ (0, 0) _ rfl (five_set _ _ _ _ _ (by rw [Below.heap_setCell _ _ _ _ (by simp), Below.heap_setCell _ _ _ _ (by simp), Below.heap_setCell _ _ _ _ (by simp)]; exact Q1.out)) underlying96 rfl (by kernel_rfl)) rfl ?_
   rw [d9]
   exact ⟨rfl, ((((((((Q3.out.setCell (p := ⟨w.heap.size + 1 + 1, 2, none⟩) (by dsimp only; omega) _).setCell (p := ⟨w.heap.size + 1 + 1, 1, none⟩) (by dsimp only; omega) _).setCell (p := ⟨w.heap.size + 1 + 1, 4, none⟩) (by dsimp only; omega) _).setCell (p := ⟨w.heap.size + 1, 0, none⟩) (by dsimp only; omega) _).setCell (p := ⟨w.heap.size + 1, 1, none⟩) (by dsimp only; omega) _).setCell (p := ⟨w.heap.size + 1, 2, none⟩) (by dsimp only; omega) _).setCell (p := ⟨w.heap.size + 1, 3, none⟩) (by dsimp only; omega) _).setCell (p := ⟨w.heap.size + 1, 4, none⟩) (by dsimp only; omega) _)⟩
 ·go_simp
  refine (cG _).mono ?_
  rintro e W7 ⟨rfl, b7⟩
  obtain ⟨q0, q1, q2, q3⟩ := HW.out W7 b7
  have z0 := cell_of q0 0 _ rfl
  have z1 := cell_of q0 1 _ rfl
  have z2 := cell_of q0 2 _ rfl
  have z3 := cell_of q0 3 _ rfl
  have z4 := cell_of q0 4 _ rfl
  have u0 := cell_of q2 0 _ rfl
  have u1 := cell_of q2 1 _ rfl
  have u2 := cell_of q2 2 _ rfl
  have u3 := cell_of q2 3 _ rfl
  have u4 := cell_of q2 4 _ rfl
  have r0 := cell_of q1 0 _ rfl
  have r1 := cell_of q1 1 _ rfl
  have r2 := cell_of q1 2 _ rfl
  have r3 := cell_of q1 3 _ rfl
  have r4 := cell_of q1 4 _ rfl
  have v1 := frz q2 1
  have v2 := frz q2 2
  have v4 := frz q2 4
  have y0 := frz q1 0
  have y1 := frz q1 1
  have y2 := frz q1 2
  have y3 := frz q1 3
  have y4 := frz q1 4
  have Q1 : Hid (W7.heap[w.heap.size + 1]? = some (.cells #[.bool false, .bool false, .int .i64 0, .int .i64 0, .int .i64 0] 96 (0, 0))) := q1
  have Q3 : Hid (Below w.heap.size w W7) := q3
  clear q0 q1 q2 q3 b7
  refine hK.out _ _ ⟨z0, z1, z2, z3, z4⟩ (fun hHeld => ?_)
  clear hK K0
  try simp only [ptH]
  refine rdH [1] ?_
  refine alH rfl fun K0 hK => ?_
  go_simp
  refine hK.out _ _ (by assumption) (fun hHeld => ?_)
  clear hK K0
  try simp only [ptH]
  refine tkH 4 rfl ?_; try simp only [ptH]
  refine tkH 5 rfl ?_; try simp only [ptH]
  refine rdH [6] ?_
  refine alH rfl fun K0 hK => ?_
  go_simp
  refine hK.out _ _ ⟨cell_ne (by omega) z0, cell_ne (by omega) z1, cell_ne (by omega) z2, cell_ne (by omega) z3, cell_ne (by omega) z4⟩ (fun hHeld => ?_)
  clear hK K0
  try simp only [ptH]
  refine dnH ?_
  clear hHeld
  cases d9 : (k == 9)
  ·have e9 : ¬ k = 9 := by simpa using d9
   have hl := HLS.out
   rw [if_neg e9] at hl
   subst hl
   clear e9 HLS
   go_wp2_with fail
   refine bodyPost_ret (results_cell_row rfl _ _ (w.heap.size + 1) 96 _ (0, 0) _ rfl (five_set _ _ _ _ _ (by rw [Below.heap_setCell _ _ _ _ (by simp), Below.heap_setCell _ _ _ _ (by simp)]; exact Q1.out)) underlying96 rfl (by kernel_rfl)) rfl ?_
   rw [d9]
   exact ⟨rfl, (((((((Q3.out.setCell (p := ⟨w.heap.size + 1 + 1, 2, none⟩) (by dsimp only; omega) _).setCell (p := ⟨w.heap.size + 1 + 1, 1, none⟩) (by dsimp only; omega) _).setCell (p := ⟨w.heap.size + 1, 0, none⟩) (by dsimp only; omega) _).setCell (p := ⟨w.heap.size + 1, 1, none⟩) (by dsimp only; omega) _).setCell (p := ⟨w.heap.size + 1, 2, none⟩) (by dsimp only; omega) _).setCell (p := ⟨w.heap.size + 1, 3, none⟩) (by dsimp only; omega) _).setCell (p := ⟨w.heap.size + 1, 4, none⟩) (by dsimp only; omega) _)⟩
  ·have e9 : k = 9 := by simpa using d9
   have hl := HLS.out
   rw [if_pos e9] at hl
   subst hl
   clear e9 HLS
   go_wp2_with fail
   refine bodyPost_ret (results_cell_row rfl _ _ (w.heap.size + 1) 96 _ (0, 0) _ rfl (five_set _ _ _ _ _ (by rw [Below.heap_setCell _ _ _ _ (by simp), Below.heap_setCell _ _ _ _ (by simp), Below.heap_setCell _ _ _ _ (by simp)]; exact Q1.out)) underlying96 rfl (by kernel_rfl)) rfl ?_
   rw [d9]
   exact ⟨rfl, ((((((((Q3.out.setCell (p := ⟨w.heap.size + 1 + 1, 2, none⟩) (by dsimp only; omega) _).setCell (p := ⟨w.heap.size + 1 + 1, 1, none⟩) (by dsimp only; omega) _).setCell (p := ⟨w.heap.size + 1 + 1, 4, none⟩) (by dsimp only; omega) _).setCell (p := ⟨w.heap.size + 1, 0, none⟩) (by dsimp only; omega) _).setCell (p := ⟨w.heap.size + 1, 1, none⟩) (by dsimp only; omega) _).setCell (p := ⟨w.heap.size + 1, 2, none⟩) (by dsimp only; omega) _).setCell (p := ⟨w.heap.size + 1, 3, none⟩) (by dsimp only; omega) _).setCell (p := ⟨w.heap.size + 1, 4, none⟩) (by dsimp only; omega) _)⟩
end Go.Proofs.YtaiackmmmlhgbaaGreat.BIn
namespace Go.Proofs.YtaiackmmmlhgbaaGreat.BDf
open Go.RowKit BPl YRr YRs BBx BIx BSm BIn
open YPl (Oq Bk Pg)
open IBase (heap_alloc_new)
theorem zero_c (x : Int) (w : World) : Calls prog 218 #[.int .i64 x] w fun e w' => e = .returned (.bool (x == 0)) /\ w' = w := by
 go_enter func218, ntmps218
 go_wp2_with fail
 go_ret
 exact ⟨rfl, rfl⟩
theorem two_row {w : World} {g : Nat} {b c : Int} (hx : w.heap[g]? = some (.cells #[.int .i64 b, .int .i64 c] 3 (0, 0))) (hb : i64 b) (hc : i64 c) : RrS 1 LyI (fun k => k = g) w (.slice (some ⟨g, 0, none⟩) 2 2) [b, c] := by
 refine ⟨_, 2, rfl, by simp, by omega, by simp, by simp, .inr ⟨g, 0, rfl, rfl, fun j hj => ?_⟩⟩
 match j, hj with
 | 0, _ => exact ⟨cell_of hx 0 _ rfl, hb⟩
 | 1, _ => exact ⟨cell_of hx 1 _ rfl, hc⟩
theorem set_1 {w : World} {g : Nat} {x y : Value} {t : TypeId} (hx : w.heap[g]? = some (.cells #[x, y] t (0, 0))) (z : Value) : (w.setCells g 1 [z]).heap[g]? = some (.cells #[x, z] t (0, 0)) /\ Below g w (w.setCells g 1 [z]) := by
 have e : w.setCells g 1 [z] = w.setCell ⟨g, 1, none⟩ z := rfl
 rw [e]
 exact ⟨by simp [World.setCell, Array.getElem?_modify, hx], (Below.refl _ w).setCell (p := ⟨g, 1, none⟩) (Nat.le_refl _) _⟩
theorem set_0 {w : World} {g : Nat} {x y : Value} {t : TypeId} (hx : w.heap[g]? = some (.cells #[x, y] t (0, 0))) (z : Value) : (w.setCells g 0 [z, z]).heap[g]? = some (.cells #[z, z] t (0, 0)) /\ Below g w (w.setCells g 0 [z, z]) := by
 have e : w.setCells g 0 [z, z] = (w.setCell ⟨g, 0, none⟩ z).setCell ⟨g, 1, none⟩ z := rfl
 rw [e]
 exact ⟨by simp [World.setCell, Array.getElem?_modify, hx], ((Below.refl _ w).setCell (p := ⟨g, 0, none⟩) (Nat.le_refl _) _).setCell (p := ⟨g, 1, none⟩) (Nat.le_refl _) _⟩
def DR (w : World) (g : Nat) (b c : Int) (e : Ending) (w' : World) : Prop := ∃ n x y, e = .returned (.slice (some ⟨g, 0, none⟩) n 2) /\ w'.heap[g]? = some (.cells #[.int .i64 x, .int .i64 y] 3 (0, 0)) /\ n <= 2 /\ [x, y].take n = [b, c].filter (fun i => !(i == 0)) /\ Below g w w' /\ w.heap.size <= w'.heap.size
theorem del_c {w : World} {g : Nat} {b c : Int} (hx : w.heap[g]? = some (.cells #[.int .i64 b, .int .i64 c] 3 (0, 0))) (hb : i64 b) (hc : i64 c) :
  Calls prog 217 #[.slice (some ⟨g, 0, none⟩) 2 2, .func (.func 218) #[] #[]] w fun e w' => DR w g b c e w' := by
 have hg : g < w.heap.size := (Array.getElem?_eq_some_iff.1 hx).1
 have cI := index_zo (two_row hx hb hc) (fun k hk => by omega) (fun i => i == 0) fun W x _ _ => (zero_c x W).mono fun e w' h => ⟨h.1, h.2 ▸ Below.refl _ _⟩
 have cZ := fun W => zero_c c W
 have HX : Hid (w.heap[g]? = some (.cells #[.int .i64 b, .int .i64 c] 3 (0, 0))) := hx
 have v3 : ∀ w, (zeroValue 3).run prog w = .ok (.int .i64 0) w := fun w => by go_simp
 unfold DR
 cases h1 : (b == 0) with
 | false =>
  cases h2 : (c == 0) with
  | false =>
   have e1 : ixf (fun x => !(x == 0)) 0 [b, c] = -1 := by simp [ixf, h1, h2]
   have e2 : [b, c].filter (fun i => !(i == 0)) = [b, c] := by simp [List.filter, h1, h2]
   rw [e1] at cI
   rw [e2]
   clear e1 e2 hx
   go_enter func217, ntmps217
   go_wp2_with fail
   refine cI.mono ?_
   rintro e W1 ⟨rfl, b1⟩
   have HB1 : Hid (Below w.heap.size w W1) := b1
   clear b1 cI
   go_wp2_with fail
   go_ret
   exact ⟨2, b, c, rfl, (HB1.out.block g hg).trans HX.out, Nat.le_refl _, rfl, HB1.out.mono (by omega), HB1.out.size⟩
  | true =>
   have e1 : ixf (fun x => !(x == 0)) 0 [b, c] = 1 := by simp [ixf, h1, h2]
   have e2 : [b, c].filter (fun i => !(i == 0)) = [b] := by simp [List.filter, h1, h2]
   rw [e1] at cI
   rw [e2]
   clear e1 e2 hx
   go_enter func217, ntmps217
   go_wp2_with fail
   refine cI.mono ?_
   rintro e W1 ⟨rfl, b1⟩
   have HB1 : Hid (Below w.heap.size w W1) := b1
   have hx1 := (b1.block g hg).trans HX.out
   have HX1 : Hid _ := hx1
   have k1 := cell_of hx1 1 _ rfl
   have f1 := frz hx1 1
   clear b1 cI hx1
   go_wp2_with fail
   go_loopw [5, 6] (fun i j wr => i = .int .i64 1 /\ j = .int .i64 2 /\ wr = W1) (fun _ _ _ => 0)
   case atStart => exact ⟨rfl, rfl, rfl⟩
   case round =>
    obtain ⟨rfl, rfl, rfl⟩ := hrel
    have hcl : ∀ ty, (Builtin.clear_ #[72] ty #[.slice (some ⟨g, 1, none⟩) 1 1]).run prog wr = .ok (.tuple #[]) (wr.setCells g 1 [.int .i64 0]) :=
     fun ty => Lib.run_clear_slice wr _ _ ty _ underlying72 v3 rfl rfl g 1 1 _ (by omega) (fun j hj => by have hj : j = 0 := (by omega); subst hj; simp [k1]) (fun j hj => by have hj : j = 0 := (by omega); subst hj; exact f1)
    obtain ⟨s1, s2⟩ := set_1 HX1.out (.int .i64 0)
    obtain ⟨W9, hW9⟩ : ∃ W9, wr.setCells g 1 [.int .i64 0] = W9 := ⟨_, rfl⟩
    rw [hW9] at hcl s1 s2
    have S1 : Hid _ := s1
    have S2 : Hid _ := s2
    clear s1 s2 hW9
    go_wp2_with fail
    go_ret
    exact ⟨1, b, 0, rfl, S1.out, by omega, rfl, (HB1.out.mono (by omega)).trans S2.out, Nat.le_trans HB1.out.size S2.out.size⟩
 | true =>
  cases h2 : (c == 0) with
  | false =>
   have e1 : ixf (fun x => !(x == 0)) 0 [b, c] = 0 := by simp [ixf, h1]
   have e2 : [b, c].filter (fun i => !(i == 0)) = [c] := by simp [List.filter, h1, h2]
   rw [e1] at cI
   rw [e2]
   rw [h2] at cZ
   clear e1 e2 hx
   go_enter func217, ntmps217
   go_wp2_with fail
   refine cI.mono ?_
   rintro e W1 ⟨rfl, b1⟩
   have HB1 : Hid (Below w.heap.size w W1) := b1
   have hx1 := (b1.block g hg).trans HX.out
   have HX1 : Hid (W1.heap[g]? = some (.cells #[.int .i64 b, .int .i64 c] 3 (0, 0))) := hx1
   clear b1 cI hx1
   go_wp2_with fail
   go_loopw [5, 6] (fun i j wr => (i = .int .i64 0 /\ j = .int .i64 1 /\ wr = W1) \/ (i = .int .i64 1 /\ j = .int .i64 2 /\ wr = W1.setCell ⟨g, 0, none⟩ (.int .i64 c))) (fun _ j _ => 2 - (intOf j).toNat)
   case atStart => exact .inl ⟨rfl, rfl, rfl⟩
   case round =>
    rcases hrel with ⟨rfl, rfl, rfl⟩ | ⟨rfl, rfl, rfl⟩
    ·have k0 := cell_of HX1.out 0 _ rfl
     have k1 := cell_of HX1.out 1 _ rfl
     have f0 := frz HX1.out 0
     go_wp2_with (first | (go_at_call 218; refine (cZ _).mono ?_; rintro e w1 ⟨rfl, rfl⟩))
     go_roundw
     case rel => exact .inr ⟨rfl, rfl, trivial⟩
     case measure => simp [intOf]
    ·have hx2 : (W1.setCell ⟨g, 0, none⟩ (.int .i64 c)).heap[g]? = some (.cells #[.int .i64 c, .int .i64 c] 3 (0, 0)) := by simp [World.setCell, Array.getElem?_modify, HX1.out]
     have b2 : Below g W1 (W1.setCell ⟨g, 0, none⟩ (.int .i64 c)) := (Below.refl _ W1).setCell (p := ⟨g, 0, none⟩) (Nat.le_refl _) _
     obtain ⟨W2, hW2⟩ : ∃ W2, W1.setCell ⟨g, 0, none⟩ (.int .i64 c) = W2 := ⟨_, rfl⟩
     rw [hW2] at hx2 b2 ⊢
     have k1 := cell_of hx2 1 _ rfl
     have f1 := frz hx2 1
     have hcl : ∀ ty, (Builtin.clear_ #[72] ty #[.slice (some ⟨g, 1, none⟩) 1 1]).run prog W2 = .ok (.tuple #[]) (W2.setCells g 1 [.int .i64 0]) :=
      fun ty => Lib.run_clear_slice W2 _ _ ty _ underlying72 v3 rfl rfl g 1 1 _ (by omega) (fun j hj => by have hj : j = 0 := (by omega); subst hj; simp [k1]) (fun j hj => by have hj : j = 0 := (by omega); subst hj; exact f1)
     obtain ⟨s1, s2⟩ := set_1 hx2 (.int .i64 0)
     obtain ⟨W9, hW9⟩ : ∃ W9, W2.setCells g 1 [.int .i64 0] = W9 := ⟨_, rfl⟩
     rw [hW9] at hcl s1 s2
     have S1 : Hid _ := s1
     have S2 : Hid _ := b2.trans s2
     clear s1 s2 hW9 hx2 b2 hW2
     go_wp2_with fail
     go_ret
     exact ⟨1, c, 0, rfl, S1.out, by omega, rfl, (HB1.out.mono (by omega)).trans S2.out, Nat.le_trans HB1.out.size S2.out.size⟩
  | true =>
   have e1 : ixf (fun x => !(x == 0)) 0 [b, c] = 0 := by simp [ixf, h1]
   have e2 : [b, c].filter (fun i => !(i == 0)) = [] := by simp [List.filter, h1, h2]
   rw [e1] at cI
   rw [e2]
   rw [h2] at cZ
   clear e1 e2 hx
   go_enter func217, ntmps217
   go_wp2_with fail
   refine cI.mono ?_
   rintro e W1 ⟨rfl, b1⟩
   have HB1 : Hid (Below w.heap.size w W1) := b1
   have hx1 := (b1.block g hg).trans HX.out
   have HX1 : Hid (W1.heap[g]? = some (.cells #[.int .i64 b, .int .i64 c] 3 (0, 0))) := hx1
   have k0 := cell_of hx1 0 _ rfl
   have k1 := cell_of hx1 1 _ rfl
   have f0 := frz hx1 0
   have f1 := frz hx1 1
   clear b1 cI hx1
   go_wp2_with fail
   go_loopw [5, 6] (fun i j wr => (i = .int .i64 0 /\ j = .int .i64 1 /\ wr = W1) \/ (i = .int .i64 0 /\ j = .int .i64 2 /\ wr = W1)) (fun _ j _ => 2 - (intOf j).toNat)
   case atStart => exact .inl ⟨rfl, rfl, rfl⟩
   case round =>
    rcases hrel with ⟨rfl, rfl, rfl⟩ | ⟨rfl, rfl, rfl⟩
    ·go_wp2_with (first | (go_at_call 218; refine (cZ _).mono ?_; rintro e w1 ⟨rfl, rfl⟩))
     go_roundw
     case rel => exact .inr ⟨rfl, rfl, trivial⟩
     case measure => simp [intOf]
    ·have hcl : ∀ ty, (Builtin.clear_ #[72] ty #[.slice (some ⟨g, 0, none⟩) 2 2]).run prog wr = .ok (.tuple #[]) (wr.setCells g 0 [.int .i64 0, .int .i64 0]) :=
      fun ty => Lib.run_clear_slice wr _ _ ty _ underlying72 v3 rfl rfl g 0 2 _ (by omega) (fun j hj => by rcases (show j = 0 \/ j = 1 by omega) with hj | hj <;> subst hj <;> simp [k0, k1]) (fun j hj => by rcases (show j = 0 \/ j = 1 by omega) with hj | hj <;> subst hj <;> first | exact f0 | exact f1)
     obtain ⟨s1, s2⟩ := set_0 HX1.out (.int .i64 0)
     obtain ⟨W9, hW9⟩ : ∃ W9, wr.setCells g 0 [.int .i64 0, .int .i64 0] = W9 := ⟨_, rfl⟩
     rw [hW9] at hcl s1 s2
     have S1 : Hid _ := s1
     have S2 : Hid _ := s2
     clear s1 s2 hW9
     go_wp2_with fail
     go_ret
     exact ⟨0, 0, 0, rfl, S1.out, by omega, rfl, (HB1.out.mono (by omega)).trans S2.out, Nat.le_trans HB1.out.size S2.out.size⟩
def BO (w : World) (l : List Int) (e : Ending) (w' : World) : Prop := ∃ v, e = .returned v /\ RrS 1 LyI (fun k => w.heap.size <= k /\ k < w'.heap.size) w' v l /\ Below w.heap.size w w'
theorem row_n {w : World} {S : Nat -> Prop} {g n : Nat} {x y : Int} (hx : w.heap[g]? = some (.cells #[.int .i64 x, .int .i64 y] 3 (0, 0))) (hS : S g) (hn : n <= 2) {l : List Int} (hl : [x, y].take n = l) (hi : ∀ z ∈ l, i64 z) : RrS 1 LyI S w (.slice (some ⟨g, 0, none⟩) n 2) l := by
 have hlen : l.length = n := by rw [<- hl]; simp; omega
 refine ⟨_, 2, by rw [hlen], by omega, by omega, by omega, by simp, .inr ⟨g, 0, rfl, hS, fun j hj => ⟨?_, hi _ (List.getElem_mem hj)⟩⟩⟩
 subst hl
 have hj2 : j < 2 := by simp at hj; omega
 rw [List.getElem_take]
 match j, hj2 with
 | 0, _ => exact cell_of hx 0 _ rfl
 | 1, _ => exact cell_of hx 1 _ rfl
theorem blocks_c (o : Oq) (a : Option Addr) (cap : Nat) (hb : i64 o.b) (hc : i64 o.c) (w : World) :
  Calls prog 196 #[opv o (.slice a o.l.length cap)] w fun e w' => BO w (bks o) e w' := by
 obtain ⟨W, hW, b0, hs, hx⟩ := box5 w (.int .i64 o.k) (.int .i64 o.a) (.int .i64 o.b) (.int .i64 o.c) (.slice a o.l.length cap) 127
 have c0 := cell_of hx 0 _ rfl
 have c2 := cell_of hx 2 _ rfl
 have c3 := cell_of hx 3 _ rfl
 have HB : Hid (Below w.heap.size w W) := b0
 unfold bks
 obtain ⟨k, x, y, z, l⟩ := o
 dsimp only at *
 clear hx b0
 by_cases h8 : k = 8
 ·rw [if_pos h8]
  subst h8
  obtain ⟨W2, hW2⟩ : ∃ W2, W.alloc (.cells #[.int .i64 y, .int .i64 z] 3) = W2 := ⟨_, rfl⟩
  have g2 : W2.heap[w.heap.size + 1]? = some (.cells #[.int .i64 y, .int .i64 z] 3 (0, 0)) := by rw [<- hW2, <- hs]; exact heap_alloc_new W _
  have b2 : Below w.heap.size w W2 := by rw [<- hW2]; exact HB.out.alloc HB.out.size _
  have s2 : W2.heap.size = w.heap.size + 2 := by rw [<- hW2]; simp; omega
  have cD := del_c g2 hb hc
  have H2 : Hid (Below w.heap.size w W2) := b2
  clear b2 g2
  go_enter func196, ntmps196
  go_wp2_with fail
  refine cD.mono ?_
  rintro e W3 ⟨n, p, q, rfl, d1, d2, d3, d4, d5⟩
  have HD : Hid (RrS 1 LyI (fun k => w.heap.size <= k /\ k < W3.heap.size) W3 (.slice (some ⟨w.heap.size + 1, 0, none⟩) n 2) ([y, z].filter (fun i => !(i == 0)))) := row_n d1 ⟨by omega, by omega⟩ d2 d3 (fun t ht => by
   have := (List.mem_filter.1 ht).1
   simp only [List.mem_cons, List.not_mem_nil, or_false] at this
   rcases this with rfl | rfl
   ·exact hb
   ·exact hc)
  have H3 : Hid (Below w.heap.size w W3) := H2.out.trans (d4.mono (by omega))
  clear cD d1 d2 d3 d4 d5
  go_wp2_with fail
  go_ret
  exact ⟨_, rfl, HD.out, H3.out⟩
 rw [if_neg h8]
 have d8 : (k == 8) = false := by simp [h8]
 by_cases h9 : k = 9 \/ k = 10
 ·rw [if_pos h9]
  obtain ⟨W2, hW2⟩ : ∃ W2, W.alloc (.cells #[.int .i64 z] 3) = W2 := ⟨_, rfl⟩
  have g2 : W2.heap[w.heap.size + 1]? = some (.cells #[.int .i64 z] 3 (0, 0)) := by rw [<- hW2, <- hs]; exact heap_alloc_new W _
  have b2 : Below w.heap.size w W2 := by rw [<- hW2]; exact HB.out.alloc HB.out.size _
  have s2 : W2.heap.size = w.heap.size + 2 := by rw [<- hW2]; simp; omega
  have HD : Hid (RrS 1 LyI (fun k => w.heap.size <= k /\ k < W2.heap.size) W2 (.slice (some ⟨w.heap.size + 1, 0, none⟩) 1 1) [z]) := by
   refine ⟨_, 1, rfl, by simp, by omega, by simp, by simp, .inr ⟨_, 0, rfl, ⟨by omega, by omega⟩, fun j hj => ?_⟩⟩
   obtain rfl : j = 0 := by simp at hj; omega
   exact ⟨cell_of g2 0 _ rfl, hc⟩
  have H2 : Hid (Below w.heap.size w W2) := b2
  clear b2 g2 h8
  rcases h9 with rfl | rfl <;> (
   go_enter func196, ntmps196
   go_wp2_with fail
   go_ret
   exact ⟨_, rfl, HD.out, H2.out⟩)
 rw [if_neg h9]
 have d9 : (k == 9) = false := by simp; omega
 have d10 : (k == 10) = false := by simp; omega
 clear h8 h9
 go_enter func196, ntmps196
 go_wp2_with fail
 go_ret
 exact ⟨_, rfl, ⟨none, 0, rfl, by simp, by omega, by simp, fun _ => rfl, .inl rfl⟩, HB.out⟩
end Go.Proofs.YtaiackmmmlhgbaaGreat.BDf
namespace Go.Proofs.YtaiackmmmlhgbaaGreat.BHm
open Go.RowKit BPl YRr
open TBase (T Keep)
def hc (A : Ar) : List Value := [.bool A.ow, .bool A.lp, .int .i64 A.st, .int .i64 A.el, .int .i64 A.ls]
def hcs : List Ar -> List Value
 | [] => []
 | A :: r => hc A ++ hcs r
theorem hcs_len : ∀ H : List Ar, (hcs H).length = H.length * 5
 | [] => rfl
 | A :: r => by rw [hcs, List.length_append, hcs_len r, List.length_cons]; simp [hc]; omega
theorem hcs_at : ∀ (H : List Ar) (q j : Nat) (hq : q < H.length), j < 5 -> (hcs H)[q * 5 + j]? = (hc H[q])[j]?
 | A :: r, 0, j, _, hj => by
  rw [hcs, List.getElem?_append_left (by simp [hc]; omega)]
  simp
 | A :: r, q + 1, j, hq, hj => by
  rw [hcs, List.getElem?_append_right (by simp [hc]; omega)]
  have e : (q + 1) * 5 + j - (hc A).length = q * 5 + j := by simp [hc]; omega
  rw [e, hcs_at r q j (by simpa using hq) hj]
  rfl
theorem hcs_set : ∀ (H : List Ar) (q : Nat) (B : Ar), q < H.length -> (((((hcs H).set (q * 5) (.bool B.ow)).set (q * 5 + 1) (.bool B.lp)).set (q * 5 + 2) (.int .i64 B.st)).set (q * 5 + 3) (.int .i64 B.el)).set (q * 5 + 4) (.int .i64 B.ls) = hcs (H.set q B)
 | A :: r, 0, B, _ => by simp [hcs, hc]
 | A :: r, q + 1, B, hq => by
  have h := hcs_set r q B (by simpa using hq)
  have e : (q + 1) * 5 = q * 5 + 1 + 1 + 1 + 1 + 1 := by omega
  rw [List.set_cons_succ, hcs, hcs, <- h]
  simp only [hc, e, List.cons_append, List.nil_append, List.set_cons_succ, Nat.add_assoc, Nat.reduceAdd]
def Hw (w : World) (Q : Nat) (H : List Ar) : Prop := w.heap[Q]? = some (.cells (hcs H).toArray 96 (0, 0))
theorem Hw.cell {w : World} {Q : Nat} {H : List Ar} (h : Hw w Q H) {q : Nat} (hq : q < H.length) {j : Nat} (hj : j < 5) {v : Value} (hv : (hc H[q])[j]? = some v) : w.cell? ⟨Q, q * 5 + j, none⟩ = some v := by
 unfold Hw at h
 have := (hcs_at H q j hq hj).trans hv
 simp only [World.cell?, h]
 simpa using this
theorem Hw.set {w : World} {Q : Nat} {H : List Ar} (h : Hw w Q H) {q : Nat} (hq : q < H.length) (B : Ar) : Hw (((((w.setCell ⟨Q, q * 5, none⟩ (.bool B.ow)).setCell ⟨Q, q * 5 + 1, none⟩ (.bool B.lp)).setCell ⟨Q, q * 5 + 2, none⟩ (.int .i64 B.st)).setCell ⟨Q, q * 5 + 3, none⟩ (.int .i64 B.el)).setCell ⟨Q, q * 5 + 4, none⟩ (.int .i64 B.ls)) Q (H.set q B) := by
 unfold Hw at *
 rw [<- hcs_set H q B hq]
 simp [World.setCell, Array.getElem?_modify, h]
def Xb (Q : Nat) (w w' : World) : Prop := Below Q w w' /\ ∀ g, g < w.heap.size -> g ≠ Q -> w'.heap[g]? = w.heap[g]?
theorem Xb.refl (Q : Nat) (w : World) : Xb Q w w := ⟨Below.refl _ _, fun _ _ _ => rfl⟩
theorem Xb.trans {Q : Nat} {a b c : World} (h : Xb Q a b) (k : Xb Q b c) : Xb Q a c := ⟨h.1.trans k.1, fun g hg hq => (k.2 g (Nat.lt_of_lt_of_le hg h.1.size) hq).trans (h.2 g hg hq)⟩
theorem Xb.of {Q : Nat} {w w' : World} (h : Below w.heap.size w w') (hQ : Q <= w.heap.size) : Xb Q w w' := ⟨h.mono hQ, fun g hg _ => h.block g hg⟩
theorem Xb.set5 {Q : Nat} {w : World} (o : Nat) (x0 x1 x2 x3 x4 : Value) : Xb Q w (((((w.setCell ⟨Q, o, none⟩ x0).setCell ⟨Q, o + 1, none⟩ x1).setCell ⟨Q, o + 2, none⟩ x2).setCell ⟨Q, o + 3, none⟩ x3).setCell ⟨Q, o + 4, none⟩ x4) := by
 refine ⟨(((((Below.refl _ w).setCell (p := ⟨Q, o, none⟩) (Nat.le_refl _) x0).setCell (p := ⟨Q, o + 1, none⟩) (Nat.le_refl _) x1).setCell (p := ⟨Q, o + 2, none⟩) (Nat.le_refl _) x2).setCell (p := ⟨Q, o + 3, none⟩) (Nat.le_refl _) x3).setCell (p := ⟨Q, o + 4, none⟩) (Nat.le_refl _) x4, fun g hg hq => ?_⟩
 rw [Below.heap_setCell _ _ _ _ hq, Below.heap_setCell _ _ _ _ hq, Below.heap_setCell _ _ _ _ hq, Below.heap_setCell _ _ _ _ hq, Below.heap_setCell _ _ _ _ hq]
end Go.Proofs.YtaiackmmmlhgbaaGreat.BHm
