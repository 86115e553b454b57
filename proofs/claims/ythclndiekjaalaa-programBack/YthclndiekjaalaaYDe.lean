/- Programs read: caught, Decode. -/
import Derived.Test.YthclndiekjaalaaYRq
namespace Go.Proofs.Ythclndiekjaalaa.YDe
open Go.RowKit Go.Proofs.Ythclndiekjaalaa.Leb Go.Proofs.Ythclndiekjaalaa.YPl Go.Proofs.Ythclndiekjaalaa.YRd Go.Proofs.Ythclndiekjaalaa.YWr Go.Proofs.Ythclndiekjaalaa.YRr Go.Proofs.Ythclndiekjaalaa.YRs Go.Proofs.Ythclndiekjaalaa.YRb Go.Proofs.Ythclndiekjaalaa.YRl Go.Proofs.Ythclndiekjaalaa.YRp Go.Proofs.Ythclndiekjaalaa.YRq
open Go.Proofs.Ythclndiekjaalaa.TBase (T Keep)
set_option linter.unusedVariables false

abbrev p0 : Value := .agg #[.slice none 0 0, .slice none 0 0, .slice none 0 0, .slice none 0 0]
/-- What caught answers. -/
def CP (R : Nat) (a : Rs Pg) (w : World) (e : Ending) (w' : World) : Prop := Gx R w w' ∧ match a with
  | .ok (x, q) => ∃ v, e = .returned (.tuple #[v, .agg #[.int .i64 0, .int .i64 0]]) ∧ HvP (fun g => w.heap.size ≤ g ∧ g < w'.heap.size) w' v x
  | .error q => e = .returned (.tuple #[p0, .agg #[.int .i64 2100, .int .i64 (q : Nat)]])
set_option maxRecDepth 20000 in
set_option maxHeartbeats 3200000 in
theorem caught_c {K R : Nat} {w : World} {b : By} (h : Rb K w R b 0 0) :
    Calls Try.prog 22 #[.func (.func 23) #[ptw R] #[]] w fun e w' => CP R (rprg b) w e w' := by
  have hmf : ∀ (fn : Fn) (first cap : Array Value) (w : World), (Instr.makeFunc fn first cap).run Try.prog w = .ok (.func fn first cap) w := fun _ _ _ _ => rfl
  have hRlt := h.lt
  obtain ⟨W, hW⟩ : ∃ W, (w.alloc (.cells #[.slice none 0 0, .slice none 0 0, .slice none 0 0, .slice none 0 0] 27)).alloc (.cells #[.int .i64 0, .int .i64 0] 59) = W := ⟨_, rfl⟩
  have bW : Below w.heap.size w W := by rw [← hW]; exact ((Below.refl _ w).alloc (Nat.le_refl _) _).alloc (by simp) _
  have sW : W.heap.size = w.heap.size + 2 := by rw [← hW]; simp
  have zV : W.heap[w.heap.size]? = some (.cells #[.slice none 0 0, .slice none 0 0, .slice none 0 0, .slice none 0 0] 27 (0, 0)) := by rw [← hW, Below.heap_alloc _ _ _ (by simp), heap_alloc_new]
  have zM : W.heap[w.heap.size + 1]? = some (.cells #[.int .i64 0, .int .i64 0] 59 (0, 0)) := by
    rw [← hW]
    have := heap_alloc_new (w.alloc (.cells #[.slice none 0 0, .slice none 0 0, .slice none 0 0, .slice none 0 0] 27)) (.cells #[.int .i64 0, .int .i64 0] 59)
    rwa [World.size_alloc] at this
  have cV := program_c (Rb.below h bW)
  obtain ⟨A, hE⟩ : ∃ A, rprg b = A := ⟨_, rfl⟩
  rw [hE] at cV ⊢
  have HB : Hid (Gx R w W) := Gx.of bW
  have HV : Hid _ := zV
  have HM : Hid _ := zM
  clear bW zV zM h hE
  go_enter_defers Try.func22, Try.ntmps22
  go_wp2_with fail
  try rw [hW]
  refine cV.mono ?_
  rintro e W1 ⟨g1, hA⟩
  have hs1 := g1.size
  have v1 := (g1.block w.heap.size (by omega) (fun e => by have := Option.some.inj e; omega)).trans HV.out
  have m1 := (g1.block (w.heap.size + 1) (by omega) (fun e => by have := Option.some.inj e; omega)).trans HM.out
  have HG1 : Hid (Gx R w W1) := Gx.trans HB.out g1
  clear cV g1 HV HM HB hW
  cases A with
  | error q =>
    obtain rfl := hA
    refine leaves_cons (f := 39) (args := #[.pointer (some ⟨w.heap.size + 1, 0, none⟩)]) (by simp) (by simp [go_sem]) ?_
    refine (YCa.fault_p (w.heap.size + 1) 2100 (q : Nat) [] W1 _ _ m1).mono ?_
    rintro e u' w5 ⟨rfl, rfl, r2, r3⟩
    have b5 := r3 (w.heap.size + 1) (Nat.le_refl _)
    have v5 := (b5.block w.heap.size (by omega)).trans v1
    have q0 := cell_of r2 0 _ rfl
    have q1 := cell_of r2 1 _ rfl
    have c0 := cell_of v5 0 _ rfl
    have c1 := cell_of v5 1 _ rfl
    have c2 := cell_of v5 2 _ rfl
    have c3 := cell_of v5 3 _ rfl
    have HD : Hid (Gx R w w5) := ⟨b5.os.trans HG1.out.os, b5.tape.trans HG1.out.tape, b5.output.trans HG1.out.output, Nat.le_trans HG1.out.size b5.size, fun k hk hne => (b5.block k (by omega)).trans (HG1.out.block k hk hne)⟩
    simp [Leaves, settle, results, Try.results22, go_sem, q0, q1, c0, c1, c2, c3]
    exact ⟨HD.out, rfl⟩
  | ok t =>
    obtain ⟨x, q⟩ := t
    obtain ⟨v, rfl, hv⟩ := hA
    have hv0 := hv
    obtain ⟨a, n1, c1, b1, n2, c2, c, n3, c3, d, n4, c4, rfl, -⟩ := hv0
    have z0 := cell_of v1 0 _ rfl
    have z1 := cell_of v1 1 _ rfl
    have z2 := cell_of v1 2 _ rfl
    have z3 := cell_of v1 3 _ rfl
    have f0 := TBase.frozen_box v1 0
    have f1 := TBase.frozen_box v1 1
    have f2 := TBase.frozen_box v1 2
    have f3 := TBase.frozen_box v1 3
    obtain ⟨W2, hW2⟩ : ∃ W, (((W1.setCell ⟨w.heap.size, 0, none⟩ (.slice a n1 c1)).setCell ⟨w.heap.size, 1, none⟩ (.slice b1 n2 c2)).setCell ⟨w.heap.size, 2, none⟩ (.slice c n3 c3)).setCell ⟨w.heap.size, 3, none⟩ (.slice d n4 c4) = W := ⟨_, rfl⟩
    obtain ⟨v2, g2⟩ := YRg.set4 _ _ _ _ v1 hW2
    have m2 := (g2.block (w.heap.size + 1) (by omega) (fun e => by have := Option.some.inj e; omega)).trans m1
    have e0 := cell_of m2 0 _ rfl
    have e1 := cell_of m2 1 _ rfl
    have ef0 := TBase.frozen_box m2 0
    have ef1 := TBase.frozen_box m2 1
    obtain ⟨W3, hW3⟩ : ∃ W, (W2.setCell ⟨w.heap.size + 1, 0, none⟩ (.int .i64 0)).setCell ⟨w.heap.size + 1, 1, none⟩ (.int .i64 0) = W := ⟨_, rfl⟩
    obtain ⟨m3, g3⟩ := YRg.set2 _ _ m2 hW3
    have v3 := (g3.block w.heap.size (by have := g2.size; omega) (fun e => by have := Option.some.inj e; omega)).trans v2
    have HG3 : Hid (Gx R w W3) := gx_row (gx_row HG1.out g2 (fun r hr => by cases hr; exact Nat.le_refl _)) g3 (fun r hr => by cases hr; omega)
    have HH : Hid (HvP (fun g => W.heap.size ≤ g ∧ g < W1.heap.size) W3 (.agg #[.slice a n1 c1, .slice b1 n2 c2, .slice c n3 c3, .slice d n4 c4]) x) := HvP.keep (fun g hg hl => (g3.block g (by have := g2.size; omega) (fun e => by have := Option.some.inj e; omega)).trans (g2.block g hl (fun e => by have := Option.some.inj e; omega))) (fun g h => h) hv
    have l3 : W1.heap.size ≤ W3.heap.size := Nat.le_trans g2.size g3.size
    have M3 : Hid _ := m3
    have V3 : Hid _ := v3
    clear hv v1 m1 v2 m2 m3 v3 g2 g3
    go_wp2_with fail
    try rw [hW2]
    try rw [hW3]
    refine leaves_cons (f := 39) (args := #[.pointer (some ⟨w.heap.size + 1, 0, none⟩)]) (by simp) (by simp [go_sem]) ?_
    refine (YCa.idle_p ⟨w.heap.size + 1, 0, none⟩ W3).mono ?_
    rintro e u' w5 ⟨rfl, rfl, b5⟩
    have m5 := (b5.block (w.heap.size + 1) (by omega)).trans M3.out
    have v5 := (b5.block w.heap.size (by omega)).trans V3.out
    have y0 := cell_of m5 0 _ rfl
    have y1 := cell_of m5 1 _ rfl
    have u0 := cell_of v5 0 _ rfl
    have u1 := cell_of v5 1 _ rfl
    have u2 := cell_of v5 2 _ rfl
    have u3 := cell_of v5 3 _ rfl
    have HG5 : Hid (Gx R w w5) := Gx.trans HG3.out (Gx.of b5)
    have l5 := b5.size
    have HH5 : Hid (HvP (fun g => w.heap.size ≤ g ∧ g < w5.heap.size) w5 (.agg #[.slice a n1 c1, .slice b1 n2 c2, .slice c n3 c3, .slice d n4 c4]) x) := HvP.keep (fun g hg hl => b5.block g hl) (fun g hg => by constructor <;> omega) HH.out
    simp [Leaves, settle, results, Try.results22, go_sem, y0, y1, u0, u1, u2, u3]
    exact ⟨HG5.out, _, rfl, HH5.out⟩
end Go.Proofs.Ythclndiekjaalaa.YDe
