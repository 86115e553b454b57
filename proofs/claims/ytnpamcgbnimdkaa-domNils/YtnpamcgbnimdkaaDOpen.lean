/- An act that came in, its cells. -/
import Derived.Test.YtnpamcgbnimdkaaRows
import Derived.Test.YtnpamcgbnimdkaaTBase
import Derived.Deep.Strs
import Derived.SizedLaws
import Derived.OpenShut
import Derived.ProofKit
import Derived.ChangeOld
namespace Go.Proofs.Ytnpamcgbnimdkaa.DOpen
open Go.ChangeShapes Go.WideShapes Go.ChangeAt Go.RowKit Go.Proofs.Ytnpamcgbnimdkaa.TBase Go.Proofs.Ytnpamcgbnimdkaa
set_option linter.unusedVariables false

theorem cells9 : Try.prog.cellsOf 9 = 1 := by kernel_rfl
theorem cells3 : Try.prog.cellsOf 3 = 1 := by kernel_rfl
theorem cells4 : Try.prog.cellsOf 4 = 1 := by kernel_rfl
theorem cellsT : Try.prog.cellsOf 28 = 4 := by kernel_rfl
theorem cellsC : Try.prog.cellsOf 30 = 11 := by kernel_rfl
theorem cellsAs : Try.prog.cellsOf 25 = 1 := by kernel_rfl
theorem cellsTs : Try.prog.cellsOf 26 = 1 := by kernel_rfl
theorem list_four {α : Type} {l : List α} (h : l.length = 4) : ∃ c0 c1 c2 c3, l = [c0, c1, c2, c3] := by
  match l, h with
  | [c0, c1, c2, c3], _ => exact ⟨c0, c1, c2, c3, rfl⟩
theorem list_eight {α : Type} {l : List α} (h : l.length = 8) : ∃ c0 c1 c2 c3 c4 c5 c6 c7, l = [c0, c1, c2, c3, c4, c5, c6, c7] := by
  match l, h with
  | [c0, c1, c2, c3, c4, c5, c6, c7], _ => exact ⟨c0, c1, c2, c3, c4, c5, c6, c7, rfl⟩
theorem list_eleven {α : Type} {l : List α} (h : l.length = 11) : ∃ c0 c1 c2 c3 c4 c5 c6 c7 c8 c9 c10, l = [c0, c1, c2, c3, c4, c5, c6, c7, c8, c9, c10] := by
  match l, h with
  | [c0, c1, c2, c3, c4, c5, c6, c7, c8, c9, c10], _ => exact ⟨c0, c1, c2, c3, c4, c5, c6, c7, c8, c9, c10, rfl⟩
section
variable {H : Type} {enc : TypeId × Value → H} {W : World}
theorem slice_shape {t e : TypeId} (ht : Try.prog.underlying t = some (.slice e)) {fuel : Nat} {cs : List Value} {x : DataW H × List MemPlace} (h : DataW.trod enc Try.prog W 0 (fun _ => true) true fuel t cs = some x) : ∃ a n c, cs = [.slice a n c] := by
  rcases DataW.trod_slice ht h with ⟨rfl, rfl⟩ | ⟨a, len, cap, els, rest, m, rfl, rfl, rfl, _⟩
  · exact ⟨none, 0, 0, rfl⟩
  · exact ⟨_, _, _, rfl⟩
theorem tree_shape {fuel : Nat} {cs : List Value} {x : DataW H × List MemPlace} (h : DataW.trod enc Try.prog W 0 (fun _ => true) true fuel 28 cs = some x) : ∃ g s a1 n1 c1 a2 n2 c2, cs = [.string g, .string s, .slice a1 n1 c1, .slice a2 n2 c2] := by
  obtain ⟨xs, n, rfl, rfl, hcl, hxl, hf⟩ := DataW.trod_struct Try.underlying28 h
  rw [cellsT] at hcl
  have hxl4 : xs.length = 4 := hxl
  clear hxl
  obtain ⟨c0, c1, c2, c3, rfl⟩ := list_four hcl
  obtain ⟨x0, x1, x2, x3, rfl⟩ := list_four hxl4
  have f0 := hf 0 _ rfl
  have f1 := hf 1 _ rfl
  have f2 := hf 2 _ rfl
  have f3 := hf 3 _ rfl
  simp [cells9] at f0
  simp [cells9] at f1
  simp [cellsAs] at f2
  simp [cellsTs] at f3
  obtain ⟨s0, e0, -, -⟩ := DataW.trod_string Try.underlying9 f0
  obtain ⟨s1, e1, -, -⟩ := DataW.trod_string Try.underlying9 f1
  obtain ⟨a1, n1, d1, e2⟩ := slice_shape Try.underlying25 f2
  obtain ⟨a2, n2, d2, e3⟩ := slice_shape Try.underlying26 f3
  simp only [List.cons.injEq, and_true] at e0 e1 e2 e3
  subst e0 e1 e2 e3
  exact ⟨_, _, _, _, _, _, _, _, rfl⟩
theorem act_shape {fuel : Nat} {cs : List Value} {x : DataW H × List MemPlace} (h : DataW.trod enc Try.prog W 0 (fun _ => true) true fuel 30 cs = some x) : ∃ sec kd a b c nm tx g s a1 n1 c1 a2 n2 c2, cs = [.bool sec, .int .i64 kd, .int .i64 a, .int .i64 b, .int .i64 c, .string nm, .string tx, .string g, .string s, .slice a1 n1 c1, .slice a2 n2 c2] := by
  obtain ⟨xs, n, rfl, rfl, hcl, hxl, hf⟩ := DataW.trod_struct Try.underlying30 h
  rw [cellsC] at hcl
  have hxl8 : xs.length = 8 := hxl
  clear hxl
  obtain ⟨c0, c1, c2, c3, c4, c5, c6, c7, c8, c9, c10, rfl⟩ := list_eleven hcl
  obtain ⟨x0, x1, x2, x3, x4, x5, x6, x7, rfl⟩ := list_eight hxl8
  have f0 := hf 0 _ rfl
  have f1 := hf 1 _ rfl
  have f2 := hf 2 _ rfl
  have f3 := hf 3 _ rfl
  have f4 := hf 4 _ rfl
  have f5 := hf 5 _ rfl
  have f6 := hf 6 _ rfl
  have f7 := hf 7 _ rfl
  simp [cells4] at f0
  simp [cells3] at f1
  simp [cells3] at f2
  simp [cells3] at f3
  simp [cells3] at f4
  simp [cells9] at f5
  simp [cells9] at f6
  simp [cellsT] at f7
  obtain ⟨b0, e0, -⟩ := DataW.trod_bool Try.underlying4 f0
  obtain ⟨i1, e1, -, -⟩ := DataW.trod_int Try.underlying3 f1
  obtain ⟨i2, e2, -, -⟩ := DataW.trod_int Try.underlying3 f2
  obtain ⟨i3, e3, -, -⟩ := DataW.trod_int Try.underlying3 f3
  obtain ⟨i4, e4, -, -⟩ := DataW.trod_int Try.underlying3 f4
  obtain ⟨s5, e5, -, -⟩ := DataW.trod_string Try.underlying9 f5
  obtain ⟨s6, e6, -, -⟩ := DataW.trod_string Try.underlying9 f6
  obtain ⟨g, s, a1, n1, d1, a2, n2, d2, e7⟩ := tree_shape f7
  simp only [List.cons.injEq, and_true] at e0 e1 e2 e3 e4 e5 e6 e7
  obtain ⟨e7, e8, e9, e10⟩ := e7
  subst e0 e1 e2 e3 e4 e5 e6 e7 e8 e9 e10
  exact ⟨_, _, _, _, _, _, _, _, _, _, _, _, _, _, _, rfl⟩
end
theorem laidOut : laidOutB Try.prog = true := by kernel_rfl
set_option maxRecDepth 100000 in
/-- An act that comes in: its cells, and that it reads the same behind whatever only adds. -/
theorem come {H : Type} {enc : TypeId × Value → H} {W : World} {base : Nat} {v : Value} {d : DataW H} {p : List MemPlace}
    (hval : Value.okWide Try.prog W .any base 30 v) (h : DataW.Trod enc Try.prog W 0 (fun _ => true) true 30 v d p) :
    (∃ sec kd a b c nm tx g s a1 n1 c1 a2 n2 c2, v = .agg #[.bool sec, .int .i64 kd, .int .i64 a, .int .i64 b, .int .i64 c, .string nm, .string tx, .string g, .string s, .slice a1 n1 c1, .slice a2 n2 c2]) ∧ ∀ W', Below W.heap.size W W' → DataW.Trod enc Try.prog W' 0 (fun b => decide (b < W.heap.size)) true 30 v d p := by
  have lt0 : ∀ x ∈ p, x.block < W.heap.size := by obtain ⟨m, hm⟩ := h; exact DataW.trod_lt m _ _ _ hm
  refine ⟨?_, fun W' bel => Below.trod laidOut (by kernel_rfl) (of_decide_eq_true (by kernel_rfl)) h bel lt0⟩
  obtain ⟨cs, rfl, -⟩ := okWide_struct Try.underlying30 hval
  obtain ⟨fuel, hf⟩ := h
  obtain ⟨sec, kd, a, b, c, nm, tx, g, s, a1, n1, c1, a2, n2, c2, e⟩ := act_shape hf
  refine ⟨sec, kd, a, b, c, nm, tx, g, s, a1, n1, c1, a2, n2, c2, ?_⟩
  have e2 : cs.toList = _ := e
  obtain ⟨l⟩ := cs
  simp only at e2
  subst e2
  rfl
end Go.Proofs.Ytnpamcgbnimdkaa.DOpen
