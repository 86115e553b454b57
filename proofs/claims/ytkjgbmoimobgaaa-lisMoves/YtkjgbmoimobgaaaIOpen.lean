/- Rows of integers and of keys that came in. -/
import Derived.Test.YtkjgbmoimobgaaaRows
import Derived.Test.YtkjgbmoimobgaaaIKrow
import Derived.Deep.Strs
import Derived.SizedLaws
import Derived.OpenShut
import Derived.ProofKit
import Derived.ChangeOld
namespace Go.Proofs.Ytkjgbmoimobgaaa.IOpen
open Go.ChangeShapes Go.WideShapes Go.ChangeAt Go.RowKit Go.Proofs.Ytkjgbmoimobgaaa.IPure Go.Proofs.Ytkjgbmoimobgaaa.IBase Go.Proofs.Ytkjgbmoimobgaaa.IKey Go.Proofs.Ytkjgbmoimobgaaa.IKrow Go.Proofs.Ytkjgbmoimobgaaa
set_option linter.unusedVariables false

theorem bytes3 : Try.prog.bytesOf 3 = 8 := by kernel_rfl
theorem bytesK : Try.prog.bytesOf 44 = 32 := by kernel_rfl
theorem cells_at {w : World} {a : Addr} {n : Nat} {cs : List Value} (h : w.cells? 0 a n = some cs) : cs.length = n ∧ ∀ j (hj : j < n), w.cell? (a.add j) = cs[j]? := by
  unfold World.cells? at h
  rw [if_pos (Nat.zero_le _)] at h
  have hl := mapM_some_length h
  refine ⟨by simpa using hl, fun j hj => ?_⟩
  have := mapM_some_get h j j (by simp [hj])
  exact this
theorem list_one {α : Type} {l : List α} (h : l.length = 1) : ∃ c0, l = [c0] := by
  match l, h with
  | [c0], _ => exact ⟨c0, rfl⟩
theorem list_three {α : Type} {l : List α} (h : l.length = 3) : ∃ c0 c1 c2, l = [c0, c1, c2] := by
  match l, h with
  | [c0, c1, c2], _ => exact ⟨c0, c1, c2, rfl⟩
theorem spot_none {w : World} {a : Addr} {v : Value} (h : w.cell? (a.add 0) = some v) : ∃ g o, a = ⟨g, o, none⟩ := by
  obtain ⟨g, o, sp⟩ := a
  cases sp with
  | none => exact ⟨g, o, rfl⟩
  | some x =>
    simp only [Addr.add, if_true, World.cell?] at h
    split at h
    · simp at h
    · cases h
theorem weightsAll_mem {H : Type} {P : Program} {e : TypeId} {d : DataW H} {q : Nat} : ∀ {ds : List (DataW H)}, d ∈ ds → q ∈ DataW.weights P e d → q ∈ DataW.weightsAll P e ds
  | [], hd, _ => by cases hd
  | d' :: r, hd, hq => by
    rw [DataW.weightsAll, List.mem_append]
    rcases List.mem_cons.1 hd with rfl | h
    · exact .inl hq
    · exact .inr (weightsAll_mem h hq)
section
variable {H : Type} {enc : TypeId × Value → H} {W : World}
theorem open_ints {fuel : Nat} {cs : List Value} {x : DataW H × List MemPlace} (h : DataW.trod enc Try.prog W 0 (fun _ => true) true fuel 22 cs = some x) (hw : ∀ q ∈ DataW.weights Try.prog 22 x.1, q ≤ reachBytes) :
    ∃ v L, cs = [v] ∧ Ix W v L ∧ L.length * 8 ≤ 140737488351232 ∧ ∀ y ∈ L, (Lit.int .i64 y).wf = true := by
  rcases DataW.trod_slice Try.underlying22 h with ⟨rfl, rfl⟩ | ⟨a, len, cap, els, rest, m, rfl, rfl, rfl, _, hl, hm, hlen, hel, -, -⟩
  · exact ⟨_, [], rfl, ⟨none, 0, rfl, by simp, by simp, fun _ => rfl, .inl rfl⟩, by simp, fun y hy => by cases hy⟩
  · have hone : ∀ j : Fin len, ∃ t : Int, W.cell? ((a.add (j.1 * 1)).add 0) = some (.int .i64 t) ∧ (Lit.int .i64 t).wf = true := by
      rintro ⟨j, hj⟩
      have hh := hel j hj
      rw [List.getElem?_eq_getElem (by omega), Option.bind_eq_some_iff] at hh
      obtain ⟨c', hc, ht⟩ := hh
      rw [cells3] at hc
      obtain ⟨hl1, hcc⟩ := cells_at hc
      obtain ⟨c0, rfl⟩ := list_one hl1
      obtain ⟨i, e, -, hwf⟩ := DataW.trod_int Try.underlying3 ht
      simp only [List.cons.injEq, and_true] at e
      subst e
      exact ⟨i, by have := hcc 0 (by omega); simpa using this, hwf⟩
    have hb8 : len * 8 ≤ 140737488351232 := by
      have := hw ((els.length + rest.length) * 8) (by
        rw [DataW.weights, Try.underlying22]
        simp [bytes3])
      simp only [reachBytes] at this
      omega
    obtain ⟨f, hf⟩ := Classical.axiomOfChoice hone
    refine ⟨_, List.ofFn f, rfl, ⟨some a, cap, by simp, by simpa using hl, hm, (fun h => by cases h), ?_⟩, by simpa using hb8, ?_⟩
    · by_cases h0 : len = 0
      · subst h0
        exact .inl (by simp)
      · have := (hf ⟨0, by omega⟩).1
        rw [show (a.add (0 * 1)).add 0 = a.add 0 from by simp [Addr.add]] at this
        obtain ⟨g, o, rfl⟩ := spot_none this
        refine .inr ⟨g, o, rfl, fun j hj => ?_⟩
        have hj' : j < len := by simpa using hj
        have h2 := (hf ⟨j, hj'⟩).1
        rw [add_none, add_none] at h2
        simpa using h2
    · intro y hy
      obtain ⟨j, rfl⟩ := List.mem_ofFn.1 hy
      exact (hf j).2
theorem open_keys {fuel : Nat} {cs : List Value} {x : DataW H × List MemPlace} (h : DataW.trod enc Try.prog W 0 (fun _ => true) true fuel 28 cs = some x) (hw : ∀ q ∈ DataW.weights Try.prog 28 x.1, q ≤ reachBytes) :
    ∃ v L, cs = [v] ∧ Kx W v L ∧ L.length * 32 ≤ 140737488351232 ∧ ∀ y ∈ L, Ok y := by
  rcases DataW.trod_slice Try.underlying28 h with ⟨rfl, rfl⟩ | ⟨a, len, cap, els, rest, m, rfl, rfl, rfl, _, hl, hm, hlen, hel, -, -⟩
  · exact ⟨_, [], rfl, ⟨none, 0, rfl, by simp, by simp, fun _ => rfl, .inl rfl⟩, by simp, fun y hy => by cases hy⟩
  · have hone : ∀ j : Fin len, ∃ t : Ky, (W.cell? ((a.add (j.1 * 3)).add 0) = some (.int .i64 t.1) ∧ W.cell? ((a.add (j.1 * 3)).add 1) = some (.int .i64 t.2.1) ∧ W.cell? ((a.add (j.1 * 3)).add 2) = some (.string t.2.2)) ∧ Ok t := by
      rintro ⟨j, hj⟩
      have hh := hel j hj
      rw [List.getElem?_eq_getElem (by omega), Option.bind_eq_some_iff] at hh
      obtain ⟨c', hc, ht⟩ := hh
      rw [cellsK] at hc
      obtain ⟨hl1, hcc⟩ := cells_at hc
      obtain ⟨xs, n', rfl, hx, hcl, hxl, hf⟩ := DataW.trod_struct Try.underlying44 ht
      obtain ⟨c0, c1, c2, rfl⟩ := list_three hl1
      have hxl3 : xs.length = 3 := hxl
      obtain ⟨x0, x1, x2, rfl⟩ := list_three hxl3
      have f0 := hf 0 _ rfl
      have f1 := hf 1 _ rfl
      have f2 := hf 2 _ rfl
      simp [cells3] at f0
      simp [cells3] at f1
      simp [cells9] at f2
      obtain ⟨i0, e0, -, w0⟩ := DataW.trod_int Try.underlying3 f0
      obtain ⟨i1, e1, -, w1⟩ := DataW.trod_int Try.underlying3 f1
      obtain ⟨s2, e2, e2', -⟩ := DataW.trod_string Try.underlying9 f2
      simp only [List.cons.injEq, and_true] at e0 e1 e2
      subst e0 e1 e2
      have W0 : ∀ q, q ∈ DataW.weights Try.prog 9 x2.1 → q ≤ reachBytes := by
        intro q hq
        apply hw
        rw [DataW.weights, Try.underlying28]
        refine List.mem_cons_of_mem _ (List.mem_append.2 (.inl (weightsAll_mem (d := els[j].1) ?_ ?_)))
        · rw [List.mem_map]
          exact ⟨els[j]'(by omega), List.getElem_mem _, rfl⟩
        · rw [hx]
          simp only [List.map_cons, List.map_nil]
          rw [DataW.weights, Try.underlying44]
          simp [DataW.weightsEach, hq]
      have hs2 : s2.size ≤ 140737488351232 := by
        have := W0 s2.data.toList.length (by rw [congrArg Prod.fst e2']; simp [DataW.weights])
        simp only [reachBytes] at this
        have e : s2.data.toList.length = s2.size := Array.length_toList
        omega
      exact ⟨(i0, i1, s2), ⟨by have := hcc 0 (by omega); simpa using this, by have := hcc 1 (by omega); simpa using this, by have := hcc 2 (by omega); simpa using this⟩, w0, w1, hs2⟩
    have hb32 : len * 32 ≤ 140737488351232 := by
      have := hw ((els.length + rest.length) * 32) (by
        rw [DataW.weights, Try.underlying28]
        simp [bytesK])
      simp only [reachBytes] at this
      omega
    obtain ⟨f, hf⟩ := Classical.axiomOfChoice hone
    refine ⟨_, List.ofFn f, rfl, ⟨some a, cap, by simp, by simpa using hl, hm, (fun h => by cases h), ?_⟩, by simpa using hb32, ?_⟩
    · by_cases h0 : len = 0
      · subst h0
        exact .inl (by simp)
      · have := (hf ⟨0, by omega⟩).1.1
        rw [show (a.add (0 * 3)).add 0 = a.add 0 from by simp [Addr.add]] at this
        obtain ⟨g, o, rfl⟩ := spot_none this
        refine .inr ⟨g, o, rfl, fun j hj => ?_⟩
        have hj' : j < len := by simpa using hj
        have h2 := (hf ⟨j, hj'⟩).1
        rw [add_none, add_none, add_none, add_none] at h2
        simpa [Three] using h2
    · intro y hy
      obtain ⟨j, rfl⟩ := List.mem_ofFn.1 hy
      exact (hf j).2
end
theorem own : ownKnob Try.prog.godebug = none := by kernel_rfl
/-- A row of integers that comes in, and that it reads the same behind whatever only adds. -/
theorem ints {H : Type} {enc : TypeId × Value → H} {W : World} {v : Value} {d : DataW H} {p : List MemPlace} {ts : List TypeId} {ds : List (DataW H)} {j : Nat}
    (h : DataW.Trod enc Try.prog W 0 (fun _ => true) true 22 v d p)
    (hsz : (DataW.weightsEach Try.prog ts ds).all (· ≤ reachBytes) = true) (ht : ts[j]? = some 22) (hd : ds[j]? = some d) (hv : v.cells.toList = [v]) :
    (∃ L, Ix W v L ∧ L.length * 8 ≤ 140737488351232 ∧ ∀ y ∈ L, (Lit.int .i64 y).wf = true) ∧ ∀ W', Below W.heap.size W W' → DataW.Trod enc Try.prog W' 0 (fun b => decide (b < W.heap.size)) true 22 v d p := by
  have lt0 : ∀ x ∈ p, x.block < W.heap.size := by obtain ⟨m, hm⟩ := h; exact DataW.trod_lt m _ _ _ hm
  refine ⟨?_, fun W' bel => Below.trod laidOut (by kernel_rfl) (of_decide_eq_true (by kernel_rfl)) h bel lt0⟩
  obtain ⟨fuel, hf⟩ := h
  obtain ⟨v', L, hc, hin, hb⟩ := open_ints hf fun q hq => by simpa using List.all_eq_true.1 hsz q (DataW.weights_mem_each ht hd q hq)
  rw [hv] at hc
  simp only [List.cons.injEq, and_true] at hc
  subst hc
  exact ⟨L, hin, hb⟩
theorem keys {H : Type} {enc : TypeId × Value → H} {W : World} {v : Value} {d : DataW H} {p : List MemPlace} {ts : List TypeId} {ds : List (DataW H)} {j : Nat}
    (h : DataW.Trod enc Try.prog W 0 (fun _ => true) true 28 v d p)
    (hsz : (DataW.weightsEach Try.prog ts ds).all (· ≤ reachBytes) = true) (ht : ts[j]? = some 28) (hd : ds[j]? = some d) (hv : v.cells.toList = [v]) :
    (∃ L, Kx W v L ∧ L.length * 32 ≤ 140737488351232 ∧ ∀ y ∈ L, Ok y) ∧ ∀ W', Below W.heap.size W W' → DataW.Trod enc Try.prog W' 0 (fun b => decide (b < W.heap.size)) true 28 v d p := by
  have lt0 : ∀ x ∈ p, x.block < W.heap.size := by obtain ⟨m, hm⟩ := h; exact DataW.trod_lt m _ _ _ hm
  refine ⟨?_, fun W' bel => Below.trod laidOut (by kernel_rfl) (of_decide_eq_true (by kernel_rfl)) h bel lt0⟩
  obtain ⟨fuel, hf⟩ := h
  obtain ⟨v', L, hc, hin, hb⟩ := open_keys hf fun q hq => by simpa using List.all_eq_true.1 hsz q (DataW.weights_mem_each ht hd q hq)
  rw [hv] at hc
  simp only [List.cons.injEq, and_true] at hc
  subst hc
  exact ⟨L, hin, hb⟩
theorem int {H : Type} {enc : TypeId × Value → H} {W : World} {v : Value} {d : DataW H} {p : List MemPlace} (h : DataW.Trod enc Try.prog W 0 (fun _ => true) true 3 v d p) (hv : v.cells.toList = [v]) :
    (∃ y, v = .int .i64 y ∧ (Lit.int .i64 y).wf = true) ∧ ∀ W', Below W.heap.size W W' → DataW.Trod enc Try.prog W' 0 (fun b => decide (b < W.heap.size)) true 3 v d p := by
  have lt0 : ∀ x ∈ p, x.block < W.heap.size := by obtain ⟨m, hm⟩ := h; exact DataW.trod_lt m _ _ _ hm
  refine ⟨?_, fun W' bel => Below.trod laidOut (by kernel_rfl) (of_decide_eq_true (by kernel_rfl)) h bel lt0⟩
  obtain ⟨fuel, hf⟩ := h
  rw [hv] at hf
  obtain ⟨i, e, -, hwf⟩ := DataW.trod_int Try.underlying3 hf
  simp only [List.cons.injEq, and_true] at e
  exact ⟨i, e, hwf⟩
end Go.Proofs.Ytkjgbmoimobgaaa.IOpen
