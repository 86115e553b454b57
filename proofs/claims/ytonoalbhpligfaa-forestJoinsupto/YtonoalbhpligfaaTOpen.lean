/- Trees that came in, read as what they hold, and how much that is. -/
import Derived.Test.YtonoalbhpligfaaRows
import Derived.Test.YtonoalbhpligfaaTSpecH
import Derived.Deep.Strs
import Derived.SizedLaws
import Derived.OpenShut
import Derived.ProofKit
import Derived.ChangeOld
namespace Go.Proofs.Ytonoalbhpligfaa.TOpen
open Go.ChangeShapes Go.WideShapes Go.ChangeAt Go.RowKit Go.Proofs.Ytonoalbhpligfaa.TBase Go.Proofs.Ytonoalbhpligfaa.TSpecH Go.Proofs.Ytonoalbhpligfaa
set_option linter.unusedVariables false

theorem cells9 : Try.prog.cellsOf 9 = 1 := by kernel_rfl
theorem cellsA : Try.prog.cellsOf 39 = 2 := by kernel_rfl
theorem cellsT : Try.prog.cellsOf 37 = 4 := by kernel_rfl
theorem cellsAs : Try.prog.cellsOf 35 = 1 := by kernel_rfl
theorem cellsTs : Try.prog.cellsOf 22 = 1 := by kernel_rfl
theorem bytesA : Try.prog.bytesOf 39 = 32 := by kernel_rfl
theorem bytesT : Try.prog.bytesOf 37 = 80 := by kernel_rfl
theorem cells_at {w : World} {a : Addr} {n : Nat} {cs : List Value} (h : w.cells? 0 a n = some cs) : cs.length = n ∧ ∀ j (hj : j < n), w.cell? (a.add j) = cs[j]? := by
  unfold World.cells? at h
  rw [if_pos (Nat.zero_le _)] at h
  have hl := mapM_some_length h
  refine ⟨by simpa using hl, fun j hj => ?_⟩
  have := mapM_some_get h j j (by simp [hj])
  exact this
theorem list_four {α : Type} {l : List α} (h : l.length = 4) : ∃ c0 c1 c2 c3, l = [c0, c1, c2, c3] := by
  match l, h with
  | [c0, c1, c2, c3], _ => exact ⟨c0, c1, c2, c3, rfl⟩
theorem list_two {α : Type} {l : List α} (h : l.length = 2) : ∃ c0 c1, l = [c0, c1] := by
  match l, h with
  | [c0, c1], _ => exact ⟨c0, c1, rfl⟩
theorem spot_none {w : World} {a : Addr} {v : Value} (h : w.cell? (a.add 0) = some v) : ∃ g o, a = ⟨g, o, none⟩ := by
  obtain ⟨g, o, sp⟩ := a
  cases sp with
  | none => exact ⟨g, o, rfl⟩
  | some x =>
    simp only [Addr.add, if_true, World.cell?] at h
    split at h
    · simp at h
    · cases h
theorem weightsAll_mem {H : Type} {P : Program} {e : TypeId} {d : DataW H} {q : Nat} : ∀ {ds : List (DataW H)}, d ∈ ds → q ∈ DataW.weights P e d → q ∈ DataW.weightsAll P e ds
  | [], hd, _ => by cases hd
  | d' :: r, hd, hq => by
    rw [DataW.weightsAll, List.mem_append]
    rcases List.mem_cons.1 hd with rfl | h
    · exact .inl hq
    · exact .inr (weightsAll_mem h hq)
/-- What lists hold, part by part. -/
theorem wa_le {H : Type} : ∀ (L : List (ByteArray × ByteArray)) (E : List (DataW H)), L.length = E.length → (∀ j (h1 : j < L.length) (h2 : j < E.length), L[j].1.size + L[j].2.size + 1 ≤ Rows.uptoBulk E[j]) → wa L ≤ Rows.uptoBulkAll E
  | [], [], _, _ => by simp [wa, Rows.uptoBulkAll]
  | [], _ :: _, h, _ => by simp at h
  | _ :: _, [], h, _ => by simp at h
  | t :: L, d :: E, h, hj => by
    rw [wa, Rows.uptoBulkAll]
    have h0 := hj 0 (by simp) (by simp)
    have ih := wa_le L E (by simpa using h) (fun j h1 h2 => hj (j + 1) (by simpa using h1) (by simpa using h2))
    simp only [List.getElem_cons_zero] at h0
    omega
theorem wt_le {H : Type} : ∀ (L : List T) (E : List (DataW H)), L.length = E.length → (∀ j (h1 : j < L.length) (h2 : j < E.length), w1 L[j] ≤ Rows.uptoBulk E[j]) → wt L ≤ Rows.uptoBulkAll E
  | [], [], _, _ => by rw [wt_nil]; omega
  | [], _ :: _, h, _ => by simp at h
  | _ :: _, [], h, _ => by simp at h
  | t :: L, d :: E, h, hj => by
    rw [wt_cons, Rows.uptoBulkAll]
    have h0 := hj 0 (by simp) (by simp)
    have ih := wt_le L E (by simpa using h) (fun j h1 h2 => hj (j + 1) (by simpa using h1) (by simpa using h2))
    simp only [List.getElem_cons_zero] at h0
    omega
section
variable {H : Type} {enc : TypeId × Value → H} {W : World}
theorem bulk_str (s : ByteArray) : Rows.uptoBulk (H := H) (.lit (.string s.data.toList)) = s.size + 1 := by
  rw [Rows.uptoBulk, size_list]
theorem size_of {x : DataW H} {s : ByteArray} (e : x = .lit (.string s.data.toList)) (hw : ∀ q ∈ DataW.weights Try.prog 9 x, q ≤ reachBytes) : s.size ≤ 140737488351232 := by
  have := hw s.data.toList.length (by rw [e]; simp [DataW.weights])
  simp only [reachBytes] at this
  rw [size_list] at this
  omega
theorem open_attrs {fuel : Nat} {cs : List Value} {x : DataW H × List MemPlace} (h : DataW.trod enc Try.prog W 0 (fun _ => true) true fuel 35 cs = some x) (hw : ∀ q ∈ DataW.weights Try.prog 35 x.1, q ≤ reachBytes) :
    ∃ nv n, cs = [nv] ∧ Ax false All W nv n ∧ wa n ≤ Rows.uptoBulk x.1 := by
  rcases DataW.trod_slice Try.underlying35 h with ⟨rfl, rfl⟩ | ⟨a, len, cap, els, rest, m, rfl, rfl, rfl, _, hl, hm, hlen, hel, -, -⟩
  · exact ⟨_, [], rfl, ⟨none, 0, rfl, by simp, by simp, by simp, by simp, fun _ => rfl, .inl ⟨rfl, rfl⟩⟩, by simp [wa]⟩
  · have hone : ∀ j : Fin len, ∃ t : ByteArray × ByteArray, (W.cell? ((a.add (j.1 * 2)).add 0) = some (.string t.1) ∧ W.cell? ((a.add (j.1 * 2)).add 1) = some (.string t.2)) ∧ (t.1.size ≤ 140737488351232 ∧ t.2.size ≤ 140737488351232) ∧
        ∀ hj : j.1 < els.length, t.1.size + t.2.size + 1 ≤ Rows.uptoBulk els[j.1].1 := by
      rintro ⟨j, hj⟩
      have hh := hel j hj
      rw [List.getElem?_eq_getElem (by omega), Option.bind_eq_some_iff] at hh
      obtain ⟨c', hc, ht⟩ := hh
      rw [cellsA] at hc
      obtain ⟨hl1, hcc⟩ := cells_at hc
      obtain ⟨xs, n', rfl, hx, hcl, hxl, hf⟩ := DataW.trod_struct Try.underlying39 ht
      obtain ⟨c0, c1, rfl⟩ := list_two hl1
      have hxl2 : xs.length = 2 := hxl
      obtain ⟨x0, x1, rfl⟩ := list_two hxl2
      have f0 := hf 0 _ rfl
      have f1 := hf 1 _ rfl
      simp [cells9] at f0
      simp [cells9] at f1
      obtain ⟨s0, e0, e0', -⟩ := DataW.trod_string Try.underlying9 f0
      obtain ⟨s1, e1, e1', -⟩ := DataW.trod_string Try.underlying9 f1
      simp only [List.cons.injEq, and_true] at e0 e1
      subst e0 e1
      have W0 : ∀ q, q ∈ DataW.weights Try.prog 9 x0.1 ∨ q ∈ DataW.weights Try.prog 9 x1.1 → q ≤ reachBytes := by
        intro q hq
        apply hw
        rw [DataW.weights, Try.underlying35]
        refine List.mem_cons_of_mem _ (List.mem_append.2 (.inl (weightsAll_mem (d := els[j].1) ?_ ?_)))
        · rw [List.mem_map]
          exact ⟨els[j]'(by omega), List.getElem_mem _, rfl⟩
        · rw [hx]
          simp only [List.map_cons, List.map_nil]
          rw [DataW.weights, Try.underlying39]
          rcases hq with hq | hq
          · simp [DataW.weightsEach, hq]
          · simp [DataW.weightsEach, hq]
      refine ⟨(s0, s1), ⟨by have := hcc 0 (by omega); simpa using this, by have := hcc 1 (by omega); simpa using this⟩, ⟨size_of (congrArg Prod.fst e0') fun q hq => W0 q (.inl hq), size_of (congrArg Prod.fst e1') fun q hq => W0 q (.inr hq)⟩, fun _ => ?_⟩
      rw [hx]
      simp only [List.map_cons, List.map_nil]
      have k0 : Rows.uptoBulk x0.1 = s0.size + 1 := by rw [e0']; exact bulk_str s0
      have k1 : Rows.uptoBulk x1.1 = s1.size + 1 := by rw [e1']; exact bulk_str s1
      rw [Rows.uptoBulk, Rows.uptoBulkAll, Rows.uptoBulkAll, Rows.uptoBulkAll, k0, k1]
      omega
    have hb32 : len * 32 ≤ 140737488351232 := by
      have := hw ((els.length + rest.length) * 32) (by
        rw [DataW.weights, Try.underlying35]
        simp [bytesA])
      simp only [reachBytes] at this
      omega
    obtain ⟨f, hf⟩ := Classical.axiomOfChoice hone
    refine ⟨_, List.ofFn f, rfl, ⟨some a, cap, by simp, by simpa using hl, hm, by simpa using hb32, ?_, (fun h => by cases h), ?_⟩, ?_⟩
    · intro t ht
      obtain ⟨j, rfl⟩ := List.mem_ofFn.1 ht
      exact (hf j).2.1
    · by_cases h0 : len = 0
      · subst h0
        exact .inl ⟨by simp, rfl⟩
      · have := (hf ⟨0, by omega⟩).1.1
        rw [show (a.add (0 * 2)).add 0 = a.add 0 from by simp [Addr.add]] at this
        obtain ⟨g, o, rfl⟩ := spot_none this
        refine .inr ⟨g, o, rfl, trivial, fun j hj => ?_, fun h => by cases h⟩
        have hj' : j < len := by simpa using hj
        have h2 := (hf ⟨j, hj'⟩).1
        rw [add_none, add_none, add_none] at h2
        simpa [Two] using h2
    · rw [Rows.uptoBulk]
      have := wa_le (H := H) (List.ofFn f) (els.map (·.1)) (by simp; omega) (fun j h1 h2 => by
        have hj : j < len := by simpa using h1
        have := (hf ⟨j, hj⟩).2.2 (by simpa using h2)
        simpa using this)
      have e : (els.map Prod.fst) = els.map (·.1) := rfl
      omega
/-- A list of trees, where its trees are known to open. -/
theorem list_of {m : Nat} {cs : List Value} {x : DataW H × List MemPlace} (h : DataW.trod enc Try.prog W 0 (fun _ => true) true m 22 cs = some x) (hw : ∀ q ∈ DataW.weights Try.prog 22 x.1, q ≤ reachBytes)
    (ih : ∀ n', n' < m → ∀ (cs : List Value) (x : DataW H × List MemPlace), DataW.trod enc Try.prog W 0 (fun _ => true) true n' 37 cs = some x → (∀ q ∈ DataW.weights Try.prog 37 x.1, q ≤ reachBytes) →
      ∃ c, In false All W n' (.agg cs.toArray) c ∧ w1 c ≤ Rows.uptoBulk x.1) :
    ∃ v l, cs = [v] ∧ InL false All W m v l ∧ wt l ≤ Rows.uptoBulk x.1 := by
  rcases DataW.trod_slice Try.underlying22 h with ⟨rfl, rfl⟩ | ⟨a, len, cap, els, rest, n', rfl, rfl, rfl, _, hl, hm, hlen, hel, -, -⟩
  · exact ⟨_, [], rfl, ⟨none, 0, rfl, by simp, by simp, by simp, fun _ => rfl, .inl ⟨rfl, rfl⟩⟩, by rw [wt_nil]; omega⟩
  · have hone : ∀ j : Fin len, ∃ (c : T), (∃ (u : Value), (∃ cs' : List Value, u = .agg cs'.toArray ∧ cs'.length = 4 ∧ ∀ i (hi : i < 4), W.cell? ((a.add (j.1 * 4)).add i) = cs'[i]?) ∧ In false All W n' u c) ∧
        ∀ hj : j.1 < els.length, w1 c ≤ Rows.uptoBulk els[j.1].1 := by
      rintro ⟨j, hj⟩
      have hh := hel j hj
      rw [List.getElem?_eq_getElem (by omega), Option.bind_eq_some_iff] at hh
      obtain ⟨c', hc, ht⟩ := hh
      rw [cellsT] at hc
      obtain ⟨hl1, hcc⟩ := cells_at hc
      obtain ⟨c, hin, hwc⟩ := ih n' (by omega) _ _ ht (fun q hq => hw q (by
        rw [DataW.weights, Try.underlying22]
        refine List.mem_cons_of_mem _ (List.mem_append.2 (.inl (weightsAll_mem (d := els[j].1) ?_ hq)))
        rw [List.mem_map]
        exact ⟨els[j]'(by omega), List.getElem_mem _, rfl⟩))
      exact ⟨c, ⟨_, ⟨c', rfl, hl1, hcc⟩, hin⟩, fun _ => hwc⟩
    have hb80 : len * 80 ≤ 140737488351232 := by
      have := hw ((els.length + rest.length) * 80) (by
        rw [DataW.weights, Try.underlying22]
        simp [bytesT])
      simp only [reachBytes] at this
      omega
    obtain ⟨f, hf⟩ := Classical.axiomOfChoice hone
    refine ⟨_, List.ofFn f, rfl, ⟨some a, cap, by simp, by simpa using hl, hm, by simpa using hb80, (fun h => by cases h), ?_⟩, ?_⟩
    · by_cases h0 : len = 0
      · subst h0
        exact .inl ⟨by simp, rfl⟩
      · have hcell0 : ∃ v, W.cell? (a.add 0) = some v := by
          obtain ⟨u, ⟨c', -, hl6, hcc⟩, -⟩ := (hf ⟨0, by omega⟩).1
          have := hcc 0 (by omega)
          rw [show (a.add (0 * 4)).add 0 = a.add 0 from by simp [Addr.add]] at this
          exact ⟨c'[0], by rw [this, List.getElem?_eq_getElem]⟩
        obtain ⟨v, hv⟩ := hcell0
        obtain ⟨g, o, rfl⟩ := spot_none hv
        refine .inr ⟨g, o, rfl, trivial, fun j hj => ?_, fun h => by cases h⟩
        have hj' : j < len := by simpa using hj
        obtain ⟨u, ⟨c', rfl, hl6, hcc⟩, hin⟩ := (hf ⟨j, hj'⟩).1
        obtain ⟨y0, y1, y2, y3, rfl⟩ := list_four hl6
        have g0 := hcc 0 (by omega)
        have g1 := hcc 1 (by omega)
        have g2 := hcc 2 (by omega)
        have g3 := hcc 3 (by omega)
        simp only [add_none] at g0 g1 g2 g3
        refine ⟨_, ⟨y0, y1, y2, y3, rfl, g0, g1, g2, g3⟩, ?_⟩
        have := hin.weak (fun _ h => h) false id (n' + 1) (by omega)
        simpa using this
    · rw [Rows.uptoBulk]
      have := wt_le (H := H) (List.ofFn f) (els.map (·.1)) (by simp; omega) (fun j h1 h2 => by
        have hj : j < len := by simpa using h1
        have := (hf ⟨j, hj⟩).2 (by simpa using h2)
        simpa using this)
      have e : (els.map Prod.fst) = els.map (·.1) := rfl
      omega
theorem open_tree : ∀ {fuel : Nat} {cs : List Value} {x : DataW H × List MemPlace}, DataW.trod enc Try.prog W 0 (fun _ => true) true fuel 37 cs = some x → (∀ q ∈ DataW.weights Try.prog 37 x.1, q ≤ reachBytes) →
    ∃ c, In false All W fuel (.agg cs.toArray) c ∧ w1 c ≤ Rows.uptoBulk x.1 := by
  intro fuel
  induction fuel using Nat.strongRecOn with
  | _ fuel ih =>
    intro cs x h hw
    obtain ⟨xs, n, rfl, rfl, hcl, hxl, hf⟩ := DataW.trod_struct Try.underlying37 h
    rw [cellsT] at hcl
    have hxl4 : xs.length = 4 := hxl
    clear hxl
    obtain ⟨c0, c1, c2, c3, rfl⟩ := list_four hcl
    obtain ⟨x0, x1, x2, x3, rfl⟩ := list_four hxl4
    have f0 := hf 0 _ rfl
    have f1 := hf 1 _ rfl
    have f2 := hf 2 _ rfl
    have f3 := hf 3 _ rfl
    simp [cells9] at f0
    simp [cells9] at f1
    simp [cellsAs] at f2
    simp [cellsTs] at f3
    obtain ⟨s0, e0, e0', -⟩ := DataW.trod_string Try.underlying9 f0
    obtain ⟨s1, e1, e1', -⟩ := DataW.trod_string Try.underlying9 f1
    have W0 : ∀ q, q ∈ DataW.weights Try.prog 9 x0.1 ∨ q ∈ DataW.weights Try.prog 9 x1.1 ∨ q ∈ DataW.weights Try.prog 35 x2.1 ∨ q ∈ DataW.weights Try.prog 22 x3.1 → q ≤ reachBytes := by
      intro q hq
      apply hw
      simp only [List.map_cons, List.map_nil]
      rw [DataW.weights, Try.underlying37]
      rcases hq with hq | hq | hq | hq
      · simp [DataW.weightsEach, hq]
      · simp [DataW.weightsEach, hq]
      · simp [DataW.weightsEach, hq]
      · simp [DataW.weightsEach, hq]
    obtain ⟨nv, ns, e2, hT, hwa⟩ := open_attrs f2 (fun q hq => W0 q (.inr (.inr (.inl hq))))
    obtain ⟨lv, l, e3, hL, hwl⟩ := list_of f3 (fun q hq => W0 q (.inr (.inr (.inr hq)))) (fun n' hn cs x h hw => ih n' (by omega) h hw)
    simp only [List.cons.injEq, and_true] at e0 e1 e2 e3
    subst e0 e1 e2 e3
    have k0 : Rows.uptoBulk x0.1 = s0.size + 1 := by rw [e0']; exact bulk_str s0
    have k1 : Rows.uptoBulk x1.1 = s1.size + 1 := by rw [e1']; exact bulk_str s1
    refine ⟨.mk s0 s1 ns l, ?_, ?_⟩
    · rw [in_iff]
      exact ⟨_, _, rfl, size_of (congrArg Prod.fst e0') fun q hq => W0 q (.inl hq), size_of (congrArg Prod.fst e1') fun q hq => W0 q (.inr (.inl hq)), hT, hL⟩
    · simp only [List.map_cons, List.map_nil]
      rw [Rows.uptoBulk, Rows.uptoBulkAll, Rows.uptoBulkAll, Rows.uptoBulkAll, Rows.uptoBulkAll, Rows.uptoBulkAll, k0, k1]
      unfold w1
      simp only [T.g, T.s, T.n, T.l]
      omega
theorem open_trees {fuel : Nat} {cs : List Value} {x : DataW H × List MemPlace} (h : DataW.trod enc Try.prog W 0 (fun _ => true) true fuel 22 cs = some x) (hw : ∀ q ∈ DataW.weights Try.prog 22 x.1, q ≤ reachBytes) :
    ∃ v l, cs = [v] ∧ InL false All W fuel v l ∧ wt l ≤ Rows.uptoBulk x.1 := list_of h hw (fun n' _ cs x h hw => open_tree h hw)
end
theorem laidOut : laidOutB Try.prog = true := by kernel_rfl
theorem own : ownKnob Try.prog.godebug = none := by kernel_rfl
/-- A list of trees that comes in: what it holds, how much that is, and that it reads the same behind whatever only adds. -/
theorem come {H : Type} {enc : TypeId × Value → H} {W : World} {v : Value} {d : DataW H} {p : List MemPlace} {ts : List TypeId} {ds : List (DataW H)} {j : Nat}
    (h : DataW.Trod enc Try.prog W 0 (fun _ => true) true 22 v d p)
    (hsz : (DataW.weightsEach Try.prog ts ds).all (· ≤ reachBytes) = true) (ht : ts[j]? = some 22) (hd : ds[j]? = some d) (hv : v.cells.toList = [v]) :
    (∃ m l, InL false All W m v l ∧ wt l ≤ Rows.uptoBulk d) ∧ ∀ W', Below W.heap.size W W' → DataW.Trod enc Try.prog W' 0 (fun b => decide (b < W.heap.size)) true 22 v d p := by
  have lt0 : ∀ x ∈ p, x.block < W.heap.size := by obtain ⟨m, hm⟩ := h; exact DataW.trod_lt m _ _ _ hm
  refine ⟨?_, fun W' bel => Below.trod laidOut (by kernel_rfl) (of_decide_eq_true (by kernel_rfl)) h bel lt0⟩
  obtain ⟨fuel, hf⟩ := h
  obtain ⟨v', l, hc, hin, hb⟩ := open_trees hf fun q hq => by simpa using List.all_eq_true.1 hsz q (DataW.weights_mem_each ht hd q hq)
  rw [hv] at hc
  simp only [List.cons.injEq, and_true] at hc
  subst hc
  exact ⟨fuel, l, hin, hb⟩
end Go.Proofs.Ytonoalbhpligfaa.TOpen
