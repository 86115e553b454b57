/- Lists of cores that come in: what they hold, how many they are. -/
import Derived.Test.YtofjedecjlodmaaGreatRows
import Derived.Test.YtofjedecjlodmaaGreatKBase
import Derived.Deep.Strs
import Derived.SizedLaws
import Derived.OpenShut
import Derived.WalkKit
import Derived.ProofKit
import Derived.ChangeOld
import Derived.Below
namespace Go.Proofs.YtofjedecjlodmaaGreat.KOp
open Go.ChangeShapes Go.WideShapes Go.ChangeAt Go.RowKit Go.Proofs.YtofjedecjlodmaaGreat.EPure Go.Proofs.YtofjedecjlodmaaGreat.KBase
open Go.Proofs.YtofjedecjlodmaaGreat.Base (All add_none)
set_option linter.unusedVariables false

theorem cells9 : Tryz.prog.cellsOf 9 = 1 := by kernel_rfl
theorem cells3 : Tryz.prog.cellsOf 3 = 1 := by kernel_rfl
theorem cells4 : Tryz.prog.cellsOf 4 = 1 := by kernel_rfl
theorem cellsX : Tryz.prog.cellsOf 58 = 4 := by kernel_rfl
theorem cellsP : Tryz.prog.cellsOf 60 = 6 := by kernel_rfl
theorem cellsF : Tryz.prog.cellsOf 79 = 8 := by kernel_rfl
theorem cellsC : Tryz.prog.cellsOf 40 = 7 := by kernel_rfl
theorem cellsrow_x : Tryz.prog.cellsOf 58 = 4 := cellsX
theorem cellsrow_p : Tryz.prog.cellsOf 60 = 6 := cellsP
theorem cellsrow_f : Tryz.prog.cellsOf 79 = 8 := cellsF
theorem cellsrow_c : Tryz.prog.cellsOf 40 = 7 := cellsC
theorem cellsXs : Tryz.prog.cellsOf 38 = 1 := by kernel_rfl
theorem cellsPs : Tryz.prog.cellsOf 37 = 1 := by kernel_rfl
theorem cellsFs : Tryz.prog.cellsOf 36 = 1 := by kernel_rfl
theorem cellsCs : Tryz.prog.cellsOf 22 = 1 := by kernel_rfl
theorem bytesrow_x : Tryz.prog.bytesOf 58 = 56 := by kernel_rfl
theorem bytesrow_p : Tryz.prog.bytesOf 60 = 80 := by kernel_rfl
theorem bytesrow_f : Tryz.prog.bytesOf 79 = 104 := by kernel_rfl
theorem bytesrow_c : Tryz.prog.bytesOf 40 = 144 := by kernel_rfl
theorem cells_at {w : World} {a : Addr} {n : Nat} {cs : List Value} (h : w.cells? 0 a n = some cs) : cs.length = n ∧ ∀ j (hj : j < n), w.cell? (a.add j) = cs[j]? := by
  unfold World.cells? at h
  rw [if_pos (Nat.zero_le _)] at h
  have hl := mapM_some_length h
  refine ⟨by simpa using hl, fun j hj => ?_⟩
  have := mapM_some_get h j j (by simp [hj])
  exact this
theorem list_3 {α : Type} {l : List α} (h : l.length = 3) : ∃ c0 c1 c2, l = [c0, c1, c2] := by
  match l, h with
  | [c0, c1, c2], _ => exact ⟨c0, c1, c2, rfl⟩
theorem list_4 {α : Type} {l : List α} (h : l.length = 4) : ∃ c0 c1 c2 c3, l = [c0, c1, c2, c3] := by
  match l, h with
  | [c0, c1, c2, c3], _ => exact ⟨c0, c1, c2, c3, rfl⟩
theorem list_5 {α : Type} {l : List α} (h : l.length = 5) : ∃ c0 c1 c2 c3 c4, l = [c0, c1, c2, c3, c4] := by
  match l, h with
  | [c0, c1, c2, c3, c4], _ => exact ⟨c0, c1, c2, c3, c4, rfl⟩
theorem list_6 {α : Type} {l : List α} (h : l.length = 6) : ∃ c0 c1 c2 c3 c4 c5, l = [c0, c1, c2, c3, c4, c5] := by
  match l, h with
  | [c0, c1, c2, c3, c4, c5], _ => exact ⟨c0, c1, c2, c3, c4, c5, rfl⟩
theorem list_7 {α : Type} {l : List α} (h : l.length = 7) : ∃ c0 c1 c2 c3 c4 c5 c6, l = [c0, c1, c2, c3, c4, c5, c6] := by
  match l, h with
  | [c0, c1, c2, c3, c4, c5, c6], _ => exact ⟨c0, c1, c2, c3, c4, c5, c6, rfl⟩
theorem list_8 {α : Type} {l : List α} (h : l.length = 8) : ∃ c0 c1 c2 c3 c4 c5 c6 c7, l = [c0, c1, c2, c3, c4, c5, c6, c7] := by
  match l, h with
  | [c0, c1, c2, c3, c4, c5, c6, c7], _ => exact ⟨c0, c1, c2, c3, c4, c5, c6, c7, rfl⟩
theorem spot_none {w : World} {a : Addr} {v : Value} (h : w.cell? (a.add 0) = some v) : ∃ g o, a = ⟨g, o, none⟩ := by
  obtain ⟨g, o, sp⟩ := a
  cases sp with
  | none => exact ⟨g, o, rfl⟩
  | some x =>
    simp only [Addr.add, if_true, World.cell?] at h
    split at h
    · simp at h
    · cases h
theorem weightsAll_mem {H : Type} {P : Program} {e : TypeId} {d : DataW H} {q : Nat} : ∀ {ds : List (DataW H)}, d ∈ ds → q ∈ DataW.weights P e d → q ∈ DataW.weightsAll P e ds
  | [], hd, _ => by cases hd
  | d' :: r, hd, hq => by
    rw [DataW.weightsAll, List.mem_append]
    rcases List.mem_cons.1 hd with rfl | h
    · exact .inl hq
    · exact .inr (weightsAll_mem h hq)
section
variable {H : Type} {enc : TypeId × Value → H} {W : World}
theorem str_le {s : ByteArray} {d : DataW H} (hd : d = .lit (.string s.data.toList)) (h : ∀ q ∈ DataW.weights Tryz.prog 9 d, q ≤ reachBytes) : s.size ≤ 140737488351232 := by
  have := h s.data.toList.length (by rw [hd]; simp [DataW.weights])
  simp only [reachBytes] at this
  have hl : s.data.toList.length = s.size := Array.length_toList
  omega
theorem row_x {M : Nat} {fuel : Nat} {c : Value} {x : DataW H × List MemPlace} (h : DataW.trod enc Tryz.prog W 0 (fun _ => true) true fuel 38 [c] = some x) (hw : ∀ q ∈ DataW.weights Tryz.prog 38 x.1, q ≤ reachBytes) (hop : ∀ n', n' + 1 ≤ fuel → ∀ {cs : List Value} {x : DataW H × List MemPlace}, DataW.trod enc Tryz.prog W 0 (fun _ => true) true n' 58 cs = some x → (∀ q ∈ DataW.weights Tryz.prog 58 x.1, q ≤ reachBytes) → ∃ c, XBase.In false (fun _ => True) W M (.agg cs.toArray) c) : ∃ l : List Ex, Rw 4 56 XBase.Four XBase.room7 false (fun _ => True) W (fun u c => XBase.In false (fun _ => True) W M u c) c l := by
  rcases DataW.trod_slice Tryz.underlying38 h with ⟨e5, -⟩ | ⟨a, len, cap, els, rest, n', e0, e5, e5', _, hl, hm, hlen, hel, -, -⟩
  · simp only [List.cons.injEq, and_true] at e5
    subst e5
    exact ⟨[], Rw.nil⟩
  · simp only [List.cons.injEq, and_true] at e5
    subst e5
    have hone : ∀ j : Fin len, ∃ (c : Ex) (u : Value), (∃ cs' : List Value, u = .agg cs'.toArray ∧ cs'.length = 4 ∧ ∀ i (hi : i < 4), W.cell? ((a.add (j.1 * 4)).add i) = cs'[i]?) ∧ (fun u c => XBase.In false (fun _ => True) W M u c) u c := by
      rintro ⟨j, hj⟩
      have hh := hel j hj
      rw [List.getElem?_eq_getElem (by omega), Option.bind_eq_some_iff] at hh
      obtain ⟨c', hc, ht⟩ := hh
      rw [cellsrow_x] at hc
      obtain ⟨hl1, hcc⟩ := cells_at hc
      obtain ⟨c, hin⟩ := hop n' (by omega) ht (fun q hq => hw q (by
        rw [e5', DataW.weights, Tryz.underlying38]
        refine List.mem_cons_of_mem _ (List.mem_append.2 (.inl (weightsAll_mem (d := els[j].1) ?_ hq)))
        rw [List.mem_map]
        exact ⟨els[j]'(by omega), List.getElem_mem _, rfl⟩))
      exact ⟨c, _, ⟨c', rfl, hl1, hcc⟩, hin⟩
    have hbz : len * 56 ≤ 140737488351232 := by
      have := hw ((els.length + rest.length) * 56) (by
        rw [e5', DataW.weights, Tryz.underlying38]
        simp [bytesrow_x])
      simp only [reachBytes] at this
      omega
    obtain ⟨f, hf⟩ := Classical.axiomOfChoice hone
    refine ⟨List.ofFn f, some a, cap, by simp, by simpa using hl, hm, by simpa using hbz, (fun h => by cases h), ?_⟩
    by_cases h0 : len = 0
    · subst h0
      exact .inl ⟨by simp, rfl⟩
    · have hcell0 : ∃ v, W.cell? (a.add 0) = some v := by
        obtain ⟨u, ⟨c', -, hl4, hcc⟩, -⟩ := hf ⟨0, by omega⟩
        have := hcc 0 (by omega)
        rw [show (a.add (0 * 4)).add 0 = a.add 0 from by simp [Addr.add]] at this
        exact ⟨c'[0], by rw [this, List.getElem?_eq_getElem]⟩
      obtain ⟨v, hv⟩ := hcell0
      obtain ⟨g, o, rfl⟩ := spot_none hv
      refine .inr ⟨g, o, rfl, trivial, fun j hj => ?_, fun h => by cases h⟩
      have hj' : j < len := by simpa using hj
      obtain ⟨u, ⟨c', rfl, hl4, hcc⟩, hin⟩ := hf ⟨j, hj'⟩
      obtain ⟨y0, y1, y2, y3, rfl⟩ := list_4 hl4
      have g0 := hcc 0 (by omega)
      have g1 := hcc 1 (by omega)
      have g2 := hcc 2 (by omega)
      have g3 := hcc 3 (by omega)
      simp only [add_none] at g0 g1 g2 g3
      refine ⟨_, ⟨y0, y1, y2, y3, rfl, g0, g1, g2, g3⟩, ?_⟩
      simpa using hin
theorem open_x : ∀ {fuel : Nat} {cs : List Value} {x : DataW H × List MemPlace}, DataW.trod enc Tryz.prog W 0 (fun _ => true) true fuel 58 cs = some x → (∀ q ∈ DataW.weights Tryz.prog 58 x.1, q ≤ reachBytes) →
    ∃ c, XBase.In false (fun _ => True) W (fuel + 1) (.agg cs.toArray) c := by
  intro fuel
  induction fuel using Nat.strongRecOn with
  | _ fuel ih =>
    intro cs x h hw
    obtain ⟨xs, n, rfl, rfl, hcl, hxl, hf⟩ := DataW.trod_struct Tryz.underlying58 h
    rw [cellsX] at hcl
    have hxl4 : xs.length = 4 := hxl
    clear hxl
    obtain ⟨c0, c1, c2, c3, rfl⟩ := list_4 hcl
    obtain ⟨x0, x1, x2, x3, rfl⟩ := list_4 hxl4
    have f0 := hf 0 _ rfl
    have f1 := hf 1 _ rfl
    have f2 := hf 2 _ rfl
    have f3 := hf 3 _ rfl
    simp [cells3] at f0
    simp [cells3] at f1
    simp [cells9] at f2
    simp [cellsXs] at f3
    obtain ⟨k, e0, e0', hk⟩ := DataW.trod_int Tryz.underlying3 f0
    obtain ⟨i, e1, e1', hi⟩ := DataW.trod_int Tryz.underlying3 f1
    obtain ⟨s, e2, e2', hs⟩ := DataW.trod_string Tryz.underlying9 f2
    have W0 : ∀ q, q ∈ DataW.weights Tryz.prog 9 x2.1 ∨ q ∈ DataW.weights Tryz.prog 38 x3.1 → q ≤ reachBytes := by
      intro q hq
      apply hw
      simp only [List.map_cons, List.map_nil]
      rw [DataW.weights, Tryz.underlying58]
      simp only [List.map_cons, List.map_nil, DataW.weightsEach, List.mem_append]
      rcases hq with hq | hq
      · simp [hq]
      · simp [hq]
    have hss : s.size ≤ 140737488351232 := str_le (congrArg Prod.fst e2') (fun q hq => W0 q (.inl hq))
    simp only [List.cons.injEq, and_true] at e0 e1 e2
    subst e0 e1 e2
    obtain ⟨l, a, cap, g1, g2, g3, g4, g5, g6⟩ := row_x (M := n + 1) f3 (fun q hq => W0 q (.inr hq)) (fun n' hn' cs x h1 h2 => by
      obtain ⟨c, hc⟩ := ih n' (by omega) h1 h2
      exact ⟨c, hc.weak (fun _ h => h) false id (n + 1) (by omega)⟩)
    refine ⟨.mk k i s l, ?_⟩
    rw [XBase.in_iff]
    exact ⟨_, rfl, bounds_i64 hk, bounds_i64 hi, hss, (XBase.InL.weak (fun _ h => h) false id (n + 1) (by omega) ⟨a, cap, g1, g2, g3, g4, g5, g6⟩)⟩
theorem open_p {fuel : Nat} {cs : List Value} {x : DataW H × List MemPlace} (h : DataW.trod enc Tryz.prog W 0 (fun _ => true) true fuel 60 cs = some x) (hw : ∀ q ∈ DataW.weights Tryz.prog 60 x.1, q ≤ reachBytes) :
    ∃ c, InP false (fun _ => True) W (.agg cs.toArray) c := by
  obtain ⟨xs, n, rfl, rfl, hcl, hxl, hf⟩ := DataW.trod_struct Tryz.underlying60 h
  rw [cellsP] at hcl
  have hxl4 : xs.length = 3 := hxl
  clear hxl
  obtain ⟨c0, c1, c2, c3, c4, c5, rfl⟩ := list_6 hcl
  obtain ⟨x0, x1, x2, rfl⟩ := list_3 hxl4
  have f0 := hf 0 _ rfl
  have f1 := hf 1 _ rfl
  have f2 := hf 2 _ rfl
  simp [cells9] at f0
  simp [cells4] at f1
  simp [cellsX] at f2
  obtain ⟨s, e0, e0', hs⟩ := DataW.trod_string Tryz.underlying9 f0
  obtain ⟨b, e1, e1'⟩ := DataW.trod_bool Tryz.underlying4 f1
  have W0 : ∀ q, q ∈ DataW.weights Tryz.prog 9 x0.1 ∨ q ∈ DataW.weights Tryz.prog 58 x2.1 → q ≤ reachBytes := by
    intro q hq
    apply hw
    simp only [List.map_cons, List.map_nil]
    rw [DataW.weights, Tryz.underlying60]
    simp only [List.map_cons, List.map_nil, DataW.weightsEach, List.mem_append]
    rcases hq with hq | hq
    · simp [hq]
    · simp [hq]
  have hss : s.size ≤ 140737488351232 := str_le (congrArg Prod.fst e0') (fun q hq => W0 q (.inl hq))
  obtain ⟨x, hx⟩ := open_x f2 (fun q hq => W0 q (.inr hq))
  simp only [List.cons.injEq, and_true] at e0 e1
  subst e0 e1
  exact ⟨⟨s, b, x⟩, _, _, _, _, _, rfl, hss, hx⟩
theorem open_f {fuel : Nat} {cs : List Value} {x : DataW H × List MemPlace} (h : DataW.trod enc Tryz.prog W 0 (fun _ => true) true fuel 79 cs = some x) (hw : ∀ q ∈ DataW.weights Tryz.prog 79 x.1, q ≤ reachBytes) :
    ∃ c, InF false (fun _ => True) W (.agg cs.toArray) c := by
  obtain ⟨xs, n, rfl, rfl, hcl, hxl, hf⟩ := DataW.trod_struct Tryz.underlying79 h
  rw [cellsF] at hcl
  have hxl4 : xs.length = 5 := hxl
  clear hxl
  obtain ⟨c0, c1, c2, c3, c4, c5, c6, c7, rfl⟩ := list_8 hcl
  obtain ⟨x0, x1, x2, x3, x4, rfl⟩ := list_5 hxl4
  have f0 := hf 0 _ rfl
  have f1 := hf 1 _ rfl
  have f2 := hf 2 _ rfl
  have f3 := hf 3 _ rfl
  have f4 := hf 4 _ rfl
  simp [cells9] at f0
  simp [cells9] at f1
  simp [cells4] at f2
  simp [cellsX] at f3
  simp [cells3] at f4
  obtain ⟨s, e0, e0', hs⟩ := DataW.trod_string Tryz.underlying9 f0
  obtain ⟨t, e1, e1', ht⟩ := DataW.trod_string Tryz.underlying9 f1
  obtain ⟨b, e2, e2'⟩ := DataW.trod_bool Tryz.underlying4 f2
  obtain ⟨i, e4, e4', hi⟩ := DataW.trod_int Tryz.underlying3 f4
  have W0 : ∀ q, q ∈ DataW.weights Tryz.prog 9 x0.1 ∨ q ∈ DataW.weights Tryz.prog 9 x1.1 ∨ q ∈ DataW.weights Tryz.prog 58 x3.1 → q ≤ reachBytes := by
    intro q hq
    apply hw
    simp only [List.map_cons, List.map_nil]
    rw [DataW.weights, Tryz.underlying79]
    simp only [List.map_cons, List.map_nil, DataW.weightsEach, List.mem_append]
    rcases hq with hq | hq | hq
    · simp [hq]
    · simp [hq]
    · simp [hq]
  have hss : s.size ≤ 140737488351232 := str_le (congrArg Prod.fst e0') (fun q hq => W0 q (.inl hq))
  have htt : t.size ≤ 140737488351232 := str_le (congrArg Prod.fst e1') (fun q hq => W0 q (.inr (.inl hq)))
  obtain ⟨x, hx⟩ := open_x f3 (fun q hq => W0 q (.inr (.inr hq)))
  simp only [List.cons.injEq, and_true] at e0 e1 e2 e4
  subst e0 e1 e2 e4
  exact ⟨⟨s, t, b, x, i⟩, _, _, _, _, _, rfl, hss, htt, hx, bounds_i64 hi⟩
theorem row_p  {fuel : Nat} {c : Value} {x : DataW H × List MemPlace} (h : DataW.trod enc Tryz.prog W 0 (fun _ => true) true fuel 37 [c] = some x) (hw : ∀ q ∈ DataW.weights Tryz.prog 37 x.1, q ≤ reachBytes) : ∃ l : List Pt, Rw 6 80 Pt6 rmP false (fun _ => True) W (InP false (fun _ => True) W) c l := by
  rcases DataW.trod_slice Tryz.underlying37 h with ⟨e5, -⟩ | ⟨a, len, cap, els, rest, n', e0, e5, e5', _, hl, hm, hlen, hel, -, -⟩
  · simp only [List.cons.injEq, and_true] at e5
    subst e5
    exact ⟨[], Rw.nil⟩
  · simp only [List.cons.injEq, and_true] at e5
    subst e5
    have hone : ∀ j : Fin len, ∃ (c : Pt) (u : Value), (∃ cs' : List Value, u = .agg cs'.toArray ∧ cs'.length = 6 ∧ ∀ i (hi : i < 6), W.cell? ((a.add (j.1 * 6)).add i) = cs'[i]?) ∧ (InP false (fun _ => True) W) u c := by
      rintro ⟨j, hj⟩
      have hh := hel j hj
      rw [List.getElem?_eq_getElem (by omega), Option.bind_eq_some_iff] at hh
      obtain ⟨c', hc, ht⟩ := hh
      rw [cellsrow_p] at hc
      obtain ⟨hl1, hcc⟩ := cells_at hc
      obtain ⟨c, hin⟩ := open_p ht (fun q hq => hw q (by
        rw [e5', DataW.weights, Tryz.underlying37]
        refine List.mem_cons_of_mem _ (List.mem_append.2 (.inl (weightsAll_mem (d := els[j].1) ?_ hq)))
        rw [List.mem_map]
        exact ⟨els[j]'(by omega), List.getElem_mem _, rfl⟩))
      exact ⟨c, _, ⟨c', rfl, hl1, hcc⟩, hin⟩
    have hbz : len * 80 ≤ 140737488351232 := by
      have := hw ((els.length + rest.length) * 80) (by
        rw [e5', DataW.weights, Tryz.underlying37]
        simp [bytesrow_p])
      simp only [reachBytes] at this
      omega
    obtain ⟨f, hf⟩ := Classical.axiomOfChoice hone
    refine ⟨List.ofFn f, some a, cap, by simp, by simpa using hl, hm, by simpa using hbz, (fun h => by cases h), ?_⟩
    by_cases h0 : len = 0
    · subst h0
      exact .inl ⟨by simp, rfl⟩
    · have hcell0 : ∃ v, W.cell? (a.add 0) = some v := by
        obtain ⟨u, ⟨c', -, hl4, hcc⟩, -⟩ := hf ⟨0, by omega⟩
        have := hcc 0 (by omega)
        rw [show (a.add (0 * 6)).add 0 = a.add 0 from by simp [Addr.add]] at this
        exact ⟨c'[0], by rw [this, List.getElem?_eq_getElem]⟩
      obtain ⟨v, hv⟩ := hcell0
      obtain ⟨g, o, rfl⟩ := spot_none hv
      refine .inr ⟨g, o, rfl, trivial, fun j hj => ?_, fun h => by cases h⟩
      have hj' : j < len := by simpa using hj
      obtain ⟨u, ⟨c', rfl, hl4, hcc⟩, hin⟩ := hf ⟨j, hj'⟩
      obtain ⟨y0, y1, y2, y3, y4, y5, rfl⟩ := list_6 hl4
      have g0 := hcc 0 (by omega)
      have g1 := hcc 1 (by omega)
      have g2 := hcc 2 (by omega)
      have g3 := hcc 3 (by omega)
      have g4 := hcc 4 (by omega)
      have g5 := hcc 5 (by omega)
      simp only [add_none] at g0 g1 g2 g3 g4 g5
      refine ⟨_, ⟨y0, y1, y2, y3, y4, y5, rfl, g0, g1, g2, g3, g4, g5⟩, ?_⟩
      simpa using hin
theorem row_f  {fuel : Nat} {c : Value} {x : DataW H × List MemPlace} (h : DataW.trod enc Tryz.prog W 0 (fun _ => true) true fuel 36 [c] = some x) (hw : ∀ q ∈ DataW.weights Tryz.prog 36 x.1, q ≤ reachBytes) : ∃ l : List Fld, Rw 8 104 Fd8 rmF false (fun _ => True) W (InF false (fun _ => True) W) c l := by
  rcases DataW.trod_slice Tryz.underlying36 h with ⟨e5, -⟩ | ⟨a, len, cap, els, rest, n', e0, e5, e5', _, hl, hm, hlen, hel, -, -⟩
  · simp only [List.cons.injEq, and_true] at e5
    subst e5
    exact ⟨[], Rw.nil⟩
  · simp only [List.cons.injEq, and_true] at e5
    subst e5
    have hone : ∀ j : Fin len, ∃ (c : Fld) (u : Value), (∃ cs' : List Value, u = .agg cs'.toArray ∧ cs'.length = 8 ∧ ∀ i (hi : i < 8), W.cell? ((a.add (j.1 * 8)).add i) = cs'[i]?) ∧ (InF false (fun _ => True) W) u c := by
      rintro ⟨j, hj⟩
      have hh := hel j hj
      rw [List.getElem?_eq_getElem (by omega), Option.bind_eq_some_iff] at hh
      obtain ⟨c', hc, ht⟩ := hh
      rw [cellsrow_f] at hc
      obtain ⟨hl1, hcc⟩ := cells_at hc
      obtain ⟨c, hin⟩ := open_f ht (fun q hq => hw q (by
        rw [e5', DataW.weights, Tryz.underlying36]
        refine List.mem_cons_of_mem _ (List.mem_append.2 (.inl (weightsAll_mem (d := els[j].1) ?_ hq)))
        rw [List.mem_map]
        exact ⟨els[j]'(by omega), List.getElem_mem _, rfl⟩))
      exact ⟨c, _, ⟨c', rfl, hl1, hcc⟩, hin⟩
    have hbz : len * 104 ≤ 140737488351232 := by
      have := hw ((els.length + rest.length) * 104) (by
        rw [e5', DataW.weights, Tryz.underlying36]
        simp [bytesrow_f])
      simp only [reachBytes] at this
      omega
    obtain ⟨f, hf⟩ := Classical.axiomOfChoice hone
    refine ⟨List.ofFn f, some a, cap, by simp, by simpa using hl, hm, by simpa using hbz, (fun h => by cases h), ?_⟩
    by_cases h0 : len = 0
    · subst h0
      exact .inl ⟨by simp, rfl⟩
    · have hcell0 : ∃ v, W.cell? (a.add 0) = some v := by
        obtain ⟨u, ⟨c', -, hl4, hcc⟩, -⟩ := hf ⟨0, by omega⟩
        have := hcc 0 (by omega)
        rw [show (a.add (0 * 8)).add 0 = a.add 0 from by simp [Addr.add]] at this
        exact ⟨c'[0], by rw [this, List.getElem?_eq_getElem]⟩
      obtain ⟨v, hv⟩ := hcell0
      obtain ⟨g, o, rfl⟩ := spot_none hv
      refine .inr ⟨g, o, rfl, trivial, fun j hj => ?_, fun h => by cases h⟩
      have hj' : j < len := by simpa using hj
      obtain ⟨u, ⟨c', rfl, hl4, hcc⟩, hin⟩ := hf ⟨j, hj'⟩
      obtain ⟨y0, y1, y2, y3, y4, y5, y6, y7, rfl⟩ := list_8 hl4
      have g0 := hcc 0 (by omega)
      have g1 := hcc 1 (by omega)
      have g2 := hcc 2 (by omega)
      have g3 := hcc 3 (by omega)
      have g4 := hcc 4 (by omega)
      have g5 := hcc 5 (by omega)
      have g6 := hcc 6 (by omega)
      have g7 := hcc 7 (by omega)
      simp only [add_none] at g0 g1 g2 g3 g4 g5 g6 g7
      refine ⟨_, ⟨y0, y1, y2, y3, y4, y5, y6, y7, rfl, g0, g1, g2, g3, g4, g5, g6, g7⟩, ?_⟩
      simpa using hin
theorem row_c {M : Nat} {fuel : Nat} {c : Value} {x : DataW H × List MemPlace} (h : DataW.trod enc Tryz.prog W 0 (fun _ => true) true fuel 22 [c] = some x) (hw : ∀ q ∈ DataW.weights Tryz.prog 22 x.1, q ≤ reachBytes) (hop : ∀ n', n' + 1 ≤ fuel → ∀ {cs : List Value} {x : DataW H × List MemPlace}, DataW.trod enc Tryz.prog W 0 (fun _ => true) true n' 40 cs = some x → (∀ q ∈ DataW.weights Tryz.prog 40 x.1, q ≤ reachBytes) → ∃ c, KBase.In false (fun _ => True) W M (.agg cs.toArray) c) : ∃ l : List Co, Rw 7 144 Co7 rmC false (fun _ => True) W (KBase.In false (fun _ => True) W M) c l := by
  rcases DataW.trod_slice Tryz.underlying22 h with ⟨e5, -⟩ | ⟨a, len, cap, els, rest, n', e0, e5, e5', _, hl, hm, hlen, hel, -, -⟩
  · simp only [List.cons.injEq, and_true] at e5
    subst e5
    exact ⟨[], Rw.nil⟩
  · simp only [List.cons.injEq, and_true] at e5
    subst e5
    have hone : ∀ j : Fin len, ∃ (c : Co) (u : Value), (∃ cs' : List Value, u = .agg cs'.toArray ∧ cs'.length = 7 ∧ ∀ i (hi : i < 7), W.cell? ((a.add (j.1 * 7)).add i) = cs'[i]?) ∧ (KBase.In false (fun _ => True) W M) u c := by
      rintro ⟨j, hj⟩
      have hh := hel j hj
      rw [List.getElem?_eq_getElem (by omega), Option.bind_eq_some_iff] at hh
      obtain ⟨c', hc, ht⟩ := hh
      rw [cellsrow_c] at hc
      obtain ⟨hl1, hcc⟩ := cells_at hc
      obtain ⟨c, hin⟩ := hop n' (by omega) ht (fun q hq => hw q (by
        rw [e5', DataW.weights, Tryz.underlying22]
        refine List.mem_cons_of_mem _ (List.mem_append.2 (.inl (weightsAll_mem (d := els[j].1) ?_ hq)))
        rw [List.mem_map]
        exact ⟨els[j]'(by omega), List.getElem_mem _, rfl⟩))
      exact ⟨c, _, ⟨c', rfl, hl1, hcc⟩, hin⟩
    have hbz : len * 144 ≤ 140737488351232 := by
      have := hw ((els.length + rest.length) * 144) (by
        rw [e5', DataW.weights, Tryz.underlying22]
        simp [bytesrow_c])
      simp only [reachBytes] at this
      omega
    obtain ⟨f, hf⟩ := Classical.axiomOfChoice hone
    refine ⟨List.ofFn f, some a, cap, by simp, by simpa using hl, hm, by simpa using hbz, (fun h => by cases h), ?_⟩
    by_cases h0 : len = 0
    · subst h0
      exact .inl ⟨by simp, rfl⟩
    · have hcell0 : ∃ v, W.cell? (a.add 0) = some v := by
        obtain ⟨u, ⟨c', -, hl4, hcc⟩, -⟩ := hf ⟨0, by omega⟩
        have := hcc 0 (by omega)
        rw [show (a.add (0 * 7)).add 0 = a.add 0 from by simp [Addr.add]] at this
        exact ⟨c'[0], by rw [this, List.getElem?_eq_getElem]⟩
      obtain ⟨v, hv⟩ := hcell0
      obtain ⟨g, o, rfl⟩ := spot_none hv
      refine .inr ⟨g, o, rfl, trivial, fun j hj => ?_, fun h => by cases h⟩
      have hj' : j < len := by simpa using hj
      obtain ⟨u, ⟨c', rfl, hl4, hcc⟩, hin⟩ := hf ⟨j, hj'⟩
      obtain ⟨y0, y1, y2, y3, y4, y5, y6, rfl⟩ := list_7 hl4
      have g0 := hcc 0 (by omega)
      have g1 := hcc 1 (by omega)
      have g2 := hcc 2 (by omega)
      have g3 := hcc 3 (by omega)
      have g4 := hcc 4 (by omega)
      have g5 := hcc 5 (by omega)
      have g6 := hcc 6 (by omega)
      simp only [add_none] at g0 g1 g2 g3 g4 g5 g6
      refine ⟨_, ⟨y0, y1, y2, y3, y4, y5, y6, rfl, g0, g1, g2, g3, g4, g5, g6⟩, ?_⟩
      simpa using hin
theorem open_c : ∀ {fuel : Nat} {cs : List Value} {x : DataW H × List MemPlace}, DataW.trod enc Tryz.prog W 0 (fun _ => true) true fuel 40 cs = some x → (∀ q ∈ DataW.weights Tryz.prog 40 x.1, q ≤ reachBytes) →
    ∃ c, KBase.In false (fun _ => True) W (fuel + 1) (.agg cs.toArray) c := by
  intro fuel
  induction fuel using Nat.strongRecOn with
  | _ fuel ih =>
    intro cs x h hw
    obtain ⟨xs, n, rfl, rfl, hcl, hxl, hf⟩ := DataW.trod_struct Tryz.underlying40 h
    rw [cellsC] at hcl
    have hxl4 : xs.length = 7 := hxl
    clear hxl
    obtain ⟨c0, c1, c2, c3, c4, c5, c6, rfl⟩ := list_7 hcl
    obtain ⟨x0, x1, x2, x3, x4, x5, x6, rfl⟩ := list_7 hxl4
    have f0 := hf 0 _ rfl
    have f1 := hf 1 _ rfl
    have f2 := hf 2 _ rfl
    have f3 := hf 3 _ rfl
    have f4 := hf 4 _ rfl
    have f5 := hf 5 _ rfl
    have f6 := hf 6 _ rfl
    simp [cells3] at f0
    simp [cells9] at f1
    simp [cellsFs] at f2
    simp [cellsPs] at f3
    simp [cellsXs] at f4
    simp [cellsCs] at f5
    simp [cellsCs] at f6
    obtain ⟨k, e0, e0', hk⟩ := DataW.trod_int Tryz.underlying3 f0
    obtain ⟨s, e1, e1', hs⟩ := DataW.trod_string Tryz.underlying9 f1
    have W0 : ∀ q, q ∈ DataW.weights Tryz.prog 9 x1.1 ∨ q ∈ DataW.weights Tryz.prog 36 x2.1 ∨ q ∈ DataW.weights Tryz.prog 37 x3.1 ∨ q ∈ DataW.weights Tryz.prog 38 x4.1 ∨ q ∈ DataW.weights Tryz.prog 22 x5.1 ∨ q ∈ DataW.weights Tryz.prog 22 x6.1 → q ≤ reachBytes := by
      intro q hq
      apply hw
      simp only [List.map_cons, List.map_nil]
      rw [DataW.weights, Tryz.underlying40]
      simp only [List.map_cons, List.map_nil, DataW.weightsEach, List.mem_append]
      rcases hq with hq | hq | hq | hq | hq | hq
      · simp [hq]
      · simp [hq]
      · simp [hq]
      · simp [hq]
      · simp [hq]
      · simp [hq]
    have hss : s.size ≤ 140737488351232 := str_le (congrArg Prod.fst e1') (fun q hq => W0 q (.inl hq))
    obtain ⟨fl, hfl⟩ := row_f f2 (fun q hq => W0 q (.inr (.inl hq)))
    obtain ⟨pl, hpl⟩ := row_p f3 (fun q hq => W0 q (.inr (.inr (.inl hq))))
    obtain ⟨xl, xa, xc, g1, g2, g3, g4, g5, g6⟩ := row_x (M := n + 1) f4 (fun q hq => W0 q (.inr (.inr (.inr (.inl hq))))) (fun n' hn' cs x h1 h2 => by
      obtain ⟨c, hc⟩ := open_x h1 h2
      exact ⟨c, hc.weak (fun _ h => h) false id (n + 1) (by omega)⟩)
    obtain ⟨ll, hll⟩ := row_c (M := n + 1) f5 (fun q hq => W0 q (.inr (.inr (.inr (.inr (.inl hq)))))) (fun n' hn' cs x h1 h2 => by
      obtain ⟨c, hc⟩ := ih n' (by omega) h1 h2
      exact ⟨c, hc.weak (fun _ h => h) false id (n + 1) (by omega)⟩)
    obtain ⟨ul, hul⟩ := row_c (M := n + 1) f6 (fun q hq => W0 q (.inr (.inr (.inr (.inr (.inr hq)))))) (fun n' hn' cs x h1 h2 => by
      obtain ⟨c, hc⟩ := ih n' (by omega) h1 h2
      exact ⟨c, hc.weak (fun _ h => h) false id (n + 1) (by omega)⟩)
    simp only [List.cons.injEq, and_true] at e0 e1
    subst e0 e1
    refine ⟨.mk k s fl pl xl ll ul, ?_⟩
    rw [in_succ]
    exact ⟨_, _, _, _, _, rfl, bounds_i64 hk, hss, hfl, hpl, ⟨n + 1, xa, xc, g1, g2, g3, g4, g5, g6⟩, InL.weak (fun _ h => h) false id _ (by omega) hll, InL.weak (fun _ h => h) false id _ (by omega) hul⟩
end
end Go.Proofs.YtofjedecjlodmaaGreat.KOp

namespace Go.Proofs.YtofjedecjlodmaaGreat.KCm
open Go.RowKit Go.Proofs.YtofjedecjlodmaaGreat Go.Proofs.YtofjedecjlodmaaGreat.KBase
set_option linter.unusedVariables false

theorem bulk_pos {H : Type} (d : DataW H) : 1 ≤ Rows.uptoBulk d := by
  cases d with
  | lit l => cases l <;> simp [Rows.uptoBulk]
  | _ => simp [Rows.uptoBulk]
theorem bulk_len {H : Type} : ∀ (E : List (DataW H)), E.length ≤ Rows.uptoBulkAll E
  | [] => by simp
  | d :: E => by
    have h0 := bulk_pos d
    have ih := bulk_len E
    rw [Rows.uptoBulkAll, List.length_cons]
    omega
theorem laidOut : laidOutB Tryz.prog = true := by kernel_rfl
theorem come {H : Type} {enc : TypeId × Value → H} {W : World} {v : Value} {d : DataW H} {p : List MemPlace} {ts : List TypeId} {ds : List (DataW H)} {j : Nat}
    (h : DataW.Trod enc Tryz.prog W 0 (fun _ => true) true 22 v d p)
    (hsz : (DataW.weightsEach Tryz.prog ts ds).all (· ≤ reachBytes) = true) (ht : ts[j]? = some 22) (hd : ds[j]? = some d) (hv : v.cells.toList = [v]) :
    (∃ m l, InL false (fun _ => True) W m v l ∧ l.length ≤ Rows.uptoBulk d) ∧ ∀ W', Below W.heap.size W W' → DataW.Trod enc Tryz.prog W' 0 (fun b => decide (b < W.heap.size)) true 22 v d p := by
  have lt0 : ∀ x ∈ p, x.block < W.heap.size := by obtain ⟨m, hm⟩ := h; exact DataW.trod_lt m _ _ _ hm
  refine ⟨?_, fun W' bel => Below.trod laidOut (by kernel_rfl) (of_decide_eq_true (by kernel_rfl)) h bel lt0⟩
  obtain ⟨fuel, hf⟩ := h
  rw [hv] at hf
  have hw : ∀ q ∈ DataW.weights Tryz.prog 22 d, q ≤ reachBytes := fun q hq => by simpa using List.all_eq_true.1 hsz q (DataW.weights_mem_each ht hd q hq)
  obtain ⟨l, hl⟩ := KOp.row_c (M := fuel + 1) hf hw (fun n' hn' cs x h1 h2 => by
    obtain ⟨c, hc⟩ := KOp.open_c h1 h2
    exact ⟨c, hc.weak (fun _ h => h) false id (fuel + 1) (by omega)⟩)
  refine ⟨fuel + 1, l, hl, ?_⟩
  obtain ⟨a, cap, hs, -⟩ := hl
  rcases DataW.trod_slice Tryz.underlying22 hf with ⟨e5, -⟩ | ⟨a', len, cap', els, rest, n', e0, e5, e5', _, hl, hm, hlen, hel, -, -⟩
  · simp only [List.cons.injEq, and_true] at e5
    rw [hs] at e5
    injection e5 with _ e _
    omega
  · simp only [List.cons.injEq, and_true] at e5
    rw [hs] at e5
    injection e5 with _ e _
    have e6 : d = .slice (els.map (·.1)) (rest.map (·.1)) := congrArg Prod.fst e5'
    rw [e6, Rows.uptoBulk]
    have := bulk_len (els.map (·.1))
    rw [List.length_map] at this
    omega
end Go.Proofs.YtofjedecjlodmaaGreat.KCm
