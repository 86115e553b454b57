import Derived.ChangeOld
import Derived.Deep.Strs
import Derived.OpenShut
import Derived.ProofKit
import Derived.SizedLaws
import Derived.Test.YthjbknncbhkinaaGreatDoorPS03
import Derived.Test.YthjbknncbhkinaaGreatDoorPS04
import Derived.Test.YthjbknncbhkinaaGreatDoorPS08
open Go.Proofs.Tryz
set_option linter.unusedVariables false
set_option maxRecDepth 100000
namespace Go.Proofs.YthjbknncbhkinaaGreatDoor.NOe
open Go.ChangeShapes Go.WideShapes Go.ChangeAt Go.RowKit EPure
open XBase (In InL in_iff LAt Four)
open Base (All add_none)
theorem cells9 : prog.cellsOf 9 = 1 := by kernel_rfl
theorem cellsX : prog.cellsOf 24 = 4 := by kernel_rfl
theorem cells3 : prog.cellsOf 3 = 1 := by kernel_rfl
theorem cellsXs : prog.cellsOf 22 = 1 := by kernel_rfl
theorem bytesX : prog.bytesOf 24 = 56 := by kernel_rfl
theorem cells_at {w : World} {a : Addr} {n : Nat} {cs : List Value} (h : w.cells? 0 a n = some cs) : cs.length = n /\ ∀ j (hj : j < n), w.cell? (a.add j) = cs[j]? := by
 unfold World.cells? at h
 rw [if_pos (Nat.zero_le _)] at h
 have hl := mapM_some_length h
 refine ⟨by simpa using hl, fun j hj => ?_⟩
 have := mapM_some_get h j j (by simp [hj])
 exact this
theorem list_four {α : Type} {l : List α} (h : l.length = 4) : ∃ c0 c1 c2 c3, l = [c0, c1, c2, c3] := by
 match l, h with
 | [c0, c1, c2, c3], _ => exact ⟨c0, c1, c2, c3, rfl⟩
theorem spot_none {w : World} {a : Addr} {v : Value} (h : w.cell? (a.add 0) = some v) : ∃ g o, a = ⟨g, o, none⟩ := by
 obtain ⟨g, o, sp⟩ := a
 cases sp with
 | none => exact ⟨g, o, rfl⟩
 | some x =>
  simp only [Addr.add, if_true, World.cell?] at h
  split at h
  ·simp at h
  ·cases h
theorem weightsAll_mem {H : Type} {P : Program} {e : TypeId} {d : DataW H} {q : Nat} : ∀ {ds : List (DataW H)}, d ∈ ds -> q ∈ DataW.weights P e d -> q ∈ DataW.weightsAll P e ds
 | [], hd, _ => by cases hd
 | d' :: r, hd, hq => by
  rw [DataW.weightsAll, List.mem_append]
  rcases List.mem_cons.1 hd with rfl | h
  ·exact .inl hq
  ·exact .inr (weightsAll_mem h hq)
section
variable {H : Type} {enc : TypeId × Value -> H} {W : World}
theorem open_x : ∀ {fuel : Nat} {cs : List Value} {x : DataW H × List MemPlace}, DataW.trod enc prog W 0 (fun _ => true) true fuel 24 cs = some x -> (∀ q ∈ DataW.weights prog 24 x.1, q <= reachBytes) ->
  ∃ c, In false All W fuel (.agg cs.toArray) c := by
 intro fuel
 induction fuel using Nat.strongRecOn with
 | _ fuel ih =>
  intro cs x h hw
  obtain ⟨xs, n, rfl, rfl, hcl, hxl, hf⟩ := DataW.trod_struct underlying24 h
  rw [cellsX] at hcl
  have hxl4 : xs.length = 4 := hxl
  clear hxl
  obtain ⟨c0, c1, c2, c3, rfl⟩ := list_four hcl
  obtain ⟨x0, x1, x2, x3, rfl⟩ := list_four hxl4
  have f0 := hf 0 _ rfl
  have f1 := hf 1 _ rfl
  have f2 := hf 2 _ rfl
  have f3 := hf 3 _ rfl
  simp [cells3] at f0
  simp [cells3] at f1
  simp [cells9] at f2
  simp [cellsXs] at f3
  obtain ⟨k, e0, e0', hk⟩ := DataW.trod_int underlying3 f0
  obtain ⟨i, e1, e1', hi⟩ := DataW.trod_int underlying3 f1
  obtain ⟨s, e2, e2', hs⟩ := DataW.trod_string underlying9 f2
  have W0 : ∀ q, q ∈ DataW.weights prog 9 x2.1 \/ q ∈ DataW.weights prog 22 x3.1 -> q <= reachBytes := by
   intro q hq
   apply hw
   simp only [List.map_cons, List.map_nil]
   rw [DataW.weights, underlying24]
   simp only [List.map_cons, List.map_nil, DataW.weightsEach, List.mem_append]
   rcases hq with hq | hq
   ·simp [hq]
   ·simp [hq]
  have hss : s.size <= 140737488351232 := by
   have := W0 s.data.toList.length (.inl (by rw [e2']; simp [DataW.weights]))
   simp only [reachBytes] at this
   have hl : s.data.toList.length = s.size := Array.length_toList
   omega
  simp only [List.cons.injEq, and_true] at e0 e1 e2
  subst e0 e1 e2
  have hL : ∃ l, InL false All W n c3 l := by
   rcases DataW.trod_slice underlying22 f3 with ⟨e5, -⟩ | ⟨a, len, cap, els, rest, n', rfl, e5, e5', _, hl, hm, hlen, hel, -, -⟩
   ·simp only [List.cons.injEq, and_true] at e5
    subst e5
    exact ⟨[], none, 0, rfl, by simp, by simp, by simp, fun _ => rfl, .inl ⟨rfl, rfl⟩⟩
   ·simp only [List.cons.injEq, and_true] at e5
    subst e5
    have hone : ∀ j : Fin len, ∃ (c : Ex) (u : Value), (∃ cs' : List Value, u = .agg cs'.toArray /\ cs'.length = 4 /\ ∀ i (hi : i < 4), W.cell? ((a.add (j.1 * 4)).add i) = cs'[i]?) /\ In false All W n' u c := by
     rintro ⟨j, hj⟩
     have hh := hel j hj
     rw [List.getElem?_eq_getElem (by omega), Option.bind_eq_some_iff] at hh
     obtain ⟨c', hc, ht⟩ := hh
     rw [cellsX] at hc
     obtain ⟨hl1, hcc⟩ := cells_at hc
     obtain ⟨c, hin⟩ := ih n' (by omega) ht (fun q hq => W0 q (.inr (by
      rw [e5', DataW.weights, underlying22]
      refine List.mem_cons_of_mem _ (List.mem_append.2 (.inl (weightsAll_mem (d := els[j].1) ?_ hq)))
      rw [List.mem_map]
      exact ⟨els[j]'(by omega), List.getElem_mem _, rfl⟩)))
     exact ⟨c, _, ⟨c', rfl, hl1, hcc⟩, hin⟩
    have hb56 : len * 56 <= 140737488351232 := by
     have := W0 ((els.length + rest.length) * 56) (.inr (by
      rw [e5', DataW.weights, underlying22]
      simp [bytesX]))
     simp only [reachBytes] at this
     omega
    obtain ⟨f, hf⟩ := Classical.axiomOfChoice hone
    refine ⟨List.ofFn f, some a, cap, by simp, by simpa using hl, hm, by simpa using hb56, (fun h => by cases h), ?_⟩
    by_cases h0 : len = 0
    ·subst h0
     exact .inl ⟨by simp, rfl⟩
    ·have hcell0 : ∃ v, W.cell? (a.add 0) = some v := by
      obtain ⟨u, ⟨c', -, hl4, hcc⟩, -⟩ := hf ⟨0, by omega⟩
      have := hcc 0 (by omega)
      rw [show (a.add (0 * 4)).add 0 = a.add 0 from by simp [Addr.add]] at this
      exact ⟨c'[0], by rw [this, List.getElem?_eq_getElem]⟩
     obtain ⟨v, hv⟩ := hcell0
     obtain ⟨g, o, rfl⟩ := spot_none hv
     refine .inr ⟨g, o, rfl, trivial, fun j hj => ?_, fun h => by cases h⟩
     have hj' : j < len := by simpa using hj
     obtain ⟨u, ⟨c', rfl, hl4, hcc⟩, hin⟩ := hf ⟨j, hj'⟩
     obtain ⟨y0, y1, y2, y3, rfl⟩ := list_four hl4
     have g0 := hcc 0 (by omega)
     have g1 := hcc 1 (by omega)
     have g2 := hcc 2 (by omega)
     have g3 := hcc 3 (by omega)
     simp only [add_none] at g0 g1 g2 g3
     refine ⟨_, ⟨y0, y1, y2, y3, rfl, g0, g1, g2, g3⟩, ?_⟩
     have := hin.weak (fun _ h => h) false id (n' + 1) (by omega)
     simpa using this
  obtain ⟨l, hL⟩ := hL
  refine ⟨.mk k i s l, ?_⟩
  rw [in_iff]
  exact ⟨_, rfl, bounds_i64 hk, bounds_i64 hi, hss, hL⟩
end
theorem come {H : Type} {enc : TypeId × Value -> H} {W : World} {base : Nat} {v : Value} {d : DataW H} {p : List MemPlace} {ts : List TypeId} {ds : List (DataW H)} {j : Nat}
  (hval : Value.okWide prog W .any base 24 v) (h : DataW.Trod enc prog W 0 (fun _ => true) true 24 v d p)
  (hsz : (DataW.weightsEach prog ts ds).all (· <= reachBytes) = true) (ht : ts[j]? = some 24) (hd : ds[j]? = some d) :
  (∃ m c, In false All W m v c) /\ ∀ W', Below W.heap.size W W' -> DataW.Trod enc prog W' 0 (fun b => decide (b < W.heap.size)) true 24 v d p := by
 have lt0 : ∀ x ∈ p, x.block < W.heap.size := by obtain ⟨m, hm⟩ := h; exact DataW.trod_lt m _ _ _ hm
 refine ⟨?_, fun W' bel => Below.trod NFe.laidOut (by kernel_rfl) (of_decide_eq_true (by kernel_rfl)) h bel lt0⟩
 obtain ⟨cs, rfl, -⟩ := okWide_struct underlying24 hval
 obtain ⟨fuel, hf⟩ := h
 obtain ⟨c, hc⟩ := open_x hf fun q hq => by simpa using List.all_eq_true.1 hsz q (DataW.weights_mem_each ht hd q hq)
 exact ⟨fuel, c, by simpa [Value.cells] using hc⟩
end Go.Proofs.YthjbknncbhkinaaGreatDoor.NOe
namespace Go.Proofs.YthjbknncbhkinaaGreatDoor.Open
open Go.ChangeShapes Go.WideShapes Go.ChangeAt Go.RowKit Base
theorem cells9 : prog.cellsOf 9 = 1 := by kernel_rfl
theorem cells25 : prog.cellsOf 46 = 6 := by kernel_rfl
theorem cells3 : prog.cellsOf 3 = 1 := by kernel_rfl
theorem cells4 : prog.cellsOf 4 = 1 := by kernel_rfl
theorem cells22 : prog.cellsOf 28 = 1 := by kernel_rfl
theorem cells23 : prog.cellsOf 43 = 1 := by kernel_rfl
theorem bytes9 : prog.bytesOf 9 = 16 := by kernel_rfl
theorem bytes25 : prog.bytesOf 46 = 88 := by kernel_rfl
theorem cells_at {w : World} {a : Addr} {n : Nat} {cs : List Value} (h : w.cells? 0 a n = some cs) : cs.length = n /\ ∀ j (hj : j < n), w.cell? (a.add j) = cs[j]? := by
 unfold World.cells? at h
 rw [if_pos (Nat.zero_le _)] at h
 have hl := mapM_some_length h
 refine ⟨by simpa using hl, fun j hj => ?_⟩
 have := mapM_some_get h j j (by simp [hj])
 exact this
theorem list_six {α : Type} {l : List α} (h : l.length = 6) : ∃ c0 c1 c2 c3 c4 c5, l = [c0, c1, c2, c3, c4, c5] := by
 match l, h with
 | [c0, c1, c2, c3, c4, c5], _ => exact ⟨c0, c1, c2, c3, c4, c5, rfl⟩
theorem spot_none {w : World} {a : Addr} {v : Value} (h : w.cell? (a.add 0) = some v) : ∃ g o, a = ⟨g, o, none⟩ := by
 obtain ⟨g, o, sp⟩ := a
 cases sp with
 | none => exact ⟨g, o, rfl⟩
 | some x =>
  simp only [Addr.add, if_true, World.cell?] at h
  split at h
  ·simp at h
  ·cases h
theorem weightsAll_mem {H : Type} {P : Program} {e : TypeId} {d : DataW H} {q : Nat} : ∀ {ds : List (DataW H)}, d ∈ ds -> q ∈ DataW.weights P e d -> q ∈ DataW.weightsAll P e ds
 | [], hd, _ => by cases hd
 | d' :: r, hd, hq => by
  rw [DataW.weightsAll, List.mem_append]
  rcases List.mem_cons.1 hd with rfl | h
  ·exact .inl hq
  ·exact .inr (weightsAll_mem h hq)
section
variable {H : Type} {enc : TypeId × Value -> H} {W : World}
theorem open_txs {fuel : Nat} {cs : List Value} {x : DataW H × List MemPlace} (h : DataW.trod enc prog W 0 (fun _ => true) true fuel 28 cs = some x) (hw : ∀ q ∈ DataW.weights prog 28 x.1, q <= reachBytes) :
  ∃ nv n, cs = [nv] /\ Tx false All W nv n := by
 rcases DataW.trod_slice underlying28 h with ⟨rfl, rfl⟩ | ⟨a, len, cap, els, rest, m, rfl, rfl, rfl, _, hl, hm, hlen, hel, -, -⟩
 ·exact ⟨_, [], rfl, none, 0, rfl, by simp, by simp, by simp, by simp, fun _ => rfl, .inl ⟨rfl, rfl⟩⟩
 ·have hone : ∀ j : Fin len, ∃ s : ByteArray, W.cell? (a.add j.1) = some (.string s) /\ s.size <= 140737488351232 := by
   rintro ⟨j, hj⟩
   have hh := hel j hj
   rw [List.getElem?_eq_getElem (by omega), Option.bind_eq_some_iff] at hh
   obtain ⟨c', hc, ht⟩ := hh
   rw [cells9, Nat.mul_one] at hc
   obtain ⟨hl1, hcc⟩ := cells_at hc
   obtain ⟨s, rfl, hs, -⟩ := DataW.trod_string underlying9 ht
   refine ⟨s, ?_, ?_⟩
   ·have := hcc 0 (by omega)
    rw [show (a.add j).add 0 = a.add j from by simp [Addr.add]] at this
    simpa using this
   ·have := hw s.data.toList.length (by
     rw [DataW.weights, underlying28]
     refine List.mem_cons_of_mem _ (List.mem_append.2 (.inl (weightsAll_mem (d := .lit (.string s.data.toList)) ?_ ?_)))
     ·rw [List.mem_map]
      exact ⟨els[j]'(by omega), List.getElem_mem _, by rw [hs]⟩
     ·simp [DataW.weights])
    simp only [reachBytes] at this
    have hl : s.data.toList.length = s.size := Array.length_toList
    omega
  have hb16 : len * 16 <= 140737488351232 := by
   have := hw ((els.length + rest.length) * 16) (by
    rw [DataW.weights, underlying28]
    simp [bytes9])
   simp only [reachBytes] at this
   omega
  obtain ⟨f, hf⟩ := Classical.axiomOfChoice hone
  refine ⟨_, List.ofFn f, rfl, ⟨some a, cap, by simp, by simpa using hl, hm, by simpa using hb16, ?_, (fun h => by cases h), ?_⟩⟩
  ·intro t ht
   obtain ⟨j, rfl⟩ := List.mem_ofFn.1 ht
   exact (hf j).2
  ·by_cases h0 : len = 0
   ·subst h0
    exact .inl ⟨by simp, rfl⟩
   ·obtain ⟨g, o, rfl⟩ := spot_none (hf ⟨0, by omega⟩).1
    refine .inr ⟨g, o, rfl, trivial, fun j hj => ?_, fun h => by cases h⟩
    have hj' : j < len := by simpa using hj
    have := (hf ⟨j, hj'⟩).1
    rw [add_none] at this
    simpa using this
theorem open_val : ∀ {fuel : Nat} {cs : List Value} {x : DataW H × List MemPlace}, DataW.trod enc prog W 0 (fun _ => true) true fuel 46 cs = some x -> (∀ q ∈ DataW.weights prog 46 x.1, q <= reachBytes) ->
  ∃ c, In false All W fuel (.agg cs.toArray) c := by
 intro fuel
 induction fuel using Nat.strongRecOn with
 | _ fuel ih =>
  intro cs x h hw
  obtain ⟨xs, n, rfl, rfl, hcl, hxl, hf⟩ := DataW.trod_struct underlying46 h
  rw [cells25] at hcl
  have hxl6 : xs.length = 6 := hxl
  clear hxl
  obtain ⟨c0, c1, c2, c3, c4, c5, rfl⟩ := list_six hcl
  obtain ⟨x0, x1, x2, x3, x4, x5, rfl⟩ := list_six hxl6
  have f0 := hf 0 _ rfl
  have f1 := hf 1 _ rfl
  have f2 := hf 2 _ rfl
  have f3 := hf 3 _ rfl
  have f4 := hf 4 _ rfl
  have f5 := hf 5 _ rfl
  simp [cells3] at f0
  simp [cells4] at f1
  simp [cells3] at f2
  simp [cells9] at f3
  simp [cells22] at f4
  simp [cells23] at f5
  obtain ⟨k, e0, e0', hk⟩ := DataW.trod_int underlying3 f0
  obtain ⟨b, e1, e1'⟩ := DataW.trod_bool underlying4 f1
  obtain ⟨i, e2, e2', hi⟩ := DataW.trod_int underlying3 f2
  obtain ⟨s, e3, e3', hs⟩ := DataW.trod_string underlying9 f3
  have W0 : ∀ q, q ∈ DataW.weights prog 9 x3.1 \/ q ∈ DataW.weights prog 28 x4.1 \/ q ∈ DataW.weights prog 43 x5.1 -> q <= reachBytes := by
   intro q hq
   apply hw
   simp only [List.map_cons, List.map_nil]
   rw [DataW.weights, underlying46]
   simp only [List.map_cons, List.map_nil, DataW.weightsEach, List.mem_append]
   rcases hq with hq | hq | hq
   ·simp [hq]
   ·simp [hq]
   ·simp [hq]
  obtain ⟨nv, ns, e4, hT⟩ := open_txs f4 (fun q hq => W0 q (.inr (.inl hq)))
  have hss : s.size <= 140737488351232 := by
   have := W0 s.data.toList.length (.inl (by rw [e3']; simp [DataW.weights]))
   simp only [reachBytes] at this
   have hl : s.data.toList.length = s.size := Array.length_toList
   omega
  simp only [List.cons.injEq, and_true] at e0 e1 e2 e3 e4
  subst e0 e1 e2 e3 e4
  have hL : ∃ l, InL false All W n c5 l := by
   rcases DataW.trod_slice underlying43 f5 with ⟨e5, -⟩ | ⟨a, len, cap, els, rest, n', rfl, e5, e5', _, hl, hm, hlen, hel, -, -⟩
   ·simp only [List.cons.injEq, and_true] at e5
    subst e5
    exact ⟨[], none, 0, rfl, by simp, by simp, by simp, fun _ => rfl, .inl ⟨rfl, rfl⟩⟩
   ·simp only [List.cons.injEq, and_true] at e5
    subst e5
    have hone : ∀ j : Fin len, ∃ (c : C) (u : Value), (∃ cs' : List Value, u = .agg cs'.toArray /\ cs'.length = 6 /\ ∀ i (hi : i < 6), W.cell? ((a.add (j.1 * 6)).add i) = cs'[i]?) /\ In false All W n' u c := by
     rintro ⟨j, hj⟩
     have hh := hel j hj
     rw [List.getElem?_eq_getElem (by omega), Option.bind_eq_some_iff] at hh
     obtain ⟨c', hc, ht⟩ := hh
     rw [cells25] at hc
     obtain ⟨hl1, hcc⟩ := cells_at hc
     obtain ⟨c, hin⟩ := ih n' (by omega) ht (fun q hq => W0 q (.inr (.inr (by
      rw [e5', DataW.weights, underlying43]
      refine List.mem_cons_of_mem _ (List.mem_append.2 (.inl (weightsAll_mem (d := els[j].1) ?_ hq)))
      rw [List.mem_map]
      exact ⟨els[j]'(by omega), List.getElem_mem _, rfl⟩))))
     exact ⟨c, _, ⟨c', rfl, hl1, hcc⟩, hin⟩
    have hb88 : len * 88 <= 140737488351232 := by
     have := W0 ((els.length + rest.length) * 88) (.inr (.inr (by
      rw [e5', DataW.weights, underlying43]
      simp [bytes25])))
     simp only [reachBytes] at this
     omega
    obtain ⟨f, hf⟩ := Classical.axiomOfChoice hone
    refine ⟨List.ofFn f, some a, cap, by simp, by simpa using hl, hm, by simpa using hb88, (fun h => by cases h), ?_⟩
    by_cases h0 : len = 0
    ·subst h0
     exact .inl ⟨by simp, rfl⟩
    ·have hcell0 : ∃ v, W.cell? (a.add 0) = some v := by
      obtain ⟨u, ⟨c', -, hl6, hcc⟩, -⟩ := hf ⟨0, by omega⟩
      have := hcc 0 (by omega)
      rw [show (a.add (0 * 6)).add 0 = a.add 0 from by simp [Addr.add]] at this
      exact ⟨c'[0], by rw [this, List.getElem?_eq_getElem]⟩
     obtain ⟨v, hv⟩ := hcell0
     obtain ⟨g, o, rfl⟩ := spot_none hv
     refine .inr ⟨g, o, rfl, trivial, fun j hj => ?_, fun h => by cases h⟩
     have hj' : j < len := by simpa using hj
     obtain ⟨u, ⟨c', rfl, hl6, hcc⟩, hin⟩ := hf ⟨j, hj'⟩
     obtain ⟨y0, y1, y2, y3, y4, y5, rfl⟩ := list_six hl6
     have g0 := hcc 0 (by omega)
     have g1 := hcc 1 (by omega)
     have g2 := hcc 2 (by omega)
     have g3 := hcc 3 (by omega)
     have g4 := hcc 4 (by omega)
     have g5 := hcc 5 (by omega)
     simp only [add_none] at g0 g1 g2 g3 g4 g5
     refine ⟨_, ⟨y0, y1, y2, y3, y4, y5, rfl, g0, g1, g2, g3, g4, g5⟩, ?_⟩
     have := hin.weak (fun _ h => h) false id (n' + 1) (by omega)
     simpa using this
  obtain ⟨l, hL⟩ := hL
  refine ⟨.mk k b i s ns l, ?_⟩
  rw [in_iff]
  exact ⟨_, _, rfl, bounds_i64 hk, bounds_i64 hi, hss, hT, hL⟩
end
end Go.Proofs.YthjbknncbhkinaaGreatDoor.Open
