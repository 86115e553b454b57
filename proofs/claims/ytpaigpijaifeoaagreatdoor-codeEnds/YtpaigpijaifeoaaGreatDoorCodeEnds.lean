/- For every input the law CodeEnds returns true and what came in reads as before; conditions: the tables of the library hold what they are laid with. -/
import Derived.Test.YtpaigpijaifeoaaGreatDoorFresh
import Derived.Deep.Strs
import Derived.SizedLaws
import Derived.OpenShut
import Derived.ProofKit
import Derived.ChangeOld
import Derived.Test.YtpaigpijaifeoaaGreatDoorRows
import Derived.Test.YtpaigpijaifeoaaGreatDoorDigits
import Derived.WalkKit
import Derived.Deep.DeepHandedRow
import Derived.Lib.LaidTab
import Derived.Stop.LaidErr
import Derived.Below
import Derived.Carry
import Derived.Test.YtpaigpijaifeoaaGreatDoorCIn
import Derived.Test.YtpaigpijaifeoaaGreatDoorMSe
import Derived.Test.YtpaigpijaifeoaaGreatDoorCards
import Derived.Test.YtpaigpijaifeoaaGreatDoorTie
import Derived.Test.YtpaigpijaifeoaaGreatDoorWEn
import Derived.ShutString
namespace Go.Proofs.YtpaigpijaifeoaaGreatDoor.Open
open Go.ChangeShapes Go.WideShapes Go.ChangeAt Go.RowKit Go.Proofs.YtpaigpijaifeoaaGreatDoor.Base
set_option linter.unusedVariables false

theorem cells9 : Tryz.prog.cellsOf 9 = 1 := by kernel_rfl
theorem cells25 : Tryz.prog.cellsOf 26 = 6 := by kernel_rfl
theorem cells3 : Tryz.prog.cellsOf 3 = 1 := by kernel_rfl
theorem cells4 : Tryz.prog.cellsOf 4 = 1 := by kernel_rfl
theorem cells22 : Tryz.prog.cellsOf 23 = 1 := by kernel_rfl
theorem cells23 : Tryz.prog.cellsOf 24 = 1 := by kernel_rfl
theorem bytes9 : Tryz.prog.bytesOf 9 = 16 := by kernel_rfl
theorem bytes25 : Tryz.prog.bytesOf 26 = 88 := by kernel_rfl
theorem cells_at {w : World} {a : Addr} {n : Nat} {cs : List Value} (h : w.cells? 0 a n = some cs) : cs.length = n ∧ ∀ j (hj : j < n), w.cell? (a.add j) = cs[j]? := by
  unfold World.cells? at h
  rw [if_pos (Nat.zero_le _)] at h
  have hl := mapM_some_length h
  refine ⟨by simpa using hl, fun j hj => ?_⟩
  have := mapM_some_get h j j (by simp [hj])
  exact this
theorem list_six {α : Type} {l : List α} (h : l.length = 6) : ∃ c0 c1 c2 c3 c4 c5, l = [c0, c1, c2, c3, c4, c5] := by
  match l, h with
  | [c0, c1, c2, c3, c4, c5], _ => exact ⟨c0, c1, c2, c3, c4, c5, rfl⟩
theorem spot_none {w : World} {a : Addr} {v : Value} (h : w.cell? (a.add 0) = some v) : ∃ g o, a = ⟨g, o, none⟩ := by
  obtain ⟨g, o, sp⟩ := a
  cases sp with
  | none => exact ⟨g, o, rfl⟩
  | some x =>
    simp only [Addr.add, if_true, World.cell?] at h
    split at h
    · simp at h
    · cases h
theorem weightsAll_mem {H : Type} {P : Program} {e : TypeId} {d : DataW H} {q : Nat} : ∀ {ds : List (DataW H)}, d ∈ ds → q ∈ DataW.weights P e d → q ∈ DataW.weightsAll P e ds
  | [], hd, _ => by cases hd
  | d' :: r, hd, hq => by
    rw [DataW.weightsAll, List.mem_append]
    rcases List.mem_cons.1 hd with rfl | h
    · exact .inl hq
    · exact .inr (weightsAll_mem h hq)
section
variable {H : Type} {enc : TypeId × Value → H} {W : World}
theorem open_txs {fuel : Nat} {cs : List Value} {x : DataW H × List MemPlace} (h : DataW.trod enc Tryz.prog W 0 (fun _ => true) true fuel 23 cs = some x) (hw : ∀ q ∈ DataW.weights Tryz.prog 23 x.1, q ≤ reachBytes) :
    ∃ nv n, cs = [nv] ∧ Tx false All W nv n := by
  rcases DataW.trod_slice Tryz.underlying23 h with ⟨rfl, rfl⟩ | ⟨a, len, cap, els, rest, m, rfl, rfl, rfl, _, hl, hm, hlen, hel, -, -⟩
  · exact ⟨_, [], rfl, none, 0, rfl, by simp, by simp, by simp, by simp, fun _ => rfl, .inl ⟨rfl, rfl⟩⟩
  · have hone : ∀ j : Fin len, ∃ s : ByteArray, W.cell? (a.add j.1) = some (.string s) ∧ s.size ≤ 140737488351232 := by
      rintro ⟨j, hj⟩
      have hh := hel j hj
      rw [List.getElem?_eq_getElem (by omega), Option.bind_eq_some_iff] at hh
      obtain ⟨c', hc, ht⟩ := hh
      rw [cells9, Nat.mul_one] at hc
      obtain ⟨hl1, hcc⟩ := cells_at hc
      obtain ⟨s, rfl, hs, -⟩ := DataW.trod_string Tryz.underlying9 ht
      refine ⟨s, ?_, ?_⟩
      · have := hcc 0 (by omega)
        rw [show (a.add j).add 0 = a.add j from by simp [Addr.add]] at this
        simpa using this
      · have := hw s.data.toList.length (by
          rw [DataW.weights, Tryz.underlying23]
          refine List.mem_cons_of_mem _ (List.mem_append.2 (.inl (weightsAll_mem (d := .lit (.string s.data.toList)) ?_ ?_)))
          · rw [List.mem_map]
            exact ⟨els[j]'(by omega), List.getElem_mem _, by rw [hs]⟩
          · simp [DataW.weights])
        simp only [reachBytes] at this
        have hl : s.data.toList.length = s.size := Array.length_toList
        omega
    have hb16 : len * 16 ≤ 140737488351232 := by
      have := hw ((els.length + rest.length) * 16) (by
        rw [DataW.weights, Tryz.underlying23]
        simp [bytes9])
      simp only [reachBytes] at this
      omega
    obtain ⟨f, hf⟩ := Classical.axiomOfChoice hone
    refine ⟨_, List.ofFn f, rfl, ⟨some a, cap, by simp, by simpa using hl, hm, by simpa using hb16, ?_, (fun h => by cases h), ?_⟩⟩
    · intro t ht
      obtain ⟨j, rfl⟩ := List.mem_ofFn.1 ht
      exact (hf j).2
    · by_cases h0 : len = 0
      · subst h0
        exact .inl ⟨by simp, rfl⟩
      · obtain ⟨g, o, rfl⟩ := spot_none (hf ⟨0, by omega⟩).1
        refine .inr ⟨g, o, rfl, trivial, fun j hj => ?_, fun h => by cases h⟩
        have hj' : j < len := by simpa using hj
        have := (hf ⟨j, hj'⟩).1
        rw [add_none] at this
        simpa using this
theorem open_val : ∀ {fuel : Nat} {cs : List Value} {x : DataW H × List MemPlace}, DataW.trod enc Tryz.prog W 0 (fun _ => true) true fuel 26 cs = some x → (∀ q ∈ DataW.weights Tryz.prog 26 x.1, q ≤ reachBytes) →
    ∃ c, In false All W fuel (.agg cs.toArray) c := by
  intro fuel
  induction fuel using Nat.strongRecOn with
  | _ fuel ih =>
    intro cs x h hw
    obtain ⟨xs, n, rfl, rfl, hcl, hxl, hf⟩ := DataW.trod_struct Tryz.underlying26 h
    rw [cells25] at hcl
    have hxl6 : xs.length = 6 := hxl
    clear hxl
    obtain ⟨c0, c1, c2, c3, c4, c5, rfl⟩ := list_six hcl
    obtain ⟨x0, x1, x2, x3, x4, x5, rfl⟩ := list_six hxl6
    have f0 := hf 0 _ rfl
    have f1 := hf 1 _ rfl
    have f2 := hf 2 _ rfl
    have f3 := hf 3 _ rfl
    have f4 := hf 4 _ rfl
    have f5 := hf 5 _ rfl
    simp [cells3] at f0
    simp [cells4] at f1
    simp [cells3] at f2
    simp [cells9] at f3
    simp [cells22] at f4
    simp [cells23] at f5
    obtain ⟨k, e0, e0', hk⟩ := DataW.trod_int Tryz.underlying3 f0
    obtain ⟨b, e1, e1'⟩ := DataW.trod_bool Tryz.underlying4 f1
    obtain ⟨i, e2, e2', hi⟩ := DataW.trod_int Tryz.underlying3 f2
    obtain ⟨s, e3, e3', hs⟩ := DataW.trod_string Tryz.underlying9 f3
    have W0 : ∀ q, q ∈ DataW.weights Tryz.prog 9 x3.1 ∨ q ∈ DataW.weights Tryz.prog 23 x4.1 ∨ q ∈ DataW.weights Tryz.prog 24 x5.1 → q ≤ reachBytes := by
      intro q hq
      apply hw
      simp only [List.map_cons, List.map_nil]
      rw [DataW.weights, Tryz.underlying26]
      simp only [List.map_cons, List.map_nil, DataW.weightsEach, List.mem_append]
      rcases hq with hq | hq | hq
      · simp [hq]
      · simp [hq]
      · simp [hq]
    obtain ⟨nv, ns, e4, hT⟩ := open_txs f4 (fun q hq => W0 q (.inr (.inl hq)))
    have hss : s.size ≤ 140737488351232 := by
      have := W0 s.data.toList.length (.inl (by rw [e3']; simp [DataW.weights]))
      simp only [reachBytes] at this
      have hl : s.data.toList.length = s.size := Array.length_toList
      omega
    simp only [List.cons.injEq, and_true] at e0 e1 e2 e3 e4
    subst e0 e1 e2 e3 e4
    have hL : ∃ l, InL false All W n c5 l := by
      rcases DataW.trod_slice Tryz.underlying24 f5 with ⟨e5, -⟩ | ⟨a, len, cap, els, rest, n', rfl, e5, e5', _, hl, hm, hlen, hel, -, -⟩
      · simp only [List.cons.injEq, and_true] at e5
        subst e5
        exact ⟨[], none, 0, rfl, by simp, by simp, by simp, fun _ => rfl, .inl ⟨rfl, rfl⟩⟩
      · simp only [List.cons.injEq, and_true] at e5
        subst e5
        have hone : ∀ j : Fin len, ∃ (c : C) (u : Value), (∃ cs' : List Value, u = .agg cs'.toArray ∧ cs'.length = 6 ∧ ∀ i (hi : i < 6), W.cell? ((a.add (j.1 * 6)).add i) = cs'[i]?) ∧ In false All W n' u c := by
          rintro ⟨j, hj⟩
          have hh := hel j hj
          rw [List.getElem?_eq_getElem (by omega), Option.bind_eq_some_iff] at hh
          obtain ⟨c', hc, ht⟩ := hh
          rw [cells25] at hc
          obtain ⟨hl1, hcc⟩ := cells_at hc
          obtain ⟨c, hin⟩ := ih n' (by omega) ht (fun q hq => W0 q (.inr (.inr (by
            rw [e5', DataW.weights, Tryz.underlying24]
            refine List.mem_cons_of_mem _ (List.mem_append.2 (.inl (weightsAll_mem (d := els[j].1) ?_ hq)))
            rw [List.mem_map]
            exact ⟨els[j]'(by omega), List.getElem_mem _, rfl⟩))))
          exact ⟨c, _, ⟨c', rfl, hl1, hcc⟩, hin⟩
        have hb88 : len * 88 ≤ 140737488351232 := by
          have := W0 ((els.length + rest.length) * 88) (.inr (.inr (by
            rw [e5', DataW.weights, Tryz.underlying24]
            simp [bytes25])))
          simp only [reachBytes] at this
          omega
        obtain ⟨f, hf⟩ := Classical.axiomOfChoice hone
        refine ⟨List.ofFn f, some a, cap, by simp, by simpa using hl, hm, by simpa using hb88, (fun h => by cases h), ?_⟩
        by_cases h0 : len = 0
        · subst h0
          exact .inl ⟨by simp, rfl⟩
        · have hcell0 : ∃ v, W.cell? (a.add 0) = some v := by
            obtain ⟨u, ⟨c', -, hl6, hcc⟩, -⟩ := hf ⟨0, by omega⟩
            have := hcc 0 (by omega)
            rw [show (a.add (0 * 6)).add 0 = a.add 0 from by simp [Addr.add]] at this
            exact ⟨c'[0], by rw [this, List.getElem?_eq_getElem]⟩
          obtain ⟨v, hv⟩ := hcell0
          obtain ⟨g, o, rfl⟩ := spot_none hv
          refine .inr ⟨g, o, rfl, trivial, fun j hj => ?_, fun h => by cases h⟩
          have hj' : j < len := by simpa using hj
          obtain ⟨u, ⟨c', rfl, hl6, hcc⟩, hin⟩ := hf ⟨j, hj'⟩
          obtain ⟨y0, y1, y2, y3, y4, y5, rfl⟩ := list_six hl6
          have g0 := hcc 0 (by omega)
          have g1 := hcc 1 (by omega)
          have g2 := hcc 2 (by omega)
          have g3 := hcc 3 (by omega)
          have g4 := hcc 4 (by omega)
          have g5 := hcc 5 (by omega)
          simp only [add_none] at g0 g1 g2 g3 g4 g5
          refine ⟨_, ⟨y0, y1, y2, y3, y4, y5, rfl, g0, g1, g2, g3, g4, g5⟩, ?_⟩
          have := hin.weak (fun _ h => h) false id (n' + 1) (by omega)
          simpa using this
    obtain ⟨l, hL⟩ := hL
    refine ⟨.mk k b i s ns l, ?_⟩
    rw [in_iff]
    exact ⟨_, _, rfl, bounds_i64 hk, bounds_i64 hi, hss, hT, hL⟩
end
end Go.Proofs.YtpaigpijaifeoaaGreatDoor.Open

namespace Go.Proofs.YtpaigpijaifeoaaGreatDoor.CFe
open Go.ChangeShapes Go.WideShapes Go.ChangeAt Go.RowKit Go.Proofs.YtpaigpijaifeoaaGreatDoor.Digits
open Go.Proofs.YtpaigpijaifeoaaGreatDoor.CPu (Ins)
open Go.Proofs.YtpaigpijaifeoaaGreatDoor.CBx (Cx)
open Go.Proofs.YtpaigpijaifeoaaGreatDoor.CIn (OkL Ok cellsI cells3)
set_option linter.unusedVariables false

theorem own : ownKnob Tryz.prog.godebug = none := by kernel_rfl
theorem gTab : Tryz.prog.globalNamed "internal/strconv.uint64pow10" = some 1 := by kernel_rfl
theorem gTabType : (Tryz.prog.globals[1]?).map (·.type) = some 257 := by kernel_rfl
theorem cells95 : Tryz.prog.cellsOf 257 = 20 := by kernel_rfl
theorem cells73 : Tryz.prog.cellsOf 215 = 1 := by kernel_rfl

/-- What the rows' list gives: the table of powers of ten holds its numbers. -/
theorem tab_of {W : World} (h : laidMetH Tryz.prog Rows.codeEndsRow.laid W) : Tab W :=
  Lib.tabIs_of_head (rest := []) gTab gTabType Tryz.underlying257 Tryz.underlying215 cells73 cells95 (laidMet.tail (laidMet.tail h))

def lay (cs : Array Value) : Obj → Obj
  | .cells _ t frozen => .cells cs t frozen
  | o => o
/-- A world for the witness: the settled one, the three tables holding what their initialisers lay. -/
def laidW (w : World) : World :=
  { w with heap := ((w.heap.modify 1 (lay #[.int .u64 1, .int .u64 10, .int .u64 100, .int .u64 1000, .int .u64 10000, .int .u64 100000, .int .u64 1000000, .int .u64 10000000, .int .u64 100000000, .int .u64 1000000000, .int .u64 10000000000, .int .u64 100000000000, .int .u64 1000000000000, .int .u64 10000000000000, .int .u64 100000000000000, .int .u64 1000000000000000, .int .u64 10000000000000000, .int .u64 100000000000000000, .int .u64 1000000000000000000, .int .u64 10000000000000000000])).modify 2 (lay #[.int .u8 0, .int .u8 1, .int .u8 28, .int .u8 2, .int .u8 29, .int .u8 14, .int .u8 24, .int .u8 3, .int .u8 30, .int .u8 22, .int .u8 20, .int .u8 15, .int .u8 25, .int .u8 17, .int .u8 4, .int .u8 8, .int .u8 31, .int .u8 27, .int .u8 13, .int .u8 23, .int .u8 21, .int .u8 19, .int .u8 16, .int .u8 7, .int .u8 26, .int .u8 12, .int .u8 18, .int .u8 6, .int .u8 11, .int .u8 5, .int .u8 10, .int .u8 9])).modify 3 (lay #[.int .u8 0, .int .u8 1, .int .u8 56, .int .u8 2, .int .u8 57, .int .u8 49, .int .u8 28, .int .u8 3, .int .u8 61, .int .u8 58, .int .u8 42, .int .u8 50, .int .u8 38, .int .u8 29, .int .u8 17, .int .u8 4, .int .u8 62, .int .u8 47, .int .u8 59, .int .u8 36, .int .u8 45, .int .u8 43, .int .u8 51, .int .u8 22, .int .u8 53, .int .u8 39, .int .u8 33, .int .u8 30, .int .u8 24, .int .u8 18, .int .u8 12, .int .u8 5, .int .u8 63, .int .u8 55, .int .u8 48, .int .u8 27, .int .u8 60, .int .u8 41, .int .u8 37, .int .u8 16, .int .u8 46, .int .u8 35, .int .u8 44, .int .u8 21, .int .u8 52, .int .u8 32, .int .u8 23, .int .u8 11, .int .u8 54, .int .u8 26, .int .u8 40, .int .u8 15, .int .u8 34, .int .u8 20, .int .u8 31, .int .u8 10, .int .u8 25, .int .u8 14, .int .u8 19, .int .u8 9, .int .u8 13, .int .u8 8, .int .u8 7, .int .u8 6]) }
theorem laidOut : laidOutB Tryz.prog = true := by kernel_rfl
theorem bytesI : Tryz.prog.bytesOf 78 = 16 := by kernel_rfl
theorem cells_at {w : World} {a : Addr} {n : Nat} {cs : List Value} (h : w.cells? 0 a n = some cs) : cs.length = n ∧ ∀ j (hj : j < n), w.cell? (a.add j) = cs[j]? := by
  unfold World.cells? at h
  rw [if_pos (Nat.zero_le _)] at h
  have hl := mapM_some_length h
  refine ⟨by simpa using hl, fun j hj => ?_⟩
  have := mapM_some_get h j j (by simp [hj])
  exact this
theorem list_two {α : Type} {l : List α} (h : l.length = 2) : ∃ c0 c1, l = [c0, c1] := by
  match l, h with
  | [c0, c1], _ => exact ⟨c0, c1, rfl⟩
theorem spot_none {w : World} {a : Addr} {v : Value} (h : w.cell? (a.add 0) = some v) : ∃ g o, a = ⟨g, o, none⟩ := by
  obtain ⟨g, o, sp⟩ := a
  cases sp with
  | none => exact ⟨g, o, rfl⟩
  | some x =>
    simp only [Addr.add, if_true, World.cell?] at h
    split at h
    · simp at h
    · cases h
theorem weightsAll_mem {H : Type} {P : Program} {e : TypeId} {d : DataW H} {q : Nat} : ∀ {ds : List (DataW H)}, d ∈ ds → q ∈ DataW.weights P e d → q ∈ DataW.weightsAll P e ds
  | [], hd, _ => by cases hd
  | d' :: r, hd, hq => by
    rw [DataW.weightsAll, List.mem_append]
    rcases List.mem_cons.1 hd with rfl | h
    · exact .inl hq
    · exact .inr (weightsAll_mem h hq)
theorem open_ins {H : Type} {enc : TypeId × Value → H} {W : World} {fuel : Nat} {cs : List Value} {x : DataW H × List MemPlace} (h : DataW.trod enc Tryz.prog W 0 (fun _ => true) true fuel 51 cs = some x) (hw : ∀ q ∈ DataW.weights Tryz.prog 51 x.1, q ≤ reachBytes) :
    ∃ v L, cs = [v] ∧ Cx W.heap.size W v L ∧ L.length * 16 ≤ 140737488351232 ∧ ∀ y ∈ L, Ok y := by
  rcases DataW.trod_slice Tryz.underlying51 h with ⟨rfl, rfl⟩ | ⟨a, len, cap, els, rest, m, rfl, rfl, rfl, _, hl, hm, hlen, hel, -, -⟩
  · exact ⟨_, [], rfl, ⟨none, 0, rfl, by simp, by simp, fun _ => rfl, .inl rfl⟩, by simp, fun y hy => by cases hy⟩
  · have hone : ∀ j : Fin len, ∃ t : Ins, (W.cell? ((a.add (j.1 * 2)).add 0) = some (.int .i64 t.1) ∧ W.cell? ((a.add (j.1 * 2)).add 1) = some (.int .i64 t.2)) ∧ Ok t := by
      rintro ⟨j, hj⟩
      have hh := hel j hj
      rw [List.getElem?_eq_getElem (by omega), Option.bind_eq_some_iff] at hh
      obtain ⟨c', hc, ht⟩ := hh
      rw [cellsI] at hc
      obtain ⟨hl1, hcc⟩ := cells_at hc
      obtain ⟨xs, n', rfl, hx, hcl, hxl, hf⟩ := DataW.trod_struct Tryz.underlying78 ht
      obtain ⟨c0, c1, rfl⟩ := list_two hl1
      have hxl3 : xs.length = 2 := hxl
      obtain ⟨x0, x1, rfl⟩ := list_two hxl3
      have f0 := hf 0 _ rfl
      have f1 := hf 1 _ rfl
      simp [cells3] at f0
      simp [cells3] at f1
      obtain ⟨i0, e0, -, w0⟩ := DataW.trod_int Tryz.underlying3 f0
      obtain ⟨i1, e1, -, w1⟩ := DataW.trod_int Tryz.underlying3 f1
      simp only [List.cons.injEq, and_true] at e0 e1
      subst e0 e1
      exact ⟨(i0, i1), ⟨by have := hcc 0 (by omega); simpa using this, by have := hcc 1 (by omega); simpa using this⟩, w0, w1⟩
    have hb32 : len * 16 ≤ 140737488351232 := by
      have := hw ((els.length + rest.length) * 16) (by
        rw [DataW.weights, Tryz.underlying51]
        simp [bytesI])
      simp only [reachBytes] at this
      omega
    obtain ⟨f, hf⟩ := Classical.axiomOfChoice hone
    refine ⟨_, List.ofFn f, rfl, ⟨some a, cap, by simp, by simpa using hl, hm, (fun h => by cases h), ?_⟩, by simpa using hb32, ?_⟩
    · by_cases h0 : len = 0
      · subst h0
        exact .inl (by simp)
      · have h00 := (hf ⟨0, by omega⟩).1.1
        rw [show (a.add (0 * 2)).add 0 = a.add 0 from by simp [Addr.add]] at h00
        obtain ⟨g, o, rfl⟩ := spot_none h00
        rw [IBase.add_none] at h00
        refine .inr ⟨g, o, rfl, IBase.cell_lt h00, fun j hj => ?_⟩
        have hj' : j < len := by simpa using hj
        have h2 := (hf ⟨j, hj'⟩).1
        rw [IBase.add_none, IBase.add_none, IBase.add_none] at h2
        simpa using h2
    · intro y hy
      obtain ⟨j, rfl⟩ := List.mem_ofFn.1 hy
      exact (hf j).2
/-- A row of instructions that comes in, and that it reads the same behind whatever only adds. -/
theorem insts {H : Type} {enc : TypeId × Value → H} {W : World} {v : Value} {d : DataW H} {p : List MemPlace} {ts : List TypeId} {ds : List (DataW H)} {j : Nat}
    (h : DataW.Trod enc Tryz.prog W 0 (fun _ => true) true 51 v d p)
    (hsz : (DataW.weightsEach Tryz.prog ts ds).all (· ≤ reachBytes) = true) (ht : ts[j]? = some 51) (hd : ds[j]? = some d) (hv : v.cells.toList = [v]) :
    (∃ L, Cx W.heap.size W v L ∧ OkL L) ∧ ∀ W', Below W.heap.size W W' → DataW.Trod enc Tryz.prog W' 0 (fun b => decide (b < W.heap.size)) true 51 v d p := by
  have lt0 : ∀ x ∈ p, x.block < W.heap.size := by obtain ⟨m, hm⟩ := h; exact DataW.trod_lt m _ _ _ hm
  refine ⟨?_, fun W' bel => Below.trod laidOut (by kernel_rfl) (of_decide_eq_true (by kernel_rfl)) h bel lt0⟩
  obtain ⟨fuel, hf⟩ := h
  obtain ⟨v', L, hc, hin, hb, hok⟩ := open_ins hf fun q hq => by simpa using List.all_eq_true.1 hsz q (DataW.weights_mem_each ht hd q hq)
  rw [hv] at hc
  simp only [List.cons.injEq, and_true] at hc
  subst hc
  exact ⟨L, hin, hok, by omega⟩
section
open Go.Proofs.YtpaigpijaifeoaaGreatDoor.Base Go.Proofs.YtpaigpijaifeoaaGreatDoor.Open
theorem open_vals {H : Type} {enc : TypeId × Value → H} {W : World} {n : Nat} {c5 : Value} {x5 : DataW H × List MemPlace} (f5 : DataW.trod enc Tryz.prog W 0 (fun _ => true) true n 24 [c5] = some x5) (hw : ∀ q ∈ DataW.weights Tryz.prog 24 x5.1, q ≤ reachBytes) : ∃ l, InL false All W n c5 l := by
  rcases DataW.trod_slice Tryz.underlying24 f5 with ⟨e5, -⟩ | ⟨a, len, cap, els, rest, n', rfl, e5, e5', _, hl, hm, hlen, hel, -, -⟩
  · simp only [List.cons.injEq, and_true] at e5
    subst e5
    exact ⟨[], none, 0, rfl, by simp, by simp, by simp, fun _ => rfl, .inl ⟨rfl, rfl⟩⟩
  · simp only [List.cons.injEq, and_true] at e5
    subst e5
    have hone : ∀ j : Fin len, ∃ (c : C) (u : Value), (∃ cs' : List Value, u = .agg cs'.toArray ∧ cs'.length = 6 ∧ ∀ i (hi : i < 6), W.cell? ((a.add (j.1 * 6)).add i) = cs'[i]?) ∧ In false All W n' u c := by
      rintro ⟨j, hj⟩
      have hh := hel j hj
      rw [List.getElem?_eq_getElem (by omega), Option.bind_eq_some_iff] at hh
      obtain ⟨c', hc, ht⟩ := hh
      rw [cells25] at hc
      obtain ⟨hl1, hcc⟩ := cells_at hc
      obtain ⟨c, hin⟩ := Open.open_val ht (fun q hq => hw q (by
        rw [e5', DataW.weights, Tryz.underlying24]
        refine List.mem_cons_of_mem _ (List.mem_append.2 (.inl (weightsAll_mem (d := els[j].1) ?_ hq)))
        rw [List.mem_map]
        exact ⟨els[j]'(by omega), List.getElem_mem _, rfl⟩))
      exact ⟨c, _, ⟨c', rfl, hl1, hcc⟩, hin⟩
    have hb88 : len * 88 ≤ 140737488351232 := by
      have := hw ((els.length + rest.length) * 88) (by
        rw [e5', DataW.weights, Tryz.underlying24]
        simp [bytes25])
      simp only [reachBytes] at this
      omega
    obtain ⟨f, hf⟩ := Classical.axiomOfChoice hone
    refine ⟨List.ofFn f, some a, cap, by simp, by simpa using hl, hm, by simpa using hb88, (fun h => by cases h), ?_⟩
    by_cases h0 : len = 0
    · subst h0
      exact .inl ⟨by simp, rfl⟩
    · have hcell0 : ∃ v, W.cell? (a.add 0) = some v := by
        obtain ⟨u, ⟨c', -, hl6, hcc⟩, -⟩ := hf ⟨0, by omega⟩
        have := hcc 0 (by omega)
        rw [show (a.add (0 * 6)).add 0 = a.add 0 from by simp [Addr.add]] at this
        exact ⟨c'[0], by rw [this, List.getElem?_eq_getElem]⟩
      obtain ⟨v, hv⟩ := hcell0
      obtain ⟨g, o, rfl⟩ := spot_none hv
      refine .inr ⟨g, o, rfl, trivial, fun j hj => ?_, fun h => by cases h⟩
      have hj' : j < len := by simpa using hj
      obtain ⟨u, ⟨c', rfl, hl6, hcc⟩, hin⟩ := hf ⟨j, hj'⟩
      obtain ⟨y0, y1, y2, y3, y4, y5, rfl⟩ := list_six hl6
      have g0 := hcc 0 (by omega)
      have g1 := hcc 1 (by omega)
      have g2 := hcc 2 (by omega)
      have g3 := hcc 3 (by omega)
      have g4 := hcc 4 (by omega)
      have g5 := hcc 5 (by omega)
      simp only [add_none] at g0 g1 g2 g3 g4 g5
      refine ⟨_, ⟨y0, y1, y2, y3, y4, y5, rfl, g0, g1, g2, g3, g4, g5⟩, ?_⟩
      have := hin.weak (fun _ h => h) false id (n' + 1) (by omega)
      simpa using this
theorem vals {H : Type} {enc : TypeId × Value → H} {W : World} {v : Value} {d : DataW H} {p : List MemPlace} {ts : List TypeId} {ds : List (DataW H)} {j : Nat}
    (h : DataW.Trod enc Tryz.prog W 0 (fun _ => true) true 24 v d p)
    (hsz : (DataW.weightsEach Tryz.prog ts ds).all (· ≤ reachBytes) = true) (ht : ts[j]? = some 24) (hd : ds[j]? = some d) (hv : v.cells.toList = [v]) :
    (∃ m l, InL false All W m v l) ∧ ∀ W', Below W.heap.size W W' → DataW.Trod enc Tryz.prog W' 0 (fun b => decide (b < W.heap.size)) true 24 v d p := by
  have lt0 : ∀ x ∈ p, x.block < W.heap.size := by obtain ⟨m, hm⟩ := h; exact DataW.trod_lt m _ _ _ hm
  refine ⟨?_, fun W' bel => Below.trod laidOut (by kernel_rfl) (of_decide_eq_true (by kernel_rfl)) h bel lt0⟩
  obtain ⟨fuel, hf⟩ := h
  rw [hv] at hf
  obtain ⟨l, hl⟩ := open_vals hf fun q hq => by simpa using List.all_eq_true.1 hsz q (DataW.weights_mem_each ht hd q hq)
  exact ⟨fuel, l, hl⟩
/-- What lies in memory lies in blocks that are there. -/
theorem low_vals {W : World} {m : Nat} {v : Value} {l : List C} (h : InL false All W m v l) : InL false (fun b => b < W.heap.size) W m v l := by
  have : In false All W (m + 1) (.agg #[.int .i64 5, .bool false, .int .i64 0, .string ⟨#[]⟩, .slice none 0 0, v]) (.mk 5 false 0 ⟨#[]⟩ [] l) := by
    rw [in_iff]
    exact ⟨_, _, rfl, by omega, by omega, by decide, ⟨none, 0, rfl, by simp, by omega, by simp, by simp, fun _ => rfl, .inl ⟨rfl, rfl⟩⟩, h⟩
  have h2 := Fresh.In.low this
  rw [in_iff] at h2
  obtain ⟨nv, lv, e, -, -, -, -, hl⟩ := h2
  simp only [Value.agg.injEq, Array.mk.injEq, List.cons.injEq, and_true] at e
  obtain ⟨-, -, -, -, -, rfl⟩ := e
  exact hl
/-- A row of texts that comes in. -/
theorem texts {H : Type} {enc : TypeId × Value → H} {W : World} {v : Value} {d : DataW H} {p : List MemPlace} {ts : List TypeId} {ds : List (DataW H)} {j : Nat}
    (h : DataW.Trod enc Tryz.prog W 0 (fun _ => true) true 23 v d p)
    (hsz : (DataW.weightsEach Tryz.prog ts ds).all (· ≤ reachBytes) = true) (ht : ts[j]? = some 23) (hd : ds[j]? = some d) (hv : v.cells.toList = [v]) :
    (∃ T, MSe.Tz W.heap.size W v T) ∧ ∀ W', Below W.heap.size W W' → DataW.Trod enc Tryz.prog W' 0 (fun b => decide (b < W.heap.size)) true 23 v d p := by
  have lt0 : ∀ x ∈ p, x.block < W.heap.size := by obtain ⟨m, hm⟩ := h; exact DataW.trod_lt m _ _ _ hm
  refine ⟨?_, fun W' bel => Below.trod laidOut (by kernel_rfl) (of_decide_eq_true (by kernel_rfl)) h bel lt0⟩
  obtain ⟨fuel, hf⟩ := h
  rw [hv] at hf
  obtain ⟨v', n, hc, hin⟩ := Open.open_txs hf fun q hq => by simpa using List.all_eq_true.1 hsz q (DataW.weights_mem_each ht hd q hq)
  simp only [List.cons.injEq, and_true] at hc
  subst hc
  obtain ⟨a, cap, he, h1, h2, -, h3, -, h4⟩ := Base.Tx.out hin
  refine ⟨n, a, cap, he, h1, h2, ?_⟩
  rcases h4 with ⟨h4, -⟩ | ⟨g, o, ha, -, hc, -⟩
  · exact .inl h4
  · by_cases h0 : n.length = 0
    · exact .inl (List.eq_nil_of_length_eq_zero h0)
    · exact .inr ⟨g, o, ha, Base.cell_lt (hc 0 (by omega)), fun j hj => ⟨hc j hj, h3 _ (List.getElem_mem _)⟩⟩
end
end Go.Proofs.YtpaigpijaifeoaaGreatDoor.CFe

namespace Go.Proofs.YtpaigpijaifeoaaGreatDoor.codeEnds
set_option linter.unusedVariables false
open Go.ChangeShapes Go.WideShapes Go.ChangeAt Go.RowKit Go.Proofs.YtpaigpijaifeoaaGreatDoor.Base Go.Proofs.YtpaigpijaifeoaaGreatDoor.Digits Go.Proofs.YtpaigpijaifeoaaGreatDoor.CFe
open Go.ChangeMaps (open_string shut_string)

set_option maxRecDepth 1000000 in
/-- What the walk gives, for every argument and every world that holds the tables. -/
theorem contract (H : Type) (enc : TypeId × Value → H) (W : World) (base : Nat) (args : Array Value) (ds gs : List (DataW H)) (before : List MemPlace)
    (hval : ∀ (j : Nat) t v, Tryz.f5.params[j]? = some t → args[j]? = some v → Value.okWide Tryz.prog W .any base t v)
    (hW : DataW.Whole enc Tryz.prog Tryz.f5.params.toList Rows.codeEndsSpec.vars false W args.toList ds gs before)
    (hsz : (DataW.weightsEach Tryz.prog (Tryz.f5.params.toList ++ Rows.codeEndsSpec.plain.varTypes Tryz.prog) (ds ++ gs)).all (· ≤ reachBytes) = true) (hL : laidMetH Tryz.prog Rows.codeEndsRow.laid W) :
    Calls Tryz.prog 5 args W fun e W' => ∃ v, e = .returned v ∧ Rows.codeEndsSpec.post enc Tryz.prog Tryz.f5 false true false false W args v W' := by
  have hW' := hW
  obtain ⟨p, q, hA0, hV, rfl, hfz, hnd⟩ := hW
  have hA : DataW.TrodAll enc Tryz.prog W 0 (fun _ => true) true Tryz.f5.params.toList args.toList ds p := hA0
  rw [Tryz.params5] at hA hval hsz
  obtain ⟨v0, vs0, d0, ds0, p0, q0, hargs, rfl, rfl, h0, r0⟩ := trodAll_cons hA
  obtain ⟨v1, vs1, d1, ds1, p1, q1, rfl, rfl, rfl, h1, r1⟩ := trodAll_cons r0
  obtain ⟨v2, vs2, d2, ds2, p2, q2, rfl, rfl, rfl, h2, r2⟩ := trodAll_cons r1
  obtain ⟨rfl, rfl, rfl⟩ := trodAll_nil r2
  obtain rfl : args = #[v0, v1, v2] := by cases args; simp_all
  obtain ⟨rfl, rfl⟩ := trodVars_none hV
  obtain ⟨ca0, cl0, cc0, rfl⟩ := okWide_slice Tryz.underlying51 (hval 0 51 v0 rfl rfl)
  obtain ⟨⟨c0, g0, k0⟩, s0⟩ := CFe.insts h0 hsz (j := 0) rfl rfl rfl
  obtain ⟨ca1, cl1, cc1, rfl⟩ := okWide_slice Tryz.underlying23 (hval 1 23 v1 rfl rfl)
  obtain ⟨⟨c1, g1⟩, s1⟩ := CFe.texts h1 hsz (j := 1) rfl rfl rfl
  obtain ⟨ca2, cl2, cc2, rfl⟩ := okWide_slice Tryz.underlying24 (hval 2 24 v2 rfl rfl)
  obtain ⟨⟨m2, c2, g2⟩, s2⟩ := CFe.vals h2 hsz (j := 2) rfl rfl rfl
  clear hA0
  simp only [List.append_nil] at hW'
  refine (WEn.walk g0 k0 g1 (CFe.low_vals (Base.InL.weak (fun _ h => h) false id (m2 + 1) (by omega) g2)) (fun W hW => (tab_of hL).later hW)).mono fun e W' ⟨he, bel⟩ => ?_
  subst he
  exact ⟨_, rfl, _, _, _, [], _, [], hW', trodAll_mk1 (shut_bool Tryz.underlying4 _), (trodAll_cons_mk (s0 _ bel) (trodAll_cons_mk (s1 _ bel) (trodAll_cons_mk (s2 _ bel) trodAll_mk0))), rfl, bel.frame _, fun h => by cases h⟩

theorem laid_met (os : Os) : laidMet Tryz.prog Rows.codeEndsRow.laid ((laidW (World.holding Tryz.prog os ⟨#[], #[], []⟩)).forCall (fun _ _ => 0) ⟨#[], #[.slice none 0 0, .slice none 0 0, .slice none 0 0], []⟩).memory :=
  laidMet_of_run' 8 (by kernel_rfl) (by kernel_rfl)
theorem reads (os : Os) {H : Type} (enc : TypeId × Value → H) : ∃ places, DataW.whole enc Tryz.prog ((laidW (World.holding Tryz.prog os ⟨#[], #[], []⟩)).forCall (fun _ _ => 0) ⟨#[], #[.slice none 0 0, .slice none 0 0, .slice none 0 0], []⟩).memory Tryz.f5.params.toList Rows.codeEndsSpec.vars false #[Value.slice none 0 0, Value.slice none 0 0, Value.slice none 0 0].toList 8 = some ([.nil, .nil, .nil], [], places) :=
  ⟨[], by kernel_rfl⟩

set_option maxRecDepth 100000 in
theorem lifted (os : Os) (started : os.Started) (H : Type) (enc : TypeId × Value → H) (F : Stop.Interp) :
    ReturnsInHanded {} Tryz.checked os 5 .any ((OpenSpec.ofChange Rows.codeEndsSpec).preRow enc Tryz.prog Tryz.f5 Rows.codeEndsRow.domain false Rows.codeEndsRow.laid) (((OpenSpec.ofChange Rows.codeEndsSpec).at F).post enc Tryz.prog Tryz.f5 false true false false) := by
  obtain ⟨places, hx⟩ := reads os enc
  refine returnsInHanded_of_row (C := Tryz.checked) (s := OpenSpec.ofChange Rows.codeEndsSpec) own started (by kernel_rfl) Tryz.func5
    (witness_row_at (enc := enc) (C := Tryz.checked) false (laidW (World.holding Tryz.prog os ⟨#[], #[], []⟩)) #[.slice none 0 0, .slice none 0 0, .slice none 0 0] rfl (by kernel_rfl) (by kernel_rfl) (by kernel_rfl)
      (OpenSpec.preRow_of_cond 8 hx (by kernel_rfl) (fun k hk => by cases hk) (by kernel_rfl) (laid_met os))) ?_
  intro W base args ds gs before hval hW _ _ hsz hL _ _
  exact contract H enc W base args ds gs before hval hW hsz hL

theorem said : Rows.CodeEndsSaid :=
  OpenClaim.holds_of_cond 5 Tryz.f5 rfl rfl rfl rfl rfl rfl rfl ⟨rfl, rfl, rfl, rfl, rfl⟩ rfl rfl rfl rfl rfl (by kernel_rfl) Tryz.func5 (by kernel_rfl)
    (of_decide_eq_true (by kernel_rfl)) (by unfold Func.isWrapper; first | (rw [if_pos (by decide +kernel)]; kernel_rfl) | (rw [if_neg (by decide +kernel)]; exact ⟨rfl, rfl⟩))
    (fun os started H enc _ F => by rw [OpenClaim.pre_eq_preRow]; exact lifted os started H enc F)

/-- No parameter wants a stand-in; the program's own looks are on. -/
theorem plain (f : FuncId) (fn : Func) (hf : Tryz.pinned.checked.prog.funcNamed "stencil/stencillaw20.CodeEnds" = some f) (hfn : Tryz.pinned.checked.prog.funcs[f]? = some fn) :
    true = Tryz.pinned.checked.prog.looks [] ∧ ∀ (j : Nat) t, fn.params[j]? = some t → Tryz.pinned.checked.prog.wantsStandIn t = false := by
  obtain rfl : f = 5 := Option.some.inj ((show Tryz.prog.funcNamed "stencil/stencillaw20.CodeEnds" = some 5 by kernel_rfl).symm.trans hf) |>.symm
  obtain rfl : fn = Tryz.f5 := (Option.some.inj (Tryz.func5.symm.trans hfn)).symm
  refine ⟨by kernel_rfl, fun j t ht => ?_⟩
  rw [Tryz.params5] at ht
  have hm := Array.mem_of_getElem? ht
  rcases (show t = 51 ∨ t = 23 ∨ t = 24 by first | simpa using hm | (simp at hm; omega)) with h | h | h
  · rw [h]; exact (show Tryz.prog.wantsStandIn 51 = false by kernel_rfl)
  · rw [h]; exact (show Tryz.prog.wantsStandIn 23 = false by kernel_rfl)
  · rw [h]; exact (show Tryz.prog.wantsStandIn 24 = false by kernel_rfl)

/-- The given statement. -/
theorem card : Rows.CodeEndsCardSaid :=
  Claim7.holds_tied_plain_at .later [] _ _ _ _ said (fun _ h => by cases h) (by kernel_rfl) (fun _ h => by cases h) codeEnds_row_tie rfl ⟨rfl, rfl⟩ (by kernel_rfl) rfl plain (by kernel_rfl)
#print axioms card
end Go.Proofs.YtpaigpijaifeoaaGreatDoor.codeEnds
