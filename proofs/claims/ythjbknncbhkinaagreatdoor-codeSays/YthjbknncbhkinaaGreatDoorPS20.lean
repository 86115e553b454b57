import Derived.Below
import Derived.Carry
import Derived.Deep.DeepHandedRow
import Derived.Lib.LaidTab
import Derived.OpenShut
import Derived.ProofKit
import Derived.SizedLaws
import Derived.Stop.LaidErr
import Derived.WalkKit
import Derived.Test.YthjbknncbhkinaaGreatDoorPS07
import Derived.Test.YthjbknncbhkinaaGreatDoorPS08
import Derived.Test.YthjbknncbhkinaaGreatDoorPS09
import Derived.Test.YthjbknncbhkinaaGreatDoorPS11
import Derived.Test.YthjbknncbhkinaaGreatDoorPS19
open Go.Proofs.Tryz
set_option linter.unusedVariables false
namespace Go.Proofs.YthjbknncbhkinaaGreatDoor.NFv
open Go.ChangeShapes Go.WideShapes Go.ChangeAt Go.RowKit
open CPu (Ins)
open CBx (Cx)
open CIn (OkL Ok)
theorem cells_at {w : World} {a : Addr} {n : Nat} {cs : List Value} (h : w.cells? 0 a n = some cs) : cs.length = n /\ ∀ j (hj : j < n), w.cell? (a.add j) = cs[j]? := by
 unfold World.cells? at h
 rw [if_pos (Nat.zero_le _)] at h
 have hl := mapM_some_length h
 refine ⟨by simpa using hl, fun j hj => ?_⟩
 have := mapM_some_get h j j (by simp [hj])
 exact this
theorem spot_none {w : World} {a : Addr} {v : Value} (h : w.cell? (a.add 0) = some v) : ∃ g o, a = ⟨g, o, none⟩ := by
 obtain ⟨g, o, sp⟩ := a
 cases sp with
 | none => exact ⟨g, o, rfl⟩
 | some x =>
  simp only [Addr.add, if_true, World.cell?] at h
  split at h
  ·simp at h
  ·cases h
theorem weightsAll_mem {H : Type} {P : Program} {e : TypeId} {d : DataW H} {q : Nat} : ∀ {ds : List (DataW H)}, d ∈ ds -> q ∈ DataW.weights P e d -> q ∈ DataW.weightsAll P e ds
 | [], hd, _ => by cases hd
 | d' :: r, hd, hq => by
  rw [DataW.weightsAll, List.mem_append]
  rcases List.mem_cons.1 hd with rfl | h
  ·exact .inl hq
  ·exact .inr (weightsAll_mem h hq)
section
open Base Go.Proofs.YthjbknncbhkinaaGreatDoor.Open
theorem open_vals {H : Type} {enc : TypeId × Value -> H} {W : World} {n : Nat} {c5 : Value} {x5 : DataW H × List MemPlace} (f5 : DataW.trod enc prog W 0 (fun _ => true) true n 43 [c5] = some x5) (hw : ∀ q ∈ DataW.weights prog 43 x5.1, q <= reachBytes) : ∃ l, InL false All W n c5 l := by
 rcases DataW.trod_slice underlying43 f5 with ⟨e5, -⟩ | ⟨a, len, cap, els, rest, n', rfl, e5, e5', _, hl, hm, hlen, hel, -, -⟩
 ·simp only [List.cons.injEq, and_true] at e5
  subst e5
  exact ⟨[], none, 0, rfl, by simp, by simp, by simp, fun _ => rfl, .inl ⟨rfl, rfl⟩⟩
 ·simp only [List.cons.injEq, and_true] at e5
  subst e5
  have hone : ∀ j : Fin len, ∃ (c : C) (u : Value), (∃ cs' : List Value, u = .agg cs'.toArray /\ cs'.length = 6 /\ ∀ i (hi : i < 6), W.cell? ((a.add (j.1 * 6)).add i) = cs'[i]?) /\ In false All W n' u c := by
   rintro ⟨j, hj⟩
   have hh := hel j hj
   rw [List.getElem?_eq_getElem (by omega), Option.bind_eq_some_iff] at hh
   obtain ⟨c', hc, ht⟩ := hh
   rw [cells25] at hc
   obtain ⟨hl1, hcc⟩ := cells_at hc
   obtain ⟨c, hin⟩ := Open.open_val ht (fun q hq => hw q (by
    rw [e5', DataW.weights, underlying43]
    refine List.mem_cons_of_mem _ (List.mem_append.2 (.inl (weightsAll_mem (d := els[j].1) ?_ hq)))
    rw [List.mem_map]
    exact ⟨els[j]'(by omega), List.getElem_mem _, rfl⟩))
   exact ⟨c, _, ⟨c', rfl, hl1, hcc⟩, hin⟩
  have hb88 : len * 88 <= 140737488351232 := by
   have := hw ((els.length + rest.length) * 88) (by
    rw [e5', DataW.weights, underlying43]
    simp [bytes25])
   simp only [reachBytes] at this
   omega
  obtain ⟨f, hf⟩ := Classical.axiomOfChoice hone
  refine ⟨List.ofFn f, some a, cap, by simp, by simpa using hl, hm, by simpa using hb88, (fun h => by cases h), ?_⟩
  by_cases h0 : len = 0
  ·subst h0
   exact .inl ⟨by simp, rfl⟩
  ·have hcell0 : ∃ v, W.cell? (a.add 0) = some v := by
    obtain ⟨u, ⟨c', -, hl6, hcc⟩, -⟩ := hf ⟨0, by omega⟩
    have := hcc 0 (by omega)
    rw [show (a.add (0 * 6)).add 0 = a.add 0 from by simp [Addr.add]] at this
    exact ⟨c'[0], by rw [this, List.getElem?_eq_getElem]⟩
   obtain ⟨v, hv⟩ := hcell0
   obtain ⟨g, o, rfl⟩ := spot_none hv
   refine .inr ⟨g, o, rfl, trivial, fun j hj => ?_, fun h => by cases h⟩
   have hj' : j < len := by simpa using hj
   obtain ⟨u, ⟨c', rfl, hl6, hcc⟩, hin⟩ := hf ⟨j, hj'⟩
   obtain ⟨y0, y1, y2, y3, y4, y5, rfl⟩ := list_six hl6
   have g0 := hcc 0 (by omega)
   have g1 := hcc 1 (by omega)
   have g2 := hcc 2 (by omega)
   have g3 := hcc 3 (by omega)
   have g4 := hcc 4 (by omega)
   have g5 := hcc 5 (by omega)
   simp only [add_none] at g0 g1 g2 g3 g4 g5
   refine ⟨_, ⟨y0, y1, y2, y3, y4, y5, rfl, g0, g1, g2, g3, g4, g5⟩, ?_⟩
   have := hin.weak (fun _ h => h) false id (n' + 1) (by omega)
   simpa using this
theorem vals {H : Type} {enc : TypeId × Value -> H} {W : World} {v : Value} {d : DataW H} {p : List MemPlace} {ts : List TypeId} {ds : List (DataW H)} {j : Nat}
  (h : DataW.Trod enc prog W 0 (fun _ => true) true 43 v d p)
  (hsz : (DataW.weightsEach prog ts ds).all (· <= reachBytes) = true) (ht : ts[j]? = some 43) (hd : ds[j]? = some d) (hv : v.cells.toList = [v]) :
  (∃ m l, InL false All W m v l) /\ ∀ W', Below W.heap.size W W' -> DataW.Trod enc prog W' 0 (fun b => decide (b < W.heap.size)) true 43 v d p := by
 have lt0 : ∀ x ∈ p, x.block < W.heap.size := by obtain ⟨m, hm⟩ := h; exact DataW.trod_lt m _ _ _ hm
 refine ⟨?_, fun W' bel => Below.trod NFe.laidOut (by kernel_rfl) (of_decide_eq_true (by kernel_rfl)) h bel lt0⟩
 obtain ⟨fuel, hf⟩ := h
 rw [hv] at hf
 obtain ⟨l, hl⟩ := open_vals hf fun q hq => by simpa using List.all_eq_true.1 hsz q (DataW.weights_mem_each ht hd q hq)
 exact ⟨fuel, l, hl⟩
theorem low_vals {W : World} {m : Nat} {v : Value} {l : List C} (h : InL false All W m v l) : InL false (fun b => b < W.heap.size) W m v l := by
 have : In false All W (m + 1) (.agg #[.int .i64 5, .bool false, .int .i64 0, .string ⟨#[]⟩, .slice none 0 0, v]) (.mk 5 false 0 ⟨#[]⟩ [] l) := by
  rw [in_iff]
  exact ⟨_, _, rfl, by omega, by omega, by decide, ⟨none, 0, rfl, by simp, by omega, by simp, by simp, fun _ => rfl, .inl ⟨rfl, rfl⟩⟩, h⟩
 have h2 := Fresh.In.low this
 rw [in_iff] at h2
 obtain ⟨nv, lv, e, -, -, -, -, hl⟩ := h2
 simp only [Value.agg.injEq, Array.mk.injEq, List.cons.injEq, and_true] at e
 obtain ⟨-, -, -, -, -, rfl⟩ := e
 exact hl
end
end Go.Proofs.YthjbknncbhkinaaGreatDoor.NFv
