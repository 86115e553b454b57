import Derived.ChangeOld
import Derived.OpenShut
import Derived.ProofKit
import Derived.SizedLaws
import Derived.Test.YtaiackmmmlhgbaaGreatRows
import Derived.Test.YtaiackmmmlhgbaaGreatPV08
import Derived.Test.YtaiackmmmlhgbaaGreatPV10
import Derived.Test.YtaiackmmmlhgbaaGreatPV18
open Go.Proofs.Tryz
set_option linter.unusedVariables false
namespace Go.Proofs.YtaiackmmmlhgbaaGreat.YOp
open Go.ChangeShapes Go.WideShapes Go.ChangeAt Go.RowKit YRr
open TBase (T)
theorem cells9 : prog.cellsOf 9 = 1 := by kernel_rfl
theorem cells3 : prog.cellsOf 3 = 1 := by kernel_rfl
theorem cellsA : prog.cellsOf 124 = 2 := by kernel_rfl
theorem cellsT : prog.cellsOf 68 = 4 := by kernel_rfl
theorem cellsI : prog.cellsOf 65 = 2 := by kernel_rfl
theorem cellsO : prog.cellsOf 127 = 5 := by kernel_rfl
theorem cellsB : prog.cellsOf 74 = 3 := by kernel_rfl
theorem cellsP : prog.cellsOf 29 = 4 := by kernel_rfl
theorem cellsSA : prog.cellsOf 66 = 1 := by kernel_rfl
theorem cellsST : prog.cellsOf 26 = 1 := by kernel_rfl
theorem cellsSI : prog.cellsOf 63 = 1 := by kernel_rfl
theorem cellsSC : prog.cellsOf 25 = 1 := by kernel_rfl
theorem cellsSO : prog.cellsOf 71 = 1 := by kernel_rfl
theorem cellsSB : prog.cellsOf 27 = 1 := by kernel_rfl
theorem cellsS3 : prog.cellsOf 72 = 1 := by kernel_rfl
theorem cellsS9 : prog.cellsOf 24 = 1 := by kernel_rfl
theorem bytes9 : prog.bytesOf 9 = 16 := by kernel_rfl
theorem bytes3 : prog.bytesOf 3 = 8 := by kernel_rfl
theorem bytesA : prog.bytesOf 124 = 32 := by kernel_rfl
theorem bytesT : prog.bytesOf 68 = 80 := by kernel_rfl
theorem bytesI : prog.bytesOf 65 = 16 := by kernel_rfl
theorem bytesO : prog.bytesOf 127 = 56 := by kernel_rfl
theorem bytesB : prog.bytesOf 74 = 56 := by kernel_rfl
theorem bytesSI : prog.bytesOf 63 = 24 := by kernel_rfl
theorem cells_at {w : World} {a : Addr} {n : Nat} {cs : List Value} (h : w.cells? 0 a n = some cs) : cs.length = n /\ ∀ j (hj : j < n), w.cell? (a.add j) = cs[j]? := by
 unfold World.cells? at h
 rw [if_pos (Nat.zero_le _)] at h
 have hl := mapM_some_length h
 refine ⟨by simpa using hl, fun j hj => ?_⟩
 have := mapM_some_get h j j (by simp [hj])
 exact this
theorem spot_none {w : World} {a : Addr} {v : Value} (h : w.cell? (a.add 0) = some v) : ∃ g o, a = ⟨g, o, none⟩ := by
 obtain ⟨g, o, sp⟩ := a
 cases sp with
 | none => exact ⟨g, o, rfl⟩
 | some x =>
  simp only [Addr.add, if_true, World.cell?] at h
  split at h
  ·simp at h
  ·cases h
theorem weightsAll_mem {H : Type} {P : Program} {e : TypeId} {d : DataW H} {q : Nat} : ∀ {ds : List (DataW H)}, d ∈ ds -> q ∈ DataW.weights P e d -> q ∈ DataW.weightsAll P e ds
 | [], hd, _ => by cases hd
 | d' :: r, hd, hq => by
  rw [DataW.weightsAll, List.mem_append]
  rcases List.mem_cons.1 hd with rfl | h
  ·exact .inl hq
  ·exact .inr (weightsAll_mem h hq)
theorem list2 {α : Type} {l : List α} (h : l.length = 2) : ∃ c0 c1, l = [c0, c1] := by
 match l, h with
 | [c0, c1], _ => exact ⟨c0, c1, rfl⟩
theorem list3 {α : Type} {l : List α} (h : l.length = 3) : ∃ c0 c1 c2, l = [c0, c1, c2] := by
 match l, h with
 | [c0, c1, c2], _ => exact ⟨c0, c1, c2, rfl⟩
theorem list4 {α : Type} {l : List α} (h : l.length = 4) : ∃ c0 c1 c2 c3, l = [c0, c1, c2, c3] := by
 match l, h with
 | [c0, c1, c2, c3], _ => exact ⟨c0, c1, c2, c3, rfl⟩
theorem list5 {α : Type} {l : List α} (h : l.length = 5) : ∃ c0 c1 c2 c3 c4, l = [c0, c1, c2, c3, c4] := by
 match l, h with
 | [c0, c1, c2, c3, c4], _ => exact ⟨c0, c1, c2, c3, c4, rfl⟩
theorem an {g o i : Nat} : (Addr.mk g o none).add i = ⟨g, o + i, none⟩ := by
 unfold Addr.add
 by_cases h : i = 0
 ·simp [h]
 ·simp [h]
theorem i64_of {x : Int} (h : (Lit.int .i64 x).wf = true) : i64 x := by have := bounds_i64 h; constructor <;> omega
section
variable {H : Type} {enc : TypeId × Value -> H} {W : World}
abbrev Wo (e : TypeId) (x : DataW H) : Prop := ∀ q ∈ DataW.weights prog e x, q <= reachBytes
def One {α : Type} (enc : TypeId × Value -> H) (W : World) (e : TypeId) (n : Nat) (Ly : World -> Nat -> Nat -> α -> Prop) (fuel : Nat) : Prop := ∀ (cs : List Value) (x : DataW H × List MemPlace), DataW.trod enc prog W 0 (fun _ => true) true fuel e cs = some x -> Wo e x.1 ->
  ∃ t : α, ∀ g o, (∀ i, i < n -> W.cell? ⟨g, o + i, none⟩ = cs[i]?) -> Ly W g o t
theorem open_row {α : Type} {n z : Nat} {e s : TypeId} {Ly : World -> Nat -> Nat -> α -> Prop} (hu : prog.underlying s = some (.slice e)) (hc : prog.cellsOf e = n) (hz : prog.bytesOf e = z) (hn : 1 <= n) (hz1 : 1 <= z)
  {fuel : Nat} {cs : List Value} {x : DataW H × List MemPlace} (one : ∀ m, m < fuel -> One enc W e n Ly m) (h : DataW.trod enc prog W 0 (fun _ => true) true fuel s cs = some x) (hw : Wo s x.1) :
  ∃ v l, cs = [v] /\ Rr n Ly W.heap.size W v l /\ l.length * z <= 140737488351232 := by
 rcases DataW.trod_slice hu h with ⟨rfl, rfl⟩ | ⟨a, len, cap, els, rest, m, rfl, rfl, rfl, _, hl, hm, hlen, hel, -, -⟩
 ·exact ⟨_, [], rfl, ⟨none, 0, rfl, by simp, by simp, by simp, fun _ => rfl, .inl rfl⟩, by simp⟩
 ·have hone : ∀ j : Fin len, ∃ t : α, (∀ g o, a = ⟨g, o, none⟩ -> Ly W g (o + j.1 * n) t) /\ ∃ v, W.cell? ((a.add (j.1 * n)).add 0) = some v := by
   rintro ⟨j, hj⟩
   have hh := hel j hj
   rw [List.getElem?_eq_getElem (by omega), Option.bind_eq_some_iff] at hh
   obtain ⟨c', hc', ht⟩ := hh
   rw [hc] at hc'
   obtain ⟨hl1, hcc⟩ := cells_at hc'
   obtain ⟨t, ht⟩ := one m (by omega) _ _ ht (fun q hq => hw q (by
    rw [DataW.weights, hu]
    refine List.mem_cons_of_mem _ (List.mem_append.2 (.inl (weightsAll_mem (d := els[j].1) ?_ hq)))
    rw [List.mem_map]
    exact ⟨els[j]'(by omega), List.getElem_mem _, rfl⟩))
   refine ⟨t, fun g o ea => ht g (o + j * n) fun i hi => ?_, ?_⟩
   ·have := hcc i hi
    rw [ea, an, an] at this
    exact this
   ·have := hcc 0 (by omega)
    rw [List.getElem?_eq_getElem (by omega)] at this
    exact ⟨_, this⟩
  have hb : len * z <= 140737488351232 := by
   have := hw ((els.length + rest.length) * z) (by
    rw [DataW.weights, hu]
    simp [hz])
   simp only [reachBytes] at this
   have h2 : len * z <= (els.length + rest.length) * z := Nat.mul_le_mul_right _ (by omega)
   omega
  have hb1 : len <= len * z := Nat.le_mul_of_pos_right _ hz1
  obtain ⟨f, hf⟩ := Classical.axiomOfChoice hone
  refine ⟨_, List.ofFn f, rfl, ⟨some a, cap, by simp, by simpa using hl, hm, by simp; omega, (fun h => by cases h), ?_⟩, by simpa using hb⟩
  by_cases h0 : len = 0
  ·subst h0
   exact .inl (by simp)
  ·obtain ⟨v, h00⟩ := (hf ⟨0, by omega⟩).2
   rw [show (a.add (0 * n)).add 0 = a.add 0 from by simp [Addr.add]] at h00
   obtain ⟨g, o, rfl⟩ := spot_none h00
   rw [an] at h00
   refine .inr ⟨g, o, rfl, TBase.cell_lt h00, fun j hj => ?_⟩
   have hj' : j < len := by simpa using hj
   have := (hf ⟨j, hj'⟩).1 g o rfl
   simpa using this
theorem size_of {x : DataW H} {s : ByteArray} (e : x = .lit (.string s.data.toList)) (hw : Wo 9 x) : s.size <= 140737488351232 := by
 have := hw s.data.toList.length (by rw [e]; simp [DataW.weights])
 simp only [reachBytes] at this
 have e2 : s.data.toList.length = s.size := rfl
 omega
theorem one_s (fuel : Nat) : One enc W 9 1 LyS fuel := by
 intro cs x h hw
 obtain ⟨s, rfl, e', -⟩ := DataW.trod_string underlying9 h
 exact ⟨s, fun g o hc => ⟨hc 0 (by omega), size_of (congrArg Prod.fst e') hw⟩⟩
theorem one_i (fuel : Nat) : One enc W 3 1 LyI fuel := by
 intro cs x h hw
 obtain ⟨i, rfl, -, w0⟩ := DataW.trod_int underlying3 h
 have := bounds_i64 w0
 exact ⟨i, fun g o hc => ⟨hc 0 (by omega), by omega, by omega⟩⟩
theorem one_n (fuel : Nat) : One enc W 65 2 LyN fuel := by
 intro cs x h hw
 obtain ⟨xs, n', rfl, rfl, hcl, hxl, hf⟩ := DataW.trod_struct underlying65 h
 rw [cellsI] at hcl
 obtain ⟨c0, c1, rfl⟩ := list2 hcl
 obtain ⟨x0, x1, rfl⟩ := list2 (show xs.length = 2 from hxl)
 have f0 := hf 0 _ rfl
 have f1 := hf 1 _ rfl
 simp [cells3] at f0
 simp [cells3] at f1
 obtain ⟨i0, e0, -, w0⟩ := DataW.trod_int underlying3 f0
 obtain ⟨i1, e1, -, w1⟩ := DataW.trod_int underlying3 f1
 simp only [List.cons.injEq, and_true] at e0 e1
 subst e0 e1
 exact ⟨(i0, i1), fun g o hc => ⟨hc 0 (by omega), hc 1 (by omega), i64_of w0, i64_of w1⟩⟩
theorem one_a (fuel : Nat) : One enc W 124 2 LyA fuel := by
 intro cs x h hw
 obtain ⟨xs, n', rfl, rfl, hcl, hxl, hf⟩ := DataW.trod_struct underlying124 h
 rw [cellsA] at hcl
 obtain ⟨c0, c1, rfl⟩ := list2 hcl
 obtain ⟨x0, x1, rfl⟩ := list2 (show xs.length = 2 from hxl)
 have f0 := hf 0 _ rfl
 have f1 := hf 1 _ rfl
 simp [cells9] at f0
 simp [cells9] at f1
 obtain ⟨s0, e0, e0', -⟩ := DataW.trod_string underlying9 f0
 obtain ⟨s1, e1, e1', -⟩ := DataW.trod_string underlying9 f1
 simp only [List.cons.injEq, and_true] at e0 e1
 subst e0 e1
 have W0 : ∀ q, q ∈ DataW.weights prog 9 x0.1 \/ q ∈ DataW.weights prog 9 x1.1 -> q <= reachBytes := by
  intro q hq
  apply hw
  simp only [List.map_cons, List.map_nil]
  rw [DataW.weights, underlying124]
  rcases hq with hq | hq
  ·simp [DataW.weightsEach, hq]
  ·simp [DataW.weightsEach, hq]
 exact ⟨(s0, s1), fun g o hc => ⟨hc 0 (by omega), hc 1 (by omega), size_of (congrArg Prod.fst e0') fun q hq => W0 q (.inl hq), size_of (congrArg Prod.fst e1') fun q hq => W0 q (.inr hq)⟩⟩
theorem rr_ax {K : Nat} {w : World} {v : Value} {l : List (ByteArray × ByteArray)} (h : Rr 2 LyA K w v l) (hl : l.length * 32 <= 140737488351232) : TBase.Ax false (TVisit.Lo K) w v l := by
 obtain ⟨a, cap, h1, h2, h3, h4, h5, h6⟩ := h
 refine ⟨a, cap, h1, h2, h3, hl, ?_, h5, ?_⟩
 ·intro t ht
  obtain ⟨j, hj, rfl⟩ := List.getElem_of_mem ht
  rcases h6 with rfl | ⟨g, o, ha, hg, hc⟩
  ·cases ht
  ·exact (hc j hj).2.2
 ·rcases h6 with h6 | ⟨g, o, ha, hg, hc⟩
  ·exact .inl ⟨h6, rfl⟩
  ·exact .inr ⟨g, o, ha, hg, fun j hj => ⟨(hc j hj).1, (hc j hj).2.1⟩, fun h => by cases h⟩
theorem rr_inl {K m : Nat} {w : World} {v : Value} {l : List T} (h : Rr 4 (YTr.LyT m K) K w v l) (hl : l.length * 80 <= 140737488351232) : TBase.InL false (TVisit.Lo K) w m v l := by
 obtain ⟨a, cap, h1, h2, h3, h4, h5, h6⟩ := h
 refine ⟨a, cap, h1, h2, h3, hl, h5, ?_⟩
 rcases h6 with h6 | ⟨g, o, ha, hg, hc⟩
 ·exact .inl ⟨h6, rfl⟩
 ·exact .inr ⟨g, o, ha, hg, fun j hj => hc j hj, fun h => by cases h⟩
theorem one_t (fuel : Nat) : One enc W 68 4 (YTr.LyT fuel W.heap.size) fuel := by
 induction fuel using Nat.strongRecOn with
 | _ fuel ih =>
 intro cs x h hw
 obtain ⟨xs, n, rfl, rfl, hcl, hxl, hf⟩ := DataW.trod_struct underlying68 h
 rw [cellsT] at hcl
 obtain ⟨c0, c1, c2, c3, rfl⟩ := list4 hcl
 obtain ⟨x0, x1, x2, x3, rfl⟩ := list4 (show xs.length = 4 from hxl)
 have f0 := hf 0 _ rfl
 have f1 := hf 1 _ rfl
 have f2 := hf 2 _ rfl
 have f3 := hf 3 _ rfl
 simp [cells9] at f0
 simp [cells9] at f1
 simp [cellsSA] at f2
 simp [cellsST] at f3
 obtain ⟨s0, e0, e0', -⟩ := DataW.trod_string underlying9 f0
 obtain ⟨s1, e1, e1', -⟩ := DataW.trod_string underlying9 f1
 have W0 : ∀ q, q ∈ DataW.weights prog 9 x0.1 \/ q ∈ DataW.weights prog 9 x1.1 \/ q ∈ DataW.weights prog 66 x2.1 \/ q ∈ DataW.weights prog 26 x3.1 -> q <= reachBytes := by
  intro q hq
  apply hw
  simp only [List.map_cons, List.map_nil]
  rw [DataW.weights, underlying68]
  rcases hq with hq | hq | hq | hq
  ·simp [DataW.weightsEach, hq]
  ·simp [DataW.weightsEach, hq]
  ·simp [DataW.weightsEach, hq]
  ·simp [DataW.weightsEach, hq]
 obtain ⟨nv, ns, e2, hN, hnl⟩ := open_row underlying66 cellsA bytesA (by omega) (by omega) (fun m _ => one_a m) f2 (fun q hq => W0 q (.inr (.inr (.inl hq))))
 obtain ⟨lv, l, e3, hL, hll⟩ := open_row (Ly := YTr.LyT n W.heap.size) underlying26 cellsT bytesT (by omega) (by omega) (fun m hm cs x h hw => by
  obtain ⟨t, ht⟩ := ih m (by omega) cs x h hw
  refine ⟨t, fun g o hc => ?_⟩
  obtain ⟨u, hu, hin⟩ := ht g o hc
  exact ⟨u, hu, hin.weak (fun _ h => h) false id n (by omega)⟩) f3 (fun q hq => W0 q (.inr (.inr (.inr hq))))
 simp only [List.cons.injEq, and_true] at e0 e1 e2 e3
 subst e0 e1 e2 e3
 refine ⟨.mk s0 s1 ns l, fun g o hc => ⟨_, ⟨_, _, _, _, rfl, hc 0 (by omega), hc 1 (by omega), hc 2 (by omega), hc 3 (by omega)⟩, ?_⟩⟩
 rw [TBase.in_iff]
 exact ⟨_, _, rfl, size_of (congrArg Prod.fst e0') fun q hq => W0 q (.inl hq), size_of (congrArg Prod.fst e1') fun q hq => W0 q (.inr (.inl hq)), rr_ax hN hnl, rr_inl hL hll⟩
end
theorem Rr.all {α : Type} {P : α -> Prop} {n K : Nat} {Ly : World -> Nat -> Nat -> α -> Prop} {w : World} {v : Value} {l : List α} (h : Rr n Ly K w v l) (hp : ∀ g o x, Ly w g o x -> P x) : ∀ x ∈ l, P x := by
 obtain ⟨a, cap, h1, h2, h3, h4, h5, h6⟩ := h
 intro x hx
 obtain ⟨j, hj, rfl⟩ := List.getElem_of_mem hx
 rcases h6 with rfl | ⟨g, o, ha, hg, hc⟩
 ·cases hx
 ·exact hp _ _ _ (hc j hj)
theorem laidOut : laidOutB prog = true := by kernel_rfl
theorem own : ownKnob prog.godebug = none := by kernel_rfl
end Go.Proofs.YtaiackmmmlhgbaaGreat.YOp
