/- Proved: for every program p (whatever lies in it, nil lists and spare room among it) and every integer which the call stencillaw22.VerifyCuts(p, which) of the landed program returns true, and what came in reads as before. Conditions: none beside those of the given row. -/
import Derived.Test.YtgknjjaemjkloaaRows
import Derived.Test.YtgknjjaemjkloaaYEn
import Derived.Test.YtgknjjaemjkloaaYDt
import Derived.SizedLaws
import Derived.OpenShut
import Derived.ProofKit
import Derived.ChangeOld
import Derived.Test.YtgknjjaemjkloaaChecked
import Derived.Test.YtgknjjaemjkloaaWVc
namespace Go.Proofs.Ytgknjjaemjkloaa.YOp
open Go.ChangeShapes Go.WideShapes Go.ChangeAt Go.RowKit Go.Proofs.Ytgknjjaemjkloaa.YPl Go.Proofs.Ytgknjjaemjkloaa.YRr
open Go.Proofs.Ytgknjjaemjkloaa.TBase (T)
set_option linter.unusedVariables false

theorem cells9 : Try.prog.cellsOf 9 = 1 := by kernel_rfl
theorem cells3 : Try.prog.cellsOf 3 = 1 := by kernel_rfl
theorem cellsA : Try.prog.cellsOf 176 = 2 := by kernel_rfl
theorem cellsT : Try.prog.cellsOf 53 = 4 := by kernel_rfl
theorem cellsI : Try.prog.cellsOf 49 = 2 := by kernel_rfl
theorem cellsO : Try.prog.cellsOf 46 = 5 := by kernel_rfl
theorem cellsB : Try.prog.cellsOf 44 = 3 := by kernel_rfl
theorem cellsP : Try.prog.cellsOf 27 = 4 := by kernel_rfl
theorem cellsSA : Try.prog.cellsOf 51 = 1 := by kernel_rfl
theorem cellsST : Try.prog.cellsOf 24 = 1 := by kernel_rfl
theorem cellsSI : Try.prog.cellsOf 50 = 1 := by kernel_rfl
theorem cellsSC : Try.prog.cellsOf 23 = 1 := by kernel_rfl
theorem cellsSO : Try.prog.cellsOf 42 = 1 := by kernel_rfl
theorem cellsSB : Try.prog.cellsOf 25 = 1 := by kernel_rfl
theorem cellsS3 : Try.prog.cellsOf 41 = 1 := by kernel_rfl
theorem cellsS9 : Try.prog.cellsOf 22 = 1 := by kernel_rfl
theorem bytes9 : Try.prog.bytesOf 9 = 16 := by kernel_rfl
theorem bytes3 : Try.prog.bytesOf 3 = 8 := by kernel_rfl
theorem bytesA : Try.prog.bytesOf 176 = 32 := by kernel_rfl
theorem bytesT : Try.prog.bytesOf 53 = 80 := by kernel_rfl
theorem bytesI : Try.prog.bytesOf 49 = 16 := by kernel_rfl
theorem bytesO : Try.prog.bytesOf 46 = 56 := by kernel_rfl
theorem bytesB : Try.prog.bytesOf 44 = 56 := by kernel_rfl
theorem bytesSI : Try.prog.bytesOf 50 = 24 := by kernel_rfl
theorem cells_at {w : World} {a : Addr} {n : Nat} {cs : List Value} (h : w.cells? 0 a n = some cs) : cs.length = n ∧ ∀ j (hj : j < n), w.cell? (a.add j) = cs[j]? := by
  unfold World.cells? at h
  rw [if_pos (Nat.zero_le _)] at h
  have hl := mapM_some_length h
  refine ⟨by simpa using hl, fun j hj => ?_⟩
  have := mapM_some_get h j j (by simp [hj])
  exact this
theorem spot_none {w : World} {a : Addr} {v : Value} (h : w.cell? (a.add 0) = some v) : ∃ g o, a = ⟨g, o, none⟩ := by
  obtain ⟨g, o, sp⟩ := a
  cases sp with
  | none => exact ⟨g, o, rfl⟩
  | some x =>
    simp only [Addr.add, if_true, World.cell?] at h
    split at h
    · simp at h
    · cases h
theorem weightsAll_mem {H : Type} {P : Program} {e : TypeId} {d : DataW H} {q : Nat} : ∀ {ds : List (DataW H)}, d ∈ ds → q ∈ DataW.weights P e d → q ∈ DataW.weightsAll P e ds
  | [], hd, _ => by cases hd
  | d' :: r, hd, hq => by
    rw [DataW.weightsAll, List.mem_append]
    rcases List.mem_cons.1 hd with rfl | h
    · exact .inl hq
    · exact .inr (weightsAll_mem h hq)
theorem list2 {α : Type} {l : List α} (h : l.length = 2) : ∃ c0 c1, l = [c0, c1] := by
  match l, h with
  | [c0, c1], _ => exact ⟨c0, c1, rfl⟩
theorem list3 {α : Type} {l : List α} (h : l.length = 3) : ∃ c0 c1 c2, l = [c0, c1, c2] := by
  match l, h with
  | [c0, c1, c2], _ => exact ⟨c0, c1, c2, rfl⟩
theorem list4 {α : Type} {l : List α} (h : l.length = 4) : ∃ c0 c1 c2 c3, l = [c0, c1, c2, c3] := by
  match l, h with
  | [c0, c1, c2, c3], _ => exact ⟨c0, c1, c2, c3, rfl⟩
theorem list5 {α : Type} {l : List α} (h : l.length = 5) : ∃ c0 c1 c2 c3 c4, l = [c0, c1, c2, c3, c4] := by
  match l, h with
  | [c0, c1, c2, c3, c4], _ => exact ⟨c0, c1, c2, c3, c4, rfl⟩
theorem an {g o i : Nat} : (Addr.mk g o none).add i = ⟨g, o + i, none⟩ := by
  unfold Addr.add
  by_cases h : i = 0
  · simp [h]
  · simp [h]
theorem i64_of {x : Int} (h : (Lit.int .i64 x).wf = true) : i64 x := by have := bounds_i64 h; constructor <;> omega
section
variable {H : Type} {enc : TypeId × Value → H} {W : World}
abbrev Wo (e : TypeId) (x : DataW H) : Prop := ∀ q ∈ DataW.weights Try.prog e x, q ≤ reachBytes
/-- What an element's cells give. -/
def One {α : Type} (enc : TypeId × Value → H) (W : World) (e : TypeId) (n : Nat) (Ly : World → Nat → Nat → α → Prop) (fuel : Nat) : Prop := ∀ (cs : List Value) (x : DataW H × List MemPlace), DataW.trod enc Try.prog W 0 (fun _ => true) true fuel e cs = some x → Wo e x.1 →
    ∃ t : α, ∀ g o, (∀ i, i < n → W.cell? ⟨g, o + i, none⟩ = cs[i]?) → Ly W g o t
theorem open_row {α : Type} {n z : Nat} {e s : TypeId} {Ly : World → Nat → Nat → α → Prop} (hu : Try.prog.underlying s = some (.slice e)) (hc : Try.prog.cellsOf e = n) (hz : Try.prog.bytesOf e = z) (hn : 1 ≤ n) (hz1 : 1 ≤ z)
    {fuel : Nat} {cs : List Value} {x : DataW H × List MemPlace} (one : ∀ m, m < fuel → One enc W e n Ly m) (h : DataW.trod enc Try.prog W 0 (fun _ => true) true fuel s cs = some x) (hw : Wo s x.1) :
    ∃ v l, cs = [v] ∧ Rr n Ly W.heap.size W v l ∧ l.length * z ≤ 140737488351232 := by
  rcases DataW.trod_slice hu h with ⟨rfl, rfl⟩ | ⟨a, len, cap, els, rest, m, rfl, rfl, rfl, _, hl, hm, hlen, hel, -, -⟩
  · exact ⟨_, [], rfl, ⟨none, 0, rfl, by simp, by simp, by simp, fun _ => rfl, .inl rfl⟩, by simp⟩
  · have hone : ∀ j : Fin len, ∃ t : α, (∀ g o, a = ⟨g, o, none⟩ → Ly W g (o + j.1 * n) t) ∧ ∃ v, W.cell? ((a.add (j.1 * n)).add 0) = some v := by
      rintro ⟨j, hj⟩
      have hh := hel j hj
      rw [List.getElem?_eq_getElem (by omega), Option.bind_eq_some_iff] at hh
      obtain ⟨c', hc', ht⟩ := hh
      rw [hc] at hc'
      obtain ⟨hl1, hcc⟩ := cells_at hc'
      obtain ⟨t, ht⟩ := one m (by omega) _ _ ht (fun q hq => hw q (by
        rw [DataW.weights, hu]
        refine List.mem_cons_of_mem _ (List.mem_append.2 (.inl (weightsAll_mem (d := els[j].1) ?_ hq)))
        rw [List.mem_map]
        exact ⟨els[j]'(by omega), List.getElem_mem _, rfl⟩))
      refine ⟨t, fun g o ea => ht g (o + j * n) fun i hi => ?_, ?_⟩
      · have := hcc i hi
        rw [ea, an, an] at this
        exact this
      · have := hcc 0 (by omega)
        rw [List.getElem?_eq_getElem (by omega)] at this
        exact ⟨_, this⟩
    have hb : len * z ≤ 140737488351232 := by
      have := hw ((els.length + rest.length) * z) (by
        rw [DataW.weights, hu]
        simp [hz])
      simp only [reachBytes] at this
      have h2 : len * z ≤ (els.length + rest.length) * z := Nat.mul_le_mul_right _ (by omega)
      omega
    have hb1 : len ≤ len * z := Nat.le_mul_of_pos_right _ hz1
    obtain ⟨f, hf⟩ := Classical.axiomOfChoice hone
    refine ⟨_, List.ofFn f, rfl, ⟨some a, cap, by simp, by simpa using hl, hm, by simp; omega, (fun h => by cases h), ?_⟩, by simpa using hb⟩
    by_cases h0 : len = 0
    · subst h0
      exact .inl (by simp)
    · obtain ⟨v, h00⟩ := (hf ⟨0, by omega⟩).2
      rw [show (a.add (0 * n)).add 0 = a.add 0 from by simp [Addr.add]] at h00
      obtain ⟨g, o, rfl⟩ := spot_none h00
      rw [an] at h00
      refine .inr ⟨g, o, rfl, TBase.cell_lt h00, fun j hj => ?_⟩
      have hj' : j < len := by simpa using hj
      have := (hf ⟨j, hj'⟩).1 g o rfl
      simpa using this
theorem size_of {x : DataW H} {s : ByteArray} (e : x = .lit (.string s.data.toList)) (hw : Wo 9 x) : s.size ≤ 140737488351232 := by
  have := hw s.data.toList.length (by rw [e]; simp [DataW.weights])
  simp only [reachBytes] at this
  have e2 : s.data.toList.length = s.size := rfl
  omega
theorem one_s (fuel : Nat) : One enc W 9 1 LyS fuel := by
  intro cs x h hw
  obtain ⟨s, rfl, e', -⟩ := DataW.trod_string Try.underlying9 h
  exact ⟨s, fun g o hc => ⟨hc 0 (by omega), size_of (congrArg Prod.fst e') hw⟩⟩
theorem one_i (fuel : Nat) : One enc W 3 1 LyI fuel := by
  intro cs x h hw
  obtain ⟨i, rfl, -, w0⟩ := DataW.trod_int Try.underlying3 h
  have := bounds_i64 w0
  exact ⟨i, fun g o hc => ⟨hc 0 (by omega), by omega, by omega⟩⟩
theorem one_n (fuel : Nat) : One enc W 49 2 LyN fuel := by
  intro cs x h hw
  obtain ⟨xs, n', rfl, rfl, hcl, hxl, hf⟩ := DataW.trod_struct Try.underlying49 h
  rw [cellsI] at hcl
  obtain ⟨c0, c1, rfl⟩ := list2 hcl
  obtain ⟨x0, x1, rfl⟩ := list2 (show xs.length = 2 from hxl)
  have f0 := hf 0 _ rfl
  have f1 := hf 1 _ rfl
  simp [cells3] at f0
  simp [cells3] at f1
  obtain ⟨i0, e0, -, w0⟩ := DataW.trod_int Try.underlying3 f0
  obtain ⟨i1, e1, -, w1⟩ := DataW.trod_int Try.underlying3 f1
  simp only [List.cons.injEq, and_true] at e0 e1
  subst e0 e1
  exact ⟨(i0, i1), fun g o hc => ⟨hc 0 (by omega), hc 1 (by omega), i64_of w0, i64_of w1⟩⟩
theorem one_c (fuel : Nat) : One enc W 50 1 (LyC W.heap.size) fuel := by
  intro cs x h hw
  obtain ⟨v, l, rfl, hr, -⟩ := open_row Try.underlying50 cellsI bytesI (by omega) (by omega) (fun m _ => one_n m) h hw
  exact ⟨l, fun g o hc => ⟨v, hc 0 (by omega), hr⟩⟩
theorem one_o (fuel : Nat) : One enc W 46 5 (LyO W.heap.size) fuel := by
  intro cs x h hw
  obtain ⟨xs, n', rfl, rfl, hcl, hxl, hf⟩ := DataW.trod_struct Try.underlying46 h
  rw [cellsO] at hcl
  obtain ⟨c0, c1, c2, c3, c4, rfl⟩ := list5 hcl
  obtain ⟨x0, x1, x2, x3, x4, rfl⟩ := list5 (show xs.length = 5 from hxl)
  have f0 := hf 0 _ rfl
  have f1 := hf 1 _ rfl
  have f2 := hf 2 _ rfl
  have f3 := hf 3 _ rfl
  have f4 := hf 4 _ rfl
  simp [cells3] at f0
  simp [cells3] at f1
  simp [cells3] at f2
  simp [cells3] at f3
  simp [cellsS3] at f4
  obtain ⟨i0, e0, -, w0⟩ := DataW.trod_int Try.underlying3 f0
  obtain ⟨i1, e1, -, w1⟩ := DataW.trod_int Try.underlying3 f1
  obtain ⟨i2, e2, -, w2⟩ := DataW.trod_int Try.underlying3 f2
  obtain ⟨i3, e3, -, w3⟩ := DataW.trod_int Try.underlying3 f3
  obtain ⟨v, l, e4, hr, -⟩ := open_row Try.underlying41 cells3 bytes3 (by omega) (by omega) (fun m _ => one_i m) f4 (fun q hq => hw q (by
    simp only [List.map_cons, List.map_nil]
    rw [DataW.weights, Try.underlying46]
    simp [DataW.weightsEach, hq]))
  simp only [List.cons.injEq, and_true] at e0 e1 e2 e3 e4
  subst e0 e1 e2 e3 e4
  exact ⟨⟨i0, i1, i2, i3, l⟩, fun g o hc => ⟨_, hc 0 (by omega), hc 1 (by omega), hc 2 (by omega), hc 3 (by omega), hc 4 (by omega), ⟨i64_of w0, i64_of w1, i64_of w2, i64_of w3⟩, hr⟩⟩
theorem one_b (fuel : Nat) : One enc W 44 3 (LyB W.heap.size) fuel := by
  intro cs x h hw
  obtain ⟨xs, n', rfl, rfl, hcl, hxl, hf⟩ := DataW.trod_struct Try.underlying44 h
  rw [cellsB] at hcl
  obtain ⟨c0, c1, c2, rfl⟩ := list3 hcl
  obtain ⟨x0, x1, x2, rfl⟩ := list3 (show xs.length = 3 from hxl)
  have f0 := hf 0 _ rfl
  have f1 := hf 1 _ rfl
  have f2 := hf 2 _ rfl
  simp [cells3] at f0
  simp [cellsSO] at f1
  simp [cellsS3] at f2
  obtain ⟨i0, e0, -, w0⟩ := DataW.trod_int Try.underlying3 f0
  obtain ⟨v, l, e1, hr, -⟩ := open_row Try.underlying42 cellsO bytesO (by omega) (by omega) (fun m _ => one_o m) f1 (fun q hq => hw q (by
    simp only [List.map_cons, List.map_nil]
    rw [DataW.weights, Try.underlying44]
    simp [DataW.weightsEach, hq]))
  obtain ⟨v', l', e2, hr', -⟩ := open_row Try.underlying41 cells3 bytes3 (by omega) (by omega) (fun m _ => one_i m) f2 (fun q hq => hw q (by
    simp only [List.map_cons, List.map_nil]
    rw [DataW.weights, Try.underlying44]
    simp [DataW.weightsEach, hq]))
  simp only [List.cons.injEq, and_true] at e0 e1 e2
  subst e0 e1 e2
  exact ⟨⟨i0, l, l'⟩, fun g o hc => ⟨_, _, hc 0 (by omega), hc 1 (by omega), hc 2 (by omega), i64_of w0, hr, hr'⟩⟩
theorem one_a (fuel : Nat) : One enc W 176 2 LyA fuel := by
  intro cs x h hw
  obtain ⟨xs, n', rfl, rfl, hcl, hxl, hf⟩ := DataW.trod_struct Try.underlying176 h
  rw [cellsA] at hcl
  obtain ⟨c0, c1, rfl⟩ := list2 hcl
  obtain ⟨x0, x1, rfl⟩ := list2 (show xs.length = 2 from hxl)
  have f0 := hf 0 _ rfl
  have f1 := hf 1 _ rfl
  simp [cells9] at f0
  simp [cells9] at f1
  obtain ⟨s0, e0, e0', -⟩ := DataW.trod_string Try.underlying9 f0
  obtain ⟨s1, e1, e1', -⟩ := DataW.trod_string Try.underlying9 f1
  simp only [List.cons.injEq, and_true] at e0 e1
  subst e0 e1
  have W0 : ∀ q, q ∈ DataW.weights Try.prog 9 x0.1 ∨ q ∈ DataW.weights Try.prog 9 x1.1 → q ≤ reachBytes := by
    intro q hq
    apply hw
    simp only [List.map_cons, List.map_nil]
    rw [DataW.weights, Try.underlying176]
    rcases hq with hq | hq
    · simp [DataW.weightsEach, hq]
    · simp [DataW.weightsEach, hq]
  exact ⟨(s0, s1), fun g o hc => ⟨hc 0 (by omega), hc 1 (by omega), size_of (congrArg Prod.fst e0') fun q hq => W0 q (.inl hq), size_of (congrArg Prod.fst e1') fun q hq => W0 q (.inr hq)⟩⟩
theorem rr_ax {K : Nat} {w : World} {v : Value} {l : List (ByteArray × ByteArray)} (h : Rr 2 LyA K w v l) (hl : l.length * 32 ≤ 140737488351232) : TBase.Ax false (TVisit.Lo K) w v l := by
  obtain ⟨a, cap, h1, h2, h3, h4, h5, h6⟩ := h
  refine ⟨a, cap, h1, h2, h3, hl, ?_, h5, ?_⟩
  · intro t ht
    obtain ⟨j, hj, rfl⟩ := List.getElem_of_mem ht
    rcases h6 with rfl | ⟨g, o, ha, hg, hc⟩
    · cases ht
    · exact (hc j hj).2.2
  · rcases h6 with h6 | ⟨g, o, ha, hg, hc⟩
    · exact .inl ⟨h6, rfl⟩
    · exact .inr ⟨g, o, ha, hg, fun j hj => ⟨(hc j hj).1, (hc j hj).2.1⟩, fun h => by cases h⟩
theorem rr_inl {K m : Nat} {w : World} {v : Value} {l : List T} (h : Rr 4 (YTr.LyT m K) K w v l) (hl : l.length * 80 ≤ 140737488351232) : TBase.InL false (TVisit.Lo K) w m v l := by
  obtain ⟨a, cap, h1, h2, h3, h4, h5, h6⟩ := h
  refine ⟨a, cap, h1, h2, h3, hl, h5, ?_⟩
  rcases h6 with h6 | ⟨g, o, ha, hg, hc⟩
  · exact .inl ⟨h6, rfl⟩
  · exact .inr ⟨g, o, ha, hg, fun j hj => hc j hj, fun h => by cases h⟩
theorem one_t (fuel : Nat) : One enc W 53 4 (YTr.LyT fuel W.heap.size) fuel := by
  induction fuel using Nat.strongRecOn with
  | _ fuel ih =>
  intro cs x h hw
  obtain ⟨xs, n, rfl, rfl, hcl, hxl, hf⟩ := DataW.trod_struct Try.underlying53 h
  rw [cellsT] at hcl
  obtain ⟨c0, c1, c2, c3, rfl⟩ := list4 hcl
  obtain ⟨x0, x1, x2, x3, rfl⟩ := list4 (show xs.length = 4 from hxl)
  have f0 := hf 0 _ rfl
  have f1 := hf 1 _ rfl
  have f2 := hf 2 _ rfl
  have f3 := hf 3 _ rfl
  simp [cells9] at f0
  simp [cells9] at f1
  simp [cellsSA] at f2
  simp [cellsST] at f3
  obtain ⟨s0, e0, e0', -⟩ := DataW.trod_string Try.underlying9 f0
  obtain ⟨s1, e1, e1', -⟩ := DataW.trod_string Try.underlying9 f1
  have W0 : ∀ q, q ∈ DataW.weights Try.prog 9 x0.1 ∨ q ∈ DataW.weights Try.prog 9 x1.1 ∨ q ∈ DataW.weights Try.prog 51 x2.1 ∨ q ∈ DataW.weights Try.prog 24 x3.1 → q ≤ reachBytes := by
    intro q hq
    apply hw
    simp only [List.map_cons, List.map_nil]
    rw [DataW.weights, Try.underlying53]
    rcases hq with hq | hq | hq | hq
    · simp [DataW.weightsEach, hq]
    · simp [DataW.weightsEach, hq]
    · simp [DataW.weightsEach, hq]
    · simp [DataW.weightsEach, hq]
  obtain ⟨nv, ns, e2, hN, hnl⟩ := open_row Try.underlying51 cellsA bytesA (by omega) (by omega) (fun m _ => one_a m) f2 (fun q hq => W0 q (.inr (.inr (.inl hq))))
  obtain ⟨lv, l, e3, hL, hll⟩ := open_row (Ly := YTr.LyT n W.heap.size) Try.underlying24 cellsT bytesT (by omega) (by omega) (fun m hm cs x h hw => by
    obtain ⟨t, ht⟩ := ih m (by omega) cs x h hw
    refine ⟨t, fun g o hc => ?_⟩
    obtain ⟨u, hu, hin⟩ := ht g o hc
    exact ⟨u, hu, hin.weak (fun _ h => h) false id n (by omega)⟩) f3 (fun q hq => W0 q (.inr (.inr (.inr hq))))
  simp only [List.cons.injEq, and_true] at e0 e1 e2 e3
  subst e0 e1 e2 e3
  refine ⟨.mk s0 s1 ns l, fun g o hc => ⟨_, ⟨_, _, _, _, rfl, hc 0 (by omega), hc 1 (by omega), hc 2 (by omega), hc 3 (by omega)⟩, ?_⟩⟩
  rw [TBase.in_iff]
  exact ⟨_, _, rfl, size_of (congrArg Prod.fst e0') fun q hq => W0 q (.inl hq), size_of (congrArg Prod.fst e1') fun q hq => W0 q (.inr (.inl hq)), rr_ax hN hnl, rr_inl hL hll⟩
theorem open_pg {fuel : Nat} {cs : List Value} {x : DataW H × List MemPlace} (h : DataW.trod enc Try.prog W 0 (fun _ => true) true fuel 27 cs = some x) (hw : Wo 27 x.1) :
    ∃ m y, YEn.InPg W.heap.size m W (.agg cs.toArray) y := by
  obtain ⟨xs, n, rfl, rfl, hcl, hxl, hf⟩ := DataW.trod_struct Try.underlying27 h
  rw [cellsP] at hcl
  obtain ⟨c0, c1, c2, c3, rfl⟩ := list4 hcl
  obtain ⟨x0, x1, x2, x3, rfl⟩ := list4 (show xs.length = 4 from hxl)
  have f0 := hf 0 _ rfl
  have f1 := hf 1 _ rfl
  have f2 := hf 2 _ rfl
  have f3 := hf 3 _ rfl
  simp [cellsS9] at f0
  simp [cellsSC] at f1
  simp [cellsST] at f2
  simp [cellsSB] at f3
  have W0 : ∀ q, q ∈ DataW.weights Try.prog 22 x0.1 ∨ q ∈ DataW.weights Try.prog 23 x1.1 ∨ q ∈ DataW.weights Try.prog 24 x2.1 ∨ q ∈ DataW.weights Try.prog 25 x3.1 → q ≤ reachBytes := by
    intro q hq
    apply hw
    simp only [List.map_cons, List.map_nil]
    rw [DataW.weights, Try.underlying27]
    rcases hq with hq | hq | hq | hq
    · simp [DataW.weightsEach, hq]
    · simp [DataW.weightsEach, hq]
    · simp [DataW.weightsEach, hq]
    · simp [DataW.weightsEach, hq]
  obtain ⟨v0, l0, e0, r0, -⟩ := open_row Try.underlying22 cells9 bytes9 (by omega) (by omega) (fun m _ => one_s m) f0 (fun q hq => W0 q (.inl hq))
  obtain ⟨v1, l1, e1, r1, -⟩ := open_row Try.underlying23 cellsSI bytesSI (by omega) (by omega) (fun m _ => one_c m) f1 (fun q hq => W0 q (.inr (.inl hq)))
  obtain ⟨v2, l2, e2, r2, k2⟩ := open_row (Ly := YTr.LyT n W.heap.size) Try.underlying24 cellsT bytesT (by omega) (by omega) (fun m hm cs x h hw => by
    obtain ⟨t, ht⟩ := one_t m cs x h hw
    refine ⟨t, fun g o hc => ?_⟩
    obtain ⟨u, hu, hin⟩ := ht g o hc
    exact ⟨u, hu, hin.weak (fun _ h => h) false id n (by omega)⟩) f2 (fun q hq => W0 q (.inr (.inr (.inl hq))))
  obtain ⟨v3, l3, e3, r3, -⟩ := open_row Try.underlying25 cellsB bytesB (by omega) (by omega) (fun m _ => one_b m) f3 (fun q hq => W0 q (.inr (.inr (.inr hq))))
  simp only [List.cons.injEq, and_true] at e0 e1 e2 e3
  subst e0 e1 e2 e3
  have r2 := rr_inl r2 k2
  have sl : ∀ {α : Type} {n K : Nat} {Ly : World → Nat → Nat → α → Prop} {w : World} {v : Value} {l : List α}, Rr n Ly K w v l → ∃ a c, v = .slice a l.length c := fun h => by obtain ⟨a, c, h, -⟩ := h; exact ⟨a, c, h⟩
  obtain ⟨a0, k0, rfl⟩ := sl r0
  obtain ⟨a1, k1, rfl⟩ := sl r1
  obtain ⟨a3, k3, rfl⟩ := sl r3
  obtain ⟨a2, k4, rfl⟩ : ∃ a c, c2 = .slice a l2.length c := by obtain ⟨a, c, h, -⟩ := r2; exact ⟨a, c, h⟩
  exact ⟨n, ⟨l0, l1, l2, l3⟩, _, _, _, _, _, _, _, _, _, _, _, _, rfl, r0, r1, r2, r3⟩
end
theorem Rr.all {α : Type} {P : α → Prop} {n K : Nat} {Ly : World → Nat → Nat → α → Prop} {w : World} {v : Value} {l : List α} (h : Rr n Ly K w v l) (hp : ∀ g o x, Ly w g o x → P x) : ∀ x ∈ l, P x := by
  obtain ⟨a, cap, h1, h2, h3, h4, h5, h6⟩ := h
  intro x hx
  obtain ⟨j, hj, rfl⟩ := List.getElem_of_mem hx
  rcases h6 with rfl | ⟨g, o, ha, hg, hc⟩
  · cases hx
  · exact hp _ _ _ (hc j hj)
/-- The numbers of a program in memory fit. -/
theorem okP_of {K m : Nat} {w : World} {v : Value} {x : Pg} (h : YEn.InPg K m w v x) : YDt.okP x := by
  obtain ⟨a, n1, c1, b, n2, c2, c, n3, c3, d, n4, c4, rfl, h1, h2, h3, h4⟩ := h
  have hi : ∀ {v : Value} {l : List Int}, Rr 1 LyI K w v l → ∀ x ∈ l, YDb.b64 x := fun h => Rr.all h fun g o x hx => hx.2
  refine ⟨Rr.all h2 fun g o x hx => ?_, Rr.all h4 fun g o x hx => ?_⟩
  · obtain ⟨v, -, hr⟩ := hx
    exact Rr.all hr fun g o y hy => hy.2.2.2
  · obtain ⟨v, u, -, -, -, -, hr, hr'⟩ := hx
    refine ⟨Rr.all hr fun g o y hy => ?_, hi hr'⟩
    obtain ⟨v, -, -, -, -, -, hb, hl⟩ := hy
    exact ⟨hb.2.1, hb.2.2.1, hb.2.2.2, hi hl⟩
theorem laidOut : laidOutB Try.prog = true := by kernel_rfl
theorem own : ownKnob Try.prog.godebug = none := by kernel_rfl
set_option maxRecDepth 100000 in
/-- A program that comes in, and that it reads the same behind whatever only adds. -/
theorem come {H : Type} {enc : TypeId × Value → H} {W : World} {base : Nat} {v : Value} {d : DataW H} {p : List MemPlace} {ts : List TypeId} {ds : List (DataW H)} {j : Nat}
    (hval : Value.okWide Try.prog W .any base 27 v) (h : DataW.Trod enc Try.prog W 0 (fun _ => true) true 27 v d p)
    (hsz : (DataW.weightsEach Try.prog ts ds).all (· ≤ reachBytes) = true) (ht : ts[j]? = some 27) (hd : ds[j]? = some d) :
    (∃ m x, YEn.InPg W.heap.size m W v x) ∧ ∀ W', Below W.heap.size W W' → DataW.Trod enc Try.prog W' 0 (fun b => decide (b < W.heap.size)) true 27 v d p := by
  have lt0 : ∀ x ∈ p, x.block < W.heap.size := by obtain ⟨m, hm⟩ := h; exact DataW.trod_lt m _ _ _ hm
  refine ⟨?_, fun W' bel => Below.trod laidOut (by kernel_rfl) (of_decide_eq_true (by kernel_rfl)) h bel lt0⟩
  obtain ⟨cs, rfl, -⟩ := okWide_struct Try.underlying27 hval
  obtain ⟨fuel, hf⟩ := h
  obtain ⟨m, y, hin⟩ := open_pg hf fun q hq => by simpa using List.all_eq_true.1 hsz q (DataW.weights_mem_each ht hd q hq)
  exact ⟨m, y, by simpa [Value.cells] using hin⟩
end Go.Proofs.Ytgknjjaemjkloaa.YOp

namespace Go.Proofs.Ytgknjjaemjkloaa.verifyCuts
open Go.ChangeShapes Go.WideShapes Go.ChangeAt Go.RowKit Go.Proofs.Ytgknjjaemjkloaa
set_option linter.unusedVariables false

set_option maxRecDepth 100000 in
theorem lifted (os : Os) (started : os.Started) (H : Type) (enc : TypeId × Value → H) :
    ReturnsInHanded {} Try.checked os 6 .any (Rows.verifyCutsSpec.pre6 enc Try.prog Try.f6 Rows.verifyCutsRow.domain false) (Rows.verifyCutsSpec.post enc Try.prog Try.f6 false true false false) := by
  refine returnsInHanded_of_change_sized (C := Try.checked) YOp.own started (by kernel_rfl) Try.func6
    (ChangeSpec.witness6 (enc := enc) (C := Try.checked) false ⟨#[], #[.agg #[.slice none 0 0, .slice none 0 0, .slice none 0 0, .slice none 0 0], .int .i64 0], []⟩ 8 (by kernel_rfl) (by kernel_rfl) (by kernel_rfl) (by kernel_rfl)) ?_
  intro W base args ds gs before hval0 hW hcnd hsz0 _
  have hval : ∀ (j : Nat) t v, Try.f6.params[j]? = some t → args[j]? = some v → Value.okWide Try.prog W .any base t v := hval0
  have hsz : (DataW.weightsEach Try.prog (Try.f6.params.toList ++ Rows.verifyCutsSpec.plain.varTypes Try.prog) (ds ++ gs)).all (· ≤ reachBytes) = true := hsz0
  have hW' := hW
  obtain ⟨p, q, hA0, hV, rfl, hfz, hnd⟩ := hW
  have hA : DataW.TrodAll enc Try.prog W 0 (fun _ => true) true Try.f6.params.toList args.toList ds p := hA0
  rw [Try.params6] at hA hval hsz
  obtain ⟨v0, vs0, d0, ds0, p0, q0, hargs, rfl, rfl, h0, r0⟩ := trodAll_cons hA
  obtain ⟨v1, vs1, d1, ds1, p1, q1, rfl, rfl, rfl, h1, r1⟩ := trodAll_cons r0
  obtain ⟨rfl, rfl, rfl⟩ := trodAll_nil r1
  obtain rfl : args = #[v0, v1] := by cases args; simp_all
  obtain ⟨rfl, rfl⟩ := trodVars_none hV
  obtain ⟨⟨m0, x0, g0⟩, s0⟩ := YOp.come (hval 0 27 v0 rfl rfl) h0 hsz (j := 0) rfl rfl
  obtain ⟨a1, rfl, rfl, rfl, w1⟩ := open_int Try.underlying3 (hval 1 3 v1 rfl rfl) h1
  have t1 := bounds_i64 w1
  clear hA0 hval0 hsz0
  refine (WVc.walk g0 t1).mono fun e W' ⟨he, bel⟩ => ?_
  subst he
  exact ⟨_, rfl, _, _, _, [], _, [], hW', trodAll_mk1 (shut_bool Try.underlying4 _), (trodAll_cons_mk (s0 _ bel) (trodAll_cons_mk (shut_int Try.underlying3 w1) trodAll_mk0)), rfl, bel.frame _, fun h => by cases h⟩
theorem over : Rows.verifyCutsRow.holds Try.pinned (OpenSpec.ofChange Rows.verifyCutsSpec) :=
  OpenClaim.holds_of_wide 6 Try.f6 rfl rfl rfl rfl rfl rfl rfl ⟨rfl, rfl, rfl, rfl, rfl⟩ rfl rfl rfl rfl rfl (by kernel_rfl) Try.func6 (by kernel_rfl)
    (of_decide_eq_true (by kernel_rfl)) (by unfold Func.isWrapper; first | (rw [if_pos (by decide +kernel)]; kernel_rfl) | (rw [if_neg (by decide +kernel)]; exact ⟨rfl, rfl⟩))
    (fun os started H enc _ => lifted os started H enc)
theorem verifyCuts_holds : Rows.VerifyCutsSaid := over
#print axioms verifyCuts_holds
end Go.Proofs.Ytgknjjaemjkloaa.verifyCuts
