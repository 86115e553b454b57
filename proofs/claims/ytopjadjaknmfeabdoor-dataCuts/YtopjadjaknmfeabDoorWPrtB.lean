/- Print of values one level deeper: contract. -/
import Derived.Test.YtopjadjaknmfeabDoorPf18
import Derived.Test.YtopjadjaknmfeabDoorMeasB
namespace Go.Proofs.YtopjadjaknmfeabDoor.WPrtB
open Go.RowKit Go.Proofs.YtopjadjaknmfeabDoor.Base Go.Proofs.YtopjadjaknmfeabDoor.UBase Go.Proofs.YtopjadjaknmfeabDoor.Spec Go.Proofs.YtopjadjaknmfeabDoor.Byts Go.Proofs.YtopjadjaknmfeabDoor.WPk Go.Proofs.YtopjadjaknmfeabDoor.WTx Go.Proofs.YtopjadjaknmfeabDoor.WRow Go.Proofs.YtopjadjaknmfeabDoor.WVal Go.Proofs.YtopjadjaknmfeabDoor.WChk Go.Proofs.YtopjadjaknmfeabDoor.Digits Go.Proofs.YtopjadjaknmfeabDoor.Measure Go.Proofs.YtopjadjaknmfeabDoor.Walk Go.Proofs.YtopjadjaknmfeabDoor.Shallow Go.Proofs.YtopjadjaknmfeabDoor.WPrt
set_option linter.unusedVariables false
set_option maxRecDepth 20000 in
set_option maxHeartbeats 800000 in
theorem print_c {m : Nat} {u : Value} {c : C} {w : World} (hin : In false (Lo w.heap.size) w m u c) (hdep : dep c ≤ 4097) (hT : Tab w) :
    Calls Tryd.prog 9 #[u] w fun e w' => ∃ v, e = .returned (.tuple #[v, .int .i64 (pe c)]) ∧ Below w.heap.size w w' ∧
      ((pe c = 0 ∧ Pk w.heap.size w w' v (pv c) []) ∨ (¬ pe c = 0 ∧ v = .slice none 0 0)) := by
  have hall : In false All w m u c := In.weak (fun _ _ => trivial) false (fun h => h) m (Nat.le_refl _) hin
  obtain ⟨v0, v1, v2, v3, v4, v5, rfl, -⟩ := hin.six
  have hb : Below w.heap.size w (w.alloc (.cells #[v0, v1, v2, v3, v4, v5] 25)) := bx
  have cc := MeasB.check_c (hall.below hb) hdep
  have HP : Hid (∀ W, Below w.heap.size w W → pe c = 0 → Calls Tryd.prog 18 #[.slice none 0 0, .agg #[v0, v1, v2, v3, v4, v5]] W fun e W' => ∃ v', e = .returned v' ∧ Pk w.heap.size w W' v' (pv c) []) := fun W h hz => puts_at hin hT hz h
  have cc : Calls Tryd.prog 8 #[.agg #[v0, v1, v2, v3, v4, v5]] (w.alloc (.cells #[v0, v1, v2, v3, v4, v5] 25)) fun e w' => e = .returned (.int .i64 (pe c)) ∧ Below (w.alloc (.cells #[v0, v1, v2, v3, v4, v5] 25)).heap.size (w.alloc (.cells #[v0, v1, v2, v3, v4, v5] 25)) w' := cc
  generalize pe c = E at *
  clear hin hall hT hdep
  have HX : Hid (∀ w1, Below (w.alloc (.cells #[v0, v1, v2, v3, v4, v5] 25)).heap.size (w.alloc (.cells #[v0, v1, v2, v3, v4, v5] 25)) w1 → w1.heap[w.heap.size]? = some (.cells #[v0, v1, v2, v3, v4, v5] 25 (0, 0)) ∧ Below w.heap.size w w1) :=
    fun w1 b1 => ⟨(b1.block _ (by simp)).trans (heap_alloc_new w _), hb.trans (b1.mono (by simp))⟩
  clear hb
  by_cases hz : E = 0
  · subst hz
    go_enter Tryd.func9, Tryd.ntmps9
    go_wp2_with (first | (go_at_call 8; refine cc.mono ?_; rintro e w1 ⟨rfl, b1⟩; obtain ⟨y0, y1, y2, y3, y4, y5⟩ := six_box (HX.out w1 b1).1; have cp := HP.out w1 (HX.out w1 b1).2 trivial) | (refine cp.mono ?_; rintro e w2 ⟨v2, rfl, hp2⟩; have HP2 : Hid (Pk w.heap.size w w2 v2 (pv c) []) := hp2; clear hp2))
    obtain ⟨a2, n2, c2, rfl⟩ := HP2.out.shape
    refine bodyPost_ret (v := .tuple #[.slice a2 n2 c2, .int .i64 0]) (by simp [results, Tryd.results9, go_sem]) rfl ⟨_, rfl, HP2.out.bel, .inl ⟨trivial, HP2.out⟩⟩
  · have hz' : (E == 0) = false := by simp [hz]
    go_enter Tryd.func9, Tryd.ntmps9
    go_wp2_with (first | (go_at_call 8; refine cc.mono ?_; rintro e w1 ⟨rfl, b1⟩; have hb2 := (HX.out w1 b1).2))
    refine bodyPost_ret (v := .tuple #[.slice none 0 0, .int .i64 E]) (by simp [results, Tryd.results9, go_sem]) rfl ⟨_, rfl, hb2, .inr ⟨hz, rfl⟩⟩
end Go.Proofs.YtopjadjaknmfeabDoor.WPrtB
