/- New memory for a value without elements (package fresh). -/
import Derived.Test.YtamocioljeaicaaGreatDoorClone
namespace Go.Proofs.YtamocioljeaicaaGreatDoor.GCf
open Go.RowKit Go.Proofs.YtamocioljeaicaaGreatDoor.Base Go.Proofs.YtamocioljeaicaaGreatDoor.Clone
set_option linter.unusedVariables false

theorem row_nil {w : World} {B : Nat} {t : TypeId} {z : Nat} {v : Value} {xs : List Value} (h : w.ownsRow B t z v 0 xs) : ∃ a cap, v = .slice a 0 cap ∧ cap ≤ maxLen ∧ (a = none → cap = 0) := by
  rcases h.2 with ⟨rfl, _⟩ | ⟨g, cap, cur, rfl, _, _, _, hm, _⟩
  · exact ⟨none, 0, rfl, by simp, fun _ => rfl⟩
  · exact ⟨_, cap, rfl, hm, fun h => by cases h⟩
set_option maxRecDepth 20000 in
theorem list_nil {S : Nat → Prop} {m : Nat} {lv : Value} {w : World} (h : InL false S w m lv []) :
    Calls Tryz.prog 39 #[lv, .func (.func 29) #[] #[]] w fun e w' => ∃ a cap, e = .returned (.slice a 0 cap) ∧ (cap ≤ maxLen ∧ (a = none → cap = 0)) ∧ Below w.heap.size w w' := by
  have c70 := cloneV_c m lv [] w h
  clear h
  go_enter Tryz.func39, Tryz.ntmps39
  go_wp2_with fail
  refine c70.mono ?_
  rintro e w2 ⟨lu, rfl, os, hV0, hos, -, b2⟩
  have h0 := hV0.1
  rw [show os.length = 0 from hos] at h0
  obtain ⟨a, cap, rfl, h1, h2⟩ := row_nil h0
  have HA : Hid (cap ≤ maxLen ∧ (a = none → cap = 0)) := ⟨h1, h2⟩
  have HB : Hid (Below w.heap.size w w2) := b2
  clear c70 hV0 hos h0 h1 h2 b2
  go_wp2_with fail
  go_loopw [12] (fun i' wr => i' = .int .i64 0 ∧ w2 = wr) (fun _ _ => 0)
  case atStart => exact ⟨rfl, rfl⟩
  case round =>
    obtain ⟨rfl, hw⟩ := hrel
    subst hw
    have hlt : decide ((0 : Int) < (0 : Int)) = false := by simp
    go_wp2_with fail
    go_ret
    exact ⟨_, _, rfl, HA.out, HB.out⟩
set_option maxRecDepth 20000 in
set_option maxHeartbeats 1600000 in
theorem flat_c {m : Nat} {k : Int} {b : Bool} {i : Int} {s : ByteArray} (w : World) (v : Value) (h : In false All w (m + 1) v (.mk k b i s [] [])) :
    Calls Tryz.prog 29 #[v] w fun e w' => ∃ u, e = .returned u ∧ In false (fun b => w.heap.size ≤ b) w' (m + 1) u (.mk k b i s [] []) ∧ Below w.heap.size w w' := by
  rw [in_iff] at h
  obtain ⟨nv, lv, rfl, hk, hi, hs, hn, hl⟩ := h
  obtain ⟨W0, hW0⟩ : ∃ W0, (w.alloc (.cells #[.int .i64 k, .bool b, .int .i64 i, .string s, nv, lv] 49)).alloc (.cells #[.int .i64 0, .bool false, .int .i64 0, .string ⟨#[]⟩, .slice none 0 0, .slice none 0 0] 49) = W0 := ⟨_, rfl⟩
  have hb0 : Below w.heap.size w W0 := by rw [← hW0]; exact ((Below.refl _ w).alloc (Nat.le_refl _) _).alloc (by simp) _
  have hsz0 : W0.heap.size = w.heap.size + 2 := by rw [← hW0]; simp
  have hx0 : W0.heap[w.heap.size]? = some (.cells #[.int .i64 k, .bool b, .int .i64 i, .string s, nv, lv] 49 (0, 0)) := by
    rw [← hW0, Below.heap_alloc _ _ _ (by simp), heap_alloc_new]
  have hx1 : W0.heap[w.heap.size + 1]? = some (.cells #[.int .i64 0, .bool false, .int .i64 0, .string ⟨#[]⟩, .slice none 0 0, .slice none 0 0] 49 (0, 0)) := by
    have := heap_alloc_new (w.alloc (.cells #[.int .i64 k, .bool b, .int .i64 i, .string s, nv, lv] 49)) (.cells #[.int .i64 0, .bool false, .int .i64 0, .string ⟨#[]⟩, .slice none 0 0, .slice none 0 0] 49)
    rwa [hW0, World.size_alloc] at this
  have c69 := cloneT_c nv [] W0 (hn.below hb0)
  obtain ⟨-, -, -, -, e4, -⟩ := six_box hx0
  go_enter Tryz.func29, Tryz.ntmps29
  go_wp2_with fail
  refine c69.mono ?_
  rintro e w1 ⟨nu, rfl, ht1, b1⟩
  obtain ⟨an, cn, rfl, hn1, hn2⟩ := row_nil (xs := (([] : List ByteArray).map Value.string)) ht1
  have hy0 := (b1.block w.heap.size (by omega)).trans hx0
  have hy1 := (b1.block (w.heap.size + 1) (by omega)).trans hx1
  clear c69 hx0 hx1 hW0 e4
  obtain ⟨d0, d1, d2, d3, d4, d5⟩ := six_box hy0
  have f4 := frozen_box hy0 4
  have hs1 := b1.size
  obtain ⟨W1, hW1⟩ : ∃ W1, w1.setCell ⟨w.heap.size, 4, none⟩ (.slice an 0 cn) = W1 := ⟨_, rfl⟩
  have hz0 : W1.heap[w.heap.size]? = some (.cells #[.int .i64 k, .bool b, .int .i64 i, .string s, .slice an 0 cn, lv] 49 (0, 0)) := by rw [← hW1, block_set hy0]; rfl
  have hz1 : W1.heap[w.heap.size + 1]? = some (.cells #[.int .i64 0, .bool false, .int .i64 0, .string ⟨#[]⟩, .slice none 0 0, .slice none 0 0] 49 (0, 0)) := by rw [← hW1, Below.heap_setCell _ _ _ _ (by simp)]; exact hy1
  have hsz1 : W1.heap.size = w1.heap.size := by rw [← hW1]; simp [World.setCell]
  have hb1 : Below w.heap.size w W1 := by rw [← hW1]; exact (hb0.trans (b1.mono (by omega))).setCell (p := ⟨w.heap.size, 4, none⟩) (Nat.le_refl _) _
  have c70 := list_nil (hl.below hb1)
  have HN : Hid (cn ≤ maxLen ∧ (an = none → cn = 0)) := ⟨hn1, hn2⟩
  clear ht1 hy0 hy1 hn1 hn2 hn hl
  obtain ⟨-, -, -, -, -, k5⟩ := six_box hz0
  go_wp2_with fail
  refine c70.mono ?_
  rintro e w2 ⟨al, cl, rfl, hal, b2⟩
  have hy0 := (b2.block w.heap.size (by omega)).trans hz0
  have hy1 := (b2.block (w.heap.size + 1) (by omega)).trans hz1
  have HL : Hid (cl ≤ maxLen ∧ (al = none → cl = 0)) := hal
  clear c70 hz0 hz1 hW1 d0 d1 d2 d3 d4 d5 f4 k5 hal
  have f5 := frozen_box hy0 5
  have hs2 := b2.size
  obtain ⟨d0, d1, d2, d3, d4, d5⟩ := six_box hy0
  obtain ⟨W2, hW2⟩ : ∃ W2, w2.setCell ⟨w.heap.size, 5, none⟩ (.slice al 0 cl) = W2 := ⟨_, rfl⟩
  have hz0 : W2.heap[w.heap.size]? = some (.cells #[.int .i64 k, .bool b, .int .i64 i, .string s, .slice an 0 cn, .slice al 0 cl] 49 (0, 0)) := by rw [← hW2, block_set hy0]; rfl
  have hz1 : W2.heap[w.heap.size + 1]? = some (.cells #[.int .i64 0, .bool false, .int .i64 0, .string ⟨#[]⟩, .slice none 0 0, .slice none 0 0] 49 (0, 0)) := by rw [← hW2, Below.heap_setCell _ _ _ _ (by simp)]; exact hy1
  have hb2 : Below w.heap.size w W2 := by rw [← hW2]; exact (hb1.trans (b2.mono (by omega))).setCell (p := ⟨w.heap.size, 5, none⟩) (Nat.le_refl _) _
  obtain ⟨e0, e1, e2, e3, e4, e5⟩ := six_box hz1
  obtain ⟨j0, j1, j2, j3, j4, j5⟩ := six_box hz0
  have g0 := frozen_box hz1 0
  have g1 := frozen_box hz1 1
  have g2 := frozen_box hz1 2
  have g3 := frozen_box hz1 3
  have g4 := frozen_box hz1 4
  have g5 := frozen_box hz1 5
  have HZ1 : Hid _ := hz1
  clear hy0 hy1 hz0 hz1
  go_wp2_with fail
  try rw [hW2]
  clear d0 d1 d2 d3 d4 d5 f5
  obtain ⟨W3, hW3⟩ : ∃ W3, ((((((W2.setCell ⟨w.heap.size + 1, 0, none⟩ (.int .i64 k)).setCell ⟨w.heap.size + 1, 1, none⟩ (.bool b)).setCell ⟨w.heap.size + 1, 2, none⟩ (.int .i64 i)).setCell ⟨w.heap.size + 1, 3, none⟩ (.string s)).setCell ⟨w.heap.size + 1, 4, none⟩ (.slice an 0 cn)).setCell ⟨w.heap.size + 1, 5, none⟩ (.slice al 0 cl)) = W3 := ⟨_, rfl⟩
  go_wp2_with fail
  try rw [hW3]
  obtain ⟨q1, q2, q3, q4⟩ := set6 _ _ _ _ _ _ HZ1.out hW3
  refine bodyPost_ret (results_cell_row rfl _ W3 (w.heap.size + 1) 49 _ (0, 0) _ rfl q1 Tryz.underlying49 rfl (by kernel_rfl)) rfl ?_
  refine ⟨_, rfl, ?_, q4 _ _ (by omega) hb2⟩
  rw [in_iff]
  exact ⟨_, _, rfl, hk, hi, hs, ⟨an, cn, rfl, by simp, HN.out.1, by simp, by simp, HN.out.2, .inl ⟨rfl, rfl⟩⟩, ⟨al, cl, rfl, by simp, HL.out.1, by simp, HL.out.2, .inl ⟨rfl, rfl⟩⟩⟩
end Go.Proofs.YtamocioljeaicaaGreatDoor.GCf
