/- What every program answers that is one: contract of awake. -/
import Derived.Test.YtkjgbmoimobgaaaIMoves
import Derived.Laws.ResultCell
namespace Go.Proofs.Ytkjgbmoimobgaaa.IAw
open Go.RowKit Go.Proofs.Ytkjgbmoimobgaaa.IPure Go.Proofs.Ytkjgbmoimobgaaa.IBase Go.Proofs.Ytkjgbmoimobgaaa.IInts Go.Proofs.Ytkjgbmoimobgaaa.IKey Go.Proofs.Ytkjgbmoimobgaaa.IKrow Go.Proofs.Ytkjgbmoimobgaaa.ILong Go.Proofs.Ytkjgbmoimobgaaa.IMoves
set_option linter.unusedVariables false

theorem key_c (i : Int) (w : World) : Calls Try.prog 24 #[.int .i64 i] w fun e w' => e = .returned (.agg #[.int .i64 3, .int .i64 i, .string ⟨#[]⟩]) ∧ Below w.heap.size w w' := by
  go_enter Try.func24, Try.ntmps24
  go_wp2_with fail
  refine bodyPost_ret (results_cell_row rfl _ _ w.heap.size 44 #[.int .i64 3, .int .i64 i, .string ⟨#[]⟩] (0, 0) _ rfl (heap_alloc_new w _) Try.underlying44 rfl (by kernel_rfl)) rfl ⟨rfl, (Below.refl _ w).alloc (Nat.le_refl _) _⟩
theorem num_c (x : Int) (w : World) : Calls Try.prog 18 #[.int .i64 x] w fun e w' => e = .returned (.int .i64 x) ∧ w' = w := by
  go_enter Try.func18, Try.ntmps18
  go_wp2_with fail
  go_ret
  exact ⟨rfl, rfl⟩
def kA : List Ky := [(3, 1, ⟨#[]⟩), (3, 2, ⟨#[]⟩), (3, 3, ⟨#[]⟩)]
def kB : List Ky := [(3, 3, ⟨#[]⟩), (3, 1, ⟨#[]⟩), (3, 2, ⟨#[]⟩)]
theorem bestA : (ro (K [5, 1, 6, 2]) fun k => (fin [5, 1, 6, 2] k : Int)) = [0, 2] := by decide
theorem mvA : mv kA kB = (3, 1, 0) := by decide
theorem okA : OkL kA := by
  refine ⟨fun x hx => ?_, by decide⟩
  simp [kA] at hx
  rcases hx with rfl | rfl | rfl <;> exact ⟨by decide, by decide, by decide⟩
theorem okB : OkL kB := by
  refine ⟨fun x hx => ?_, by decide⟩
  simp [kB] at hx
  rcases hx with rfl | rfl | rfl <;> exact ⟨by decide, by decide, by decide⟩
theorem ix_new (w : World) (L : List Int) (hl : L.length ≤ 100) : Ix (w.alloc (.cells (L.map (Value.int .i64)).toArray 3)) (.slice (some ⟨w.heap.size, 0, none⟩) L.length L.length) L := by
  refine ⟨_, _, rfl, Nat.le_refl _, by omega, (fun h => by cases h), .inr ⟨_, _, rfl, fun j hj => ?_⟩⟩
  have := new_cells w (L.map (Value.int .i64)) 3 j (.int .i64 L[j]) (by simp [hj])
  rwa [add_none] at this
def flatK (L : List Ky) : List Value := L.flatMap fun x => [.int .i64 x.1, .int .i64 x.2.1, .string x.2.2]
theorem flatK_append (a b : List Ky) : flatK (a ++ b) = flatK a ++ flatK b := by simp [flatK]
theorem flatK_len (L : List Ky) : (flatK L).length = L.length * 3 := by
  induction L with
  | nil => rfl
  | cons t L ih =>
    simp only [flatK, List.flatMap_cons, List.length_append, List.length_cons] at ih ⊢
    rw [ih]
    simp
    omega
theorem flatK_get (L : List Ky) : ∀ (j : Nat) (hj : j < L.length), (flatK L)[j * 3]? = some (.int .i64 L[j].1) ∧ (flatK L)[j * 3 + 1]? = some (.int .i64 L[j].2.1) ∧ (flatK L)[j * 3 + 2]? = some (.string L[j].2.2) := by
  induction L with
  | nil => intro j hj; simp at hj
  | cons t L ih =>
    intro j hj
    have e : flatK (t :: L) = [.int .i64 t.1, .int .i64 t.2.1, .string t.2.2] ++ flatK L := by simp [flatK]
    rw [e]
    cases j with
    | zero => simp
    | succ j =>
      rw [List.getElem?_append_right (by simp; omega), List.getElem?_append_right (by simp; omega), List.getElem?_append_right (by simp; omega)]
      have h := ih j (by simpa using hj)
      simp only [List.length_cons, List.length_nil]
      rw [show (j + 1) * 3 - (0 + 1 + 1 + 1) = j * 3 by omega, show (j + 1) * 3 + 1 - (0 + 1 + 1 + 1) = j * 3 + 1 by omega, show (j + 1) * 3 + 2 - (0 + 1 + 1 + 1) = j * 3 + 2 by omega]
      exact h
theorem one_keys (L : List Ky) : ∀ u ∈ flatK L, u.oneCell' = true := by
  intro u hu
  obtain ⟨t, _, h⟩ := List.mem_flatMap.1 hu
  simp at h
  rcases h with rfl | rfl | rfl <;> rfl
theorem kx_new (w : World) (L : List Ky) (hl : L.length ≤ 100) : Kx (w.alloc (.cells (flatK L).toArray 44)) (.slice (some ⟨w.heap.size, 0, none⟩) L.length L.length) L := by
  refine ⟨_, _, rfl, Nat.le_refl _, by omega, (fun h => by cases h), .inr ⟨_, _, rfl, fun j hj => ?_⟩⟩
  obtain ⟨h1, h2, h3⟩ := flatK_get L j hj
  have k1 := new_cells w (flatK L) 44 _ _ h1
  have k2 := new_cells w (flatK L) 44 _ _ h2
  have k3 := new_cells w (flatK L) 44 _ _ h3
  rw [add_none] at k1 k2 k3
  exact ⟨k1, k2, k3⟩
theorem awake_c (w : World) : Calls Try.prog 14 #[] w fun e w' => e = .returned (.bool true) ∧ Below w.heap.size w w' := by
  have hb0 : Below w.heap.size w (w.alloc (.cells #[.int .i64 5, .int .i64 1, .int .i64 6, .int .i64 2] 3)) := (Below.refl _ w).alloc (Nat.le_refl _) _
  have c1 := long_c (ix_new w [5, 1, 6, 2] (by decide)) (by decide)
  rw [bestA] at c1
  have cK : Hid (∀ i w, Calls Try.prog 24 #[.int .i64 i] w fun e w' => e = .returned (.agg #[.int .i64 3, .int .i64 i, .string ⟨#[]⟩]) ∧ Below w.heap.size w w') := key_c
  go_enter Try.func14, Try.ntmps14
  go_wp2_with (first
    | (go_at_call 9; refine c1.mono ?_; clear c1; rintro e w1 ⟨u, rfl, hO, hb1⟩))
  refine (key_c 1 _).mono ?_
  rintro e w2 ⟨rfl, hb2⟩
  go_wp2_with fail
  refine (key_c 2 _).mono ?_
  rintro e w3 ⟨rfl, hb3⟩
  go_wp2_with fail
  refine (key_c 3 _).mono ?_
  rintro e w4 ⟨rfl, hb4⟩
  go_wp2_with fail
  refine (key_c 3 _).mono ?_
  rintro e w5 ⟨rfl, hb5⟩
  go_wp2_with fail
  refine (key_c 1 _).mono ?_
  rintro e w6 ⟨rfl, hb6⟩
  go_wp2_with fail
  refine (key_c 2 _).mono ?_
  rintro e w7 ⟨rfl, hb7⟩
  have kx1 := (kx_new w4 kA (by decide)).below hb5
  have kx1 := (kx1.below hb6).below hb7
  have bb7 : Below w7.heap.size w7 (w7.alloc (.cells (flatK kB).toArray 44)) := (Below.refl _ w7).alloc (Nat.le_refl _) _
  have kx1 := kx1.below bb7
  have kx2 := kx_new w7 kB (by decide)
  have cM := moves_c kx1 kx2 okA okB
  rw [mvA] at cM
  go_wp2_with fail
  refine cM.mono ?_
  rintro e w8 ⟨rfl, hb8⟩
  have hO8 : Oi w8 _ u [0, 2] := ((((((hO.below hb2).below hb3).below hb4).below ((Below.refl _ w4).alloc (Nat.le_refl _) _)).below hb5).below hb6).below hb7 |>.below bb7 |>.below hb8
  have cS := sameI_c (hO8.ix.below ((Below.refl _ w8).alloc (Nat.le_refl _) (.cells #[.int .i64 0, .int .i64 2] 3))) (ix_new w8 [0, 2] (by decide))
  rw [decide_eq_true rfl] at cS
  clear cM kx1 kx2
  go_wp2_with (first
    | (go_at_call 11; refine cS.mono ?_; rintro e w9 ⟨rfl, hb9⟩)
    | (go_at_call 18; refine (num_c _ _).mono ?_; rintro e w9 ⟨rfl, rfl⟩))
  go_ret
  have B1 := nx hb0 hb1
  have B4 := nx (nx (nx B1 hb2) hb3) hb4
  have B5 := nx B4 ((Below.refl _ w4).alloc (Nat.le_refl _) (.cells (flatK kA).toArray 44))
  have B7 := nx (nx (nx B5 hb5) hb6) hb7
  have B8 := nx (nx B7 bb7) hb8
  have B9 := nx B8 ((Below.refl _ w8).alloc (Nat.le_refl _) (.cells #[.int .i64 0, .int .i64 2] 3))
  exact ⟨rfl, nx B9 hb9⟩
end Go.Proofs.Ytkjgbmoimobgaaa.IAw
