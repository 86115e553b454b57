/- The document's Alone, of a node that is neither a text nor a variable. -/
import Derived.Test.YthjbknncbhkinaaGreatDoorTak
import Derived.Test.YthjbknncbhkinaaGreatDoorKQn
namespace Go.Proofs.YthjbknncbhkinaaGreatDoor.KQ3
open Go.Proofs.YthjbknncbhkinaaGreatDoor.Tak
open Go.RowKit Go.Proofs.YthjbknncbhkinaaGreatDoor.Base Go.Proofs.YthjbknncbhkinaaGreatDoor.UBase Go.Proofs.YthjbknncbhkinaaGreatDoor.UValid Go.Proofs.YthjbknncbhkinaaGreatDoor.EPure
open Go.Proofs.YthjbknncbhkinaaGreatDoor.SFit (kd ret_int ret_bool ne)
open Go.Proofs.YthjbknncbhkinaaGreatDoor.STx (tg verr_cases)
open Go.Proofs.YthjbknncbhkinaaGreatDoor.XBase (four_box two_box frozen_box)
open Go.Proofs.YthjbknncbhkinaaGreatDoor.KQv
open Go.Proofs.YthjbknncbhkinaaGreatDoor.KQn
set_option linter.unusedVariables false

set_option maxRecDepth 20000 in
set_option maxHeartbeats 3200000 in
theorem ok_field {o i : Int} {t : ByteArray} {a : Option Addr} {n c : Nat} (hrl : ¬ rl o < 0) (heq : (n : Int) = rk o) (ht : t.size ≤ 140737488351232) (ho : o = 7) (w : World) :
    Calls Tryz.prog 96 #[.agg #[.int .i64 o, .int .i64 i, .string t, .slice a n c]] w fun e w' => e = .returned (.bool (ft o i t)) ∧ Below w.heap.size w w' := by
  obtain ⟨W0, hW0⟩ : ∃ W0, w.alloc (.cells #[.int .i64 o, .int .i64 i, .string t, .slice a n c] 24) = W0 := ⟨_, rfl⟩
  have b0 : Below w.heap.size w W0 := by rw [← hW0]; exact (Below.refl _ w).alloc (Nat.le_refl _) _
  have s0 : W0.heap.size = w.heap.size + 1 := by rw [← hW0]; simp
  have hx : W0.heap[w.heap.size]? = some (.cells #[.int .i64 o, .int .i64 i, .string t, .slice a n c] 24 (0, 0)) := by rw [← hW0]; exact heap_alloc_new w _
  have HX : Hid (W0.heap[w.heap.size]? = some (.cells #[.int .i64 o, .int .i64 i, .string t, .slice a n c] 24 (0, 0)) ∧ W0.heap.size = w.heap.size + 1 ∧ Below w.heap.size w W0) := ⟨hx, s0, b0⟩
  obtain ⟨y0, y1, y2, y3⟩ := four_box hx
  have cL : ∀ W, Calls Tryz.prog 121 #[.int .i64 o] W fun e w' => e = .returned (.int .i64 (rl o)) ∧ Below W.heap.size W w' := fun W => level_c o W
  have cK : ∀ W, Calls Tryz.prog 122 #[.int .i64 o] W fun e w' => e = .returned (.int .i64 (rk o)) ∧ w' = W := kids_c o
  clear hx b0 s0
  obtain ⟨z, hz⟩ : ∃ z, rl o = z := ⟨_, rfl⟩
  rw [hz] at cL hrl
  obtain ⟨k, hk⟩ : ∃ k, rk o = k := ⟨_, rfl⟩
  rw [hk] at cK
  have HL : Hid (∀ W, Calls Tryz.prog 121 #[.int .i64 o] W fun e w' => e = .returned (.int .i64 z) ∧ Below W.heap.size W w') := cL
  have HK : Hid (∀ W, Calls Tryz.prog 122 #[.int .i64 o] W fun e w' => e = .returned (.int .i64 k) ∧ w' = W) := cK
  clear cL cK
  rw [hk] at heq
  have d : decide (z < 0) = false := by simp; omega
  have d2 : ((n : Int) != k) = false := by simp only [bne_eq_false_iff_eq]; exact heq
  clear hz hk hrl heq
  have e4 : (o == 4) = false := by simp [ho]
  have e5 : (o == 5) = false := by simp [ho]
  have e6 : (o == 6) = false := by simp [ho]
  have e7 : (o == 7) = true := by simp [ho]
  have e9 : (o == 9) = false := by simp [ho]
  have HO : Hid (o = 7) := ho
  clear ho
  have HG : Hid (∀ W, Calls Tryz.prog 125 #[.string t] W fun e w' => e = .returned (.bool (word t 95)) ∧ w' = W) := name_c t ht
  go_enter Tryz.func96, Tryz.ntmps96
  go_wp2_with fail
  clear hW0
  refine wp_region_held_drew (S := fun w' => w'.cell? ⟨w.heap.size, 0, none⟩ = some (.int .i64 o) ∧ w'.cell? ⟨w.heap.size, 3, none⟩ = some (.slice a n c)) (by kernel_rfl) (by exact ⟨y0, y3⟩) (fun hHeld => ?_)
  refine wpAnyH_take (i := 0) (v := ?_) rfl (by kernel_rfl) (by kernel_rfl) (by kernel_rfl) (fun _ _ _ h => h) (Or.inl ⟨by rfl, ?_⟩) (by assumption) ?_
  rotate_left 1
  · intro w hSw; (try dsimp only at hSw); go_simp; first | done | with_reducible rfl
  try simp only [ptH]
  refine wpAnyH_take (i := 1) (v := ?_) rfl (by kernel_rfl) (by kernel_rfl) (by kernel_rfl) (fun _ _ _ h => h) (Or.inl ⟨by rfl, ?_⟩) (by assumption) ?_
  rotate_left 1
  · intro w hSw; (try dsimp only at hSw); go_simp; first | done | with_reducible rfl
  try simp only [ptH]
  refine rdH [2] ?_
  refine AllReadyH.cons rfl (fun K hK => ?_) AllReadyH.nil
  go_simp
  go_at_call 121
  refine (HL.out _).mono ?_
  rintro e W1 ⟨rfl, b1⟩
  have HB1 : Hid (Below W0.heap.size W0 W1) := (Below.refl W0.heap.size W0).drew.trans b1
  clear y0 y1 y2 y3 b1
  obtain ⟨y0, y1, y2, y3⟩ := four_box ((HB1.out.block w.heap.size (by have := HX.out.2.1; omega)).trans HX.out.1)
  refine hK.out _ _ (by exact ⟨y0, y3⟩) (fun hHeld => ?_)
  clear hK K
  try simp only [ptH]
  refine wpAnyH_take (i := 3) (v := ?_) rfl (by kernel_rfl) (by kernel_rfl) (by kernel_rfl) (fun _ _ _ h => h) (Or.inl ⟨by rfl, ?_⟩) (by assumption) ?_
  rotate_left 1
  · intro w hSw; (try dsimp only at hSw); go_simp; first | done | with_reducible rfl
  try simp only [ptH]
  refine wpAnyH_take (i := 4) (v := ?_) rfl (by kernel_rfl) (by kernel_rfl) (by kernel_rfl) (fun _ _ _ h => h) (Or.inl ⟨by rfl, ?_⟩) (by assumption) ?_
  rotate_left 1
  · intro w hSw; (try dsimp only at hSw); go_simp; first | done | with_reducible rfl
  try simp only [ptH]
  refine wpAnyH_take (i := 5) (v := ?_) rfl (by kernel_rfl) (by kernel_rfl) (by kernel_rfl) (fun _ _ _ h => h) (Or.inl ⟨by rfl, ?_⟩) (by assumption) ?_
  rotate_left 1
  · intro w hSw; (try dsimp only at hSw); go_simp; first | done | with_reducible rfl
  try simp only [ptH]
  refine wpAnyH_take (i := 6) (v := ?_) rfl (by kernel_rfl) (by kernel_rfl) (by kernel_rfl) (fun _ _ _ h => h) (Or.inl ⟨by rfl, ?_⟩) (by assumption) ?_
  rotate_left 1
  · intro w hSw; (try dsimp only at hSw); go_simp; first | done | with_reducible rfl
  try simp only [ptH]
  refine wpAnyH_take (i := 7) (v := ?_) rfl (by kernel_rfl) (by kernel_rfl) (by kernel_rfl) (fun _ _ _ h => h) (Or.inl ⟨by rfl, ?_⟩) (by assumption) ?_
  rotate_left 1
  · intro w hSw; (try dsimp only at hSw); go_simp; first | done | with_reducible rfl
  try simp only [ptH]
  refine wpAnyH_take (i := 8) (v := ?_) rfl (by kernel_rfl) (by kernel_rfl) (by kernel_rfl) (fun _ _ _ h => h) (Or.inl ⟨by rfl, ?_⟩) (by assumption) ?_
  rotate_left 1
  · intro w hSw; (try dsimp only at hSw); go_simp; first | done | with_reducible rfl
  try simp only [ptH]
  refine wpAnyH_take (i := 9) (v := ?_) rfl (by kernel_rfl) (by kernel_rfl) (by kernel_rfl) (fun _ _ _ h => h) (Or.inl ⟨by rfl, ?_⟩) (by assumption) ?_
  rotate_left 1
  · intro w hSw; (try dsimp only at hSw); go_simp; first | done | with_reducible rfl
  try simp only [ptH]
  refine rdH [10] ?_
  refine AllReadyH.cons rfl (fun K hK => ?_) AllReadyH.nil
  go_simp
  go_at_call 122
  refine (HK.out _).mono ?_
  rintro e w' ⟨rfl, hw'⟩
  subst w'
  refine hK.out _ _ (by exact ⟨y0, y3⟩) (fun hHeld => ?_)
  clear hK K
  try simp only [ptH]
  refine wpAnyH_take (i := 11) (v := ?_) rfl (by kernel_rfl) (by kernel_rfl) (by kernel_rfl) (fun _ _ _ h => h) (Or.inl ⟨by rfl, ?_⟩) (by assumption) ?_
  rotate_left 1
  · intro w hSw; (try dsimp only at hSw); go_simp; first | done | with_reducible rfl
  try simp only [ptH]
  refine wpAnyH_take (i := 12) (v := ?_) rfl (by kernel_rfl) (by kernel_rfl) (by kernel_rfl) (fun _ _ _ h => h) (Or.inl ⟨by rfl, ?_⟩) (by assumption) ?_
  rotate_left 1
  · intro w hSw; (try dsimp only at hSw); go_simp; first | done | with_reducible rfl
  try simp only [ptH]
  refine dnH ?_
  clear hHeld
  go_wp2_with (first | (go_at_call 125; refine (HG.out _).mono ?_; rintro e w' ⟨rfl, hw'⟩; subst w'))
  all_goals
    go_ret
    refine ⟨SFit.ret_bool ?_, HX.out.2.2.trans (HB1.out.mono (by have := HX.out.2.1; omega))⟩
    (try have ho := HO.out)
    (try subst ho)
    simp_all [ft]
end Go.Proofs.YthjbknncbhkinaaGreatDoor.KQ3

namespace Go.Proofs.YthjbknncbhkinaaGreatDoor.KQ5
open Go.Proofs.YthjbknncbhkinaaGreatDoor.Tak
open Go.RowKit Go.Proofs.YthjbknncbhkinaaGreatDoor.Base Go.Proofs.YthjbknncbhkinaaGreatDoor.UBase Go.Proofs.YthjbknncbhkinaaGreatDoor.UValid Go.Proofs.YthjbknncbhkinaaGreatDoor.EPure
open Go.Proofs.YthjbknncbhkinaaGreatDoor.SFit (kd ret_int ret_bool ne)
open Go.Proofs.YthjbknncbhkinaaGreatDoor.STx (tg verr_cases)
open Go.Proofs.YthjbknncbhkinaaGreatDoor.XBase (four_box two_box frozen_box)
open Go.Proofs.YthjbknncbhkinaaGreatDoor.KQv
open Go.Proofs.YthjbknncbhkinaaGreatDoor.KQn
set_option linter.unusedVariables false

set_option maxRecDepth 20000 in
set_option maxHeartbeats 3200000 in
theorem ok_else {o i : Int} {t : ByteArray} {a : Option Addr} {n c : Nat} (hrl : ¬ rl o < 0) (heq : (n : Int) = rk o) (ht : t.size ≤ 140737488351232) (h4 : o ≠ 4) (h5 : o ≠ 5) (h6 : o ≠ 6) (h7 : o ≠ 7) (h9 : o ≠ 9) (w : World) :
    Calls Tryz.prog 96 #[.agg #[.int .i64 o, .int .i64 i, .string t, .slice a n c]] w fun e w' => e = .returned (.bool (ft o i t)) ∧ Below w.heap.size w w' := by
  obtain ⟨W0, hW0⟩ : ∃ W0, w.alloc (.cells #[.int .i64 o, .int .i64 i, .string t, .slice a n c] 24) = W0 := ⟨_, rfl⟩
  have b0 : Below w.heap.size w W0 := by rw [← hW0]; exact (Below.refl _ w).alloc (Nat.le_refl _) _
  have s0 : W0.heap.size = w.heap.size + 1 := by rw [← hW0]; simp
  have hx : W0.heap[w.heap.size]? = some (.cells #[.int .i64 o, .int .i64 i, .string t, .slice a n c] 24 (0, 0)) := by rw [← hW0]; exact heap_alloc_new w _
  have HX : Hid (W0.heap[w.heap.size]? = some (.cells #[.int .i64 o, .int .i64 i, .string t, .slice a n c] 24 (0, 0)) ∧ W0.heap.size = w.heap.size + 1 ∧ Below w.heap.size w W0) := ⟨hx, s0, b0⟩
  obtain ⟨y0, y1, y2, y3⟩ := four_box hx
  have cL : ∀ W, Calls Tryz.prog 121 #[.int .i64 o] W fun e w' => e = .returned (.int .i64 (rl o)) ∧ Below W.heap.size W w' := fun W => level_c o W
  have cK : ∀ W, Calls Tryz.prog 122 #[.int .i64 o] W fun e w' => e = .returned (.int .i64 (rk o)) ∧ w' = W := kids_c o
  clear hx b0 s0
  obtain ⟨z, hz⟩ : ∃ z, rl o = z := ⟨_, rfl⟩
  rw [hz] at cL hrl
  obtain ⟨k, hk⟩ : ∃ k, rk o = k := ⟨_, rfl⟩
  rw [hk] at cK
  have HL : Hid (∀ W, Calls Tryz.prog 121 #[.int .i64 o] W fun e w' => e = .returned (.int .i64 z) ∧ Below W.heap.size W w') := cL
  have HK : Hid (∀ W, Calls Tryz.prog 122 #[.int .i64 o] W fun e w' => e = .returned (.int .i64 k) ∧ w' = W) := cK
  clear cL cK
  rw [hk] at heq
  have d : decide (z < 0) = false := by simp; omega
  have d2 : ((n : Int) != k) = false := by simp only [bne_eq_false_iff_eq]; exact heq
  clear hz hk hrl heq
  have e4 : (o == 4) = false := by simp [h4]
  have e5 : (o == 5) = false := by simp [h5]
  have e6 : (o == 6) = false := by simp [h6]
  have e7 : (o == 7) = false := by simp [h7]
  have e9 : (o == 9) = false := by simp [h9]
  go_enter Tryz.func96, Tryz.ntmps96
  go_wp2_with fail
  clear hW0
  refine wp_region_held_drew (S := fun w' => w'.cell? ⟨w.heap.size, 0, none⟩ = some (.int .i64 o) ∧ w'.cell? ⟨w.heap.size, 3, none⟩ = some (.slice a n c)) (by kernel_rfl) (by exact ⟨y0, y3⟩) (fun hHeld => ?_)
  refine wpAnyH_take (i := 0) (v := ?_) rfl (by kernel_rfl) (by kernel_rfl) (by kernel_rfl) (fun _ _ _ h => h) (Or.inl ⟨by rfl, ?_⟩) (by assumption) ?_
  rotate_left 1
  · intro w hSw; (try dsimp only at hSw); go_simp; first | done | with_reducible rfl
  try simp only [ptH]
  refine wpAnyH_take (i := 1) (v := ?_) rfl (by kernel_rfl) (by kernel_rfl) (by kernel_rfl) (fun _ _ _ h => h) (Or.inl ⟨by rfl, ?_⟩) (by assumption) ?_
  rotate_left 1
  · intro w hSw; (try dsimp only at hSw); go_simp; first | done | with_reducible rfl
  try simp only [ptH]
  refine rdH [2] ?_
  refine AllReadyH.cons rfl (fun K hK => ?_) AllReadyH.nil
  go_simp
  go_at_call 121
  refine (HL.out _).mono ?_
  rintro e W1 ⟨rfl, b1⟩
  have HB1 : Hid (Below W0.heap.size W0 W1) := (Below.refl W0.heap.size W0).drew.trans b1
  clear y0 y1 y2 y3 b1
  obtain ⟨y0, y1, y2, y3⟩ := four_box ((HB1.out.block w.heap.size (by have := HX.out.2.1; omega)).trans HX.out.1)
  refine hK.out _ _ (by exact ⟨y0, y3⟩) (fun hHeld => ?_)
  clear hK K
  try simp only [ptH]
  refine wpAnyH_take (i := 3) (v := ?_) rfl (by kernel_rfl) (by kernel_rfl) (by kernel_rfl) (fun _ _ _ h => h) (Or.inl ⟨by rfl, ?_⟩) (by assumption) ?_
  rotate_left 1
  · intro w hSw; (try dsimp only at hSw); go_simp; first | done | with_reducible rfl
  try simp only [ptH]
  refine wpAnyH_take (i := 4) (v := ?_) rfl (by kernel_rfl) (by kernel_rfl) (by kernel_rfl) (fun _ _ _ h => h) (Or.inl ⟨by rfl, ?_⟩) (by assumption) ?_
  rotate_left 1
  · intro w hSw; (try dsimp only at hSw); go_simp; first | done | with_reducible rfl
  try simp only [ptH]
  refine wpAnyH_take (i := 5) (v := ?_) rfl (by kernel_rfl) (by kernel_rfl) (by kernel_rfl) (fun _ _ _ h => h) (Or.inl ⟨by rfl, ?_⟩) (by assumption) ?_
  rotate_left 1
  · intro w hSw; (try dsimp only at hSw); go_simp; first | done | with_reducible rfl
  try simp only [ptH]
  refine wpAnyH_take (i := 6) (v := ?_) rfl (by kernel_rfl) (by kernel_rfl) (by kernel_rfl) (fun _ _ _ h => h) (Or.inl ⟨by rfl, ?_⟩) (by assumption) ?_
  rotate_left 1
  · intro w hSw; (try dsimp only at hSw); go_simp; first | done | with_reducible rfl
  try simp only [ptH]
  refine wpAnyH_take (i := 7) (v := ?_) rfl (by kernel_rfl) (by kernel_rfl) (by kernel_rfl) (fun _ _ _ h => h) (Or.inl ⟨by rfl, ?_⟩) (by assumption) ?_
  rotate_left 1
  · intro w hSw; (try dsimp only at hSw); go_simp; first | done | with_reducible rfl
  try simp only [ptH]
  refine wpAnyH_take (i := 8) (v := ?_) rfl (by kernel_rfl) (by kernel_rfl) (by kernel_rfl) (fun _ _ _ h => h) (Or.inl ⟨by rfl, ?_⟩) (by assumption) ?_
  rotate_left 1
  · intro w hSw; (try dsimp only at hSw); go_simp; first | done | with_reducible rfl
  try simp only [ptH]
  refine wpAnyH_take (i := 9) (v := ?_) rfl (by kernel_rfl) (by kernel_rfl) (by kernel_rfl) (fun _ _ _ h => h) (Or.inl ⟨by rfl, ?_⟩) (by assumption) ?_
  rotate_left 1
  · intro w hSw; (try dsimp only at hSw); go_simp; first | done | with_reducible rfl
  try simp only [ptH]
  refine rdH [10] ?_
  refine AllReadyH.cons rfl (fun K hK => ?_) AllReadyH.nil
  go_simp
  go_at_call 122
  refine (HK.out _).mono ?_
  rintro e w' ⟨rfl, hw'⟩
  subst w'
  refine hK.out _ _ (by exact ⟨y0, y3⟩) (fun hHeld => ?_)
  clear hK K
  try simp only [ptH]
  refine wpAnyH_take (i := 11) (v := ?_) rfl (by kernel_rfl) (by kernel_rfl) (by kernel_rfl) (fun _ _ _ h => h) (Or.inl ⟨by rfl, ?_⟩) (by assumption) ?_
  rotate_left 1
  · intro w hSw; (try dsimp only at hSw); go_simp; first | done | with_reducible rfl
  try simp only [ptH]
  refine wpAnyH_take (i := 12) (v := ?_) rfl (by kernel_rfl) (by kernel_rfl) (by kernel_rfl) (fun _ _ _ h => h) (Or.inl ⟨by rfl, ?_⟩) (by assumption) ?_
  rotate_left 1
  · intro w hSw; (try dsimp only at hSw); go_simp; first | done | with_reducible rfl
  try simp only [ptH]
  refine dnH ?_
  clear hHeld
  go_wp2_with (fail)
  all_goals
    go_ret
    refine ⟨SFit.ret_bool ?_, HX.out.2.2.trans (HB1.out.mono (by have := HX.out.2.1; omega))⟩
    (try have ho := HO.out)
    (try subst ho)
    have hne := SFit.ne t
    simp_all [ft]
    try (intros; omega)
end Go.Proofs.YthjbknncbhkinaaGreatDoor.KQ5

namespace Go.Proofs.YthjbknncbhkinaaGreatDoor.KQ4
open Go.Proofs.YthjbknncbhkinaaGreatDoor.Tak
open Go.RowKit Go.Proofs.YthjbknncbhkinaaGreatDoor.Base Go.Proofs.YthjbknncbhkinaaGreatDoor.UBase Go.Proofs.YthjbknncbhkinaaGreatDoor.UValid Go.Proofs.YthjbknncbhkinaaGreatDoor.EPure
open Go.Proofs.YthjbknncbhkinaaGreatDoor.SFit (kd ret_int ret_bool ne)
open Go.Proofs.YthjbknncbhkinaaGreatDoor.STx (tg verr_cases)
open Go.Proofs.YthjbknncbhkinaaGreatDoor.XBase (four_box two_box frozen_box)
open Go.Proofs.YthjbknncbhkinaaGreatDoor.KQv
open Go.Proofs.YthjbknncbhkinaaGreatDoor.KQn
set_option linter.unusedVariables false

set_option maxRecDepth 20000 in
set_option maxHeartbeats 3200000 in
theorem ok_call {o i : Int} {t : ByteArray} {a : Option Addr} {n c : Nat} (hrl : ¬ rl o < 0) (heq : (n : Int) = rk o) (ht : t.size ≤ 140737488351232) (ho : o = 9) (w : World) :
    Calls Tryz.prog 96 #[.agg #[.int .i64 o, .int .i64 i, .string t, .slice a n c]] w fun e w' => e = .returned (.bool (ft o i t)) ∧ Below w.heap.size w w' := by
  obtain ⟨W0, hW0⟩ : ∃ W0, w.alloc (.cells #[.int .i64 o, .int .i64 i, .string t, .slice a n c] 24) = W0 := ⟨_, rfl⟩
  have b0 : Below w.heap.size w W0 := by rw [← hW0]; exact (Below.refl _ w).alloc (Nat.le_refl _) _
  have s0 : W0.heap.size = w.heap.size + 1 := by rw [← hW0]; simp
  have hx : W0.heap[w.heap.size]? = some (.cells #[.int .i64 o, .int .i64 i, .string t, .slice a n c] 24 (0, 0)) := by rw [← hW0]; exact heap_alloc_new w _
  have HX : Hid (W0.heap[w.heap.size]? = some (.cells #[.int .i64 o, .int .i64 i, .string t, .slice a n c] 24 (0, 0)) ∧ W0.heap.size = w.heap.size + 1 ∧ Below w.heap.size w W0) := ⟨hx, s0, b0⟩
  obtain ⟨y0, y1, y2, y3⟩ := four_box hx
  have cL : ∀ W, Calls Tryz.prog 121 #[.int .i64 o] W fun e w' => e = .returned (.int .i64 (rl o)) ∧ Below W.heap.size W w' := fun W => level_c o W
  have cK : ∀ W, Calls Tryz.prog 122 #[.int .i64 o] W fun e w' => e = .returned (.int .i64 (rk o)) ∧ w' = W := kids_c o
  clear hx b0 s0
  obtain ⟨z, hz⟩ : ∃ z, rl o = z := ⟨_, rfl⟩
  rw [hz] at cL hrl
  obtain ⟨k, hk⟩ : ∃ k, rk o = k := ⟨_, rfl⟩
  rw [hk] at cK
  have HL : Hid (∀ W, Calls Tryz.prog 121 #[.int .i64 o] W fun e w' => e = .returned (.int .i64 z) ∧ Below W.heap.size W w') := cL
  have HK : Hid (∀ W, Calls Tryz.prog 122 #[.int .i64 o] W fun e w' => e = .returned (.int .i64 k) ∧ w' = W) := cK
  clear cL cK
  rw [hk] at heq
  have d : decide (z < 0) = false := by simp; omega
  have d2 : ((n : Int) != k) = false := by simp only [bne_eq_false_iff_eq]; exact heq
  clear hz hk hrl heq
  have e4 : (o == 4) = false := by simp [ho]
  have e5 : (o == 5) = false := by simp [ho]
  have e6 : (o == 6) = false := by simp [ho]
  have e7 : (o == 7) = false := by simp [ho]
  have e9 : (o == 9) = true := by simp [ho]
  have HO : Hid (o = 9) := ho
  clear ho
  go_enter Tryz.func96, Tryz.ntmps96
  go_wp2_with fail
  clear hW0
  refine wp_region_held_drew (S := fun w' => w'.cell? ⟨w.heap.size, 0, none⟩ = some (.int .i64 o) ∧ w'.cell? ⟨w.heap.size, 3, none⟩ = some (.slice a n c)) (by kernel_rfl) (by exact ⟨y0, y3⟩) (fun hHeld => ?_)
  refine wpAnyH_take (i := 0) (v := ?_) rfl (by kernel_rfl) (by kernel_rfl) (by kernel_rfl) (fun _ _ _ h => h) (Or.inl ⟨by rfl, ?_⟩) (by assumption) ?_
  rotate_left 1
  · intro w hSw; (try dsimp only at hSw); go_simp; first | done | with_reducible rfl
  try simp only [ptH]
  refine wpAnyH_take (i := 1) (v := ?_) rfl (by kernel_rfl) (by kernel_rfl) (by kernel_rfl) (fun _ _ _ h => h) (Or.inl ⟨by rfl, ?_⟩) (by assumption) ?_
  rotate_left 1
  · intro w hSw; (try dsimp only at hSw); go_simp; first | done | with_reducible rfl
  try simp only [ptH]
  refine rdH [2] ?_
  refine AllReadyH.cons rfl (fun K hK => ?_) AllReadyH.nil
  go_simp
  go_at_call 121
  refine (HL.out _).mono ?_
  rintro e W1 ⟨rfl, b1⟩
  have HB1 : Hid (Below W0.heap.size W0 W1) := (Below.refl W0.heap.size W0).drew.trans b1
  clear y0 y1 y2 y3 b1
  obtain ⟨y0, y1, y2, y3⟩ := four_box ((HB1.out.block w.heap.size (by have := HX.out.2.1; omega)).trans HX.out.1)
  refine hK.out _ _ (by exact ⟨y0, y3⟩) (fun hHeld => ?_)
  clear hK K
  try simp only [ptH]
  refine wpAnyH_take (i := 3) (v := ?_) rfl (by kernel_rfl) (by kernel_rfl) (by kernel_rfl) (fun _ _ _ h => h) (Or.inl ⟨by rfl, ?_⟩) (by assumption) ?_
  rotate_left 1
  · intro w hSw; (try dsimp only at hSw); go_simp; first | done | with_reducible rfl
  try simp only [ptH]
  refine wpAnyH_take (i := 4) (v := ?_) rfl (by kernel_rfl) (by kernel_rfl) (by kernel_rfl) (fun _ _ _ h => h) (Or.inl ⟨by rfl, ?_⟩) (by assumption) ?_
  rotate_left 1
  · intro w hSw; (try dsimp only at hSw); go_simp; first | done | with_reducible rfl
  try simp only [ptH]
  refine wpAnyH_take (i := 5) (v := ?_) rfl (by kernel_rfl) (by kernel_rfl) (by kernel_rfl) (fun _ _ _ h => h) (Or.inl ⟨by rfl, ?_⟩) (by assumption) ?_
  rotate_left 1
  · intro w hSw; (try dsimp only at hSw); go_simp; first | done | with_reducible rfl
  try simp only [ptH]
  refine wpAnyH_take (i := 6) (v := ?_) rfl (by kernel_rfl) (by kernel_rfl) (by kernel_rfl) (fun _ _ _ h => h) (Or.inl ⟨by rfl, ?_⟩) (by assumption) ?_
  rotate_left 1
  · intro w hSw; (try dsimp only at hSw); go_simp; first | done | with_reducible rfl
  try simp only [ptH]
  refine wpAnyH_take (i := 7) (v := ?_) rfl (by kernel_rfl) (by kernel_rfl) (by kernel_rfl) (fun _ _ _ h => h) (Or.inl ⟨by rfl, ?_⟩) (by assumption) ?_
  rotate_left 1
  · intro w hSw; (try dsimp only at hSw); go_simp; first | done | with_reducible rfl
  try simp only [ptH]
  refine wpAnyH_take (i := 8) (v := ?_) rfl (by kernel_rfl) (by kernel_rfl) (by kernel_rfl) (fun _ _ _ h => h) (Or.inl ⟨by rfl, ?_⟩) (by assumption) ?_
  rotate_left 1
  · intro w hSw; (try dsimp only at hSw); go_simp; first | done | with_reducible rfl
  try simp only [ptH]
  refine wpAnyH_take (i := 9) (v := ?_) rfl (by kernel_rfl) (by kernel_rfl) (by kernel_rfl) (fun _ _ _ h => h) (Or.inl ⟨by rfl, ?_⟩) (by assumption) ?_
  rotate_left 1
  · intro w hSw; (try dsimp only at hSw); go_simp; first | done | with_reducible rfl
  try simp only [ptH]
  refine rdH [10] ?_
  refine AllReadyH.cons rfl (fun K hK => ?_) AllReadyH.nil
  go_simp
  go_at_call 122
  refine (HK.out _).mono ?_
  rintro e w' ⟨rfl, hw'⟩
  subst w'
  refine hK.out _ _ (by exact ⟨y0, y3⟩) (fun hHeld => ?_)
  clear hK K
  try simp only [ptH]
  refine wpAnyH_take (i := 11) (v := ?_) rfl (by kernel_rfl) (by kernel_rfl) (by kernel_rfl) (fun _ _ _ h => h) (Or.inl ⟨by rfl, ?_⟩) (by assumption) ?_
  rotate_left 1
  · intro w hSw; (try dsimp only at hSw); go_simp; first | done | with_reducible rfl
  try simp only [ptH]
  refine wpAnyH_take (i := 12) (v := ?_) rfl (by kernel_rfl) (by kernel_rfl) (by kernel_rfl) (fun _ _ _ h => h) (Or.inl ⟨by rfl, ?_⟩) (by assumption) ?_
  rotate_left 1
  · intro w hSw; (try dsimp only at hSw); go_simp; first | done | with_reducible rfl
  try simp only [ptH]
  refine dnH ?_
  clear hHeld
  go_wp2_with (fail)
  all_goals
    go_ret
    refine ⟨SFit.ret_bool ?_, HX.out.2.2.trans (HB1.out.mono (by have := HX.out.2.1; omega))⟩
    (try have ho := HO.out)
    (try subst ho)
    have hne := SFit.ne t
    simp_all [ft]
    try (intros; omega)
end Go.Proofs.YthjbknncbhkinaaGreatDoor.KQ4

namespace Go.Proofs.YthjbknncbhkinaaGreatDoor.KQ0
open Go.Proofs.YthjbknncbhkinaaGreatDoor.Tak
open Go.RowKit Go.Proofs.YthjbknncbhkinaaGreatDoor.Base Go.Proofs.YthjbknncbhkinaaGreatDoor.UBase Go.Proofs.YthjbknncbhkinaaGreatDoor.UValid Go.Proofs.YthjbknncbhkinaaGreatDoor.EPure
open Go.Proofs.YthjbknncbhkinaaGreatDoor.SFit (kd ret_int ret_bool ne)
open Go.Proofs.YthjbknncbhkinaaGreatDoor.STx (tg verr_cases)
open Go.Proofs.YthjbknncbhkinaaGreatDoor.XBase (four_box two_box frozen_box)
open Go.Proofs.YthjbknncbhkinaaGreatDoor.KQv
open Go.Proofs.YthjbknncbhkinaaGreatDoor.KQn
set_option linter.unusedVariables false

set_option maxRecDepth 20000 in
set_option maxHeartbeats 3200000 in
theorem ok_int {o i : Int} {t : ByteArray} {a : Option Addr} {n c : Nat} (hrl : ¬ rl o < 0) (heq : (n : Int) = rk o) (ht : t.size ≤ 140737488351232) (ho : o = 4) (w : World) :
    Calls Tryz.prog 96 #[.agg #[.int .i64 o, .int .i64 i, .string t, .slice a n c]] w fun e w' => e = .returned (.bool (ft o i t)) ∧ Below w.heap.size w w' := by
  obtain ⟨W0, hW0⟩ : ∃ W0, w.alloc (.cells #[.int .i64 o, .int .i64 i, .string t, .slice a n c] 24) = W0 := ⟨_, rfl⟩
  have b0 : Below w.heap.size w W0 := by rw [← hW0]; exact (Below.refl _ w).alloc (Nat.le_refl _) _
  have s0 : W0.heap.size = w.heap.size + 1 := by rw [← hW0]; simp
  have hx : W0.heap[w.heap.size]? = some (.cells #[.int .i64 o, .int .i64 i, .string t, .slice a n c] 24 (0, 0)) := by rw [← hW0]; exact heap_alloc_new w _
  have HX : Hid (W0.heap[w.heap.size]? = some (.cells #[.int .i64 o, .int .i64 i, .string t, .slice a n c] 24 (0, 0)) ∧ W0.heap.size = w.heap.size + 1 ∧ Below w.heap.size w W0) := ⟨hx, s0, b0⟩
  obtain ⟨y0, y1, y2, y3⟩ := four_box hx
  have cL : ∀ W, Calls Tryz.prog 121 #[.int .i64 o] W fun e w' => e = .returned (.int .i64 (rl o)) ∧ Below W.heap.size W w' := fun W => level_c o W
  have cK : ∀ W, Calls Tryz.prog 122 #[.int .i64 o] W fun e w' => e = .returned (.int .i64 (rk o)) ∧ w' = W := kids_c o
  clear hx b0 s0
  obtain ⟨z, hz⟩ : ∃ z, rl o = z := ⟨_, rfl⟩
  rw [hz] at cL hrl
  obtain ⟨k, hk⟩ : ∃ k, rk o = k := ⟨_, rfl⟩
  rw [hk] at cK
  have HL : Hid (∀ W, Calls Tryz.prog 121 #[.int .i64 o] W fun e w' => e = .returned (.int .i64 z) ∧ Below W.heap.size W w') := cL
  have HK : Hid (∀ W, Calls Tryz.prog 122 #[.int .i64 o] W fun e w' => e = .returned (.int .i64 k) ∧ w' = W) := cK
  clear cL cK
  rw [hk] at heq
  have d : decide (z < 0) = false := by simp; omega
  have d2 : ((n : Int) != k) = false := by simp only [bne_eq_false_iff_eq]; exact heq
  clear hz hk hrl heq
  have e4 : (o == 4) = true := by simp [ho]
  have e5 : (o == 5) = false := by simp [ho]
  have e6 : (o == 6) = false := by simp [ho]
  have e7 : (o == 7) = false := by simp [ho]
  have e9 : (o == 9) = false := by simp [ho]
  have HO : Hid (o = 4) := ho
  clear ho
  go_enter Tryz.func96, Tryz.ntmps96
  go_wp2_with fail
  clear hW0
  refine wp_region_held_drew (S := fun w' => w'.cell? ⟨w.heap.size, 0, none⟩ = some (.int .i64 o) ∧ w'.cell? ⟨w.heap.size, 3, none⟩ = some (.slice a n c)) (by kernel_rfl) (by exact ⟨y0, y3⟩) (fun hHeld => ?_)
  refine wpAnyH_take (i := 0) (v := ?_) rfl (by kernel_rfl) (by kernel_rfl) (by kernel_rfl) (fun _ _ _ h => h) (Or.inl ⟨by rfl, ?_⟩) (by assumption) ?_
  rotate_left 1
  · intro w hSw; (try dsimp only at hSw); go_simp; first | done | with_reducible rfl
  try simp only [ptH]
  refine wpAnyH_take (i := 1) (v := ?_) rfl (by kernel_rfl) (by kernel_rfl) (by kernel_rfl) (fun _ _ _ h => h) (Or.inl ⟨by rfl, ?_⟩) (by assumption) ?_
  rotate_left 1
  · intro w hSw; (try dsimp only at hSw); go_simp; first | done | with_reducible rfl
  try simp only [ptH]
  refine rdH [2] ?_
  refine AllReadyH.cons rfl (fun K hK => ?_) AllReadyH.nil
  go_simp
  go_at_call 121
  refine (HL.out _).mono ?_
  rintro e W1 ⟨rfl, b1⟩
  have HB1 : Hid (Below W0.heap.size W0 W1) := (Below.refl W0.heap.size W0).drew.trans b1
  clear y0 y1 y2 y3 b1
  obtain ⟨y0, y1, y2, y3⟩ := four_box ((HB1.out.block w.heap.size (by have := HX.out.2.1; omega)).trans HX.out.1)
  refine hK.out _ _ (by exact ⟨y0, y3⟩) (fun hHeld => ?_)
  clear hK K
  try simp only [ptH]
  refine wpAnyH_take (i := 3) (v := ?_) rfl (by kernel_rfl) (by kernel_rfl) (by kernel_rfl) (fun _ _ _ h => h) (Or.inl ⟨by rfl, ?_⟩) (by assumption) ?_
  rotate_left 1
  · intro w hSw; (try dsimp only at hSw); go_simp; first | done | with_reducible rfl
  try simp only [ptH]
  refine wpAnyH_take (i := 4) (v := ?_) rfl (by kernel_rfl) (by kernel_rfl) (by kernel_rfl) (fun _ _ _ h => h) (Or.inl ⟨by rfl, ?_⟩) (by assumption) ?_
  rotate_left 1
  · intro w hSw; (try dsimp only at hSw); go_simp; first | done | with_reducible rfl
  try simp only [ptH]
  refine wpAnyH_take (i := 5) (v := ?_) rfl (by kernel_rfl) (by kernel_rfl) (by kernel_rfl) (fun _ _ _ h => h) (Or.inl ⟨by rfl, ?_⟩) (by assumption) ?_
  rotate_left 1
  · intro w hSw; (try dsimp only at hSw); go_simp; first | done | with_reducible rfl
  try simp only [ptH]
  refine wpAnyH_take (i := 6) (v := ?_) rfl (by kernel_rfl) (by kernel_rfl) (by kernel_rfl) (fun _ _ _ h => h) (Or.inl ⟨by rfl, ?_⟩) (by assumption) ?_
  rotate_left 1
  · intro w hSw; (try dsimp only at hSw); go_simp; first | done | with_reducible rfl
  try simp only [ptH]
  refine wpAnyH_take (i := 7) (v := ?_) rfl (by kernel_rfl) (by kernel_rfl) (by kernel_rfl) (fun _ _ _ h => h) (Or.inl ⟨by rfl, ?_⟩) (by assumption) ?_
  rotate_left 1
  · intro w hSw; (try dsimp only at hSw); go_simp; first | done | with_reducible rfl
  try simp only [ptH]
  refine wpAnyH_take (i := 8) (v := ?_) rfl (by kernel_rfl) (by kernel_rfl) (by kernel_rfl) (fun _ _ _ h => h) (Or.inl ⟨by rfl, ?_⟩) (by assumption) ?_
  rotate_left 1
  · intro w hSw; (try dsimp only at hSw); go_simp; first | done | with_reducible rfl
  try simp only [ptH]
  refine wpAnyH_take (i := 9) (v := ?_) rfl (by kernel_rfl) (by kernel_rfl) (by kernel_rfl) (fun _ _ _ h => h) (Or.inl ⟨by rfl, ?_⟩) (by assumption) ?_
  rotate_left 1
  · intro w hSw; (try dsimp only at hSw); go_simp; first | done | with_reducible rfl
  try simp only [ptH]
  refine rdH [10] ?_
  refine AllReadyH.cons rfl (fun K hK => ?_) AllReadyH.nil
  go_simp
  go_at_call 122
  refine (HK.out _).mono ?_
  rintro e w' ⟨rfl, hw'⟩
  subst w'
  refine hK.out _ _ (by exact ⟨y0, y3⟩) (fun hHeld => ?_)
  clear hK K
  try simp only [ptH]
  refine wpAnyH_take (i := 11) (v := ?_) rfl (by kernel_rfl) (by kernel_rfl) (by kernel_rfl) (fun _ _ _ h => h) (Or.inl ⟨by rfl, ?_⟩) (by assumption) ?_
  rotate_left 1
  · intro w hSw; (try dsimp only at hSw); go_simp; first | done | with_reducible rfl
  try simp only [ptH]
  refine wpAnyH_take (i := 12) (v := ?_) rfl (by kernel_rfl) (by kernel_rfl) (by kernel_rfl) (fun _ _ _ h => h) (Or.inl ⟨by rfl, ?_⟩) (by assumption) ?_
  rotate_left 1
  · intro w hSw; (try dsimp only at hSw); go_simp; first | done | with_reducible rfl
  try simp only [ptH]
  refine dnH ?_
  clear hHeld
  go_wp2_with (fail)
  all_goals
    go_ret
    refine ⟨SFit.ret_bool ?_, HX.out.2.2.trans (HB1.out.mono (by have := HX.out.2.1; omega))⟩
    (try have ho := HO.out)
    (try subst ho)
    have hne := SFit.ne t
    simp_all [ft]
    try (intros; omega)
end Go.Proofs.YthjbknncbhkinaaGreatDoor.KQ0

namespace Go.Proofs.YthjbknncbhkinaaGreatDoor.KQp
open Go.RowKit Go.Proofs.YthjbknncbhkinaaGreatDoor.Base Go.Proofs.YthjbknncbhkinaaGreatDoor.UBase Go.Proofs.YthjbknncbhkinaaGreatDoor.UValid Go.Proofs.YthjbknncbhkinaaGreatDoor.EPure
open Go.Proofs.YthjbknncbhkinaaGreatDoor.SFit (kd ret_int ret_bool ne)
open Go.Proofs.YthjbknncbhkinaaGreatDoor.STx (tg verr_cases)
open Go.Proofs.YthjbknncbhkinaaGreatDoor.XBase (four_box two_box frozen_box)
open Go.Proofs.YthjbknncbhkinaaGreatDoor.KQv
open Go.Proofs.YthjbknncbhkinaaGreatDoor.KQn Go.Proofs.YthjbknncbhkinaaGreatDoor.KQ0 Go.Proofs.YthjbknncbhkinaaGreatDoor.KQ3 Go.Proofs.YthjbknncbhkinaaGreatDoor.KQ4 Go.Proofs.YthjbknncbhkinaaGreatDoor.KQ5
set_option linter.unusedVariables false

theorem alone_c {o i : Int} {t : ByteArray} {a : Option Addr} {n c : Nat} (ht : t.size ≤ 140737488351232) (h5 : o ≠ 5) (h6 : o ≠ 6) (w : World) :
    Calls Tryz.prog 96 #[.agg #[.int .i64 o, .int .i64 i, .string t, .slice a n c]] w fun e w' => e = .returned (.bool (an o i t n)) ∧ Below w.heap.size w w' := by
  by_cases hrl : rl o < 0
  · rw [an_neg hrl]; exact try_neg hrl w
  have hk := rk_kd (o := o) (by omega)
  by_cases hn : (n : Int) = rk o
  · rw [an_ok (by rw [← hk]; exact hn)]
    by_cases h4 : o = 4
    · exact ok_int hrl hn ht h4 w
    by_cases h7 : o = 7
    · exact ok_field hrl hn ht h7 w
    by_cases h9 : o = 9
    · exact ok_call hrl hn ht h9 w
    exact ok_else hrl hn ht h4 h5 h6 h7 h9 w
  · rw [an_not (by rw [← hk]; exact hn)]
    exact try_not hrl hn w
end Go.Proofs.YthjbknncbhkinaaGreatDoor.KQp
