import Derived.Test.YtghnhkagkngjcaaGreatDoorPN20
import Derived.Test.YtghnhkagkngjcaaGreatDoorPN43
set_option linter.unusedVariables false
set_option maxRecDepth 20000
set_option maxHeartbeats 3200000
namespace Go.Proofs.YtghnhkagkngjcaaGreatDoor.QAo3
open Go.RowKit Base UBase EPure ENd PPl PFit QLv QAl QAn
open XBase (four_box two_box frozen_box)
theorem ok_field {o i : Int} {t : ByteArray} {a : Option Addr} {n c : Nat} (hrl : ¬ rl o < 0) (heq : (n : Int) = rk o) (ht : t.size ≤ 140737488351232) (ho : o = 7) (w : World) :
  Calls Tryz.prog 32 #[.agg #[.int .i64 o, .int .i64 i, .string t, .slice a n c]] w fun e w' => e = .returned (.bool (ft o i t)) ∧ Below w.heap.size w w' := by
 obtain ⟨W0, hW0⟩ : ∃ W0, w.alloc (.cells #[.int .i64 o, .int .i64 i, .string t, .slice a n c] 24) = W0 := ⟨_, rfl⟩
 have b0 : Below w.heap.size w W0 := by rw [← hW0]; exact (Below.refl _ w).alloc (Nat.le_refl _) _
 have s0 : W0.heap.size = w.heap.size + 1 := by rw [← hW0]; simp
 have hx : W0.heap[w.heap.size]? = some (.cells #[.int .i64 o, .int .i64 i, .string t, .slice a n c] 24 (0, 0)) := by rw [← hW0]; exact heap_alloc_new w _
 have HX : Hid (W0.heap[w.heap.size]? = some (.cells #[.int .i64 o, .int .i64 i, .string t, .slice a n c] 24 (0, 0)) ∧ W0.heap.size = w.heap.size + 1 ∧ Below w.heap.size w W0) := ⟨hx, s0, b0⟩
 obtain ⟨y0, y1, y2, y3⟩ := four_box hx
 have cL : ∀ W, Calls Tryz.prog 49 #[.int .i64 o] W fun e w' => e = .returned (.int .i64 (rl o)) ∧ Below W.heap.size W w' := fun W => level_c o W
 have cK : ∀ W, Calls Tryz.prog 50 #[.int .i64 o] W fun e w' => e = .returned (.int .i64 (rk o)) ∧ w' = W := kids_c o
 clear hx b0 s0
 obtain ⟨z, hz⟩ : ∃ z, rl o = z := ⟨_, rfl⟩
 rw [hz] at cL hrl
 obtain ⟨k, hk⟩ : ∃ k, rk o = k := ⟨_, rfl⟩
 rw [hk] at cK
 have HL : Hid (∀ W, Calls Tryz.prog 49 #[.int .i64 o] W fun e w' => e = .returned (.int .i64 z) ∧ Below W.heap.size W w') := cL
 have HK : Hid (∀ W, Calls Tryz.prog 50 #[.int .i64 o] W fun e w' => e = .returned (.int .i64 k) ∧ w' = W) := cK
 clear cL cK
 rw [hk] at heq
 have d : decide (z < 0) = false := by simp; omega
 have d2 : ((n : Int) != k) = false := by simp only [bne_eq_false_iff_eq]; exact heq
 clear hz hk hrl heq
 have e4 : (o == 4) = false := by simp [ho]
 have e5 : (o == 5) = false := by simp [ho]
 have e6 : (o == 6) = false := by simp [ho]
 have e7 : (o == 7) = true := by simp [ho]
 have e9 : (o == 9) = false := by simp [ho]
 have HO : Hid (o = 7) := ho
 clear ho
 have HG : Hid (∀ W, Calls Tryz.prog 54 #[.string t] W fun e w' => e = .returned (.bool (word t 95)) ∧ w' = W) := name_c t ht
 go_enter Tryz.func32, Tryz.ntmps32
 go_wp2_with fail
 clear hW0
 refine wp_region_held_drew (S := fun w' => w'.cell? ⟨w.heap.size, 0, none⟩ = some (.int .i64 o) ∧ w'.cell? ⟨w.heap.size, 3, none⟩ = some (.slice a n c)) (by kernel_rfl) (by exact ⟨y0, y3⟩) (fun hHeld => ?_)
 refine wpAnyH_take (i := 0) (v := ?_) rfl (by kernel_rfl) (by kernel_rfl) (by kernel_rfl) (fun _ _ _ h => h) (Or.inl ⟨by rfl, ?_⟩) (by assumption) ?_
 rotate_left 1
 ·intro w hSw; (try dsimp only at hSw); go_simp; first | done | with_reducible rfl
 try simp only [Act.put, zA, zB, zD, zE, zF]
 refine wpAnyH_take (i := 1) (v := ?_) rfl (by kernel_rfl) (by kernel_rfl) (by kernel_rfl) (fun _ _ _ h => h) (Or.inl ⟨by rfl, ?_⟩) (by assumption) ?_
 rotate_left 1
 ·intro w hSw; (try dsimp only at hSw); go_simp; first | done | with_reducible rfl
 try simp only [Act.put, zA, zB, zC, zD, zE, zF]
 refine wpAnyH_ready (rs := [2]) (by kernel_rfl) (by simp) ?_
 refine AllReadyH.cons rfl (fun K hK => ?_) AllReadyH.nil
 go_simp
 go_at_call 49
 refine (HL.out _).mono ?_
 rintro e W1 ⟨rfl, b1⟩
 have HB1 : Hid (Below W0.heap.size W0 W1) := (Below.refl W0.heap.size W0).drew.trans b1
 clear y0 y1 y2 y3 b1
 obtain ⟨y0, y1, y2, y3⟩ := four_box ((HB1.out.block w.heap.size (by have := HX.out.2.1; omega)).trans HX.out.1)
 refine hK.out _ _ (by exact ⟨y0, y3⟩) (fun hHeld => ?_)
 clear hK K
 try simp only [Act.put, zA, zB, zC, zD, zE, zF]
 refine wpAnyH_take (i := 3) (v := ?_) rfl (by kernel_rfl) (by kernel_rfl) (by kernel_rfl) (fun _ _ _ h => h) (Or.inl ⟨by rfl, ?_⟩) (by assumption) ?_
 rotate_left 1
 ·intro w hSw; (try dsimp only at hSw); go_simp; first | done | with_reducible rfl
 try simp only [Act.put, zA, zB, zC, zD, zE, zF]
 refine wpAnyH_take (i := 4) (v := ?_) rfl (by kernel_rfl) (by kernel_rfl) (by kernel_rfl) (fun _ _ _ h => h) (Or.inl ⟨by rfl, ?_⟩) (by assumption) ?_
 rotate_left 1
 ·intro w hSw; (try dsimp only at hSw); go_simp; first | done | with_reducible rfl
 try simp only [Act.put, zA, zB, zC, zD, zE, zF]
 refine wpAnyH_take (i := 5) (v := ?_) rfl (by kernel_rfl) (by kernel_rfl) (by kernel_rfl) (fun _ _ _ h => h) (Or.inl ⟨by rfl, ?_⟩) (by assumption) ?_
 rotate_left 1
 ·intro w hSw; (try dsimp only at hSw); go_simp; first | done | with_reducible rfl
 try simp only [Act.put, zA, zB, zC, zD, zE, zF]
 refine wpAnyH_take (i := 6) (v := ?_) rfl (by kernel_rfl) (by kernel_rfl) (by kernel_rfl) (fun _ _ _ h => h) (Or.inl ⟨by rfl, ?_⟩) (by assumption) ?_
 rotate_left 1
 ·intro w hSw; (try dsimp only at hSw); go_simp; first | done | with_reducible rfl
 try simp only [Act.put, zA, zB, zC, zD, zE, zF]
 refine wpAnyH_take (i := 7) (v := ?_) rfl (by kernel_rfl) (by kernel_rfl) (by kernel_rfl) (fun _ _ _ h => h) (Or.inl ⟨by rfl, ?_⟩) (by assumption) ?_
 rotate_left 1
 ·intro w hSw; (try dsimp only at hSw); go_simp; first | done | with_reducible rfl
 try simp only [Act.put, zA, zB, zC, zD, zE, zF]
 refine wpAnyH_take (i := 8) (v := ?_) rfl (by kernel_rfl) (by kernel_rfl) (by kernel_rfl) (fun _ _ _ h => h) (Or.inl ⟨by rfl, ?_⟩) (by assumption) ?_
 rotate_left 1
 ·intro w hSw; (try dsimp only at hSw); go_simp; first | done | with_reducible rfl
 try simp only [Act.put, zA, zB, zC, zD, zE, zF]
 refine wpAnyH_take (i := 9) (v := ?_) rfl (by kernel_rfl) (by kernel_rfl) (by kernel_rfl) (fun _ _ _ h => h) (Or.inl ⟨by rfl, ?_⟩) (by assumption) ?_
 rotate_left 1
 ·intro w hSw; (try dsimp only at hSw); go_simp; first | done | with_reducible rfl
 try simp only [Act.put, zA, zB, zC, zD, zE, zF]
 refine wpAnyH_ready (rs := [10]) (by kernel_rfl) (by simp) ?_
 refine AllReadyH.cons rfl (fun K hK => ?_) AllReadyH.nil
 go_simp
 go_at_call 50
 refine (HK.out _).mono ?_
 rintro e w' ⟨rfl, hw'⟩
 subst w'
 refine hK.out _ _ (by exact ⟨y0, y3⟩) (fun hHeld => ?_)
 clear hK K
 try simp only [Act.put, zA, zB, zC, zD, zE, zF]
 refine wpAnyH_take (i := 11) (v := ?_) rfl (by kernel_rfl) (by kernel_rfl) (by kernel_rfl) (fun _ _ _ h => h) (Or.inl ⟨by rfl, ?_⟩) (by assumption) ?_
 rotate_left 1
 ·intro w hSw; (try dsimp only at hSw); go_simp; first | done | with_reducible rfl
 try simp only [Act.put, zA, zB, zC, zD, zE, zF]
 refine wpAnyH_take (i := 12) (v := ?_) rfl (by kernel_rfl) (by kernel_rfl) (by kernel_rfl) (fun _ _ _ h => h) (Or.inl ⟨by rfl, ?_⟩) (by assumption) ?_
 rotate_left 1
 ·intro w hSw; (try dsimp only at hSw); go_simp; first | done | with_reducible rfl
 try simp only [Act.put, zA, zB, zC, zD, zE, zF]
 refine wpAnyH_done (by kernel_rfl) ?_ _
 clear hHeld
 go_wp2_with (first | (go_at_call 54; refine (HG.out _).mono ?_; rintro e w' ⟨rfl, hw'⟩; subst w'))
 all_goals
  go_ret
  refine ⟨SFit.ret_bool ?_, HX.out.2.2.trans (HB1.out.mono (by have := HX.out.2.1; omega))⟩
  (try have ho := HO.out)
  (try subst ho)
  simp_all [ft]
end Go.Proofs.YtghnhkagkngjcaaGreatDoor.QAo3
namespace Go.Proofs.YtghnhkagkngjcaaGreatDoor.QAo4
open Go.RowKit Base UBase EPure ENd PPl PFit QLv QAl QAn
open XBase (four_box two_box frozen_box)
theorem ok_call {o i : Int} {t : ByteArray} {a : Option Addr} {n c : Nat} (hrl : ¬ rl o < 0) (heq : (n : Int) = rk o) (ht : t.size ≤ 140737488351232) (ho : o = 9) (w : World) :
  Calls Tryz.prog 32 #[.agg #[.int .i64 o, .int .i64 i, .string t, .slice a n c]] w fun e w' => e = .returned (.bool (ft o i t)) ∧ Below w.heap.size w w' := by
 obtain ⟨W0, hW0⟩ : ∃ W0, w.alloc (.cells #[.int .i64 o, .int .i64 i, .string t, .slice a n c] 24) = W0 := ⟨_, rfl⟩
 have b0 : Below w.heap.size w W0 := by rw [← hW0]; exact (Below.refl _ w).alloc (Nat.le_refl _) _
 have s0 : W0.heap.size = w.heap.size + 1 := by rw [← hW0]; simp
 have hx : W0.heap[w.heap.size]? = some (.cells #[.int .i64 o, .int .i64 i, .string t, .slice a n c] 24 (0, 0)) := by rw [← hW0]; exact heap_alloc_new w _
 have HX : Hid (W0.heap[w.heap.size]? = some (.cells #[.int .i64 o, .int .i64 i, .string t, .slice a n c] 24 (0, 0)) ∧ W0.heap.size = w.heap.size + 1 ∧ Below w.heap.size w W0) := ⟨hx, s0, b0⟩
 obtain ⟨y0, y1, y2, y3⟩ := four_box hx
 have cL : ∀ W, Calls Tryz.prog 49 #[.int .i64 o] W fun e w' => e = .returned (.int .i64 (rl o)) ∧ Below W.heap.size W w' := fun W => level_c o W
 have cK : ∀ W, Calls Tryz.prog 50 #[.int .i64 o] W fun e w' => e = .returned (.int .i64 (rk o)) ∧ w' = W := kids_c o
 clear hx b0 s0
 obtain ⟨z, hz⟩ : ∃ z, rl o = z := ⟨_, rfl⟩
 rw [hz] at cL hrl
 obtain ⟨k, hk⟩ : ∃ k, rk o = k := ⟨_, rfl⟩
 rw [hk] at cK
 have HL : Hid (∀ W, Calls Tryz.prog 49 #[.int .i64 o] W fun e w' => e = .returned (.int .i64 z) ∧ Below W.heap.size W w') := cL
 have HK : Hid (∀ W, Calls Tryz.prog 50 #[.int .i64 o] W fun e w' => e = .returned (.int .i64 k) ∧ w' = W) := cK
 clear cL cK
 rw [hk] at heq
 have d : decide (z < 0) = false := by simp; omega
 have d2 : ((n : Int) != k) = false := by simp only [bne_eq_false_iff_eq]; exact heq
 clear hz hk hrl heq
 have e4 : (o == 4) = false := by simp [ho]
 have e5 : (o == 5) = false := by simp [ho]
 have e6 : (o == 6) = false := by simp [ho]
 have e7 : (o == 7) = false := by simp [ho]
 have e9 : (o == 9) = true := by simp [ho]
 have HO : Hid (o = 9) := ho
 clear ho
 go_enter Tryz.func32, Tryz.ntmps32
 go_wp2_with fail
 clear hW0
 refine wp_region_held_drew (S := fun w' => w'.cell? ⟨w.heap.size, 0, none⟩ = some (.int .i64 o) ∧ w'.cell? ⟨w.heap.size, 3, none⟩ = some (.slice a n c)) (by kernel_rfl) (by exact ⟨y0, y3⟩) (fun hHeld => ?_)
 refine wpAnyH_take (i := 0) (v := ?_) rfl (by kernel_rfl) (by kernel_rfl) (by kernel_rfl) (fun _ _ _ h => h) (Or.inl ⟨by rfl, ?_⟩) (by assumption) ?_
 rotate_left 1
 ·intro w hSw; (try dsimp only at hSw); go_simp; first | done | with_reducible rfl
 try simp only [Act.put, zA, zB, zD, zE, zF]
 refine wpAnyH_take (i := 1) (v := ?_) rfl (by kernel_rfl) (by kernel_rfl) (by kernel_rfl) (fun _ _ _ h => h) (Or.inl ⟨by rfl, ?_⟩) (by assumption) ?_
 rotate_left 1
 ·intro w hSw; (try dsimp only at hSw); go_simp; first | done | with_reducible rfl
 try simp only [Act.put, zA, zB, zC, zD, zE, zF]
 refine wpAnyH_ready (rs := [2]) (by kernel_rfl) (by simp) ?_
 refine AllReadyH.cons rfl (fun K hK => ?_) AllReadyH.nil
 go_simp
 go_at_call 49
 refine (HL.out _).mono ?_
 rintro e W1 ⟨rfl, b1⟩
 have HB1 : Hid (Below W0.heap.size W0 W1) := (Below.refl W0.heap.size W0).drew.trans b1
 clear y0 y1 y2 y3 b1
 obtain ⟨y0, y1, y2, y3⟩ := four_box ((HB1.out.block w.heap.size (by have := HX.out.2.1; omega)).trans HX.out.1)
 refine hK.out _ _ (by exact ⟨y0, y3⟩) (fun hHeld => ?_)
 clear hK K
 try simp only [Act.put, zA, zB, zC, zD, zE, zF]
 refine wpAnyH_take (i := 3) (v := ?_) rfl (by kernel_rfl) (by kernel_rfl) (by kernel_rfl) (fun _ _ _ h => h) (Or.inl ⟨by rfl, ?_⟩) (by assumption) ?_
 rotate_left 1
 ·intro w hSw; (try dsimp only at hSw); go_simp; first | done | with_reducible rfl
 try simp only [Act.put, zA, zB, zC, zD, zE, zF]
 refine wpAnyH_take (i := 4) (v := ?_) rfl (by kernel_rfl) (by kernel_rfl) (by kernel_rfl) (fun _ _ _ h => h) (Or.inl ⟨by rfl, ?_⟩) (by assumption) ?_
 rotate_left 1
 ·intro w hSw; (try dsimp only at hSw); go_simp; first | done | with_reducible rfl
 try simp only [Act.put, zA, zB, zC, zD, zE, zF]
 refine wpAnyH_take (i := 5) (v := ?_) rfl (by kernel_rfl) (by kernel_rfl) (by kernel_rfl) (fun _ _ _ h => h) (Or.inl ⟨by rfl, ?_⟩) (by assumption) ?_
 rotate_left 1
 ·intro w hSw; (try dsimp only at hSw); go_simp; first | done | with_reducible rfl
 try simp only [Act.put, zA, zB, zC, zD, zE, zF]
 refine wpAnyH_take (i := 6) (v := ?_) rfl (by kernel_rfl) (by kernel_rfl) (by kernel_rfl) (fun _ _ _ h => h) (Or.inl ⟨by rfl, ?_⟩) (by assumption) ?_
 rotate_left 1
 ·intro w hSw; (try dsimp only at hSw); go_simp; first | done | with_reducible rfl
 try simp only [Act.put, zA, zB, zC, zD, zE, zF]
 refine wpAnyH_take (i := 7) (v := ?_) rfl (by kernel_rfl) (by kernel_rfl) (by kernel_rfl) (fun _ _ _ h => h) (Or.inl ⟨by rfl, ?_⟩) (by assumption) ?_
 rotate_left 1
 ·intro w hSw; (try dsimp only at hSw); go_simp; first | done | with_reducible rfl
 try simp only [Act.put, zA, zB, zC, zD, zE, zF]
 refine wpAnyH_take (i := 8) (v := ?_) rfl (by kernel_rfl) (by kernel_rfl) (by kernel_rfl) (fun _ _ _ h => h) (Or.inl ⟨by rfl, ?_⟩) (by assumption) ?_
 rotate_left 1
 ·intro w hSw; (try dsimp only at hSw); go_simp; first | done | with_reducible rfl
 try simp only [Act.put, zA, zB, zC, zD, zE, zF]
 refine wpAnyH_take (i := 9) (v := ?_) rfl (by kernel_rfl) (by kernel_rfl) (by kernel_rfl) (fun _ _ _ h => h) (Or.inl ⟨by rfl, ?_⟩) (by assumption) ?_
 rotate_left 1
 ·intro w hSw; (try dsimp only at hSw); go_simp; first | done | with_reducible rfl
 try simp only [Act.put, zA, zB, zC, zD, zE, zF]
 refine wpAnyH_ready (rs := [10]) (by kernel_rfl) (by simp) ?_
 refine AllReadyH.cons rfl (fun K hK => ?_) AllReadyH.nil
 go_simp
 go_at_call 50
 refine (HK.out _).mono ?_
 rintro e w' ⟨rfl, hw'⟩
 subst w'
 refine hK.out _ _ (by exact ⟨y0, y3⟩) (fun hHeld => ?_)
 clear hK K
 try simp only [Act.put, zA, zB, zC, zD, zE, zF]
 refine wpAnyH_take (i := 11) (v := ?_) rfl (by kernel_rfl) (by kernel_rfl) (by kernel_rfl) (fun _ _ _ h => h) (Or.inl ⟨by rfl, ?_⟩) (by assumption) ?_
 rotate_left 1
 ·intro w hSw; (try dsimp only at hSw); go_simp; first | done | with_reducible rfl
 try simp only [Act.put, zA, zB, zC, zD, zE, zF]
 refine wpAnyH_take (i := 12) (v := ?_) rfl (by kernel_rfl) (by kernel_rfl) (by kernel_rfl) (fun _ _ _ h => h) (Or.inl ⟨by rfl, ?_⟩) (by assumption) ?_
 rotate_left 1
 ·intro w hSw; (try dsimp only at hSw); go_simp; first | done | with_reducible rfl
 try simp only [Act.put, zA, zB, zC, zD, zE, zF]
 refine wpAnyH_done (by kernel_rfl) ?_ _
 clear hHeld
 go_wp2_with (fail)
 all_goals
  go_ret
  refine ⟨SFit.ret_bool ?_, HX.out.2.2.trans (HB1.out.mono (by have := HX.out.2.1; omega))⟩
  (try have ho := HO.out)
  (try subst ho)
  have hne := SFit.ne t
  simp_all [ft]
  try (intros; omega)
end Go.Proofs.YtghnhkagkngjcaaGreatDoor.QAo4
namespace Go.Proofs.YtghnhkagkngjcaaGreatDoor.QAo5
open Go.RowKit Base UBase EPure ENd PPl PFit QLv QAl QAn
open XBase (four_box two_box frozen_box)
theorem ok_else {o i : Int} {t : ByteArray} {a : Option Addr} {n c : Nat} (hrl : ¬ rl o < 0) (heq : (n : Int) = rk o) (ht : t.size ≤ 140737488351232) (h4 : o ≠ 4) (h5 : o ≠ 5) (h6 : o ≠ 6) (h7 : o ≠ 7) (h9 : o ≠ 9) (w : World) :
  Calls Tryz.prog 32 #[.agg #[.int .i64 o, .int .i64 i, .string t, .slice a n c]] w fun e w' => e = .returned (.bool (ft o i t)) ∧ Below w.heap.size w w' := by
 obtain ⟨W0, hW0⟩ : ∃ W0, w.alloc (.cells #[.int .i64 o, .int .i64 i, .string t, .slice a n c] 24) = W0 := ⟨_, rfl⟩
 have b0 : Below w.heap.size w W0 := by rw [← hW0]; exact (Below.refl _ w).alloc (Nat.le_refl _) _
 have s0 : W0.heap.size = w.heap.size + 1 := by rw [← hW0]; simp
 have hx : W0.heap[w.heap.size]? = some (.cells #[.int .i64 o, .int .i64 i, .string t, .slice a n c] 24 (0, 0)) := by rw [← hW0]; exact heap_alloc_new w _
 have HX : Hid (W0.heap[w.heap.size]? = some (.cells #[.int .i64 o, .int .i64 i, .string t, .slice a n c] 24 (0, 0)) ∧ W0.heap.size = w.heap.size + 1 ∧ Below w.heap.size w W0) := ⟨hx, s0, b0⟩
 obtain ⟨y0, y1, y2, y3⟩ := four_box hx
 have cL : ∀ W, Calls Tryz.prog 49 #[.int .i64 o] W fun e w' => e = .returned (.int .i64 (rl o)) ∧ Below W.heap.size W w' := fun W => level_c o W
 have cK : ∀ W, Calls Tryz.prog 50 #[.int .i64 o] W fun e w' => e = .returned (.int .i64 (rk o)) ∧ w' = W := kids_c o
 clear hx b0 s0
 obtain ⟨z, hz⟩ : ∃ z, rl o = z := ⟨_, rfl⟩
 rw [hz] at cL hrl
 obtain ⟨k, hk⟩ : ∃ k, rk o = k := ⟨_, rfl⟩
 rw [hk] at cK
 have HL : Hid (∀ W, Calls Tryz.prog 49 #[.int .i64 o] W fun e w' => e = .returned (.int .i64 z) ∧ Below W.heap.size W w') := cL
 have HK : Hid (∀ W, Calls Tryz.prog 50 #[.int .i64 o] W fun e w' => e = .returned (.int .i64 k) ∧ w' = W) := cK
 clear cL cK
 rw [hk] at heq
 have d : decide (z < 0) = false := by simp; omega
 have d2 : ((n : Int) != k) = false := by simp only [bne_eq_false_iff_eq]; exact heq
 clear hz hk hrl heq
 have e4 : (o == 4) = false := by simp [h4]
 have e5 : (o == 5) = false := by simp [h5]
 have e6 : (o == 6) = false := by simp [h6]
 have e7 : (o == 7) = false := by simp [h7]
 have e9 : (o == 9) = false := by simp [h9]
 go_enter Tryz.func32, Tryz.ntmps32
 go_wp2_with fail
 clear hW0
 refine wp_region_held_drew (S := fun w' => w'.cell? ⟨w.heap.size, 0, none⟩ = some (.int .i64 o) ∧ w'.cell? ⟨w.heap.size, 3, none⟩ = some (.slice a n c)) (by kernel_rfl) (by exact ⟨y0, y3⟩) (fun hHeld => ?_)
 refine wpAnyH_take (i := 0) (v := ?_) rfl (by kernel_rfl) (by kernel_rfl) (by kernel_rfl) (fun _ _ _ h => h) (Or.inl ⟨by rfl, ?_⟩) (by assumption) ?_
 rotate_left 1
 ·intro w hSw; (try dsimp only at hSw); go_simp; first | done | with_reducible rfl
 try simp only [Act.put, zA, zB, zD, zE, zF]
 refine wpAnyH_take (i := 1) (v := ?_) rfl (by kernel_rfl) (by kernel_rfl) (by kernel_rfl) (fun _ _ _ h => h) (Or.inl ⟨by rfl, ?_⟩) (by assumption) ?_
 rotate_left 1
 ·intro w hSw; (try dsimp only at hSw); go_simp; first | done | with_reducible rfl
 try simp only [Act.put, zA, zB, zC, zD, zE, zF]
 refine wpAnyH_ready (rs := [2]) (by kernel_rfl) (by simp) ?_
 refine AllReadyH.cons rfl (fun K hK => ?_) AllReadyH.nil
 go_simp
 go_at_call 49
 refine (HL.out _).mono ?_
 rintro e W1 ⟨rfl, b1⟩
 have HB1 : Hid (Below W0.heap.size W0 W1) := (Below.refl W0.heap.size W0).drew.trans b1
 clear y0 y1 y2 y3 b1
 obtain ⟨y0, y1, y2, y3⟩ := four_box ((HB1.out.block w.heap.size (by have := HX.out.2.1; omega)).trans HX.out.1)
 refine hK.out _ _ (by exact ⟨y0, y3⟩) (fun hHeld => ?_)
 clear hK K
 try simp only [Act.put, zA, zB, zC, zD, zE, zF]
 refine wpAnyH_take (i := 3) (v := ?_) rfl (by kernel_rfl) (by kernel_rfl) (by kernel_rfl) (fun _ _ _ h => h) (Or.inl ⟨by rfl, ?_⟩) (by assumption) ?_
 rotate_left 1
 ·intro w hSw; (try dsimp only at hSw); go_simp; first | done | with_reducible rfl
 try simp only [Act.put, zA, zB, zC, zD, zE, zF]
 refine wpAnyH_take (i := 4) (v := ?_) rfl (by kernel_rfl) (by kernel_rfl) (by kernel_rfl) (fun _ _ _ h => h) (Or.inl ⟨by rfl, ?_⟩) (by assumption) ?_
 rotate_left 1
 ·intro w hSw; (try dsimp only at hSw); go_simp; first | done | with_reducible rfl
 try simp only [Act.put, zA, zB, zC, zD, zE, zF]
 refine wpAnyH_take (i := 5) (v := ?_) rfl (by kernel_rfl) (by kernel_rfl) (by kernel_rfl) (fun _ _ _ h => h) (Or.inl ⟨by rfl, ?_⟩) (by assumption) ?_
 rotate_left 1
 ·intro w hSw; (try dsimp only at hSw); go_simp; first | done | with_reducible rfl
 try simp only [Act.put, zA, zB, zC, zD, zE, zF]
 refine wpAnyH_take (i := 6) (v := ?_) rfl (by kernel_rfl) (by kernel_rfl) (by kernel_rfl) (fun _ _ _ h => h) (Or.inl ⟨by rfl, ?_⟩) (by assumption) ?_
 rotate_left 1
 ·intro w hSw; (try dsimp only at hSw); go_simp; first | done | with_reducible rfl
 try simp only [Act.put, zA, zB, zC, zD, zE, zF]
 refine wpAnyH_take (i := 7) (v := ?_) rfl (by kernel_rfl) (by kernel_rfl) (by kernel_rfl) (fun _ _ _ h => h) (Or.inl ⟨by rfl, ?_⟩) (by assumption) ?_
 rotate_left 1
 ·intro w hSw; (try dsimp only at hSw); go_simp; first | done | with_reducible rfl
 try simp only [Act.put, zA, zB, zC, zD, zE, zF]
 refine wpAnyH_take (i := 8) (v := ?_) rfl (by kernel_rfl) (by kernel_rfl) (by kernel_rfl) (fun _ _ _ h => h) (Or.inl ⟨by rfl, ?_⟩) (by assumption) ?_
 rotate_left 1
 ·intro w hSw; (try dsimp only at hSw); go_simp; first | done | with_reducible rfl
 try simp only [Act.put, zA, zB, zC, zD, zE, zF]
 refine wpAnyH_take (i := 9) (v := ?_) rfl (by kernel_rfl) (by kernel_rfl) (by kernel_rfl) (fun _ _ _ h => h) (Or.inl ⟨by rfl, ?_⟩) (by assumption) ?_
 rotate_left 1
 ·intro w hSw; (try dsimp only at hSw); go_simp; first | done | with_reducible rfl
 try simp only [Act.put, zA, zB, zC, zD, zE, zF]
 refine wpAnyH_ready (rs := [10]) (by kernel_rfl) (by simp) ?_
 refine AllReadyH.cons rfl (fun K hK => ?_) AllReadyH.nil
 go_simp
 go_at_call 50
 refine (HK.out _).mono ?_
 rintro e w' ⟨rfl, hw'⟩
 subst w'
 refine hK.out _ _ (by exact ⟨y0, y3⟩) (fun hHeld => ?_)
 clear hK K
 try simp only [Act.put, zA, zB, zC, zD, zE, zF]
 refine wpAnyH_take (i := 11) (v := ?_) rfl (by kernel_rfl) (by kernel_rfl) (by kernel_rfl) (fun _ _ _ h => h) (Or.inl ⟨by rfl, ?_⟩) (by assumption) ?_
 rotate_left 1
 ·intro w hSw; (try dsimp only at hSw); go_simp; first | done | with_reducible rfl
 try simp only [Act.put, zA, zB, zC, zD, zE, zF]
 refine wpAnyH_take (i := 12) (v := ?_) rfl (by kernel_rfl) (by kernel_rfl) (by kernel_rfl) (fun _ _ _ h => h) (Or.inl ⟨by rfl, ?_⟩) (by assumption) ?_
 rotate_left 1
 ·intro w hSw; (try dsimp only at hSw); go_simp; first | done | with_reducible rfl
 try simp only [Act.put, zA, zB, zC, zD, zE, zF]
 refine wpAnyH_done (by kernel_rfl) ?_ _
 clear hHeld
 go_wp2_with (fail)
 all_goals
  go_ret
  refine ⟨SFit.ret_bool ?_, HX.out.2.2.trans (HB1.out.mono (by have := HX.out.2.1; omega))⟩
  (try have ho := HO.out)
  (try subst ho)
  have hne := SFit.ne t
  simp_all [ft]
  try (intros; omega)
end Go.Proofs.YtghnhkagkngjcaaGreatDoor.QAo5
namespace Go.Proofs.YtghnhkagkngjcaaGreatDoor.QAp
open Go.RowKit Base UBase EPure ENd PPl PFit QLv QAl QAn QAo0 QAo1 QAo2 QAo3 QAo4 QAo5
open XBase (four_box two_box frozen_box)
theorem alone_c {o i : Int} {t : ByteArray} {a : Option Addr} {n c : Nat} (ht : t.size ≤ 140737488351232) (w : World) :
  Calls Tryz.prog 32 #[.agg #[.int .i64 o, .int .i64 i, .string t, .slice a n c]] w fun e w' => e = .returned (.bool (an o i t n)) ∧ Below w.heap.size w w' := by
 by_cases hrl : rl o < 0
 ·rw [an_neg hrl]; exact try_neg hrl w
 have hk := rk_kd (o := o) (by omega)
 by_cases hn : (n : Int) = rk o
 ·rw [an_ok (by rw [← hk]; exact hn)]
  by_cases h4 : o = 4
  ·exact ok_int hrl hn ht h4 w
  by_cases h5 : o = 5
  ·exact ok_text hrl hn ht h5 w
  by_cases h6 : o = 6
  ·exact ok_var hrl hn ht h6 w
  by_cases h7 : o = 7
  ·exact ok_field hrl hn ht h7 w
  by_cases h9 : o = 9
  ·exact ok_call hrl hn ht h9 w
  exact ok_else hrl hn ht h4 h5 h6 h7 h9 w
 ·rw [an_not (by rw [← hk]; exact hn)]
  exact try_not hrl hn w
end Go.Proofs.YtghnhkagkngjcaaGreatDoor.QAp
namespace Go.Proofs.YtghnhkagkngjcaaGreatDoor.QMn
open Go.RowKit EPure PPl PFit PMay QAn QAp
open XBase (In InL in_iff LAt Four elem_at four_below four_box)
open Base (nx All heap_alloc_new)
def Mn (m : Nat) : Prop := ∀ (v : Value) (x : Ex) (k : Nat) (w : World), k ≤ 512 → In false All w m v x →
  Calls Tryz.prog 23 #[v, .int .i64 k] w fun e w' => e = .returned (.tuple #[.int .i64 ((512 - (mayL [x] (512 - k)).2 : Nat) : Int), .bool (mayL [x] (512 - k)).1]) ∧ Below w.heap.size w w'
theorem le_may (l : List Ex) (r : Nat) : (mayL l r).2 ≤ r := mayL_le _ l r (Nat.le_refl _)
theorem mn_of (m : Nat) (ih : Mn m) : Mn (m + 1) := by
 intro v x k w hk h
 obtain ⟨o, i, s, l⟩ := x
 rw [in_iff] at h
 obtain ⟨lv, rfl, ho, hi, hs, a, cap, rfl, hl, hcap, hlen, ha, hL⟩ := h
 have H : Hid (Mn m) := ih
 obtain ⟨W0, hW0⟩ : ∃ W0, w.alloc (.cells #[.int .i64 o, .int .i64 i, .string s, .slice a l.length cap] 24) = W0 := ⟨_, rfl⟩
 have b0 : Below w.heap.size w W0 := by rw [← hW0]; exact (Below.refl _ w).alloc (Nat.le_refl _) _
 have s0 : W0.heap.size = w.heap.size + 1 := by rw [← hW0]; simp
 have hx : W0.heap[w.heap.size]? = some (.cells #[.int .i64 o, .int .i64 i, .string s, .slice a l.length cap] 24 (0, 0)) := by rw [← hW0]; exact heap_alloc_new w _
 have HX : Hid (W0.heap[w.heap.size]? = some (.cells #[.int .i64 o, .int .i64 i, .string s, .slice a l.length cap] 24 (0, 0)) ∧ W0.heap.size = w.heap.size + 1 ∧ Below w.heap.size w W0) := ⟨hx, s0, b0⟩
 have cA := alone_c (o := o) (i := i) (a := a) (n := l.length) (c := cap) hs W0
 obtain ⟨y0, y1, y2, y3⟩ := four_box hx
 clear ih hx s0 b0
 by_cases h512 : 512 ≤ k
 ·obtain rfl : k = 512 := by omega
  have hm : mayL [.mk o i s l] (512 - 512) = (false, 0) := mayL_no (.inl rfl)
  rw [hm]
  clear cA hL
  go_enter Tryz.func23, Tryz.ntmps23
  go_wp2_with fail
  go_ret2
  exact ⟨rfl, HX.out.2.2⟩
 have dk : decide ((512 : Int) ≤ (k : Int)) = false := by simp; omega
 cases han : an o i s l.length with
 | false =>
  have hm : mayL [.mk o i s l] (512 - k) = (false, 512 - k) := by
   refine mayL_no (.inr ?_)
   unfold an at han
   by_cases hkd : (l.length : Int) = kd o
   ·right
    rw [decide_eq_true hkd, Bool.true_and] at han
    exact han
   ·exact .inl hkd
  rw [hm]
  rw [han] at cA
  have e5 : ((512 - (512 - k) : Nat) : Int) = k := by omega
  simp only [e5]
  clear hL hm han e5
  go_enter Tryz.func23, Tryz.ntmps23
  go_wp2_with fail
  refine cA.mono ?_
  rintro e W1 ⟨rfl, b1⟩
  have HB1 : Hid (Below w.heap.size w W1) := HX.out.2.2.trans (b1.mono (by have := HX.out.2.1; omega))
  clear cA b1 y0 y1 y2 y3
  go_wp2_with fail
  go_ret2
  exact ⟨rfl, HB1.out⟩
 | true =>
  have hm : mayL [.mk o i s l] (512 - k) = mayL l (512 - k - 1) := by
   refine mayL_one ?_
   unfold an at han
   simp only [Bool.and_eq_true, decide_eq_true_eq] at han
   rintro (h | h | h)
   ·omega
   ·exact h han.1
   ·rw [han.2] at h; cases h
  rw [hm]
  rw [han] at cA
  obtain ⟨T, hT⟩ : ∃ T, mayL l (512 - k - 1) = T := ⟨_, rfl⟩
  rw [hT]
  have HT : Hid (mayL l (512 - k - 1) = T) := hT
  clear hm hT han
  go_enter Tryz.func23, Tryz.ntmps23
  go_wp2_with fail
  refine cA.mono ?_
  rintro e W1 ⟨rfl, b1⟩
  have HB1 : Hid (Below W0.heap.size W0 W1) := b1
  clear cA b1 y0 y1 y2 y3
  go_wp2_with fail
  clear hW0
  go_loopw [1, 6, 7] (fun kv ok iv wr => ∃ (q rq : Nat) (b : Bool), kv = .int .i64 ((512 - rq : Nat) : Int) ∧ ok = .bool b ∧ iv = .int .i64 q ∧ q ≤ l.length ∧ rq ≤ 511 ∧ T = (if b = true then mayL (l.drop q) rq else (false, rq)) ∧ Below W0.heap.size W0 wr) (fun _ _ iv _ => l.length - (intOf iv).toNat)
  case atStart => exact ⟨0, 512 - k - 1, true, by rw [show ((512 - (512 - k - 1) : Nat) : Int) = (k : Int) + 1 by omega], rfl, rfl, by omega, by omega, by rw [if_pos rfl, List.drop_zero]; exact HT.out.symm, HB1.out⟩
  case round =>
   clear HT HB1
   obtain ⟨q, rq, b, rfl, rfl, rfl, hq, hrq, hT, hb⟩ := hrel
   have HTq : Hid (T = (if b = true then mayL (l.drop q) rq else (false, rq))) := hT
   obtain ⟨y0, y1, y2, y3⟩ := four_box ((hb.block w.heap.size (by have := HX.out.2.1; omega)).trans HX.out.1)
   have hbw : Below w.heap.size w wr := HX.out.2.2.trans (hb.mono (by have := HX.out.2.1; omega))
   have HB : Hid (Below W0.heap.size W0 wr ∧ Below w.heap.size w wr) := ⟨hb, hbw⟩
   clear hT
   by_cases hlt : q < l.length
   ·have dl : decide ((q : Int) < (l.length : Int)) = true := by simp; omega
    cases b with
    | false =>
     obtain ⟨rfl⟩ : T = (false, rq) := HTq.out
     clear hL hb hbw
     go_wp2_with fail
     go_ret2
     exact ⟨rfl, HB.out.2⟩
    | true =>
     obtain ⟨g, o', u, rfl, -, hu, hin⟩ := elem_at hL hlt
     have hu := four_below hu hbw
     have c1 := H.out u l[q] (512 - rq) wr (by omega) (hin.below hbw)
     rw [show 512 - (512 - rq) = rq by omega] at c1
     have hle := le_may [l[q]] rq
     have HS : Hid (T = if (mayL [l[q]] rq).1 = true then mayL (l.drop (q + 1)) (mayL [l[q]] rq).2 else mayL [l[q]] rq) := by
      show _ = _
      rw [HTq.out, if_pos rfl, List.drop_eq_getElem_cons hlt, mayL_cons]
     obtain ⟨b', r', hbr⟩ : ∃ b' r', mayL [l[q]] rq = (b', r') := ⟨_, _, rfl⟩
     rw [hbr] at c1 HS hle
     simp only at c1 HS hle
     have HS2 : Hid (T = if b' = true then mayL (l.drop (q + 1)) r' else (false, r')) := by
      show _ = _
      rw [HS.out]
      cases b' <;> rfl
     obtain ⟨v0, v1, v2, v3, rfl, d0, d1, d2, d3⟩ := hu
     clear hL hb hbw hin hbr HS HTq
     go_wp2_with fail
     refine c1.mono ?_
     rintro e W2 ⟨rfl, b2⟩
     have HB2 : Hid (Below W0.heap.size W0 W2) := HB.out.1.trans (b2.mono HB.out.1.size)
     clear c1 b2 y0 y1 y2 y3 d0 d1 d2 d3
     go_wp2_with fail
     go_roundw
     case rel => exact ⟨q + 1, r', b', rfl, rfl, by go_num, by omega, by omega, HS2.out, HB2.out⟩
     case measure => simp only [intOf]; omega
   ·have dl : decide ((q : Int) < (l.length : Int)) = false := by simp; omega
    have HR : Hid (T = (b, rq)) := by
     show _ = _
     rw [HTq.out, List.drop_eq_nil_of_le (by omega), mayL_nil]
     cases b <;> rfl
    clear hL hb hbw
    go_wp2_with fail
    go_ret2
    rw [HR.out]
    exact ⟨rfl, HB.out.2⟩
theorem mn : ∀ m, Mn m
 | 0 => by intro v x k w _ h; rw [In] at h; exact h.elim
 | m + 1 => mn_of m (mn m)
theorem may_c {m : Nat} {v : Value} {x : Ex} {w : World} (h : In false All w m v x) :
  Calls Tryz.prog 16 #[v] w fun e w' => e = .returned (.bool (mayL [x] 512).1) ∧ Below w.heap.size w w' := by
 obtain ⟨m', lv, rfl, rfl, ho, hi, hs, hL⟩ := h.shape
 obtain ⟨a, cap, rfl, -⟩ := hL
 obtain ⟨W0, hW0⟩ : ∃ W0, w.alloc (.cells #[.int .i64 x.o, .int .i64 x.i, .string x.s, .slice a x.l.length cap] 24) = W0 := ⟨_, rfl⟩
 have b0 : Below w.heap.size w W0 := by rw [← hW0]; exact (Below.refl _ w).alloc (Nat.le_refl _) _
 have c1 := mn (m' + 1) _ x 0 W0 (by omega) (h.below b0)
 have hx : W0.heap[w.heap.size]? = some (.cells #[.int .i64 x.o, .int .i64 x.i, .string x.s, .slice a x.l.length cap] 24 (0, 0)) := by rw [← hW0]; exact heap_alloc_new w _
 obtain ⟨y0, y1, y2, y3⟩ := four_box hx
 rw [Nat.sub_zero] at c1
 generalize mayL [x] 512 = T at *
 have HB : Hid (Below w.heap.size w W0) := b0
 clear b0 h hx
 go_enter Tryz.func16, Tryz.ntmps16
 go_wp2_with fail
 refine c1.mono ?_
 rintro e W1 ⟨rfl, b1⟩
 have HB1 : Hid (Below w.heap.size w W1) := HB.out.trans (b1.mono HB.out.size)
 clear c1 b1
 go_wp2_with fail
 go_ret
 exact ⟨rfl, HB1.out⟩
end Go.Proofs.YtghnhkagkngjcaaGreatDoor.QMn
