import Derived.Test.YtghnhkagkngjcaaGreatDoorPN39
set_option linter.unusedVariables false
set_option maxRecDepth 20000
set_option maxHeartbeats 3200000
namespace Go.Proofs.YtghnhkagkngjcaaGreatDoor.QAn
open Go.RowKit Base UBase EPure ENd PPl PFit QLv QAl
open XBase (four_box two_box frozen_box)
def an (o i : Int) (t : ByteArray) (n : Nat) : Bool := decide ((n : Int) = kd o) && ft o i t
theorem an_neg {o i : Int} {t : ByteArray} {n : Nat} (h : rl o < 0) : an o i t n = false := by
 unfold an
 rw [rl_neg h, decide_eq_false (by omega)]
 rfl
theorem an_not {o i : Int} {t : ByteArray} {n : Nat} (h : (n : Int) ≠ kd o) : an o i t n = false := by
 unfold an
 rw [decide_eq_false h]
 rfl
theorem an_ok {o i : Int} {t : ByteArray} {n : Nat} (h : (n : Int) = kd o) : an o i t n = ft o i t := by
 unfold an
 rw [decide_eq_true h]
 rfl
theorem try_neg {o i : Int} {t : ByteArray} {a : Option Addr} {n c : Nat} (hrl : rl o < 0) (w : World) :
  Calls Tryz.prog 32 #[.agg #[.int .i64 o, .int .i64 i, .string t, .slice a n c]] w fun e w' => e = .returned (.bool false) ∧ Below w.heap.size w w' := by
 obtain ⟨W0, hW0⟩ : ∃ W0, w.alloc (.cells #[.int .i64 o, .int .i64 i, .string t, .slice a n c] 24) = W0 := ⟨_, rfl⟩
 have b0 : Below w.heap.size w W0 := by rw [← hW0]; exact (Below.refl _ w).alloc (Nat.le_refl _) _
 have s0 : W0.heap.size = w.heap.size + 1 := by rw [← hW0]; simp
 have hx : W0.heap[w.heap.size]? = some (.cells #[.int .i64 o, .int .i64 i, .string t, .slice a n c] 24 (0, 0)) := by rw [← hW0]; exact heap_alloc_new w _
 have HX : Hid (W0.heap[w.heap.size]? = some (.cells #[.int .i64 o, .int .i64 i, .string t, .slice a n c] 24 (0, 0)) ∧ W0.heap.size = w.heap.size + 1 ∧ Below w.heap.size w W0) := ⟨hx, s0, b0⟩
 obtain ⟨y0, y1, y2, y3⟩ := four_box hx
 have cL : ∀ W, Calls Tryz.prog 49 #[.int .i64 o] W fun e w' => e = .returned (.int .i64 (rl o)) ∧ Below W.heap.size W w' := fun W => level_c o W
 have cK : ∀ W, Calls Tryz.prog 50 #[.int .i64 o] W fun e w' => e = .returned (.int .i64 (rk o)) ∧ w' = W := kids_c o
 clear hx b0 s0
 obtain ⟨z, hz⟩ : ∃ z, rl o = z := ⟨_, rfl⟩
 rw [hz] at cL hrl
 obtain ⟨k, hk⟩ : ∃ k, rk o = k := ⟨_, rfl⟩
 rw [hk] at cK
 have HL : Hid (∀ W, Calls Tryz.prog 49 #[.int .i64 o] W fun e w' => e = .returned (.int .i64 z) ∧ Below W.heap.size W w') := cL
 have HK : Hid (∀ W, Calls Tryz.prog 50 #[.int .i64 o] W fun e w' => e = .returned (.int .i64 k) ∧ w' = W) := cK
 clear cL cK
 have d : decide (z < 0) = true := by simp; omega
 clear hz hk hrl
 go_enter Tryz.func32, Tryz.ntmps32
 go_wp2_with fail
 clear hW0
 refine wp_region_held_drew (S := fun w' => w'.cell? ⟨w.heap.size, 0, none⟩ = some (.int .i64 o) ∧ w'.cell? ⟨w.heap.size, 3, none⟩ = some (.slice a n c)) (by kernel_rfl) (by exact ⟨y0, y3⟩) (fun hHeld => ?_)
 refine wpAnyH_take (i := 0) (v := ?_) rfl (by kernel_rfl) (by kernel_rfl) (by kernel_rfl) (fun _ _ _ h => h) (Or.inl ⟨by rfl, ?_⟩) (by assumption) ?_
 rotate_left 1
 ·intro w hSw; (try dsimp only at hSw); go_simp; first | done | with_reducible rfl
 try simp only [Act.put, zA, zB, zD, zE, zF]
 refine wpAnyH_take (i := 1) (v := ?_) rfl (by kernel_rfl) (by kernel_rfl) (by kernel_rfl) (fun _ _ _ h => h) (Or.inl ⟨by rfl, ?_⟩) (by assumption) ?_
 rotate_left 1
 ·intro w hSw; (try dsimp only at hSw); go_simp; first | done | with_reducible rfl
 try simp only [Act.put, zA, zB, zC, zD, zE, zF]
 refine wpAnyH_ready (rs := [2]) (by kernel_rfl) (by simp) ?_
 refine AllReadyH.cons rfl (fun K hK => ?_) AllReadyH.nil
 go_simp
 go_at_call 49
 refine (HL.out _).mono ?_
 rintro e W1 ⟨rfl, b1⟩
 have HB1 : Hid (Below W0.heap.size W0 W1) := (Below.refl W0.heap.size W0).drew.trans b1
 clear y0 y1 y2 y3 b1
 obtain ⟨y0, y1, y2, y3⟩ := four_box ((HB1.out.block w.heap.size (by have := HX.out.2.1; omega)).trans HX.out.1)
 refine hK.out _ _ (by exact ⟨y0, y3⟩) (fun hHeld => ?_)
 clear hK K
 try simp only [Act.put, zA, zB, zC, zD, zE, zF]
 refine wpAnyH_take (i := 3) (v := ?_) rfl (by kernel_rfl) (by kernel_rfl) (by kernel_rfl) (fun _ _ _ h => h) (Or.inl ⟨by rfl, ?_⟩) (by assumption) ?_
 rotate_left 1
 ·intro w hSw; (try dsimp only at hSw); go_simp; first | done | with_reducible rfl
 try simp only [Act.put, zA, zB, zC, zD, zE, zF]
 refine wpAnyH_take (i := 4) (v := ?_) rfl (by kernel_rfl) (by kernel_rfl) (by kernel_rfl) (fun _ _ _ h => h) (Or.inl ⟨by rfl, ?_⟩) (by assumption) ?_
 rotate_left 1
 ·intro w hSw; (try dsimp only at hSw); go_simp; first | done | with_reducible rfl
 try simp only [Act.put, zA, zB, zC, zD, zE, zF]
 refine wpAnyH_take (i := 5) rfl (by kernel_rfl) (by kernel_rfl) (by kernel_rfl) (fun _ _ _ h => h) (Or.inr ⟨by rfl, rfl⟩) (by assumption) ?_
 try simp only [Act.put, zA, zB, zC, zD, zE, zF]
 refine wpAnyH_take (i := 6) rfl (by kernel_rfl) (by kernel_rfl) (by kernel_rfl) (fun _ _ _ h => h) (Or.inr ⟨by rfl, rfl⟩) (by assumption) ?_
 try simp only [Act.put, zA, zB, zC, zD, zE, zF]
 refine wpAnyH_take (i := 7) rfl (by kernel_rfl) (by kernel_rfl) (by kernel_rfl) (fun _ _ _ h => h) (Or.inr ⟨by rfl, rfl⟩) (by assumption) ?_
 try simp only [Act.put, zA, zB, zC, zD, zE, zF]
 refine wpAnyH_take (i := 8) rfl (by kernel_rfl) (by kernel_rfl) (by kernel_rfl) (fun _ _ _ h => h) (Or.inr ⟨by rfl, rfl⟩) (by assumption) ?_
 try simp only [Act.put, zA, zB, zC, zD, zE, zF]
 refine wpAnyH_take (i := 9) rfl (by kernel_rfl) (by kernel_rfl) (by kernel_rfl) (fun _ _ _ h => h) (Or.inr ⟨by rfl, rfl⟩) (by assumption) ?_
 try simp only [Act.put, zA, zB, zC, zD, zE, zF]
 refine wpAnyH_take (i := 10) rfl (by kernel_rfl) (by kernel_rfl) (by kernel_rfl) (fun _ _ _ h => h) (Or.inr ⟨by rfl, rfl⟩) (by assumption) ?_
 try simp only [Act.put, zA, zB, zC, zD, zE, zF]
 refine wpAnyH_take (i := 11) rfl (by kernel_rfl) (by kernel_rfl) (by kernel_rfl) (fun _ _ _ h => h) (Or.inr ⟨by rfl, rfl⟩) (by assumption) ?_
 try simp only [Act.put, zA, zB, zC, zD, zE, zF]
 refine wpAnyH_take (i := 12) (v := ?_) rfl (by kernel_rfl) (by kernel_rfl) (by kernel_rfl) (fun _ _ _ h => h) (Or.inl ⟨by rfl, ?_⟩) (by assumption) ?_
 rotate_left 1
 ·intro w hSw; (try dsimp only at hSw); go_simp; first | done | with_reducible rfl
 try simp only [Act.put, zA, zB, zC, zD, zE, zF]
 refine wpAnyH_done (by kernel_rfl) ?_ _
 clear hHeld
 go_wp2_with fail
 go_ret
 exact ⟨rfl, HX.out.2.2.trans (HB1.out.mono (by have := HX.out.2.1; omega))⟩
theorem try_not {o i : Int} {t : ByteArray} {a : Option Addr} {n c : Nat} (hrl : ¬ rl o < 0) (hne : (n : Int) ≠ rk o) (w : World) :
  Calls Tryz.prog 32 #[.agg #[.int .i64 o, .int .i64 i, .string t, .slice a n c]] w fun e w' => e = .returned (.bool false) ∧ Below w.heap.size w w' := by
 obtain ⟨W0, hW0⟩ : ∃ W0, w.alloc (.cells #[.int .i64 o, .int .i64 i, .string t, .slice a n c] 24) = W0 := ⟨_, rfl⟩
 have b0 : Below w.heap.size w W0 := by rw [← hW0]; exact (Below.refl _ w).alloc (Nat.le_refl _) _
 have s0 : W0.heap.size = w.heap.size + 1 := by rw [← hW0]; simp
 have hx : W0.heap[w.heap.size]? = some (.cells #[.int .i64 o, .int .i64 i, .string t, .slice a n c] 24 (0, 0)) := by rw [← hW0]; exact heap_alloc_new w _
 have HX : Hid (W0.heap[w.heap.size]? = some (.cells #[.int .i64 o, .int .i64 i, .string t, .slice a n c] 24 (0, 0)) ∧ W0.heap.size = w.heap.size + 1 ∧ Below w.heap.size w W0) := ⟨hx, s0, b0⟩
 obtain ⟨y0, y1, y2, y3⟩ := four_box hx
 have cL : ∀ W, Calls Tryz.prog 49 #[.int .i64 o] W fun e w' => e = .returned (.int .i64 (rl o)) ∧ Below W.heap.size W w' := fun W => level_c o W
 have cK : ∀ W, Calls Tryz.prog 50 #[.int .i64 o] W fun e w' => e = .returned (.int .i64 (rk o)) ∧ w' = W := kids_c o
 clear hx b0 s0
 obtain ⟨z, hz⟩ : ∃ z, rl o = z := ⟨_, rfl⟩
 rw [hz] at cL hrl
 obtain ⟨k, hk⟩ : ∃ k, rk o = k := ⟨_, rfl⟩
 rw [hk] at cK
 have HL : Hid (∀ W, Calls Tryz.prog 49 #[.int .i64 o] W fun e w' => e = .returned (.int .i64 z) ∧ Below W.heap.size W w') := cL
 have HK : Hid (∀ W, Calls Tryz.prog 50 #[.int .i64 o] W fun e w' => e = .returned (.int .i64 k) ∧ w' = W) := cK
 clear cL cK
 rw [hk] at hne
 have d : decide (z < 0) = false := by simp; omega
 have d2 : ((n : Int) != k) = true := by simp only [bne_iff_ne]; exact hne
 clear hz hk hrl hne
 go_enter Tryz.func32, Tryz.ntmps32
 go_wp2_with fail
 clear hW0
 refine wp_region_held_drew (S := fun w' => w'.cell? ⟨w.heap.size, 0, none⟩ = some (.int .i64 o) ∧ w'.cell? ⟨w.heap.size, 3, none⟩ = some (.slice a n c)) (by kernel_rfl) (by exact ⟨y0, y3⟩) (fun hHeld => ?_)
 refine wpAnyH_take (i := 0) (v := ?_) rfl (by kernel_rfl) (by kernel_rfl) (by kernel_rfl) (fun _ _ _ h => h) (Or.inl ⟨by rfl, ?_⟩) (by assumption) ?_
 rotate_left 1
 ·intro w hSw; (try dsimp only at hSw); go_simp; first | done | with_reducible rfl
 try simp only [Act.put, zA, zB, zD, zE, zF]
 refine wpAnyH_take (i := 1) (v := ?_) rfl (by kernel_rfl) (by kernel_rfl) (by kernel_rfl) (fun _ _ _ h => h) (Or.inl ⟨by rfl, ?_⟩) (by assumption) ?_
 rotate_left 1
 ·intro w hSw; (try dsimp only at hSw); go_simp; first | done | with_reducible rfl
 try simp only [Act.put, zA, zB, zC, zD, zE, zF]
 refine wpAnyH_ready (rs := [2]) (by kernel_rfl) (by simp) ?_
 refine AllReadyH.cons rfl (fun K hK => ?_) AllReadyH.nil
 go_simp
 go_at_call 49
 refine (HL.out _).mono ?_
 rintro e W1 ⟨rfl, b1⟩
 have HB1 : Hid (Below W0.heap.size W0 W1) := (Below.refl W0.heap.size W0).drew.trans b1
 clear y0 y1 y2 y3 b1
 obtain ⟨y0, y1, y2, y3⟩ := four_box ((HB1.out.block w.heap.size (by have := HX.out.2.1; omega)).trans HX.out.1)
 refine hK.out _ _ (by exact ⟨y0, y3⟩) (fun hHeld => ?_)
 clear hK K
 try simp only [Act.put, zA, zB, zC, zD, zE, zF]
 refine wpAnyH_take (i := 3) (v := ?_) rfl (by kernel_rfl) (by kernel_rfl) (by kernel_rfl) (fun _ _ _ h => h) (Or.inl ⟨by rfl, ?_⟩) (by assumption) ?_
 rotate_left 1
 ·intro w hSw; (try dsimp only at hSw); go_simp; first | done | with_reducible rfl
 try simp only [Act.put, zA, zB, zC, zD, zE, zF]
 refine wpAnyH_take (i := 4) (v := ?_) rfl (by kernel_rfl) (by kernel_rfl) (by kernel_rfl) (fun _ _ _ h => h) (Or.inl ⟨by rfl, ?_⟩) (by assumption) ?_
 rotate_left 1
 ·intro w hSw; (try dsimp only at hSw); go_simp; first | done | with_reducible rfl
 try simp only [Act.put, zA, zB, zC, zD, zE, zF]
 refine wpAnyH_take (i := 5) (v := ?_) rfl (by kernel_rfl) (by kernel_rfl) (by kernel_rfl) (fun _ _ _ h => h) (Or.inl ⟨by rfl, ?_⟩) (by assumption) ?_
 rotate_left 1
 ·intro w hSw; (try dsimp only at hSw); go_simp; first | done | with_reducible rfl
 try simp only [Act.put, zA, zB, zC, zD, zE, zF]
 refine wpAnyH_take (i := 6) (v := ?_) rfl (by kernel_rfl) (by kernel_rfl) (by kernel_rfl) (fun _ _ _ h => h) (Or.inl ⟨by rfl, ?_⟩) (by assumption) ?_
 rotate_left 1
 ·intro w hSw; (try dsimp only at hSw); go_simp; first | done | with_reducible rfl
 try simp only [Act.put, zA, zB, zC, zD, zE, zF]
 refine wpAnyH_take (i := 7) (v := ?_) rfl (by kernel_rfl) (by kernel_rfl) (by kernel_rfl) (fun _ _ _ h => h) (Or.inl ⟨by rfl, ?_⟩) (by assumption) ?_
 rotate_left 1
 ·intro w hSw; (try dsimp only at hSw); go_simp; first | done | with_reducible rfl
 try simp only [Act.put, zA, zB, zC, zD, zE, zF]
 refine wpAnyH_take (i := 8) (v := ?_) rfl (by kernel_rfl) (by kernel_rfl) (by kernel_rfl) (fun _ _ _ h => h) (Or.inl ⟨by rfl, ?_⟩) (by assumption) ?_
 rotate_left 1
 ·intro w hSw; (try dsimp only at hSw); go_simp; first | done | with_reducible rfl
 try simp only [Act.put, zA, zB, zC, zD, zE, zF]
 refine wpAnyH_take (i := 9) (v := ?_) rfl (by kernel_rfl) (by kernel_rfl) (by kernel_rfl) (fun _ _ _ h => h) (Or.inl ⟨by rfl, ?_⟩) (by assumption) ?_
 rotate_left 1
 ·intro w hSw; (try dsimp only at hSw); go_simp; first | done | with_reducible rfl
 try simp only [Act.put, zA, zB, zC, zD, zE, zF]
 refine wpAnyH_ready (rs := [10]) (by kernel_rfl) (by simp) ?_
 refine AllReadyH.cons rfl (fun K hK => ?_) AllReadyH.nil
 go_simp
 go_at_call 50
 refine (HK.out _).mono ?_
 rintro e w' ⟨rfl, hw'⟩
 subst w'
 refine hK.out _ _ (by exact ⟨y0, y3⟩) (fun hHeld => ?_)
 clear hK K
 try simp only [Act.put, zA, zB, zC, zD, zE, zF]
 refine wpAnyH_take (i := 11) (v := ?_) rfl (by kernel_rfl) (by kernel_rfl) (by kernel_rfl) (fun _ _ _ h => h) (Or.inl ⟨by rfl, ?_⟩) (by assumption) ?_
 rotate_left 1
 ·intro w hSw; (try dsimp only at hSw); go_simp; first | done | with_reducible rfl
 try simp only [Act.put, zA, zB, zC, zD, zE, zF]
 refine wpAnyH_take (i := 12) (v := ?_) rfl (by kernel_rfl) (by kernel_rfl) (by kernel_rfl) (fun _ _ _ h => h) (Or.inl ⟨by rfl, ?_⟩) (by assumption) ?_
 rotate_left 1
 ·intro w hSw; (try dsimp only at hSw); go_simp; first | done | with_reducible rfl
 try simp only [Act.put, zA, zB, zC, zD, zE, zF]
 refine wpAnyH_done (by kernel_rfl) ?_ _
 clear hHeld
 go_wp2_with fail
 go_ret
 exact ⟨rfl, HX.out.2.2.trans (HB1.out.mono (by have := HX.out.2.1; omega))⟩
end Go.Proofs.YtghnhkagkngjcaaGreatDoor.QAn
namespace Go.Proofs.YtghnhkagkngjcaaGreatDoor.QAo0
open Go.RowKit Base UBase EPure ENd PPl PFit QLv QAl QAn
open XBase (four_box two_box frozen_box)
theorem ok_int {o i : Int} {t : ByteArray} {a : Option Addr} {n c : Nat} (hrl : ¬ rl o < 0) (heq : (n : Int) = rk o) (ht : t.size ≤ 140737488351232) (ho : o = 4) (w : World) :
  Calls Tryz.prog 32 #[.agg #[.int .i64 o, .int .i64 i, .string t, .slice a n c]] w fun e w' => e = .returned (.bool (ft o i t)) ∧ Below w.heap.size w w' := by
 obtain ⟨W0, hW0⟩ : ∃ W0, w.alloc (.cells #[.int .i64 o, .int .i64 i, .string t, .slice a n c] 24) = W0 := ⟨_, rfl⟩
 have b0 : Below w.heap.size w W0 := by rw [← hW0]; exact (Below.refl _ w).alloc (Nat.le_refl _) _
 have s0 : W0.heap.size = w.heap.size + 1 := by rw [← hW0]; simp
 have hx : W0.heap[w.heap.size]? = some (.cells #[.int .i64 o, .int .i64 i, .string t, .slice a n c] 24 (0, 0)) := by rw [← hW0]; exact heap_alloc_new w _
 have HX : Hid (W0.heap[w.heap.size]? = some (.cells #[.int .i64 o, .int .i64 i, .string t, .slice a n c] 24 (0, 0)) ∧ W0.heap.size = w.heap.size + 1 ∧ Below w.heap.size w W0) := ⟨hx, s0, b0⟩
 obtain ⟨y0, y1, y2, y3⟩ := four_box hx
 have cL : ∀ W, Calls Tryz.prog 49 #[.int .i64 o] W fun e w' => e = .returned (.int .i64 (rl o)) ∧ Below W.heap.size W w' := fun W => level_c o W
 have cK : ∀ W, Calls Tryz.prog 50 #[.int .i64 o] W fun e w' => e = .returned (.int .i64 (rk o)) ∧ w' = W := kids_c o
 clear hx b0 s0
 obtain ⟨z, hz⟩ : ∃ z, rl o = z := ⟨_, rfl⟩
 rw [hz] at cL hrl
 obtain ⟨k, hk⟩ : ∃ k, rk o = k := ⟨_, rfl⟩
 rw [hk] at cK
 have HL : Hid (∀ W, Calls Tryz.prog 49 #[.int .i64 o] W fun e w' => e = .returned (.int .i64 z) ∧ Below W.heap.size W w') := cL
 have HK : Hid (∀ W, Calls Tryz.prog 50 #[.int .i64 o] W fun e w' => e = .returned (.int .i64 k) ∧ w' = W) := cK
 clear cL cK
 rw [hk] at heq
 have d : decide (z < 0) = false := by simp; omega
 have d2 : ((n : Int) != k) = false := by simp only [bne_eq_false_iff_eq]; exact heq
 clear hz hk hrl heq
 have e4 : (o == 4) = true := by simp [ho]
 have e5 : (o == 5) = false := by simp [ho]
 have e6 : (o == 6) = false := by simp [ho]
 have e7 : (o == 7) = false := by simp [ho]
 have e9 : (o == 9) = false := by simp [ho]
 have HO : Hid (o = 4) := ho
 clear ho
 go_enter Tryz.func32, Tryz.ntmps32
 go_wp2_with fail
 clear hW0
 refine wp_region_held_drew (S := fun w' => w'.cell? ⟨w.heap.size, 0, none⟩ = some (.int .i64 o) ∧ w'.cell? ⟨w.heap.size, 3, none⟩ = some (.slice a n c)) (by kernel_rfl) (by exact ⟨y0, y3⟩) (fun hHeld => ?_)
 refine wpAnyH_take (i := 0) (v := ?_) rfl (by kernel_rfl) (by kernel_rfl) (by kernel_rfl) (fun _ _ _ h => h) (Or.inl ⟨by rfl, ?_⟩) (by assumption) ?_
 rotate_left 1
 ·intro w hSw; (try dsimp only at hSw); go_simp; first | done | with_reducible rfl
 try simp only [Act.put, zA, zB, zD, zE, zF]
 refine wpAnyH_take (i := 1) (v := ?_) rfl (by kernel_rfl) (by kernel_rfl) (by kernel_rfl) (fun _ _ _ h => h) (Or.inl ⟨by rfl, ?_⟩) (by assumption) ?_
 rotate_left 1
 ·intro w hSw; (try dsimp only at hSw); go_simp; first | done | with_reducible rfl
 try simp only [Act.put, zA, zB, zC, zD, zE, zF]
 refine wpAnyH_ready (rs := [2]) (by kernel_rfl) (by simp) ?_
 refine AllReadyH.cons rfl (fun K hK => ?_) AllReadyH.nil
 go_simp
 go_at_call 49
 refine (HL.out _).mono ?_
 rintro e W1 ⟨rfl, b1⟩
 have HB1 : Hid (Below W0.heap.size W0 W1) := (Below.refl W0.heap.size W0).drew.trans b1
 clear y0 y1 y2 y3 b1
 obtain ⟨y0, y1, y2, y3⟩ := four_box ((HB1.out.block w.heap.size (by have := HX.out.2.1; omega)).trans HX.out.1)
 refine hK.out _ _ (by exact ⟨y0, y3⟩) (fun hHeld => ?_)
 clear hK K
 try simp only [Act.put, zA, zB, zC, zD, zE, zF]
 refine wpAnyH_take (i := 3) (v := ?_) rfl (by kernel_rfl) (by kernel_rfl) (by kernel_rfl) (fun _ _ _ h => h) (Or.inl ⟨by rfl, ?_⟩) (by assumption) ?_
 rotate_left 1
 ·intro w hSw; (try dsimp only at hSw); go_simp; first | done | with_reducible rfl
 try simp only [Act.put, zA, zB, zC, zD, zE, zF]
 refine wpAnyH_take (i := 4) (v := ?_) rfl (by kernel_rfl) (by kernel_rfl) (by kernel_rfl) (fun _ _ _ h => h) (Or.inl ⟨by rfl, ?_⟩) (by assumption) ?_
 rotate_left 1
 ·intro w hSw; (try dsimp only at hSw); go_simp; first | done | with_reducible rfl
 try simp only [Act.put, zA, zB, zC, zD, zE, zF]
 refine wpAnyH_take (i := 5) (v := ?_) rfl (by kernel_rfl) (by kernel_rfl) (by kernel_rfl) (fun _ _ _ h => h) (Or.inl ⟨by rfl, ?_⟩) (by assumption) ?_
 rotate_left 1
 ·intro w hSw; (try dsimp only at hSw); go_simp; first | done | with_reducible rfl
 try simp only [Act.put, zA, zB, zC, zD, zE, zF]
 refine wpAnyH_take (i := 6) (v := ?_) rfl (by kernel_rfl) (by kernel_rfl) (by kernel_rfl) (fun _ _ _ h => h) (Or.inl ⟨by rfl, ?_⟩) (by assumption) ?_
 rotate_left 1
 ·intro w hSw; (try dsimp only at hSw); go_simp; first | done | with_reducible rfl
 try simp only [Act.put, zA, zB, zC, zD, zE, zF]
 refine wpAnyH_take (i := 7) (v := ?_) rfl (by kernel_rfl) (by kernel_rfl) (by kernel_rfl) (fun _ _ _ h => h) (Or.inl ⟨by rfl, ?_⟩) (by assumption) ?_
 rotate_left 1
 ·intro w hSw; (try dsimp only at hSw); go_simp; first | done | with_reducible rfl
 try simp only [Act.put, zA, zB, zC, zD, zE, zF]
 refine wpAnyH_take (i := 8) (v := ?_) rfl (by kernel_rfl) (by kernel_rfl) (by kernel_rfl) (fun _ _ _ h => h) (Or.inl ⟨by rfl, ?_⟩) (by assumption) ?_
 rotate_left 1
 ·intro w hSw; (try dsimp only at hSw); go_simp; first | done | with_reducible rfl
 try simp only [Act.put, zA, zB, zC, zD, zE, zF]
 refine wpAnyH_take (i := 9) (v := ?_) rfl (by kernel_rfl) (by kernel_rfl) (by kernel_rfl) (fun _ _ _ h => h) (Or.inl ⟨by rfl, ?_⟩) (by assumption) ?_
 rotate_left 1
 ·intro w hSw; (try dsimp only at hSw); go_simp; first | done | with_reducible rfl
 try simp only [Act.put, zA, zB, zC, zD, zE, zF]
 refine wpAnyH_ready (rs := [10]) (by kernel_rfl) (by simp) ?_
 refine AllReadyH.cons rfl (fun K hK => ?_) AllReadyH.nil
 go_simp
 go_at_call 50
 refine (HK.out _).mono ?_
 rintro e w' ⟨rfl, hw'⟩
 subst w'
 refine hK.out _ _ (by exact ⟨y0, y3⟩) (fun hHeld => ?_)
 clear hK K
 try simp only [Act.put, zA, zB, zC, zD, zE, zF]
 refine wpAnyH_take (i := 11) (v := ?_) rfl (by kernel_rfl) (by kernel_rfl) (by kernel_rfl) (fun _ _ _ h => h) (Or.inl ⟨by rfl, ?_⟩) (by assumption) ?_
 rotate_left 1
 ·intro w hSw; (try dsimp only at hSw); go_simp; first | done | with_reducible rfl
 try simp only [Act.put, zA, zB, zC, zD, zE, zF]
 refine wpAnyH_take (i := 12) (v := ?_) rfl (by kernel_rfl) (by kernel_rfl) (by kernel_rfl) (fun _ _ _ h => h) (Or.inl ⟨by rfl, ?_⟩) (by assumption) ?_
 rotate_left 1
 ·intro w hSw; (try dsimp only at hSw); go_simp; first | done | with_reducible rfl
 try simp only [Act.put, zA, zB, zC, zD, zE, zF]
 refine wpAnyH_done (by kernel_rfl) ?_ _
 clear hHeld
 go_wp2_with (fail)
 all_goals
  go_ret
  refine ⟨SFit.ret_bool ?_, HX.out.2.2.trans (HB1.out.mono (by have := HX.out.2.1; omega))⟩
  (try have ho := HO.out)
  (try subst ho)
  have hne := SFit.ne t
  simp_all [ft]
  try (intros; omega)
end Go.Proofs.YtghnhkagkngjcaaGreatDoor.QAo0
namespace Go.Proofs.YtghnhkagkngjcaaGreatDoor.QAo1
open Go.RowKit Base UBase EPure ENd PPl PFit QLv QAl QAn
open XBase (four_box two_box frozen_box)
theorem ok_text {o i : Int} {t : ByteArray} {a : Option Addr} {n c : Nat} (hrl : ¬ rl o < 0) (heq : (n : Int) = rk o) (ht : t.size ≤ 140737488351232) (ho : o = 5) (w : World) :
  Calls Tryz.prog 32 #[.agg #[.int .i64 o, .int .i64 i, .string t, .slice a n c]] w fun e w' => e = .returned (.bool (ft o i t)) ∧ Below w.heap.size w w' := by
 obtain ⟨W0, hW0⟩ : ∃ W0, w.alloc (.cells #[.int .i64 o, .int .i64 i, .string t, .slice a n c] 24) = W0 := ⟨_, rfl⟩
 have b0 : Below w.heap.size w W0 := by rw [← hW0]; exact (Below.refl _ w).alloc (Nat.le_refl _) _
 have s0 : W0.heap.size = w.heap.size + 1 := by rw [← hW0]; simp
 have hx : W0.heap[w.heap.size]? = some (.cells #[.int .i64 o, .int .i64 i, .string t, .slice a n c] 24 (0, 0)) := by rw [← hW0]; exact heap_alloc_new w _
 have HX : Hid (W0.heap[w.heap.size]? = some (.cells #[.int .i64 o, .int .i64 i, .string t, .slice a n c] 24 (0, 0)) ∧ W0.heap.size = w.heap.size + 1 ∧ Below w.heap.size w W0) := ⟨hx, s0, b0⟩
 obtain ⟨y0, y1, y2, y3⟩ := four_box hx
 have cL : ∀ W, Calls Tryz.prog 49 #[.int .i64 o] W fun e w' => e = .returned (.int .i64 (rl o)) ∧ Below W.heap.size W w' := fun W => level_c o W
 have cK : ∀ W, Calls Tryz.prog 50 #[.int .i64 o] W fun e w' => e = .returned (.int .i64 (rk o)) ∧ w' = W := kids_c o
 clear hx b0 s0
 obtain ⟨z, hz⟩ : ∃ z, rl o = z := ⟨_, rfl⟩
 rw [hz] at cL hrl
 obtain ⟨k, hk⟩ : ∃ k, rk o = k := ⟨_, rfl⟩
 rw [hk] at cK
 have HL : Hid (∀ W, Calls Tryz.prog 49 #[.int .i64 o] W fun e w' => e = .returned (.int .i64 z) ∧ Below W.heap.size W w') := cL
 have HK : Hid (∀ W, Calls Tryz.prog 50 #[.int .i64 o] W fun e w' => e = .returned (.int .i64 k) ∧ w' = W) := cK
 clear cL cK
 rw [hk] at heq
 have d : decide (z < 0) = false := by simp; omega
 have d2 : ((n : Int) != k) = false := by simp only [bne_eq_false_iff_eq]; exact heq
 clear hz hk hrl heq
 have e4 : (o == 4) = false := by simp [ho]
 have e5 : (o == 5) = true := by simp [ho]
 have e6 : (o == 6) = false := by simp [ho]
 have e7 : (o == 7) = false := by simp [ho]
 have e9 : (o == 9) = false := by simp [ho]
 have HO : Hid (o = 5) := ho
 clear ho
 have HG : Hid (∀ W, Calls Tryz.prog 51 #[.string t] W fun e w' => e = .returned (.bool (tg t)) ∧ w' = W) := good_c t ht
 have HW : Hid (∀ W, Calls Tryz.prog 52 #[.string t] W fun e w' => e = .returned (.bool (wrt t)) ∧ w' = W) := written_c t ht
 go_enter Tryz.func32, Tryz.ntmps32
 go_wp2_with fail
 clear hW0
 refine wp_region_held_drew (S := fun w' => w'.cell? ⟨w.heap.size, 0, none⟩ = some (.int .i64 o) ∧ w'.cell? ⟨w.heap.size, 3, none⟩ = some (.slice a n c)) (by kernel_rfl) (by exact ⟨y0, y3⟩) (fun hHeld => ?_)
 refine wpAnyH_take (i := 0) (v := ?_) rfl (by kernel_rfl) (by kernel_rfl) (by kernel_rfl) (fun _ _ _ h => h) (Or.inl ⟨by rfl, ?_⟩) (by assumption) ?_
 rotate_left 1
 ·intro w hSw; (try dsimp only at hSw); go_simp; first | done | with_reducible rfl
 try simp only [Act.put, zA, zB, zD, zE, zF]
 refine wpAnyH_take (i := 1) (v := ?_) rfl (by kernel_rfl) (by kernel_rfl) (by kernel_rfl) (fun _ _ _ h => h) (Or.inl ⟨by rfl, ?_⟩) (by assumption) ?_
 rotate_left 1
 ·intro w hSw; (try dsimp only at hSw); go_simp; first | done | with_reducible rfl
 try simp only [Act.put, zA, zB, zC, zD, zE, zF]
 refine wpAnyH_ready (rs := [2]) (by kernel_rfl) (by simp) ?_
 refine AllReadyH.cons rfl (fun K hK => ?_) AllReadyH.nil
 go_simp
 go_at_call 49
 refine (HL.out _).mono ?_
 rintro e W1 ⟨rfl, b1⟩
 have HB1 : Hid (Below W0.heap.size W0 W1) := (Below.refl W0.heap.size W0).drew.trans b1
 clear y0 y1 y2 y3 b1
 obtain ⟨y0, y1, y2, y3⟩ := four_box ((HB1.out.block w.heap.size (by have := HX.out.2.1; omega)).trans HX.out.1)
 refine hK.out _ _ (by exact ⟨y0, y3⟩) (fun hHeld => ?_)
 clear hK K
 try simp only [Act.put, zA, zB, zC, zD, zE, zF]
 refine wpAnyH_take (i := 3) (v := ?_) rfl (by kernel_rfl) (by kernel_rfl) (by kernel_rfl) (fun _ _ _ h => h) (Or.inl ⟨by rfl, ?_⟩) (by assumption) ?_
 rotate_left 1
 ·intro w hSw; (try dsimp only at hSw); go_simp; first | done | with_reducible rfl
 try simp only [Act.put, zA, zB, zC, zD, zE, zF]
 refine wpAnyH_take (i := 4) (v := ?_) rfl (by kernel_rfl) (by kernel_rfl) (by kernel_rfl) (fun _ _ _ h => h) (Or.inl ⟨by rfl, ?_⟩) (by assumption) ?_
 rotate_left 1
 ·intro w hSw; (try dsimp only at hSw); go_simp; first | done | with_reducible rfl
 try simp only [Act.put, zA, zB, zC, zD, zE, zF]
 refine wpAnyH_take (i := 5) (v := ?_) rfl (by kernel_rfl) (by kernel_rfl) (by kernel_rfl) (fun _ _ _ h => h) (Or.inl ⟨by rfl, ?_⟩) (by assumption) ?_
 rotate_left 1
 ·intro w hSw; (try dsimp only at hSw); go_simp; first | done | with_reducible rfl
 try simp only [Act.put, zA, zB, zC, zD, zE, zF]
 refine wpAnyH_take (i := 6) (v := ?_) rfl (by kernel_rfl) (by kernel_rfl) (by kernel_rfl) (fun _ _ _ h => h) (Or.inl ⟨by rfl, ?_⟩) (by assumption) ?_
 rotate_left 1
 ·intro w hSw; (try dsimp only at hSw); go_simp; first | done | with_reducible rfl
 try simp only [Act.put, zA, zB, zC, zD, zE, zF]
 refine wpAnyH_take (i := 7) (v := ?_) rfl (by kernel_rfl) (by kernel_rfl) (by kernel_rfl) (fun _ _ _ h => h) (Or.inl ⟨by rfl, ?_⟩) (by assumption) ?_
 rotate_left 1
 ·intro w hSw; (try dsimp only at hSw); go_simp; first | done | with_reducible rfl
 try simp only [Act.put, zA, zB, zC, zD, zE, zF]
 refine wpAnyH_take (i := 8) (v := ?_) rfl (by kernel_rfl) (by kernel_rfl) (by kernel_rfl) (fun _ _ _ h => h) (Or.inl ⟨by rfl, ?_⟩) (by assumption) ?_
 rotate_left 1
 ·intro w hSw; (try dsimp only at hSw); go_simp; first | done | with_reducible rfl
 try simp only [Act.put, zA, zB, zC, zD, zE, zF]
 refine wpAnyH_take (i := 9) (v := ?_) rfl (by kernel_rfl) (by kernel_rfl) (by kernel_rfl) (fun _ _ _ h => h) (Or.inl ⟨by rfl, ?_⟩) (by assumption) ?_
 rotate_left 1
 ·intro w hSw; (try dsimp only at hSw); go_simp; first | done | with_reducible rfl
 try simp only [Act.put, zA, zB, zC, zD, zE, zF]
 refine wpAnyH_ready (rs := [10]) (by kernel_rfl) (by simp) ?_
 refine AllReadyH.cons rfl (fun K hK => ?_) AllReadyH.nil
 go_simp
 go_at_call 50
 refine (HK.out _).mono ?_
 rintro e w' ⟨rfl, hw'⟩
 subst w'
 refine hK.out _ _ (by exact ⟨y0, y3⟩) (fun hHeld => ?_)
 clear hK K
 try simp only [Act.put, zA, zB, zC, zD, zE, zF]
 refine wpAnyH_take (i := 11) (v := ?_) rfl (by kernel_rfl) (by kernel_rfl) (by kernel_rfl) (fun _ _ _ h => h) (Or.inl ⟨by rfl, ?_⟩) (by assumption) ?_
 rotate_left 1
 ·intro w hSw; (try dsimp only at hSw); go_simp; first | done | with_reducible rfl
 try simp only [Act.put, zA, zB, zC, zD, zE, zF]
 refine wpAnyH_take (i := 12) (v := ?_) rfl (by kernel_rfl) (by kernel_rfl) (by kernel_rfl) (fun _ _ _ h => h) (Or.inl ⟨by rfl, ?_⟩) (by assumption) ?_
 rotate_left 1
 ·intro w hSw; (try dsimp only at hSw); go_simp; first | done | with_reducible rfl
 try simp only [Act.put, zA, zB, zC, zD, zE, zF]
 refine wpAnyH_done (by kernel_rfl) ?_ _
 clear hHeld
 go_wp2_with (first | (go_at_call 51; refine (HG.out _).mono ?_; rintro e w' ⟨rfl, hw'⟩; subst w') | (go_at_call 52; refine (HW.out _).mono ?_; rintro e w' ⟨rfl, hw'⟩; subst w'))
 all_goals
  go_ret
  refine ⟨SFit.ret_bool ?_, HX.out.2.2.trans (HB1.out.mono (by have := HX.out.2.1; omega))⟩
  (try have ho := HO.out)
  (try subst ho)
  simp_all [ft, tx]
end Go.Proofs.YtghnhkagkngjcaaGreatDoor.QAo1
namespace Go.Proofs.YtghnhkagkngjcaaGreatDoor.QAo2
open Go.RowKit Base UBase EPure ENd PPl PFit QLv QAl QAn
open XBase (four_box two_box frozen_box)
theorem ok_var {o i : Int} {t : ByteArray} {a : Option Addr} {n c : Nat} (hrl : ¬ rl o < 0) (heq : (n : Int) = rk o) (ht : t.size ≤ 140737488351232) (ho : o = 6) (w : World) :
  Calls Tryz.prog 32 #[.agg #[.int .i64 o, .int .i64 i, .string t, .slice a n c]] w fun e w' => e = .returned (.bool (ft o i t)) ∧ Below w.heap.size w w' := by
 obtain ⟨W0, hW0⟩ : ∃ W0, w.alloc (.cells #[.int .i64 o, .int .i64 i, .string t, .slice a n c] 24) = W0 := ⟨_, rfl⟩
 have b0 : Below w.heap.size w W0 := by rw [← hW0]; exact (Below.refl _ w).alloc (Nat.le_refl _) _
 have s0 : W0.heap.size = w.heap.size + 1 := by rw [← hW0]; simp
 have hx : W0.heap[w.heap.size]? = some (.cells #[.int .i64 o, .int .i64 i, .string t, .slice a n c] 24 (0, 0)) := by rw [← hW0]; exact heap_alloc_new w _
 have HX : Hid (W0.heap[w.heap.size]? = some (.cells #[.int .i64 o, .int .i64 i, .string t, .slice a n c] 24 (0, 0)) ∧ W0.heap.size = w.heap.size + 1 ∧ Below w.heap.size w W0) := ⟨hx, s0, b0⟩
 obtain ⟨y0, y1, y2, y3⟩ := four_box hx
 have cL : ∀ W, Calls Tryz.prog 49 #[.int .i64 o] W fun e w' => e = .returned (.int .i64 (rl o)) ∧ Below W.heap.size W w' := fun W => level_c o W
 have cK : ∀ W, Calls Tryz.prog 50 #[.int .i64 o] W fun e w' => e = .returned (.int .i64 (rk o)) ∧ w' = W := kids_c o
 clear hx b0 s0
 obtain ⟨z, hz⟩ : ∃ z, rl o = z := ⟨_, rfl⟩
 rw [hz] at cL hrl
 obtain ⟨k, hk⟩ : ∃ k, rk o = k := ⟨_, rfl⟩
 rw [hk] at cK
 have HL : Hid (∀ W, Calls Tryz.prog 49 #[.int .i64 o] W fun e w' => e = .returned (.int .i64 z) ∧ Below W.heap.size W w') := cL
 have HK : Hid (∀ W, Calls Tryz.prog 50 #[.int .i64 o] W fun e w' => e = .returned (.int .i64 k) ∧ w' = W) := cK
 clear cL cK
 rw [hk] at heq
 have d : decide (z < 0) = false := by simp; omega
 have d2 : ((n : Int) != k) = false := by simp only [bne_eq_false_iff_eq]; exact heq
 clear hz hk hrl heq
 have e4 : (o == 4) = false := by simp [ho]
 have e5 : (o == 5) = false := by simp [ho]
 have e6 : (o == 6) = true := by simp [ho]
 have e7 : (o == 7) = false := by simp [ho]
 have e9 : (o == 9) = false := by simp [ho]
 have HO : Hid (o = 6) := ho
 clear ho
 have HG : Hid (∀ W, Calls Tryz.prog 53 #[.string t] W fun e w' => e = .returned (.bool (vr t)) ∧ w' = W) := variable_c t ht
 go_enter Tryz.func32, Tryz.ntmps32
 go_wp2_with fail
 clear hW0
 refine wp_region_held_drew (S := fun w' => w'.cell? ⟨w.heap.size, 0, none⟩ = some (.int .i64 o) ∧ w'.cell? ⟨w.heap.size, 3, none⟩ = some (.slice a n c)) (by kernel_rfl) (by exact ⟨y0, y3⟩) (fun hHeld => ?_)
 refine wpAnyH_take (i := 0) (v := ?_) rfl (by kernel_rfl) (by kernel_rfl) (by kernel_rfl) (fun _ _ _ h => h) (Or.inl ⟨by rfl, ?_⟩) (by assumption) ?_
 rotate_left 1
 ·intro w hSw; (try dsimp only at hSw); go_simp; first | done | with_reducible rfl
 try simp only [Act.put, zA, zB, zD, zE, zF]
 refine wpAnyH_take (i := 1) (v := ?_) rfl (by kernel_rfl) (by kernel_rfl) (by kernel_rfl) (fun _ _ _ h => h) (Or.inl ⟨by rfl, ?_⟩) (by assumption) ?_
 rotate_left 1
 ·intro w hSw; (try dsimp only at hSw); go_simp; first | done | with_reducible rfl
 try simp only [Act.put, zA, zB, zC, zD, zE, zF]
 refine wpAnyH_ready (rs := [2]) (by kernel_rfl) (by simp) ?_
 refine AllReadyH.cons rfl (fun K hK => ?_) AllReadyH.nil
 go_simp
 go_at_call 49
 refine (HL.out _).mono ?_
 rintro e W1 ⟨rfl, b1⟩
 have HB1 : Hid (Below W0.heap.size W0 W1) := (Below.refl W0.heap.size W0).drew.trans b1
 clear y0 y1 y2 y3 b1
 obtain ⟨y0, y1, y2, y3⟩ := four_box ((HB1.out.block w.heap.size (by have := HX.out.2.1; omega)).trans HX.out.1)
 refine hK.out _ _ (by exact ⟨y0, y3⟩) (fun hHeld => ?_)
 clear hK K
 try simp only [Act.put, zA, zB, zC, zD, zE, zF]
 refine wpAnyH_take (i := 3) (v := ?_) rfl (by kernel_rfl) (by kernel_rfl) (by kernel_rfl) (fun _ _ _ h => h) (Or.inl ⟨by rfl, ?_⟩) (by assumption) ?_
 rotate_left 1
 ·intro w hSw; (try dsimp only at hSw); go_simp; first | done | with_reducible rfl
 try simp only [Act.put, zA, zB, zC, zD, zE, zF]
 refine wpAnyH_take (i := 4) (v := ?_) rfl (by kernel_rfl) (by kernel_rfl) (by kernel_rfl) (fun _ _ _ h => h) (Or.inl ⟨by rfl, ?_⟩) (by assumption) ?_
 rotate_left 1
 ·intro w hSw; (try dsimp only at hSw); go_simp; first | done | with_reducible rfl
 try simp only [Act.put, zA, zB, zC, zD, zE, zF]
 refine wpAnyH_take (i := 5) (v := ?_) rfl (by kernel_rfl) (by kernel_rfl) (by kernel_rfl) (fun _ _ _ h => h) (Or.inl ⟨by rfl, ?_⟩) (by assumption) ?_
 rotate_left 1
 ·intro w hSw; (try dsimp only at hSw); go_simp; first | done | with_reducible rfl
 try simp only [Act.put, zA, zB, zC, zD, zE, zF]
 refine wpAnyH_take (i := 6) (v := ?_) rfl (by kernel_rfl) (by kernel_rfl) (by kernel_rfl) (fun _ _ _ h => h) (Or.inl ⟨by rfl, ?_⟩) (by assumption) ?_
 rotate_left 1
 ·intro w hSw; (try dsimp only at hSw); go_simp; first | done | with_reducible rfl
 try simp only [Act.put, zA, zB, zC, zD, zE, zF]
 refine wpAnyH_take (i := 7) (v := ?_) rfl (by kernel_rfl) (by kernel_rfl) (by kernel_rfl) (fun _ _ _ h => h) (Or.inl ⟨by rfl, ?_⟩) (by assumption) ?_
 rotate_left 1
 ·intro w hSw; (try dsimp only at hSw); go_simp; first | done | with_reducible rfl
 try simp only [Act.put, zA, zB, zC, zD, zE, zF]
 refine wpAnyH_take (i := 8) (v := ?_) rfl (by kernel_rfl) (by kernel_rfl) (by kernel_rfl) (fun _ _ _ h => h) (Or.inl ⟨by rfl, ?_⟩) (by assumption) ?_
 rotate_left 1
 ·intro w hSw; (try dsimp only at hSw); go_simp; first | done | with_reducible rfl
 try simp only [Act.put, zA, zB, zC, zD, zE, zF]
 refine wpAnyH_take (i := 9) (v := ?_) rfl (by kernel_rfl) (by kernel_rfl) (by kernel_rfl) (fun _ _ _ h => h) (Or.inl ⟨by rfl, ?_⟩) (by assumption) ?_
 rotate_left 1
 ·intro w hSw; (try dsimp only at hSw); go_simp; first | done | with_reducible rfl
 try simp only [Act.put, zA, zB, zC, zD, zE, zF]
 refine wpAnyH_ready (rs := [10]) (by kernel_rfl) (by simp) ?_
 refine AllReadyH.cons rfl (fun K hK => ?_) AllReadyH.nil
 go_simp
 go_at_call 50
 refine (HK.out _).mono ?_
 rintro e w' ⟨rfl, hw'⟩
 subst w'
 refine hK.out _ _ (by exact ⟨y0, y3⟩) (fun hHeld => ?_)
 clear hK K
 try simp only [Act.put, zA, zB, zC, zD, zE, zF]
 refine wpAnyH_take (i := 11) (v := ?_) rfl (by kernel_rfl) (by kernel_rfl) (by kernel_rfl) (fun _ _ _ h => h) (Or.inl ⟨by rfl, ?_⟩) (by assumption) ?_
 rotate_left 1
 ·intro w hSw; (try dsimp only at hSw); go_simp; first | done | with_reducible rfl
 try simp only [Act.put, zA, zB, zC, zD, zE, zF]
 refine wpAnyH_take (i := 12) (v := ?_) rfl (by kernel_rfl) (by kernel_rfl) (by kernel_rfl) (fun _ _ _ h => h) (Or.inl ⟨by rfl, ?_⟩) (by assumption) ?_
 rotate_left 1
 ·intro w hSw; (try dsimp only at hSw); go_simp; first | done | with_reducible rfl
 try simp only [Act.put, zA, zB, zC, zD, zE, zF]
 refine wpAnyH_done (by kernel_rfl) ?_ _
 clear hHeld
 go_wp2_with (first | (go_at_call 53; refine (HG.out _).mono ?_; rintro e w' ⟨rfl, hw'⟩; subst w'))
 all_goals
  go_ret
  refine ⟨SFit.ret_bool ?_, HX.out.2.2.trans (HB1.out.mono (by have := HX.out.2.1; omega))⟩
  (try have ho := HO.out)
  (try subst ho)
  simp_all [ft, vr]
end Go.Proofs.YtghnhkagkngjcaaGreatDoor.QAo2
