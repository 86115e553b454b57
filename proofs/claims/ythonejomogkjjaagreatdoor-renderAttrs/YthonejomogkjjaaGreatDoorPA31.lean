import Derived.Test.YthonejomogkjjaaGreatDoorPA28
import Derived.Test.YthonejomogkjjaaGreatDoorPA30
set_option linter.unusedVariables false
set_option maxRecDepth 20000
set_option maxHeartbeats 3200000
namespace Go.Proofs.YthonejomogkjjaaGreatDoor.KEn
open Go.RowKit Base EPure KBase KSh KAr
open XBase (frozen_box)
theorem enter_low {k : Int} {t : ByteArray} {a1 : Option Addr} {n1 c1 : Nat} {a2 : Option Addr} {n2 c2 : Nat} {a3 : Option Addr} {n3 c3 : Nat} {a4 : Option Addr} {n4 c4 : Nat} {a5 : Option Addr} {n5 c5 : Nat} {s e l : Int} {w : World} (hk : k < 1) :
  Calls Tryz.prog 167 #[av s e l, cv k t a1 n1 c1 a2 n2 c2 a3 n3 c3 a4 n4 c4 a5 n5 c5] w fun x w' => x = .returned (.tuple #[av s e l, .bool false]) ∧ Below w.heap.size w w' := by
 have h1 : decide (k < 1) = true := decide_eq_true hk
 obtain ⟨W0, hW0⟩ : ∃ W0, (((w.alloc (.cells #[.int .i64 s, .int .i64 e, .int .i64 l] 117)).alloc (.cells #[.int .i64 k, .string t, .slice a1 n1 c1, .slice a2 n2 c2, .slice a3 n3 c3, .slice a4 n4 c4, .slice a5 n5 c5] 66)).alloc (.cells #[.int .i64 s, .int .i64 e, .int .i64 l] 117)).alloc (.cells #[.nilFunc, .func (.func 233) #[] #[], .func (.func 234) #[] #[], .func (.func 235) #[] #[], .func (.func 236) #[] #[], .func (.func 237) #[] #[]] 261) = W0 := ⟨_, rfl⟩
 have b0 : Below w.heap.size w W0 := by
  rw [← hW0]
  exact ((((Below.refl _ w).alloc (Nat.le_refl _) _).alloc (by simp) _).alloc (by simp; omega) _).alloc (by simp; omega) _
 have q2 : W0.heap[w.heap.size + 1 + 1]? = some (.cells #[.int .i64 s, .int .i64 e, .int .i64 l] 117 (0, 0)) := by
  rw [← hW0, Below.heap_alloc _ _ _ (by simp)]
  exact KLe.heap_alloc_at _ _ _ (by simp)
 obtain ⟨t0, t1, t2⟩ := three_box q2
 have HB0 : Hid (Below w.heap.size w W0) := b0
 clear b0 q2
 go_enter Tryz.func167, Tryz.ntmps167
 go_wp2_with fail
 try rw [hW0]
 refine bodyPost_ret (v := .tuple #[av s e l, .bool false]) (by simp [results, Tryz.results167, go_sem, t0, t1, t2]) rfl ?_
 exact ⟨rfl, HB0.out⟩
theorem enter_high {k : Int} {t : ByteArray} {a1 : Option Addr} {n1 c1 : Nat} {a2 : Option Addr} {n2 c2 : Nat} {a3 : Option Addr} {n3 c3 : Nat} {a4 : Option Addr} {n4 c4 : Nat} {a5 : Option Addr} {n5 c5 : Nat} {s e l : Int} {w : World} (hk : 6 ≤ k) :
  Calls Tryz.prog 167 #[av s e l, cv k t a1 n1 c1 a2 n2 c2 a3 n3 c3 a4 n4 c4 a5 n5 c5] w fun x w' => x = .returned (.tuple #[av s e l, .bool false]) ∧ Below w.heap.size w w' := by
 have h1 : decide (k < 1) = false := decide_eq_false (by omega)
 have h2 : decide (6 ≤ k) = true := decide_eq_true hk
 obtain ⟨W0, hW0⟩ : ∃ W0, (((w.alloc (.cells #[.int .i64 s, .int .i64 e, .int .i64 l] 117)).alloc (.cells #[.int .i64 k, .string t, .slice a1 n1 c1, .slice a2 n2 c2, .slice a3 n3 c3, .slice a4 n4 c4, .slice a5 n5 c5] 66)).alloc (.cells #[.int .i64 s, .int .i64 e, .int .i64 l] 117)).alloc (.cells #[.nilFunc, .func (.func 233) #[] #[], .func (.func 234) #[] #[], .func (.func 235) #[] #[], .func (.func 236) #[] #[], .func (.func 237) #[] #[]] 261) = W0 := ⟨_, rfl⟩
 have b0 : Below w.heap.size w W0 := by
  rw [← hW0]
  exact ((((Below.refl _ w).alloc (Nat.le_refl _) _).alloc (by simp) _).alloc (by simp; omega) _).alloc (by simp; omega) _
 have q2 : W0.heap[w.heap.size + 1 + 1]? = some (.cells #[.int .i64 s, .int .i64 e, .int .i64 l] 117 (0, 0)) := by
  rw [← hW0, Below.heap_alloc _ _ _ (by simp)]
  exact KLe.heap_alloc_at _ _ _ (by simp)
 obtain ⟨t0, t1, t2⟩ := three_box q2
 have HB0 : Hid (Below w.heap.size w W0) := b0
 clear b0 q2
 go_enter Tryz.func167, Tryz.ntmps167
 go_wp2_with fail
 try rw [hW0]
 refine bodyPost_ret (v := .tuple #[av s e l, .bool false]) (by simp [results, Tryz.results167, go_sem, t0, t1, t2]) rfl ?_
 exact ⟨rfl, HB0.out⟩
theorem enter_text {t : ByteArray} {a1 : Option Addr} {n1 c1 : Nat} {a2 : Option Addr} {n2 c2 : Nat} {a3 : Option Addr} {n3 c3 : Nat} {a4 : Option Addr} {n4 c4 : Nat} {a5 : Option Addr} {n5 c5 : Nat} {s e l : Int} {w : World} {s' e' l' : Int} {z : Bool} (hc : ∀ W, Below w.heap.size w W → Calls Tryz.prog 233 #[av s e l, cv 1 t a1 n1 c1 a2 n2 c2 a3 n3 c3 a4 n4 c4 a5 n5 c5] W fun x w' => x = .returned (.tuple #[av s' e' l', .bool z]) ∧ Below W.heap.size W w') :
  Calls Tryz.prog 167 #[av s e l, cv 1 t a1 n1 c1 a2 n2 c2 a3 n3 c3 a4 n4 c4 a5 n5 c5] w fun x w' => x = .returned (.tuple #[av s' e' l', .bool z]) ∧ Below w.heap.size w w' := by
 obtain ⟨W0, hW0⟩ : ∃ W0, (((w.alloc (.cells #[.int .i64 s, .int .i64 e, .int .i64 l] 117)).alloc (.cells #[.int .i64 1, .string t, .slice a1 n1 c1, .slice a2 n2 c2, .slice a3 n3 c3, .slice a4 n4 c4, .slice a5 n5 c5] 66)).alloc (.cells #[.int .i64 0, .int .i64 0, .int .i64 0] 117)).alloc (.cells #[.nilFunc, .func (.func 233) #[] #[], .func (.func 234) #[] #[], .func (.func 235) #[] #[], .func (.func 236) #[] #[], .func (.func 237) #[] #[]] 261) = W0 := ⟨_, rfl⟩
 have hsz : W0.heap.size = w.heap.size + 4 := by rw [← hW0]; simp
 have hsD : W0.drew.heap.size = w.heap.size + 4 := by simp [hsz]
 have HBa : Hid (Below w.heap.size w W0) := by
  rw [← hW0]
  exact ((((Below.refl _ w).alloc (Nat.le_refl _) _).alloc (by simp) _).alloc (by simp; omega) _).alloc (by simp; omega) _
 have HAa : Hid (W0.heap[w.heap.size]? = some (.cells #[.int .i64 s, .int .i64 e, .int .i64 l] 117 (0, 0))) := by
  rw [← hW0]
  iterate 3 rw [Below.heap_alloc _ _ _ (by simp; try omega)]
  exact KLe.heap_alloc_at _ _ _ (by simp)
 have HCa : Hid (W0.heap[w.heap.size + 1]? = some (.cells #[.int .i64 1, .string t, .slice a1 n1 c1, .slice a2 n2 c2, .slice a3 n3 c3, .slice a4 n4 c4, .slice a5 n5 c5] 66 (0, 0))) := by
  rw [← hW0]
  iterate 2 rw [Below.heap_alloc _ _ _ (by simp; try omega)]
  exact KLe.heap_alloc_at _ _ _ (by simp)
 have HRa : Hid (W0.heap[w.heap.size + 1 + 1]? = some (.cells #[.int .i64 0, .int .i64 0, .int .i64 0] 117 (0, 0))) := by
  rw [← hW0]
  iterate 1 rw [Below.heap_alloc _ _ _ (by simp; try omega)]
  exact KLe.heap_alloc_at _ _ _ (by simp)
 have HTa : Hid (W0.heap[w.heap.size + 1 + 1 + 1]? = some (.cells #[.nilFunc, .func (.func 233) #[] #[], .func (.func 234) #[] #[], .func (.func 235) #[] #[], .func (.func 236) #[] #[], .func (.func 237) #[] #[]] 261 (0, 0))) := by
  rw [← hW0]
  exact KLe.heap_alloc_at _ _ _ (by simp)
 have HS : Hid (∀ w' : World, w'.heap[w.heap.size]? = some (.cells #[.int .i64 s, .int .i64 e, .int .i64 l] 117 (0, 0)) → w'.heap[w.heap.size + 1]? = some (.cells #[.int .i64 1, .string t, .slice a1 n1 c1, .slice a2 n2 c2, .slice a3 n3 c3, .slice a4 n4 c4, .slice a5 n5 c5] 66 (0, 0)) → w'.heap[w.heap.size + 1 + 1 + 1]? = some (.cells #[.nilFunc, .func (.func 233) #[] #[], .func (.func 234) #[] #[], .func (.func 235) #[] #[], .func (.func 236) #[] #[], .func (.func 237) #[] #[]] 261 (0, 0)) → w'.cell? ⟨w.heap.size, 0, none⟩ = some (.int .i64 s) ∧ w'.cell? ⟨w.heap.size, 1, none⟩ = some (.int .i64 e) ∧ w'.cell? ⟨w.heap.size, 2, none⟩ = some (.int .i64 l) ∧ w'.cell? ⟨w.heap.size + 1, 0, none⟩ = some (.int .i64 1) ∧ w'.cell? ⟨w.heap.size + 1, 1, none⟩ = some (.string t) ∧ w'.cell? ⟨w.heap.size + 1, 2, none⟩ = some (.slice a1 n1 c1) ∧ w'.cell? ⟨w.heap.size + 1, 3, none⟩ = some (.slice a2 n2 c2) ∧ w'.cell? ⟨w.heap.size + 1, 4, none⟩ = some (.slice a3 n3 c3) ∧ w'.cell? ⟨w.heap.size + 1, 5, none⟩ = some (.slice a4 n4 c4) ∧ w'.cell? ⟨w.heap.size + 1, 6, none⟩ = some (.slice a5 n5 c5) ∧ w'.cell? ⟨w.heap.size + 1 + 1 + 1, 1, none⟩ = some (.func (.func 233) #[] #[])) := by
  intro w' hA hC hT
  obtain ⟨p0, p1, p2⟩ := three_box hA
  obtain ⟨q0, q1, q2, q3, q4, q5, q6⟩ := seven_box hC
  exact ⟨p0, p1, p2, q0, q1, q2, q3, q4, q5, q6, by simp [World.cell?, hT]⟩
 have HSa : Hid _ := HS.out W0 HAa.out HCa.out HTa.out
 obtain ⟨a0_, a1_, a2_, a3_, a4_, a5_, a6_, a7_, a8_, a9_, a10_⟩ := HSa.out
 go_enter Tryz.func167, Tryz.ntmps167
 go_wp2_with fail
 try rw [hW0]
 refine wp_region_held_drew (S := (fun w' => w'.cell? ⟨w.heap.size, 0, none⟩ = some (.int .i64 s) ∧ w'.cell? ⟨w.heap.size, 1, none⟩ = some (.int .i64 e) ∧ w'.cell? ⟨w.heap.size, 2, none⟩ = some (.int .i64 l) ∧ w'.cell? ⟨w.heap.size + 1, 0, none⟩ = some (.int .i64 1) ∧ w'.cell? ⟨w.heap.size + 1, 1, none⟩ = some (.string t) ∧ w'.cell? ⟨w.heap.size + 1, 2, none⟩ = some (.slice a1 n1 c1) ∧ w'.cell? ⟨w.heap.size + 1, 3, none⟩ = some (.slice a2 n2 c2) ∧ w'.cell? ⟨w.heap.size + 1, 4, none⟩ = some (.slice a3 n3 c3) ∧ w'.cell? ⟨w.heap.size + 1, 5, none⟩ = some (.slice a4 n4 c4) ∧ w'.cell? ⟨w.heap.size + 1, 6, none⟩ = some (.slice a5 n5 c5) ∧ w'.cell? ⟨w.heap.size + 1 + 1 + 1, 1, none⟩ = some (.func (.func 233) #[] #[]))) (by kernel_rfl) (by exact HSa.out) (fun hHeld => ?_)
 refine wpAnyH_take (i := 0) (v := ?_) rfl (by kernel_rfl) (by kernel_rfl) (by kernel_rfl) (fun _ _ _ h => h) (Or.inl ⟨by rfl, ?_⟩) (by assumption) ?_
 rotate_left 1
 ·intro w hSw; (try dsimp only at hSw); go_simp; first | done | with_reducible rfl | (rw [if_neg (by omega)])
 try simp only [Act.put, zA, zB, zD, zE, zF]
 refine wpAnyH_take (i := 1) (v := ?_) rfl (by kernel_rfl) (by kernel_rfl) (by kernel_rfl) (fun _ _ _ h => h) (Or.inl ⟨by rfl, ?_⟩) (by assumption) ?_
 rotate_left 1
 ·intro w hSw; (try dsimp only at hSw); go_simp; first | done | with_reducible rfl | (rw [if_neg (by omega)])
 try simp only [Act.put, zA, zB, zC, zD, zE, zF]
 refine wpAnyH_take (i := 2) (v := ?_) rfl (by kernel_rfl) (by kernel_rfl) (by kernel_rfl) (fun _ _ _ h => h) (Or.inl ⟨by rfl, ?_⟩) (by assumption) ?_
 rotate_left 1
 ·intro w hSw; (try dsimp only at hSw); go_simp; first | done | with_reducible rfl | (rw [if_neg (by omega)])
 try simp only [Act.put, zA, zB, zC, zD, zE, zF]
 refine wpAnyH_take (i := 3) (v := ?_) rfl (by kernel_rfl) (by kernel_rfl) (by kernel_rfl) (fun _ _ _ h => h) (Or.inl ⟨by rfl, ?_⟩) (by assumption) ?_
 rotate_left 1
 ·intro w hSw; (try dsimp only at hSw); go_simp; first | done | with_reducible rfl | (rw [if_neg (by omega)])
 try simp only [Act.put, zA, zB, zC, zD, zE, zF]
 refine wpAnyH_take (i := 4) (v := ?_) rfl (by kernel_rfl) (by kernel_rfl) (by kernel_rfl) (fun _ _ _ h => h) (Or.inl ⟨by rfl, ?_⟩) (by assumption) ?_
 rotate_left 1
 ·intro w hSw; (try dsimp only at hSw); go_simp; first | done | with_reducible rfl | (rw [if_neg (by omega)])
 try simp only [Act.put, zA, zB, zC, zD, zE, zF]
 refine wpAnyH_take (i := 5) (v := ?_) rfl (by kernel_rfl) (by kernel_rfl) (by kernel_rfl) (fun _ _ _ h => h) (Or.inl ⟨by rfl, ?_⟩) (by assumption) ?_
 rotate_left 1
 ·intro w hSw; (try dsimp only at hSw); go_simp; first | done | with_reducible rfl | (rw [if_neg (by omega)])
 try simp only [Act.put, zA, zB, zC, zD, zE, zF]
 refine wpAnyH_take (i := 6) (v := ?_) rfl (by kernel_rfl) (by kernel_rfl) (by kernel_rfl) (fun _ _ _ h => h) (Or.inl ⟨by rfl, ?_⟩) (by assumption) ?_
 rotate_left 1
 ·intro w hSw; (try dsimp only at hSw); go_simp; first | done | with_reducible rfl | (rw [if_neg (by omega)])
 try simp only [Act.put, zA, zB, zC, zD, zE, zF]
 refine wpAnyH_ready (rs := [7]) (by kernel_rfl) (by simp) ?_
 refine AllReadyH.cons rfl (fun K hK => ?_) AllReadyH.nil
 go_simp
 refine (hc _ (HBa.out.trans (Below.refl _ W0).drew)).mono ?_
 rintro x W5 ⟨rfl, b5⟩
 have hs5 := b5.size
 rw [hsD] at hs5
 have HBb : Hid (Below w.heap.size w W5) := (HBa.out.trans (Below.refl _ W0).drew).trans (b5.mono HBa.out.size)
 have b6 : Below W0.heap.size W0 W5 := ((Below.refl _ W0).drew).trans b5
 have HAb : Hid _ := (b6.block (w.heap.size) (by omega)).trans HAa.out
 have HCb : Hid _ := (b6.block (w.heap.size + 1) (by omega)).trans HCa.out
 have HRb : Hid _ := (b6.block (w.heap.size + 1 + 1) (by omega)).trans HRa.out
 have HTb : Hid _ := (b6.block (w.heap.size + 1 + 1 + 1) (by omega)).trans HTa.out
 have HSb : Hid _ := HS.out W5 HAb.out HCb.out HTb.out
 clear b5 b6
 go_wp2_with fail
 refine hK.out _ _ (by exact HSb.out) (fun hHeld => ?_)
 clear hK K
 try simp only [Act.put, zA, zB, zC, zD, zE, zF]
 refine wpAnyH_take (i := 8) (v := ?_) rfl (by kernel_rfl) (by kernel_rfl) (by kernel_rfl) (fun _ _ _ h => h) (Or.inl ⟨by rfl, ?_⟩) (by assumption) ?_
 rotate_left 1
 ·intro w hSw; (try dsimp only at hSw); go_simp; first | done | with_reducible rfl | (rw [if_neg (by omega)])
 try simp only [Act.put, zA, zB, zC, zD, zE, zF]
 refine wpAnyH_take (i := 9) (v := ?_) rfl (by kernel_rfl) (by kernel_rfl) (by kernel_rfl) (fun _ _ _ h => h) (Or.inl ⟨by rfl, ?_⟩) (by assumption) ?_
 rotate_left 1
 ·intro w hSw; (try dsimp only at hSw); go_simp; first | done | with_reducible rfl | (rw [if_neg (by omega)])
 try simp only [Act.put, zA, zB, zC, zD, zE, zF]
 obtain ⟨r0, r1, r2⟩ := three_box HRb.out
 have rf0 := XBase.frozen_box HRb.out 0
 have rf1 := XBase.frozen_box HRb.out 1
 have rf2 := XBase.frozen_box HRb.out 2
 obtain ⟨W9, hW9⟩ : ∃ W9, ((W5.setCell ⟨w.heap.size + 1 + 1, 0, none⟩ (.int .i64 s')).setCell ⟨w.heap.size + 1 + 1, 1, none⟩ (.int .i64 e')).setCell ⟨w.heap.size + 1 + 1, 2, none⟩ (.int .i64 l') = W9 := ⟨_, rfl⟩
 obtain ⟨s1, s2, s3⟩ := set3 _ _ _ HRb.out hW9
 have HSc : Hid _ := HS.out W9 ((s3 _ (by omega)).trans HAb.out) ((s3 _ (by omega)).trans HCb.out) ((s3 _ (by omega)).trans HTb.out)
 obtain ⟨t0, t1, t2⟩ := three_box s1
 have HB9 : Hid (Below w.heap.size w W9) := s2 _ _ (by omega) HBb.out
 clear s1 s2 s3
 refine wpAnyH_ready (rs := [10]) (by kernel_rfl) (by simp) ?_
 refine AllReadyH.cons rfl (fun K hK => ?_) AllReadyH.nil
 go_simp
 go_wp2_with fail
 try rw [hW9]
 refine hK.out _ _ (by exact HSc.out) (fun hHeld => ?_)
 clear hK K
 try simp only [Act.put, zA, zB, zC, zD, zE, zF]
 refine wpAnyH_take (i := 11) (v := ?_) rfl (by kernel_rfl) (by kernel_rfl) (by kernel_rfl) (fun _ _ _ h => h) (Or.inl ⟨by rfl, ?_⟩) (by assumption) ?_
 rotate_left 1
 ·intro w hSw; (try dsimp only at hSw); go_simp; first | done | with_reducible rfl | (rw [if_neg (by omega)])
 try simp only [Act.put, zA, zB, zC, zD, zE, zF]
 refine wpAnyH_done (by kernel_rfl) ?_ _
 go_wp2_with fail
 refine bodyPost_ret (v := .tuple #[av s' e' l', .bool z]) (by simp [results, Tryz.results167, go_sem, t0, t1, t2]) rfl ?_
 exact ⟨rfl, HB9.out⟩
theorem enter_element {t : ByteArray} {a1 : Option Addr} {n1 c1 : Nat} {a2 : Option Addr} {n2 c2 : Nat} {a3 : Option Addr} {n3 c3 : Nat} {a4 : Option Addr} {n4 c4 : Nat} {a5 : Option Addr} {n5 c5 : Nat} {s e l : Int} {w : World} {s' e' l' : Int} {z : Bool} (hc : ∀ W, Below w.heap.size w W → Calls Tryz.prog 234 #[av s e l, cv 2 t a1 n1 c1 a2 n2 c2 a3 n3 c3 a4 n4 c4 a5 n5 c5] W fun x w' => x = .returned (.tuple #[av s' e' l', .bool z]) ∧ Below W.heap.size W w') :
  Calls Tryz.prog 167 #[av s e l, cv 2 t a1 n1 c1 a2 n2 c2 a3 n3 c3 a4 n4 c4 a5 n5 c5] w fun x w' => x = .returned (.tuple #[av s' e' l', .bool z]) ∧ Below w.heap.size w w' := by
 obtain ⟨W0, hW0⟩ : ∃ W0, (((w.alloc (.cells #[.int .i64 s, .int .i64 e, .int .i64 l] 117)).alloc (.cells #[.int .i64 2, .string t, .slice a1 n1 c1, .slice a2 n2 c2, .slice a3 n3 c3, .slice a4 n4 c4, .slice a5 n5 c5] 66)).alloc (.cells #[.int .i64 0, .int .i64 0, .int .i64 0] 117)).alloc (.cells #[.nilFunc, .func (.func 233) #[] #[], .func (.func 234) #[] #[], .func (.func 235) #[] #[], .func (.func 236) #[] #[], .func (.func 237) #[] #[]] 261) = W0 := ⟨_, rfl⟩
 have hsz : W0.heap.size = w.heap.size + 4 := by rw [← hW0]; simp
 have hsD : W0.drew.heap.size = w.heap.size + 4 := by simp [hsz]
 have HBa : Hid (Below w.heap.size w W0) := by
  rw [← hW0]
  exact ((((Below.refl _ w).alloc (Nat.le_refl _) _).alloc (by simp) _).alloc (by simp; omega) _).alloc (by simp; omega) _
 have HAa : Hid (W0.heap[w.heap.size]? = some (.cells #[.int .i64 s, .int .i64 e, .int .i64 l] 117 (0, 0))) := by
  rw [← hW0]
  iterate 3 rw [Below.heap_alloc _ _ _ (by simp; try omega)]
  exact KLe.heap_alloc_at _ _ _ (by simp)
 have HCa : Hid (W0.heap[w.heap.size + 1]? = some (.cells #[.int .i64 2, .string t, .slice a1 n1 c1, .slice a2 n2 c2, .slice a3 n3 c3, .slice a4 n4 c4, .slice a5 n5 c5] 66 (0, 0))) := by
  rw [← hW0]
  iterate 2 rw [Below.heap_alloc _ _ _ (by simp; try omega)]
  exact KLe.heap_alloc_at _ _ _ (by simp)
 have HRa : Hid (W0.heap[w.heap.size + 1 + 1]? = some (.cells #[.int .i64 0, .int .i64 0, .int .i64 0] 117 (0, 0))) := by
  rw [← hW0]
  iterate 1 rw [Below.heap_alloc _ _ _ (by simp; try omega)]
  exact KLe.heap_alloc_at _ _ _ (by simp)
 have HTa : Hid (W0.heap[w.heap.size + 1 + 1 + 1]? = some (.cells #[.nilFunc, .func (.func 233) #[] #[], .func (.func 234) #[] #[], .func (.func 235) #[] #[], .func (.func 236) #[] #[], .func (.func 237) #[] #[]] 261 (0, 0))) := by
  rw [← hW0]
  exact KLe.heap_alloc_at _ _ _ (by simp)
 have HS : Hid (∀ w' : World, w'.heap[w.heap.size]? = some (.cells #[.int .i64 s, .int .i64 e, .int .i64 l] 117 (0, 0)) → w'.heap[w.heap.size + 1]? = some (.cells #[.int .i64 2, .string t, .slice a1 n1 c1, .slice a2 n2 c2, .slice a3 n3 c3, .slice a4 n4 c4, .slice a5 n5 c5] 66 (0, 0)) → w'.heap[w.heap.size + 1 + 1 + 1]? = some (.cells #[.nilFunc, .func (.func 233) #[] #[], .func (.func 234) #[] #[], .func (.func 235) #[] #[], .func (.func 236) #[] #[], .func (.func 237) #[] #[]] 261 (0, 0)) → w'.cell? ⟨w.heap.size, 0, none⟩ = some (.int .i64 s) ∧ w'.cell? ⟨w.heap.size, 1, none⟩ = some (.int .i64 e) ∧ w'.cell? ⟨w.heap.size, 2, none⟩ = some (.int .i64 l) ∧ w'.cell? ⟨w.heap.size + 1, 0, none⟩ = some (.int .i64 2) ∧ w'.cell? ⟨w.heap.size + 1, 1, none⟩ = some (.string t) ∧ w'.cell? ⟨w.heap.size + 1, 2, none⟩ = some (.slice a1 n1 c1) ∧ w'.cell? ⟨w.heap.size + 1, 3, none⟩ = some (.slice a2 n2 c2) ∧ w'.cell? ⟨w.heap.size + 1, 4, none⟩ = some (.slice a3 n3 c3) ∧ w'.cell? ⟨w.heap.size + 1, 5, none⟩ = some (.slice a4 n4 c4) ∧ w'.cell? ⟨w.heap.size + 1, 6, none⟩ = some (.slice a5 n5 c5) ∧ w'.cell? ⟨w.heap.size + 1 + 1 + 1, 2, none⟩ = some (.func (.func 234) #[] #[])) := by
  intro w' hA hC hT
  obtain ⟨p0, p1, p2⟩ := three_box hA
  obtain ⟨q0, q1, q2, q3, q4, q5, q6⟩ := seven_box hC
  exact ⟨p0, p1, p2, q0, q1, q2, q3, q4, q5, q6, by simp [World.cell?, hT]⟩
 have HSa : Hid _ := HS.out W0 HAa.out HCa.out HTa.out
 obtain ⟨a0_, a1_, a2_, a3_, a4_, a5_, a6_, a7_, a8_, a9_, a10_⟩ := HSa.out
 go_enter Tryz.func167, Tryz.ntmps167
 go_wp2_with fail
 try rw [hW0]
 refine wp_region_held_drew (S := (fun w' => w'.cell? ⟨w.heap.size, 0, none⟩ = some (.int .i64 s) ∧ w'.cell? ⟨w.heap.size, 1, none⟩ = some (.int .i64 e) ∧ w'.cell? ⟨w.heap.size, 2, none⟩ = some (.int .i64 l) ∧ w'.cell? ⟨w.heap.size + 1, 0, none⟩ = some (.int .i64 2) ∧ w'.cell? ⟨w.heap.size + 1, 1, none⟩ = some (.string t) ∧ w'.cell? ⟨w.heap.size + 1, 2, none⟩ = some (.slice a1 n1 c1) ∧ w'.cell? ⟨w.heap.size + 1, 3, none⟩ = some (.slice a2 n2 c2) ∧ w'.cell? ⟨w.heap.size + 1, 4, none⟩ = some (.slice a3 n3 c3) ∧ w'.cell? ⟨w.heap.size + 1, 5, none⟩ = some (.slice a4 n4 c4) ∧ w'.cell? ⟨w.heap.size + 1, 6, none⟩ = some (.slice a5 n5 c5) ∧ w'.cell? ⟨w.heap.size + 1 + 1 + 1, 2, none⟩ = some (.func (.func 234) #[] #[]))) (by kernel_rfl) (by exact HSa.out) (fun hHeld => ?_)
 refine wpAnyH_take (i := 0) (v := ?_) rfl (by kernel_rfl) (by kernel_rfl) (by kernel_rfl) (fun _ _ _ h => h) (Or.inl ⟨by rfl, ?_⟩) (by assumption) ?_
 rotate_left 1
 ·intro w hSw; (try dsimp only at hSw); go_simp; first | done | with_reducible rfl | (rw [if_neg (by omega)])
 try simp only [Act.put, zA, zB, zD, zE, zF]
 refine wpAnyH_take (i := 1) (v := ?_) rfl (by kernel_rfl) (by kernel_rfl) (by kernel_rfl) (fun _ _ _ h => h) (Or.inl ⟨by rfl, ?_⟩) (by assumption) ?_
 rotate_left 1
 ·intro w hSw; (try dsimp only at hSw); go_simp; first | done | with_reducible rfl | (rw [if_neg (by omega)])
 try simp only [Act.put, zA, zB, zC, zD, zE, zF]
 refine wpAnyH_take (i := 2) (v := ?_) rfl (by kernel_rfl) (by kernel_rfl) (by kernel_rfl) (fun _ _ _ h => h) (Or.inl ⟨by rfl, ?_⟩) (by assumption) ?_
 rotate_left 1
 ·intro w hSw; (try dsimp only at hSw); go_simp; first | done | with_reducible rfl | (rw [if_neg (by omega)])
 try simp only [Act.put, zA, zB, zC, zD, zE, zF]
 refine wpAnyH_take (i := 3) (v := ?_) rfl (by kernel_rfl) (by kernel_rfl) (by kernel_rfl) (fun _ _ _ h => h) (Or.inl ⟨by rfl, ?_⟩) (by assumption) ?_
 rotate_left 1
 ·intro w hSw; (try dsimp only at hSw); go_simp; first | done | with_reducible rfl | (rw [if_neg (by omega)])
 try simp only [Act.put, zA, zB, zC, zD, zE, zF]
 refine wpAnyH_take (i := 4) (v := ?_) rfl (by kernel_rfl) (by kernel_rfl) (by kernel_rfl) (fun _ _ _ h => h) (Or.inl ⟨by rfl, ?_⟩) (by assumption) ?_
 rotate_left 1
 ·intro w hSw; (try dsimp only at hSw); go_simp; first | done | with_reducible rfl | (rw [if_neg (by omega)])
 try simp only [Act.put, zA, zB, zC, zD, zE, zF]
 refine wpAnyH_take (i := 5) (v := ?_) rfl (by kernel_rfl) (by kernel_rfl) (by kernel_rfl) (fun _ _ _ h => h) (Or.inl ⟨by rfl, ?_⟩) (by assumption) ?_
 rotate_left 1
 ·intro w hSw; (try dsimp only at hSw); go_simp; first | done | with_reducible rfl | (rw [if_neg (by omega)])
 try simp only [Act.put, zA, zB, zC, zD, zE, zF]
 refine wpAnyH_take (i := 6) (v := ?_) rfl (by kernel_rfl) (by kernel_rfl) (by kernel_rfl) (fun _ _ _ h => h) (Or.inl ⟨by rfl, ?_⟩) (by assumption) ?_
 rotate_left 1
 ·intro w hSw; (try dsimp only at hSw); go_simp; first | done | with_reducible rfl | (rw [if_neg (by omega)])
 try simp only [Act.put, zA, zB, zC, zD, zE, zF]
 refine wpAnyH_ready (rs := [7]) (by kernel_rfl) (by simp) ?_
 refine AllReadyH.cons rfl (fun K hK => ?_) AllReadyH.nil
 go_simp
 refine (hc _ (HBa.out.trans (Below.refl _ W0).drew)).mono ?_
 rintro x W5 ⟨rfl, b5⟩
 have hs5 := b5.size
 rw [hsD] at hs5
 have HBb : Hid (Below w.heap.size w W5) := (HBa.out.trans (Below.refl _ W0).drew).trans (b5.mono HBa.out.size)
 have b6 : Below W0.heap.size W0 W5 := ((Below.refl _ W0).drew).trans b5
 have HAb : Hid _ := (b6.block (w.heap.size) (by omega)).trans HAa.out
 have HCb : Hid _ := (b6.block (w.heap.size + 1) (by omega)).trans HCa.out
 have HRb : Hid _ := (b6.block (w.heap.size + 1 + 1) (by omega)).trans HRa.out
 have HTb : Hid _ := (b6.block (w.heap.size + 1 + 1 + 1) (by omega)).trans HTa.out
 have HSb : Hid _ := HS.out W5 HAb.out HCb.out HTb.out
 clear b5 b6
 go_wp2_with fail
 refine hK.out _ _ (by exact HSb.out) (fun hHeld => ?_)
 clear hK K
 try simp only [Act.put, zA, zB, zC, zD, zE, zF]
 refine wpAnyH_take (i := 8) (v := ?_) rfl (by kernel_rfl) (by kernel_rfl) (by kernel_rfl) (fun _ _ _ h => h) (Or.inl ⟨by rfl, ?_⟩) (by assumption) ?_
 rotate_left 1
 ·intro w hSw; (try dsimp only at hSw); go_simp; first | done | with_reducible rfl | (rw [if_neg (by omega)])
 try simp only [Act.put, zA, zB, zC, zD, zE, zF]
 refine wpAnyH_take (i := 9) (v := ?_) rfl (by kernel_rfl) (by kernel_rfl) (by kernel_rfl) (fun _ _ _ h => h) (Or.inl ⟨by rfl, ?_⟩) (by assumption) ?_
 rotate_left 1
 ·intro w hSw; (try dsimp only at hSw); go_simp; first | done | with_reducible rfl | (rw [if_neg (by omega)])
 try simp only [Act.put, zA, zB, zC, zD, zE, zF]
 obtain ⟨r0, r1, r2⟩ := three_box HRb.out
 have rf0 := XBase.frozen_box HRb.out 0
 have rf1 := XBase.frozen_box HRb.out 1
 have rf2 := XBase.frozen_box HRb.out 2
 obtain ⟨W9, hW9⟩ : ∃ W9, ((W5.setCell ⟨w.heap.size + 1 + 1, 0, none⟩ (.int .i64 s')).setCell ⟨w.heap.size + 1 + 1, 1, none⟩ (.int .i64 e')).setCell ⟨w.heap.size + 1 + 1, 2, none⟩ (.int .i64 l') = W9 := ⟨_, rfl⟩
 obtain ⟨s1, s2, s3⟩ := set3 _ _ _ HRb.out hW9
 have HSc : Hid _ := HS.out W9 ((s3 _ (by omega)).trans HAb.out) ((s3 _ (by omega)).trans HCb.out) ((s3 _ (by omega)).trans HTb.out)
 obtain ⟨t0, t1, t2⟩ := three_box s1
 have HB9 : Hid (Below w.heap.size w W9) := s2 _ _ (by omega) HBb.out
 clear s1 s2 s3
 refine wpAnyH_ready (rs := [10]) (by kernel_rfl) (by simp) ?_
 refine AllReadyH.cons rfl (fun K hK => ?_) AllReadyH.nil
 go_simp
 go_wp2_with fail
 try rw [hW9]
 refine hK.out _ _ (by exact HSc.out) (fun hHeld => ?_)
 clear hK K
 try simp only [Act.put, zA, zB, zC, zD, zE, zF]
 refine wpAnyH_take (i := 11) (v := ?_) rfl (by kernel_rfl) (by kernel_rfl) (by kernel_rfl) (fun _ _ _ h => h) (Or.inl ⟨by rfl, ?_⟩) (by assumption) ?_
 rotate_left 1
 ·intro w hSw; (try dsimp only at hSw); go_simp; first | done | with_reducible rfl | (rw [if_neg (by omega)])
 try simp only [Act.put, zA, zB, zC, zD, zE, zF]
 refine wpAnyH_done (by kernel_rfl) ?_ _
 go_wp2_with fail
 refine bodyPost_ret (v := .tuple #[av s' e' l', .bool z]) (by simp [results, Tryz.results167, go_sem, t0, t1, t2]) rfl ?_
 exact ⟨rfl, HB9.out⟩
theorem enter_condition {t : ByteArray} {a1 : Option Addr} {n1 c1 : Nat} {a2 : Option Addr} {n2 c2 : Nat} {a3 : Option Addr} {n3 c3 : Nat} {a4 : Option Addr} {n4 c4 : Nat} {a5 : Option Addr} {n5 c5 : Nat} {s e l : Int} {w : World} {s' e' l' : Int} {z : Bool} (hc : ∀ W, Below w.heap.size w W → Calls Tryz.prog 235 #[av s e l, cv 3 t a1 n1 c1 a2 n2 c2 a3 n3 c3 a4 n4 c4 a5 n5 c5] W fun x w' => x = .returned (.tuple #[av s' e' l', .bool z]) ∧ Below W.heap.size W w') :
  Calls Tryz.prog 167 #[av s e l, cv 3 t a1 n1 c1 a2 n2 c2 a3 n3 c3 a4 n4 c4 a5 n5 c5] w fun x w' => x = .returned (.tuple #[av s' e' l', .bool z]) ∧ Below w.heap.size w w' := by
 obtain ⟨W0, hW0⟩ : ∃ W0, (((w.alloc (.cells #[.int .i64 s, .int .i64 e, .int .i64 l] 117)).alloc (.cells #[.int .i64 3, .string t, .slice a1 n1 c1, .slice a2 n2 c2, .slice a3 n3 c3, .slice a4 n4 c4, .slice a5 n5 c5] 66)).alloc (.cells #[.int .i64 0, .int .i64 0, .int .i64 0] 117)).alloc (.cells #[.nilFunc, .func (.func 233) #[] #[], .func (.func 234) #[] #[], .func (.func 235) #[] #[], .func (.func 236) #[] #[], .func (.func 237) #[] #[]] 261) = W0 := ⟨_, rfl⟩
 have hsz : W0.heap.size = w.heap.size + 4 := by rw [← hW0]; simp
 have hsD : W0.drew.heap.size = w.heap.size + 4 := by simp [hsz]
 have HBa : Hid (Below w.heap.size w W0) := by
  rw [← hW0]
  exact ((((Below.refl _ w).alloc (Nat.le_refl _) _).alloc (by simp) _).alloc (by simp; omega) _).alloc (by simp; omega) _
 have HAa : Hid (W0.heap[w.heap.size]? = some (.cells #[.int .i64 s, .int .i64 e, .int .i64 l] 117 (0, 0))) := by
  rw [← hW0]
  iterate 3 rw [Below.heap_alloc _ _ _ (by simp; try omega)]
  exact KLe.heap_alloc_at _ _ _ (by simp)
 have HCa : Hid (W0.heap[w.heap.size + 1]? = some (.cells #[.int .i64 3, .string t, .slice a1 n1 c1, .slice a2 n2 c2, .slice a3 n3 c3, .slice a4 n4 c4, .slice a5 n5 c5] 66 (0, 0))) := by
  rw [← hW0]
  iterate 2 rw [Below.heap_alloc _ _ _ (by simp; try omega)]
  exact KLe.heap_alloc_at _ _ _ (by simp)
 have HRa : Hid (W0.heap[w.heap.size + 1 + 1]? = some (.cells #[.int .i64 0, .int .i64 0, .int .i64 0] 117 (0, 0))) := by
  rw [← hW0]
  iterate 1 rw [Below.heap_alloc _ _ _ (by simp; try omega)]
  exact KLe.heap_alloc_at _ _ _ (by simp)
 have HTa : Hid (W0.heap[w.heap.size + 1 + 1 + 1]? = some (.cells #[.nilFunc, .func (.func 233) #[] #[], .func (.func 234) #[] #[], .func (.func 235) #[] #[], .func (.func 236) #[] #[], .func (.func 237) #[] #[]] 261 (0, 0))) := by
  rw [← hW0]
  exact KLe.heap_alloc_at _ _ _ (by simp)
 have HS : Hid (∀ w' : World, w'.heap[w.heap.size]? = some (.cells #[.int .i64 s, .int .i64 e, .int .i64 l] 117 (0, 0)) → w'.heap[w.heap.size + 1]? = some (.cells #[.int .i64 3, .string t, .slice a1 n1 c1, .slice a2 n2 c2, .slice a3 n3 c3, .slice a4 n4 c4, .slice a5 n5 c5] 66 (0, 0)) → w'.heap[w.heap.size + 1 + 1 + 1]? = some (.cells #[.nilFunc, .func (.func 233) #[] #[], .func (.func 234) #[] #[], .func (.func 235) #[] #[], .func (.func 236) #[] #[], .func (.func 237) #[] #[]] 261 (0, 0)) → w'.cell? ⟨w.heap.size, 0, none⟩ = some (.int .i64 s) ∧ w'.cell? ⟨w.heap.size, 1, none⟩ = some (.int .i64 e) ∧ w'.cell? ⟨w.heap.size, 2, none⟩ = some (.int .i64 l) ∧ w'.cell? ⟨w.heap.size + 1, 0, none⟩ = some (.int .i64 3) ∧ w'.cell? ⟨w.heap.size + 1, 1, none⟩ = some (.string t) ∧ w'.cell? ⟨w.heap.size + 1, 2, none⟩ = some (.slice a1 n1 c1) ∧ w'.cell? ⟨w.heap.size + 1, 3, none⟩ = some (.slice a2 n2 c2) ∧ w'.cell? ⟨w.heap.size + 1, 4, none⟩ = some (.slice a3 n3 c3) ∧ w'.cell? ⟨w.heap.size + 1, 5, none⟩ = some (.slice a4 n4 c4) ∧ w'.cell? ⟨w.heap.size + 1, 6, none⟩ = some (.slice a5 n5 c5) ∧ w'.cell? ⟨w.heap.size + 1 + 1 + 1, 3, none⟩ = some (.func (.func 235) #[] #[])) := by
  intro w' hA hC hT
  obtain ⟨p0, p1, p2⟩ := three_box hA
  obtain ⟨q0, q1, q2, q3, q4, q5, q6⟩ := seven_box hC
  exact ⟨p0, p1, p2, q0, q1, q2, q3, q4, q5, q6, by simp [World.cell?, hT]⟩
 have HSa : Hid _ := HS.out W0 HAa.out HCa.out HTa.out
 obtain ⟨a0_, a1_, a2_, a3_, a4_, a5_, a6_, a7_, a8_, a9_, a10_⟩ := HSa.out
 go_enter Tryz.func167, Tryz.ntmps167
 go_wp2_with fail
 try rw [hW0]
 refine wp_region_held_drew (S := (fun w' => w'.cell? ⟨w.heap.size, 0, none⟩ = some (.int .i64 s) ∧ w'.cell? ⟨w.heap.size, 1, none⟩ = some (.int .i64 e) ∧ w'.cell? ⟨w.heap.size, 2, none⟩ = some (.int .i64 l) ∧ w'.cell? ⟨w.heap.size + 1, 0, none⟩ = some (.int .i64 3) ∧ w'.cell? ⟨w.heap.size + 1, 1, none⟩ = some (.string t) ∧ w'.cell? ⟨w.heap.size + 1, 2, none⟩ = some (.slice a1 n1 c1) ∧ w'.cell? ⟨w.heap.size + 1, 3, none⟩ = some (.slice a2 n2 c2) ∧ w'.cell? ⟨w.heap.size + 1, 4, none⟩ = some (.slice a3 n3 c3) ∧ w'.cell? ⟨w.heap.size + 1, 5, none⟩ = some (.slice a4 n4 c4) ∧ w'.cell? ⟨w.heap.size + 1, 6, none⟩ = some (.slice a5 n5 c5) ∧ w'.cell? ⟨w.heap.size + 1 + 1 + 1, 3, none⟩ = some (.func (.func 235) #[] #[]))) (by kernel_rfl) (by exact HSa.out) (fun hHeld => ?_)
 refine wpAnyH_take (i := 0) (v := ?_) rfl (by kernel_rfl) (by kernel_rfl) (by kernel_rfl) (fun _ _ _ h => h) (Or.inl ⟨by rfl, ?_⟩) (by assumption) ?_
 rotate_left 1
 ·intro w hSw; (try dsimp only at hSw); go_simp; first | done | with_reducible rfl | (rw [if_neg (by omega)])
 try simp only [Act.put, zA, zB, zD, zE, zF]
 refine wpAnyH_take (i := 1) (v := ?_) rfl (by kernel_rfl) (by kernel_rfl) (by kernel_rfl) (fun _ _ _ h => h) (Or.inl ⟨by rfl, ?_⟩) (by assumption) ?_
 rotate_left 1
 ·intro w hSw; (try dsimp only at hSw); go_simp; first | done | with_reducible rfl | (rw [if_neg (by omega)])
 try simp only [Act.put, zA, zB, zC, zD, zE, zF]
 refine wpAnyH_take (i := 2) (v := ?_) rfl (by kernel_rfl) (by kernel_rfl) (by kernel_rfl) (fun _ _ _ h => h) (Or.inl ⟨by rfl, ?_⟩) (by assumption) ?_
 rotate_left 1
 ·intro w hSw; (try dsimp only at hSw); go_simp; first | done | with_reducible rfl | (rw [if_neg (by omega)])
 try simp only [Act.put, zA, zB, zC, zD, zE, zF]
 refine wpAnyH_take (i := 3) (v := ?_) rfl (by kernel_rfl) (by kernel_rfl) (by kernel_rfl) (fun _ _ _ h => h) (Or.inl ⟨by rfl, ?_⟩) (by assumption) ?_
 rotate_left 1
 ·intro w hSw; (try dsimp only at hSw); go_simp; first | done | with_reducible rfl | (rw [if_neg (by omega)])
 try simp only [Act.put, zA, zB, zC, zD, zE, zF]
 refine wpAnyH_take (i := 4) (v := ?_) rfl (by kernel_rfl) (by kernel_rfl) (by kernel_rfl) (fun _ _ _ h => h) (Or.inl ⟨by rfl, ?_⟩) (by assumption) ?_
 rotate_left 1
 ·intro w hSw; (try dsimp only at hSw); go_simp; first | done | with_reducible rfl | (rw [if_neg (by omega)])
 try simp only [Act.put, zA, zB, zC, zD, zE, zF]
 refine wpAnyH_take (i := 5) (v := ?_) rfl (by kernel_rfl) (by kernel_rfl) (by kernel_rfl) (fun _ _ _ h => h) (Or.inl ⟨by rfl, ?_⟩) (by assumption) ?_
 rotate_left 1
 ·intro w hSw; (try dsimp only at hSw); go_simp; first | done | with_reducible rfl | (rw [if_neg (by omega)])
 try simp only [Act.put, zA, zB, zC, zD, zE, zF]
 refine wpAnyH_take (i := 6) (v := ?_) rfl (by kernel_rfl) (by kernel_rfl) (by kernel_rfl) (fun _ _ _ h => h) (Or.inl ⟨by rfl, ?_⟩) (by assumption) ?_
 rotate_left 1
 ·intro w hSw; (try dsimp only at hSw); go_simp; first | done | with_reducible rfl | (rw [if_neg (by omega)])
 try simp only [Act.put, zA, zB, zC, zD, zE, zF]
 refine wpAnyH_ready (rs := [7]) (by kernel_rfl) (by simp) ?_
 refine AllReadyH.cons rfl (fun K hK => ?_) AllReadyH.nil
 go_simp
 refine (hc _ (HBa.out.trans (Below.refl _ W0).drew)).mono ?_
 rintro x W5 ⟨rfl, b5⟩
 have hs5 := b5.size
 rw [hsD] at hs5
 have HBb : Hid (Below w.heap.size w W5) := (HBa.out.trans (Below.refl _ W0).drew).trans (b5.mono HBa.out.size)
 have b6 : Below W0.heap.size W0 W5 := ((Below.refl _ W0).drew).trans b5
 have HAb : Hid _ := (b6.block (w.heap.size) (by omega)).trans HAa.out
 have HCb : Hid _ := (b6.block (w.heap.size + 1) (by omega)).trans HCa.out
 have HRb : Hid _ := (b6.block (w.heap.size + 1 + 1) (by omega)).trans HRa.out
 have HTb : Hid _ := (b6.block (w.heap.size + 1 + 1 + 1) (by omega)).trans HTa.out
 have HSb : Hid _ := HS.out W5 HAb.out HCb.out HTb.out
 clear b5 b6
 go_wp2_with fail
 refine hK.out _ _ (by exact HSb.out) (fun hHeld => ?_)
 clear hK K
 try simp only [Act.put, zA, zB, zC, zD, zE, zF]
 refine wpAnyH_take (i := 8) (v := ?_) rfl (by kernel_rfl) (by kernel_rfl) (by kernel_rfl) (fun _ _ _ h => h) (Or.inl ⟨by rfl, ?_⟩) (by assumption) ?_
 rotate_left 1
 ·intro w hSw; (try dsimp only at hSw); go_simp; first | done | with_reducible rfl | (rw [if_neg (by omega)])
 try simp only [Act.put, zA, zB, zC, zD, zE, zF]
 refine wpAnyH_take (i := 9) (v := ?_) rfl (by kernel_rfl) (by kernel_rfl) (by kernel_rfl) (fun _ _ _ h => h) (Or.inl ⟨by rfl, ?_⟩) (by assumption) ?_
 rotate_left 1
 ·intro w hSw; (try dsimp only at hSw); go_simp; first | done | with_reducible rfl | (rw [if_neg (by omega)])
 try simp only [Act.put, zA, zB, zC, zD, zE, zF]
 obtain ⟨r0, r1, r2⟩ := three_box HRb.out
 have rf0 := XBase.frozen_box HRb.out 0
 have rf1 := XBase.frozen_box HRb.out 1
 have rf2 := XBase.frozen_box HRb.out 2
 obtain ⟨W9, hW9⟩ : ∃ W9, ((W5.setCell ⟨w.heap.size + 1 + 1, 0, none⟩ (.int .i64 s')).setCell ⟨w.heap.size + 1 + 1, 1, none⟩ (.int .i64 e')).setCell ⟨w.heap.size + 1 + 1, 2, none⟩ (.int .i64 l') = W9 := ⟨_, rfl⟩
 obtain ⟨s1, s2, s3⟩ := set3 _ _ _ HRb.out hW9
 have HSc : Hid _ := HS.out W9 ((s3 _ (by omega)).trans HAb.out) ((s3 _ (by omega)).trans HCb.out) ((s3 _ (by omega)).trans HTb.out)
 obtain ⟨t0, t1, t2⟩ := three_box s1
 have HB9 : Hid (Below w.heap.size w W9) := s2 _ _ (by omega) HBb.out
 clear s1 s2 s3
 refine wpAnyH_ready (rs := [10]) (by kernel_rfl) (by simp) ?_
 refine AllReadyH.cons rfl (fun K hK => ?_) AllReadyH.nil
 go_simp
 go_wp2_with fail
 try rw [hW9]
 refine hK.out _ _ (by exact HSc.out) (fun hHeld => ?_)
 clear hK K
 try simp only [Act.put, zA, zB, zC, zD, zE, zF]
 refine wpAnyH_take (i := 11) (v := ?_) rfl (by kernel_rfl) (by kernel_rfl) (by kernel_rfl) (fun _ _ _ h => h) (Or.inl ⟨by rfl, ?_⟩) (by assumption) ?_
 rotate_left 1
 ·intro w hSw; (try dsimp only at hSw); go_simp; first | done | with_reducible rfl | (rw [if_neg (by omega)])
 try simp only [Act.put, zA, zB, zC, zD, zE, zF]
 refine wpAnyH_done (by kernel_rfl) ?_ _
 go_wp2_with fail
 refine bodyPost_ret (v := .tuple #[av s' e' l', .bool z]) (by simp [results, Tryz.results167, go_sem, t0, t1, t2]) rfl ?_
 exact ⟨rfl, HB9.out⟩
theorem enter_loop {t : ByteArray} {a1 : Option Addr} {n1 c1 : Nat} {a2 : Option Addr} {n2 c2 : Nat} {a3 : Option Addr} {n3 c3 : Nat} {a4 : Option Addr} {n4 c4 : Nat} {a5 : Option Addr} {n5 c5 : Nat} {s e l : Int} {w : World} {s' e' l' : Int} {z : Bool} (hc : ∀ W, Below w.heap.size w W → Calls Tryz.prog 236 #[av s e l, cv 4 t a1 n1 c1 a2 n2 c2 a3 n3 c3 a4 n4 c4 a5 n5 c5] W fun x w' => x = .returned (.tuple #[av s' e' l', .bool z]) ∧ Below W.heap.size W w') :
  Calls Tryz.prog 167 #[av s e l, cv 4 t a1 n1 c1 a2 n2 c2 a3 n3 c3 a4 n4 c4 a5 n5 c5] w fun x w' => x = .returned (.tuple #[av s' e' l', .bool z]) ∧ Below w.heap.size w w' := by
 obtain ⟨W0, hW0⟩ : ∃ W0, (((w.alloc (.cells #[.int .i64 s, .int .i64 e, .int .i64 l] 117)).alloc (.cells #[.int .i64 4, .string t, .slice a1 n1 c1, .slice a2 n2 c2, .slice a3 n3 c3, .slice a4 n4 c4, .slice a5 n5 c5] 66)).alloc (.cells #[.int .i64 0, .int .i64 0, .int .i64 0] 117)).alloc (.cells #[.nilFunc, .func (.func 233) #[] #[], .func (.func 234) #[] #[], .func (.func 235) #[] #[], .func (.func 236) #[] #[], .func (.func 237) #[] #[]] 261) = W0 := ⟨_, rfl⟩
 have hsz : W0.heap.size = w.heap.size + 4 := by rw [← hW0]; simp
 have hsD : W0.drew.heap.size = w.heap.size + 4 := by simp [hsz]
 have HBa : Hid (Below w.heap.size w W0) := by
  rw [← hW0]
  exact ((((Below.refl _ w).alloc (Nat.le_refl _) _).alloc (by simp) _).alloc (by simp; omega) _).alloc (by simp; omega) _
 have HAa : Hid (W0.heap[w.heap.size]? = some (.cells #[.int .i64 s, .int .i64 e, .int .i64 l] 117 (0, 0))) := by
  rw [← hW0]
  iterate 3 rw [Below.heap_alloc _ _ _ (by simp; try omega)]
  exact KLe.heap_alloc_at _ _ _ (by simp)
 have HCa : Hid (W0.heap[w.heap.size + 1]? = some (.cells #[.int .i64 4, .string t, .slice a1 n1 c1, .slice a2 n2 c2, .slice a3 n3 c3, .slice a4 n4 c4, .slice a5 n5 c5] 66 (0, 0))) := by
  rw [← hW0]
  iterate 2 rw [Below.heap_alloc _ _ _ (by simp; try omega)]
  exact KLe.heap_alloc_at _ _ _ (by simp)
 have HRa : Hid (W0.heap[w.heap.size + 1 + 1]? = some (.cells #[.int .i64 0, .int .i64 0, .int .i64 0] 117 (0, 0))) := by
  rw [← hW0]
  iterate 1 rw [Below.heap_alloc _ _ _ (by simp; try omega)]
  exact KLe.heap_alloc_at _ _ _ (by simp)
 have HTa : Hid (W0.heap[w.heap.size + 1 + 1 + 1]? = some (.cells #[.nilFunc, .func (.func 233) #[] #[], .func (.func 234) #[] #[], .func (.func 235) #[] #[], .func (.func 236) #[] #[], .func (.func 237) #[] #[]] 261 (0, 0))) := by
  rw [← hW0]
  exact KLe.heap_alloc_at _ _ _ (by simp)
 have HS : Hid (∀ w' : World, w'.heap[w.heap.size]? = some (.cells #[.int .i64 s, .int .i64 e, .int .i64 l] 117 (0, 0)) → w'.heap[w.heap.size + 1]? = some (.cells #[.int .i64 4, .string t, .slice a1 n1 c1, .slice a2 n2 c2, .slice a3 n3 c3, .slice a4 n4 c4, .slice a5 n5 c5] 66 (0, 0)) → w'.heap[w.heap.size + 1 + 1 + 1]? = some (.cells #[.nilFunc, .func (.func 233) #[] #[], .func (.func 234) #[] #[], .func (.func 235) #[] #[], .func (.func 236) #[] #[], .func (.func 237) #[] #[]] 261 (0, 0)) → w'.cell? ⟨w.heap.size, 0, none⟩ = some (.int .i64 s) ∧ w'.cell? ⟨w.heap.size, 1, none⟩ = some (.int .i64 e) ∧ w'.cell? ⟨w.heap.size, 2, none⟩ = some (.int .i64 l) ∧ w'.cell? ⟨w.heap.size + 1, 0, none⟩ = some (.int .i64 4) ∧ w'.cell? ⟨w.heap.size + 1, 1, none⟩ = some (.string t) ∧ w'.cell? ⟨w.heap.size + 1, 2, none⟩ = some (.slice a1 n1 c1) ∧ w'.cell? ⟨w.heap.size + 1, 3, none⟩ = some (.slice a2 n2 c2) ∧ w'.cell? ⟨w.heap.size + 1, 4, none⟩ = some (.slice a3 n3 c3) ∧ w'.cell? ⟨w.heap.size + 1, 5, none⟩ = some (.slice a4 n4 c4) ∧ w'.cell? ⟨w.heap.size + 1, 6, none⟩ = some (.slice a5 n5 c5) ∧ w'.cell? ⟨w.heap.size + 1 + 1 + 1, 4, none⟩ = some (.func (.func 236) #[] #[])) := by
  intro w' hA hC hT
  obtain ⟨p0, p1, p2⟩ := three_box hA
  obtain ⟨q0, q1, q2, q3, q4, q5, q6⟩ := seven_box hC
  exact ⟨p0, p1, p2, q0, q1, q2, q3, q4, q5, q6, by simp [World.cell?, hT]⟩
 have HSa : Hid _ := HS.out W0 HAa.out HCa.out HTa.out
 obtain ⟨a0_, a1_, a2_, a3_, a4_, a5_, a6_, a7_, a8_, a9_, a10_⟩ := HSa.out
 go_enter Tryz.func167, Tryz.ntmps167
 go_wp2_with fail
 try rw [hW0]
 refine wp_region_held_drew (S := (fun w' => w'.cell? ⟨w.heap.size, 0, none⟩ = some (.int .i64 s) ∧ w'.cell? ⟨w.heap.size, 1, none⟩ = some (.int .i64 e) ∧ w'.cell? ⟨w.heap.size, 2, none⟩ = some (.int .i64 l) ∧ w'.cell? ⟨w.heap.size + 1, 0, none⟩ = some (.int .i64 4) ∧ w'.cell? ⟨w.heap.size + 1, 1, none⟩ = some (.string t) ∧ w'.cell? ⟨w.heap.size + 1, 2, none⟩ = some (.slice a1 n1 c1) ∧ w'.cell? ⟨w.heap.size + 1, 3, none⟩ = some (.slice a2 n2 c2) ∧ w'.cell? ⟨w.heap.size + 1, 4, none⟩ = some (.slice a3 n3 c3) ∧ w'.cell? ⟨w.heap.size + 1, 5, none⟩ = some (.slice a4 n4 c4) ∧ w'.cell? ⟨w.heap.size + 1, 6, none⟩ = some (.slice a5 n5 c5) ∧ w'.cell? ⟨w.heap.size + 1 + 1 + 1, 4, none⟩ = some (.func (.func 236) #[] #[]))) (by kernel_rfl) (by exact HSa.out) (fun hHeld => ?_)
 refine wpAnyH_take (i := 0) (v := ?_) rfl (by kernel_rfl) (by kernel_rfl) (by kernel_rfl) (fun _ _ _ h => h) (Or.inl ⟨by rfl, ?_⟩) (by assumption) ?_
 rotate_left 1
 ·intro w hSw; (try dsimp only at hSw); go_simp; first | done | with_reducible rfl | (rw [if_neg (by omega)])
 try simp only [Act.put, zA, zB, zD, zE, zF]
 refine wpAnyH_take (i := 1) (v := ?_) rfl (by kernel_rfl) (by kernel_rfl) (by kernel_rfl) (fun _ _ _ h => h) (Or.inl ⟨by rfl, ?_⟩) (by assumption) ?_
 rotate_left 1
 ·intro w hSw; (try dsimp only at hSw); go_simp; first | done | with_reducible rfl | (rw [if_neg (by omega)])
 try simp only [Act.put, zA, zB, zC, zD, zE, zF]
 refine wpAnyH_take (i := 2) (v := ?_) rfl (by kernel_rfl) (by kernel_rfl) (by kernel_rfl) (fun _ _ _ h => h) (Or.inl ⟨by rfl, ?_⟩) (by assumption) ?_
 rotate_left 1
 ·intro w hSw; (try dsimp only at hSw); go_simp; first | done | with_reducible rfl | (rw [if_neg (by omega)])
 try simp only [Act.put, zA, zB, zC, zD, zE, zF]
 refine wpAnyH_take (i := 3) (v := ?_) rfl (by kernel_rfl) (by kernel_rfl) (by kernel_rfl) (fun _ _ _ h => h) (Or.inl ⟨by rfl, ?_⟩) (by assumption) ?_
 rotate_left 1
 ·intro w hSw; (try dsimp only at hSw); go_simp; first | done | with_reducible rfl | (rw [if_neg (by omega)])
 try simp only [Act.put, zA, zB, zC, zD, zE, zF]
 refine wpAnyH_take (i := 4) (v := ?_) rfl (by kernel_rfl) (by kernel_rfl) (by kernel_rfl) (fun _ _ _ h => h) (Or.inl ⟨by rfl, ?_⟩) (by assumption) ?_
 rotate_left 1
 ·intro w hSw; (try dsimp only at hSw); go_simp; first | done | with_reducible rfl | (rw [if_neg (by omega)])
 try simp only [Act.put, zA, zB, zC, zD, zE, zF]
 refine wpAnyH_take (i := 5) (v := ?_) rfl (by kernel_rfl) (by kernel_rfl) (by kernel_rfl) (fun _ _ _ h => h) (Or.inl ⟨by rfl, ?_⟩) (by assumption) ?_
 rotate_left 1
 ·intro w hSw; (try dsimp only at hSw); go_simp; first | done | with_reducible rfl | (rw [if_neg (by omega)])
 try simp only [Act.put, zA, zB, zC, zD, zE, zF]
 refine wpAnyH_take (i := 6) (v := ?_) rfl (by kernel_rfl) (by kernel_rfl) (by kernel_rfl) (fun _ _ _ h => h) (Or.inl ⟨by rfl, ?_⟩) (by assumption) ?_
 rotate_left 1
 ·intro w hSw; (try dsimp only at hSw); go_simp; first | done | with_reducible rfl | (rw [if_neg (by omega)])
 try simp only [Act.put, zA, zB, zC, zD, zE, zF]
 refine wpAnyH_ready (rs := [7]) (by kernel_rfl) (by simp) ?_
 refine AllReadyH.cons rfl (fun K hK => ?_) AllReadyH.nil
 go_simp
 refine (hc _ (HBa.out.trans (Below.refl _ W0).drew)).mono ?_
 rintro x W5 ⟨rfl, b5⟩
 have hs5 := b5.size
 rw [hsD] at hs5
 have HBb : Hid (Below w.heap.size w W5) := (HBa.out.trans (Below.refl _ W0).drew).trans (b5.mono HBa.out.size)
 have b6 : Below W0.heap.size W0 W5 := ((Below.refl _ W0).drew).trans b5
 have HAb : Hid _ := (b6.block (w.heap.size) (by omega)).trans HAa.out
 have HCb : Hid _ := (b6.block (w.heap.size + 1) (by omega)).trans HCa.out
 have HRb : Hid _ := (b6.block (w.heap.size + 1 + 1) (by omega)).trans HRa.out
 have HTb : Hid _ := (b6.block (w.heap.size + 1 + 1 + 1) (by omega)).trans HTa.out
 have HSb : Hid _ := HS.out W5 HAb.out HCb.out HTb.out
 clear b5 b6
 go_wp2_with fail
 refine hK.out _ _ (by exact HSb.out) (fun hHeld => ?_)
 clear hK K
 try simp only [Act.put, zA, zB, zC, zD, zE, zF]
 refine wpAnyH_take (i := 8) (v := ?_) rfl (by kernel_rfl) (by kernel_rfl) (by kernel_rfl) (fun _ _ _ h => h) (Or.inl ⟨by rfl, ?_⟩) (by assumption) ?_
 rotate_left 1
 ·intro w hSw; (try dsimp only at hSw); go_simp; first | done | with_reducible rfl | (rw [if_neg (by omega)])
 try simp only [Act.put, zA, zB, zC, zD, zE, zF]
 refine wpAnyH_take (i := 9) (v := ?_) rfl (by kernel_rfl) (by kernel_rfl) (by kernel_rfl) (fun _ _ _ h => h) (Or.inl ⟨by rfl, ?_⟩) (by assumption) ?_
 rotate_left 1
 ·intro w hSw; (try dsimp only at hSw); go_simp; first | done | with_reducible rfl | (rw [if_neg (by omega)])
 try simp only [Act.put, zA, zB, zC, zD, zE, zF]
 obtain ⟨r0, r1, r2⟩ := three_box HRb.out
 have rf0 := XBase.frozen_box HRb.out 0
 have rf1 := XBase.frozen_box HRb.out 1
 have rf2 := XBase.frozen_box HRb.out 2
 obtain ⟨W9, hW9⟩ : ∃ W9, ((W5.setCell ⟨w.heap.size + 1 + 1, 0, none⟩ (.int .i64 s')).setCell ⟨w.heap.size + 1 + 1, 1, none⟩ (.int .i64 e')).setCell ⟨w.heap.size + 1 + 1, 2, none⟩ (.int .i64 l') = W9 := ⟨_, rfl⟩
 obtain ⟨s1, s2, s3⟩ := set3 _ _ _ HRb.out hW9
 have HSc : Hid _ := HS.out W9 ((s3 _ (by omega)).trans HAb.out) ((s3 _ (by omega)).trans HCb.out) ((s3 _ (by omega)).trans HTb.out)
 obtain ⟨t0, t1, t2⟩ := three_box s1
 have HB9 : Hid (Below w.heap.size w W9) := s2 _ _ (by omega) HBb.out
 clear s1 s2 s3
 refine wpAnyH_ready (rs := [10]) (by kernel_rfl) (by simp) ?_
 refine AllReadyH.cons rfl (fun K hK => ?_) AllReadyH.nil
 go_simp
 go_wp2_with fail
 try rw [hW9]
 refine hK.out _ _ (by exact HSc.out) (fun hHeld => ?_)
 clear hK K
 try simp only [Act.put, zA, zB, zC, zD, zE, zF]
 refine wpAnyH_take (i := 11) (v := ?_) rfl (by kernel_rfl) (by kernel_rfl) (by kernel_rfl) (fun _ _ _ h => h) (Or.inl ⟨by rfl, ?_⟩) (by assumption) ?_
 rotate_left 1
 ·intro w hSw; (try dsimp only at hSw); go_simp; first | done | with_reducible rfl | (rw [if_neg (by omega)])
 try simp only [Act.put, zA, zB, zC, zD, zE, zF]
 refine wpAnyH_done (by kernel_rfl) ?_ _
 go_wp2_with fail
 refine bodyPost_ret (v := .tuple #[av s' e' l', .bool z]) (by simp [results, Tryz.results167, go_sem, t0, t1, t2]) rfl ?_
 exact ⟨rfl, HB9.out⟩
theorem enter_with {t : ByteArray} {a1 : Option Addr} {n1 c1 : Nat} {a2 : Option Addr} {n2 c2 : Nat} {a3 : Option Addr} {n3 c3 : Nat} {a4 : Option Addr} {n4 c4 : Nat} {a5 : Option Addr} {n5 c5 : Nat} {s e l : Int} {w : World} {s' e' l' : Int} {z : Bool} (hc : ∀ W, Below w.heap.size w W → Calls Tryz.prog 237 #[av s e l, cv 5 t a1 n1 c1 a2 n2 c2 a3 n3 c3 a4 n4 c4 a5 n5 c5] W fun x w' => x = .returned (.tuple #[av s' e' l', .bool z]) ∧ Below W.heap.size W w') :
  Calls Tryz.prog 167 #[av s e l, cv 5 t a1 n1 c1 a2 n2 c2 a3 n3 c3 a4 n4 c4 a5 n5 c5] w fun x w' => x = .returned (.tuple #[av s' e' l', .bool z]) ∧ Below w.heap.size w w' := by
 obtain ⟨W0, hW0⟩ : ∃ W0, (((w.alloc (.cells #[.int .i64 s, .int .i64 e, .int .i64 l] 117)).alloc (.cells #[.int .i64 5, .string t, .slice a1 n1 c1, .slice a2 n2 c2, .slice a3 n3 c3, .slice a4 n4 c4, .slice a5 n5 c5] 66)).alloc (.cells #[.int .i64 0, .int .i64 0, .int .i64 0] 117)).alloc (.cells #[.nilFunc, .func (.func 233) #[] #[], .func (.func 234) #[] #[], .func (.func 235) #[] #[], .func (.func 236) #[] #[], .func (.func 237) #[] #[]] 261) = W0 := ⟨_, rfl⟩
 have hsz : W0.heap.size = w.heap.size + 4 := by rw [← hW0]; simp
 have hsD : W0.drew.heap.size = w.heap.size + 4 := by simp [hsz]
 have HBa : Hid (Below w.heap.size w W0) := by
  rw [← hW0]
  exact ((((Below.refl _ w).alloc (Nat.le_refl _) _).alloc (by simp) _).alloc (by simp; omega) _).alloc (by simp; omega) _
 have HAa : Hid (W0.heap[w.heap.size]? = some (.cells #[.int .i64 s, .int .i64 e, .int .i64 l] 117 (0, 0))) := by
  rw [← hW0]
  iterate 3 rw [Below.heap_alloc _ _ _ (by simp; try omega)]
  exact KLe.heap_alloc_at _ _ _ (by simp)
 have HCa : Hid (W0.heap[w.heap.size + 1]? = some (.cells #[.int .i64 5, .string t, .slice a1 n1 c1, .slice a2 n2 c2, .slice a3 n3 c3, .slice a4 n4 c4, .slice a5 n5 c5] 66 (0, 0))) := by
  rw [← hW0]
  iterate 2 rw [Below.heap_alloc _ _ _ (by simp; try omega)]
  exact KLe.heap_alloc_at _ _ _ (by simp)
 have HRa : Hid (W0.heap[w.heap.size + 1 + 1]? = some (.cells #[.int .i64 0, .int .i64 0, .int .i64 0] 117 (0, 0))) := by
  rw [← hW0]
  iterate 1 rw [Below.heap_alloc _ _ _ (by simp; try omega)]
  exact KLe.heap_alloc_at _ _ _ (by simp)
 have HTa : Hid (W0.heap[w.heap.size + 1 + 1 + 1]? = some (.cells #[.nilFunc, .func (.func 233) #[] #[], .func (.func 234) #[] #[], .func (.func 235) #[] #[], .func (.func 236) #[] #[], .func (.func 237) #[] #[]] 261 (0, 0))) := by
  rw [← hW0]
  exact KLe.heap_alloc_at _ _ _ (by simp)
 have HS : Hid (∀ w' : World, w'.heap[w.heap.size]? = some (.cells #[.int .i64 s, .int .i64 e, .int .i64 l] 117 (0, 0)) → w'.heap[w.heap.size + 1]? = some (.cells #[.int .i64 5, .string t, .slice a1 n1 c1, .slice a2 n2 c2, .slice a3 n3 c3, .slice a4 n4 c4, .slice a5 n5 c5] 66 (0, 0)) → w'.heap[w.heap.size + 1 + 1 + 1]? = some (.cells #[.nilFunc, .func (.func 233) #[] #[], .func (.func 234) #[] #[], .func (.func 235) #[] #[], .func (.func 236) #[] #[], .func (.func 237) #[] #[]] 261 (0, 0)) → w'.cell? ⟨w.heap.size, 0, none⟩ = some (.int .i64 s) ∧ w'.cell? ⟨w.heap.size, 1, none⟩ = some (.int .i64 e) ∧ w'.cell? ⟨w.heap.size, 2, none⟩ = some (.int .i64 l) ∧ w'.cell? ⟨w.heap.size + 1, 0, none⟩ = some (.int .i64 5) ∧ w'.cell? ⟨w.heap.size + 1, 1, none⟩ = some (.string t) ∧ w'.cell? ⟨w.heap.size + 1, 2, none⟩ = some (.slice a1 n1 c1) ∧ w'.cell? ⟨w.heap.size + 1, 3, none⟩ = some (.slice a2 n2 c2) ∧ w'.cell? ⟨w.heap.size + 1, 4, none⟩ = some (.slice a3 n3 c3) ∧ w'.cell? ⟨w.heap.size + 1, 5, none⟩ = some (.slice a4 n4 c4) ∧ w'.cell? ⟨w.heap.size + 1, 6, none⟩ = some (.slice a5 n5 c5) ∧ w'.cell? ⟨w.heap.size + 1 + 1 + 1, 5, none⟩ = some (.func (.func 237) #[] #[])) := by
  intro w' hA hC hT
  obtain ⟨p0, p1, p2⟩ := three_box hA
  obtain ⟨q0, q1, q2, q3, q4, q5, q6⟩ := seven_box hC
  exact ⟨p0, p1, p2, q0, q1, q2, q3, q4, q5, q6, by simp [World.cell?, hT]⟩
 have HSa : Hid _ := HS.out W0 HAa.out HCa.out HTa.out
 obtain ⟨a0_, a1_, a2_, a3_, a4_, a5_, a6_, a7_, a8_, a9_, a10_⟩ := HSa.out
 go_enter Tryz.func167, Tryz.ntmps167
 go_wp2_with fail
 try rw [hW0]
 refine wp_region_held_drew (S := (fun w' => w'.cell? ⟨w.heap.size, 0, none⟩ = some (.int .i64 s) ∧ w'.cell? ⟨w.heap.size, 1, none⟩ = some (.int .i64 e) ∧ w'.cell? ⟨w.heap.size, 2, none⟩ = some (.int .i64 l) ∧ w'.cell? ⟨w.heap.size + 1, 0, none⟩ = some (.int .i64 5) ∧ w'.cell? ⟨w.heap.size + 1, 1, none⟩ = some (.string t) ∧ w'.cell? ⟨w.heap.size + 1, 2, none⟩ = some (.slice a1 n1 c1) ∧ w'.cell? ⟨w.heap.size + 1, 3, none⟩ = some (.slice a2 n2 c2) ∧ w'.cell? ⟨w.heap.size + 1, 4, none⟩ = some (.slice a3 n3 c3) ∧ w'.cell? ⟨w.heap.size + 1, 5, none⟩ = some (.slice a4 n4 c4) ∧ w'.cell? ⟨w.heap.size + 1, 6, none⟩ = some (.slice a5 n5 c5) ∧ w'.cell? ⟨w.heap.size + 1 + 1 + 1, 5, none⟩ = some (.func (.func 237) #[] #[]))) (by kernel_rfl) (by exact HSa.out) (fun hHeld => ?_)
 refine wpAnyH_take (i := 0) (v := ?_) rfl (by kernel_rfl) (by kernel_rfl) (by kernel_rfl) (fun _ _ _ h => h) (Or.inl ⟨by rfl, ?_⟩) (by assumption) ?_
 rotate_left 1
 ·intro w hSw; (try dsimp only at hSw); go_simp; first | done | with_reducible rfl | (rw [if_neg (by omega)])
 try simp only [Act.put, zA, zB, zD, zE, zF]
 refine wpAnyH_take (i := 1) (v := ?_) rfl (by kernel_rfl) (by kernel_rfl) (by kernel_rfl) (fun _ _ _ h => h) (Or.inl ⟨by rfl, ?_⟩) (by assumption) ?_
 rotate_left 1
 ·intro w hSw; (try dsimp only at hSw); go_simp; first | done | with_reducible rfl | (rw [if_neg (by omega)])
 try simp only [Act.put, zA, zB, zC, zD, zE, zF]
 refine wpAnyH_take (i := 2) (v := ?_) rfl (by kernel_rfl) (by kernel_rfl) (by kernel_rfl) (fun _ _ _ h => h) (Or.inl ⟨by rfl, ?_⟩) (by assumption) ?_
 rotate_left 1
 ·intro w hSw; (try dsimp only at hSw); go_simp; first | done | with_reducible rfl | (rw [if_neg (by omega)])
 try simp only [Act.put, zA, zB, zC, zD, zE, zF]
 refine wpAnyH_take (i := 3) (v := ?_) rfl (by kernel_rfl) (by kernel_rfl) (by kernel_rfl) (fun _ _ _ h => h) (Or.inl ⟨by rfl, ?_⟩) (by assumption) ?_
 rotate_left 1
 ·intro w hSw; (try dsimp only at hSw); go_simp; first | done | with_reducible rfl | (rw [if_neg (by omega)])
 try simp only [Act.put, zA, zB, zC, zD, zE, zF]
 refine wpAnyH_take (i := 4) (v := ?_) rfl (by kernel_rfl) (by kernel_rfl) (by kernel_rfl) (fun _ _ _ h => h) (Or.inl ⟨by rfl, ?_⟩) (by assumption) ?_
 rotate_left 1
 ·intro w hSw; (try dsimp only at hSw); go_simp; first | done | with_reducible rfl | (rw [if_neg (by omega)])
 try simp only [Act.put, zA, zB, zC, zD, zE, zF]
 refine wpAnyH_take (i := 5) (v := ?_) rfl (by kernel_rfl) (by kernel_rfl) (by kernel_rfl) (fun _ _ _ h => h) (Or.inl ⟨by rfl, ?_⟩) (by assumption) ?_
 rotate_left 1
 ·intro w hSw; (try dsimp only at hSw); go_simp; first | done | with_reducible rfl | (rw [if_neg (by omega)])
 try simp only [Act.put, zA, zB, zC, zD, zE, zF]
 refine wpAnyH_take (i := 6) (v := ?_) rfl (by kernel_rfl) (by kernel_rfl) (by kernel_rfl) (fun _ _ _ h => h) (Or.inl ⟨by rfl, ?_⟩) (by assumption) ?_
 rotate_left 1
 ·intro w hSw; (try dsimp only at hSw); go_simp; first | done | with_reducible rfl | (rw [if_neg (by omega)])
 try simp only [Act.put, zA, zB, zC, zD, zE, zF]
 refine wpAnyH_ready (rs := [7]) (by kernel_rfl) (by simp) ?_
 refine AllReadyH.cons rfl (fun K hK => ?_) AllReadyH.nil
 go_simp
 refine (hc _ (HBa.out.trans (Below.refl _ W0).drew)).mono ?_
 rintro x W5 ⟨rfl, b5⟩
 have hs5 := b5.size
 rw [hsD] at hs5
 have HBb : Hid (Below w.heap.size w W5) := (HBa.out.trans (Below.refl _ W0).drew).trans (b5.mono HBa.out.size)
 have b6 : Below W0.heap.size W0 W5 := ((Below.refl _ W0).drew).trans b5
 have HAb : Hid _ := (b6.block (w.heap.size) (by omega)).trans HAa.out
 have HCb : Hid _ := (b6.block (w.heap.size + 1) (by omega)).trans HCa.out
 have HRb : Hid _ := (b6.block (w.heap.size + 1 + 1) (by omega)).trans HRa.out
 have HTb : Hid _ := (b6.block (w.heap.size + 1 + 1 + 1) (by omega)).trans HTa.out
 have HSb : Hid _ := HS.out W5 HAb.out HCb.out HTb.out
 clear b5 b6
 go_wp2_with fail
 refine hK.out _ _ (by exact HSb.out) (fun hHeld => ?_)
 clear hK K
 try simp only [Act.put, zA, zB, zC, zD, zE, zF]
 refine wpAnyH_take (i := 8) (v := ?_) rfl (by kernel_rfl) (by kernel_rfl) (by kernel_rfl) (fun _ _ _ h => h) (Or.inl ⟨by rfl, ?_⟩) (by assumption) ?_
 rotate_left 1
 ·intro w hSw; (try dsimp only at hSw); go_simp; first | done | with_reducible rfl | (rw [if_neg (by omega)])
 try simp only [Act.put, zA, zB, zC, zD, zE, zF]
 refine wpAnyH_take (i := 9) (v := ?_) rfl (by kernel_rfl) (by kernel_rfl) (by kernel_rfl) (fun _ _ _ h => h) (Or.inl ⟨by rfl, ?_⟩) (by assumption) ?_
 rotate_left 1
 ·intro w hSw; (try dsimp only at hSw); go_simp; first | done | with_reducible rfl | (rw [if_neg (by omega)])
 try simp only [Act.put, zA, zB, zC, zD, zE, zF]
 obtain ⟨r0, r1, r2⟩ := three_box HRb.out
 have rf0 := XBase.frozen_box HRb.out 0
 have rf1 := XBase.frozen_box HRb.out 1
 have rf2 := XBase.frozen_box HRb.out 2
 obtain ⟨W9, hW9⟩ : ∃ W9, ((W5.setCell ⟨w.heap.size + 1 + 1, 0, none⟩ (.int .i64 s')).setCell ⟨w.heap.size + 1 + 1, 1, none⟩ (.int .i64 e')).setCell ⟨w.heap.size + 1 + 1, 2, none⟩ (.int .i64 l') = W9 := ⟨_, rfl⟩
 obtain ⟨s1, s2, s3⟩ := set3 _ _ _ HRb.out hW9
 have HSc : Hid _ := HS.out W9 ((s3 _ (by omega)).trans HAb.out) ((s3 _ (by omega)).trans HCb.out) ((s3 _ (by omega)).trans HTb.out)
 obtain ⟨t0, t1, t2⟩ := three_box s1
 have HB9 : Hid (Below w.heap.size w W9) := s2 _ _ (by omega) HBb.out
 clear s1 s2 s3
 refine wpAnyH_ready (rs := [10]) (by kernel_rfl) (by simp) ?_
 refine AllReadyH.cons rfl (fun K hK => ?_) AllReadyH.nil
 go_simp
 go_wp2_with fail
 try rw [hW9]
 refine hK.out _ _ (by exact HSc.out) (fun hHeld => ?_)
 clear hK K
 try simp only [Act.put, zA, zB, zC, zD, zE, zF]
 refine wpAnyH_take (i := 11) (v := ?_) rfl (by kernel_rfl) (by kernel_rfl) (by kernel_rfl) (fun _ _ _ h => h) (Or.inl ⟨by rfl, ?_⟩) (by assumption) ?_
 rotate_left 1
 ·intro w hSw; (try dsimp only at hSw); go_simp; first | done | with_reducible rfl | (rw [if_neg (by omega)])
 try simp only [Act.put, zA, zB, zC, zD, zE, zF]
 refine wpAnyH_done (by kernel_rfl) ?_ _
 go_wp2_with fail
 refine bodyPost_ret (v := .tuple #[av s' e' l', .bool z]) (by simp [results, Tryz.results167, go_sem, t0, t1, t2]) rfl ?_
 exact ⟨rfl, HB9.out⟩
end Go.Proofs.YthonejomogkjjaaGreatDoor.KEn
