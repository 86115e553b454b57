/- The reference's test for a name that stands twice. -/
import Derived.Test.YtmoblfdepcjgfaaDoorOrder
import Derived.Deep.RegionHeld3
import Derived.LoopTactic
import Derived.LoopN
namespace Go.Proofs.YtmoblfdepcjgfaaDoor.Twice
open Go.RowKit Go.Proofs.YtmoblfdepcjgfaaDoor.Base Go.Proofs.YtmoblfdepcjgfaaDoor.Eq Go.Proofs.YtmoblfdepcjgfaaDoor.Names Go.Proofs.YtmoblfdepcjgfaaDoor.Order
set_option linter.unusedVariables false

set_option maxRecDepth 20000 in
theorem twice_of (v : Value) (L : List ByteArray) (w : World) (c73 : Calls Tryd.prog 73 #[v] w fun e w' => ∃ u L', e = .returned u ∧ Tx false All w' u L' ∧ L'.Perm L ∧ Srt L' ∧ Below w.heap.size w w') :
    Calls Tryd.prog 67 #[v] w fun e w' => e = .returned (.bool (!nd L)) ∧ Below w.heap.size w w' := by
  obtain ⟨R, hRd⟩ : ∃ R, nd L = R := ⟨_, rfl⟩
  rw [hRd]
  have HR : Hid (nd L = R) := hRd
  clear hRd
  go_enter Tryd.func67, Tryd.ntmps67
  go_wp2_with fail
  refine c73.mono ?_
  rintro e w1 ⟨u, M, rfl, hM, hp, hs, b1⟩
  obtain ⟨a, cap, rfl, hlc, hm, hlen, hsz, hnil, hN⟩ := hM.out
  have hnd := nd_perm hp
  have H1 : Hid (∀ i (h1 : i < M.length) (h2 : i + 1 < M.length), eqB M[i] M[i + 1] = true → R = false) := fun i h1 h2 h => by rw [← HR.out, ← hnd]; exact nd_twice h1 h2 h
  have H2 : Hid ((∀ i (h1 : i < M.length) (h2 : i + 1 < M.length), eqB M[i] M[i + 1] = false) → R = true) := fun h => by rw [← HR.out, ← hnd]; exact nd_iff.2 (srt_nodup hs h)
  have HN : Hid (NAt false All w1 a cap M) := hN
  clear c73 hM hp hs hnd hN
  go_wp2_with fail
  go_loopw [4] (fun i wr => ∃ q : Nat, 1 ≤ q ∧ i = .int .i64 q ∧ (q ≤ M.length ∨ q = 1) ∧ (∀ j (h1 : j < M.length) (h2 : j + 1 < M.length), j + 1 < q → eqB M[j] M[j + 1] = false) ∧ Below w1.heap.size w1 wr) (fun i _ => M.length - (intOf i).toNat)
  case atStart => exact ⟨1, by omega, rfl, .inr rfl, fun j _ _ h => by omega, Below.refl _ _⟩
  case round =>
    obtain ⟨q, hq1, rfl, hq2, hall, hbr⟩ := hrel
    by_cases hlt : q < M.length
    · obtain ⟨g, o, rfl, -, x1⟩ := name_at HN.out (q := q) hlt
      obtain ⟨g', o', e, -, x0⟩ := name_at HN.out (q := q - 1) (by omega)
      cases e
      have y1 := below_cell x1 hbr
      have y0 := below_cell x0 hbr
      obtain ⟨s1, h1⟩ : ∃ s, M[q] = s := ⟨_, rfl⟩
      obtain ⟨s0, h0⟩ : ∃ s, M[q - 1] = s := ⟨_, rfl⟩
      have heq : eqB M[q - 1] M[q - 1 + 1] = eqB s0 s1 := by
        rw [h0]
        congr 1
        rw [← h1]
        congr 1
        omega
      rw [h1] at y1
      rw [h0] at y0
      obtain ⟨p, hp⟩ : ∃ p, q = p + 1 := ⟨q - 1, by omega⟩
      subst hp
      simp only [Nat.add_sub_cancel] at y0 heq
      have hpl : p < M.length := by omega
      have HH : Hid (∀ j (h1 : j < M.length) (h2 : j + 1 < M.length), j + 1 < p + 1 → eqB M[j] M[j + 1] = false) := hall
      have HQ : Hid (eqB M[p] M[p + 1] = eqB s0 s1) := heq
      have hwp : IntKind.i64.wrap (p : Int) = (p : Int) := by have e : (p : Int) % 2 ^ 64 = p := Int.emod_eq_of_lt (by omega) (by omega); have f : (2 : Int) ^ (64 - 1) = 9223372036854775808 := (by decide); simp only [IntKind.wrap, IntKind.signed, IntKind.bits, Bool.true_and, decide_eq_true_eq, e, f]; split <;> omega
      have hp0 : (0 : Int) ≤ (p : Int) := by omega
      have hp1 : (p : Int) < (M.length : Int) := by omega
      have hp2 : (p : Int) + 1 < (M.length : Int) := by omega
      have hp3 : (0 : Int) ≤ (p : Int) + 1 := by omega
      clear hall heq h0 h1 x0 x1
      cases he : eqB s0 s1 with
      | true =>
        have hR := H1.out p hpl hlt (by rw [HQ.out]; exact he)
        have he' : (s0.toList == s1.toList) = true := he
        subst hR
        go_wp2_with fail
        refine wp_region_held_drew (S := fun w' => w'.cell? ⟨g, o + p, none⟩ = some (.string s0) ∧ w'.cell? ⟨g, o + (p + 1), none⟩ = some (.string s1)) (by kernel_rfl) ?_ (fun hHeld => ?_)
        · exact ⟨y0, y1⟩
        refine wpAnyH_take (i := 0) (v := ?_) rfl (by kernel_rfl) (by kernel_rfl) (by kernel_rfl) (fun _ _ _ h => h) (Or.inl ⟨by rfl, ?_⟩) (by assumption) ?_
        rotate_left 1
        · intro w hSw; (try dsimp only at hSw); go_simp; first | done | with_reducible rfl
        try simp only [Act.put, List.getElem_toArray, List.getElem_cons_zero, List.setIfInBounds_toArray, List.set_cons_zero, List.set_cons_succ]
        refine wpAnyH_take (i := 1) (v := ?_) rfl (by kernel_rfl) (by kernel_rfl) (by kernel_rfl) (fun _ _ _ h => h) (Or.inl ⟨by rfl, ?_⟩) (by assumption) ?_
        rotate_left 1
        · intro w hSw; (try dsimp only at hSw); go_simp; first | done | with_reducible rfl
        try simp only [Act.put, List.getElem_toArray, List.getElem_cons_zero, List.getElem_cons_succ, List.setIfInBounds_toArray, List.set_cons_zero, List.set_cons_succ]
        refine wpAnyH_take (i := 2) (v := ?_) rfl (by kernel_rfl) (by kernel_rfl) (by kernel_rfl) (fun _ _ _ h => h) (Or.inl ⟨by rfl, ?_⟩) (by assumption) ?_
        rotate_left 1
        · intro w hSw; (try dsimp only at hSw); go_simp; first | done | with_reducible rfl
        try simp only [Act.put, List.getElem_toArray, List.getElem_cons_zero, List.getElem_cons_succ, List.setIfInBounds_toArray, List.set_cons_zero, List.set_cons_succ]
        refine wpAnyH_take (i := 3) (v := ?_) rfl (by kernel_rfl) (by kernel_rfl) (by kernel_rfl) (fun _ _ _ h => h) (Or.inl ⟨by rfl, ?_⟩) (by assumption) ?_
        rotate_left 1
        · intro w hSw; (try dsimp only at hSw); go_simp; first | done | with_reducible rfl
        try simp only [Act.put, List.getElem_toArray, List.getElem_cons_zero, List.getElem_cons_succ, List.setIfInBounds_toArray, List.set_cons_zero, List.set_cons_succ]
        refine wpAnyH_take (i := 4) (v := ?_) rfl (by kernel_rfl) (by kernel_rfl) (by kernel_rfl) (fun _ _ _ h => h) (Or.inl ⟨by rfl, ?_⟩) (by assumption) ?_
        rotate_left 1
        · intro w hSw; (try dsimp only at hSw); go_simp; first | done | with_reducible rfl
        try simp only [Act.put, List.getElem_toArray, List.getElem_cons_zero, List.getElem_cons_succ, List.setIfInBounds_toArray, List.set_cons_zero, List.set_cons_succ]
        refine wpAnyH_take (i := 5) (v := ?_) rfl (by kernel_rfl) (by kernel_rfl) (by kernel_rfl) (fun _ _ _ h => h) (Or.inl ⟨by rfl, ?_⟩) (by assumption) ?_
        rotate_left 1
        · intro w hSw; (try dsimp only at hSw); go_simp; first | done | with_reducible rfl
        try simp only [Act.put, List.getElem_toArray, List.getElem_cons_zero, List.getElem_cons_succ, List.setIfInBounds_toArray, List.set_cons_zero, List.set_cons_succ]
        refine wpAnyH_take (i := 6) (v := ?_) rfl (by kernel_rfl) (by kernel_rfl) (by kernel_rfl) (fun _ _ _ h => h) (Or.inl ⟨by rfl, ?_⟩) (by assumption) ?_
        rotate_left 1
        · intro w hSw; (try dsimp only at hSw); go_simp; first | done | with_reducible rfl
        try simp only [Act.put, List.getElem_toArray, List.getElem_cons_zero, List.getElem_cons_succ, List.setIfInBounds_toArray, List.set_cons_zero, List.set_cons_succ]
        refine wpAnyH_take (i := 7) (v := ?_) rfl (by kernel_rfl) (by kernel_rfl) (by kernel_rfl) (fun _ _ _ h => h) (Or.inl ⟨by rfl, ?_⟩) (by assumption) ?_
        rotate_left 1
        · intro w hSw; (try dsimp only at hSw); go_simp; first | done | with_reducible rfl
        try simp only [Act.put, List.getElem_toArray, List.getElem_cons_zero, List.getElem_cons_succ, List.setIfInBounds_toArray, List.set_cons_zero, List.set_cons_succ]
        refine wpAnyH_take (i := 8) (v := ?_) rfl (by kernel_rfl) (by kernel_rfl) (by kernel_rfl) (fun _ _ _ h => h) (Or.inl ⟨by rfl, ?_⟩) (by assumption) ?_
        rotate_left 1
        · intro w hSw; (try dsimp only at hSw); go_simp; first | done | with_reducible rfl
        try simp only [Act.put, List.getElem_toArray, List.getElem_cons_zero, List.getElem_cons_succ, List.setIfInBounds_toArray, List.set_cons_zero, List.set_cons_succ]
        refine wpAnyH_take (i := 9) (v := ?_) rfl (by kernel_rfl) (by kernel_rfl) (by kernel_rfl) (fun _ _ _ h => h) (Or.inl ⟨by rfl, ?_⟩) (by assumption) ?_
        rotate_left 1
        · intro w hSw; (try dsimp only at hSw); go_simp; first | done | with_reducible rfl
        try simp only [Act.put, List.getElem_toArray, List.getElem_cons_zero, List.getElem_cons_succ, List.setIfInBounds_toArray, List.set_cons_zero, List.set_cons_succ]
        refine wpAnyH_done (by kernel_rfl) ?_ _
        go_wp2_with fail
        go_ret
        exact ⟨rfl, nx b1 hbr.drew⟩
      | false =>
        have he' : (s0.toList == s1.toList) = false := he
        go_wp2_with fail
        refine wp_region_held_drew (S := fun w' => w'.cell? ⟨g, o + p, none⟩ = some (.string s0) ∧ w'.cell? ⟨g, o + (p + 1), none⟩ = some (.string s1)) (by kernel_rfl) ?_ (fun hHeld => ?_)
        · exact ⟨y0, y1⟩
        refine wpAnyH_take (i := 0) (v := ?_) rfl (by kernel_rfl) (by kernel_rfl) (by kernel_rfl) (fun _ _ _ h => h) (Or.inl ⟨by rfl, ?_⟩) (by assumption) ?_
        rotate_left 1
        · intro w hSw; (try dsimp only at hSw); go_simp; first | done | with_reducible rfl
        try simp only [Act.put, List.getElem_toArray, List.getElem_cons_zero, List.setIfInBounds_toArray, List.set_cons_zero, List.set_cons_succ]
        refine wpAnyH_take (i := 1) (v := ?_) rfl (by kernel_rfl) (by kernel_rfl) (by kernel_rfl) (fun _ _ _ h => h) (Or.inl ⟨by rfl, ?_⟩) (by assumption) ?_
        rotate_left 1
        · intro w hSw; (try dsimp only at hSw); go_simp; first | done | with_reducible rfl
        try simp only [Act.put, List.getElem_toArray, List.getElem_cons_zero, List.getElem_cons_succ, List.setIfInBounds_toArray, List.set_cons_zero, List.set_cons_succ]
        refine wpAnyH_take (i := 2) (v := ?_) rfl (by kernel_rfl) (by kernel_rfl) (by kernel_rfl) (fun _ _ _ h => h) (Or.inl ⟨by rfl, ?_⟩) (by assumption) ?_
        rotate_left 1
        · intro w hSw; (try dsimp only at hSw); go_simp; first | done | with_reducible rfl
        try simp only [Act.put, List.getElem_toArray, List.getElem_cons_zero, List.getElem_cons_succ, List.setIfInBounds_toArray, List.set_cons_zero, List.set_cons_succ]
        refine wpAnyH_take (i := 3) (v := ?_) rfl (by kernel_rfl) (by kernel_rfl) (by kernel_rfl) (fun _ _ _ h => h) (Or.inl ⟨by rfl, ?_⟩) (by assumption) ?_
        rotate_left 1
        · intro w hSw; (try dsimp only at hSw); go_simp; first | done | with_reducible rfl
        try simp only [Act.put, List.getElem_toArray, List.getElem_cons_zero, List.getElem_cons_succ, List.setIfInBounds_toArray, List.set_cons_zero, List.set_cons_succ]
        refine wpAnyH_take (i := 4) (v := ?_) rfl (by kernel_rfl) (by kernel_rfl) (by kernel_rfl) (fun _ _ _ h => h) (Or.inl ⟨by rfl, ?_⟩) (by assumption) ?_
        rotate_left 1
        · intro w hSw; (try dsimp only at hSw); go_simp; first | done | with_reducible rfl
        try simp only [Act.put, List.getElem_toArray, List.getElem_cons_zero, List.getElem_cons_succ, List.setIfInBounds_toArray, List.set_cons_zero, List.set_cons_succ]
        refine wpAnyH_take (i := 5) (v := ?_) rfl (by kernel_rfl) (by kernel_rfl) (by kernel_rfl) (fun _ _ _ h => h) (Or.inl ⟨by rfl, ?_⟩) (by assumption) ?_
        rotate_left 1
        · intro w hSw; (try dsimp only at hSw); go_simp; first | done | with_reducible rfl
        try simp only [Act.put, List.getElem_toArray, List.getElem_cons_zero, List.getElem_cons_succ, List.setIfInBounds_toArray, List.set_cons_zero, List.set_cons_succ]
        refine wpAnyH_take (i := 6) (v := ?_) rfl (by kernel_rfl) (by kernel_rfl) (by kernel_rfl) (fun _ _ _ h => h) (Or.inl ⟨by rfl, ?_⟩) (by assumption) ?_
        rotate_left 1
        · intro w hSw; (try dsimp only at hSw); go_simp; first | done | with_reducible rfl
        try simp only [Act.put, List.getElem_toArray, List.getElem_cons_zero, List.getElem_cons_succ, List.setIfInBounds_toArray, List.set_cons_zero, List.set_cons_succ]
        refine wpAnyH_take (i := 7) (v := ?_) rfl (by kernel_rfl) (by kernel_rfl) (by kernel_rfl) (fun _ _ _ h => h) (Or.inl ⟨by rfl, ?_⟩) (by assumption) ?_
        rotate_left 1
        · intro w hSw; (try dsimp only at hSw); go_simp; first | done | with_reducible rfl
        try simp only [Act.put, List.getElem_toArray, List.getElem_cons_zero, List.getElem_cons_succ, List.setIfInBounds_toArray, List.set_cons_zero, List.set_cons_succ]
        refine wpAnyH_take (i := 8) (v := ?_) rfl (by kernel_rfl) (by kernel_rfl) (by kernel_rfl) (fun _ _ _ h => h) (Or.inl ⟨by rfl, ?_⟩) (by assumption) ?_
        rotate_left 1
        · intro w hSw; (try dsimp only at hSw); go_simp; first | done | with_reducible rfl
        try simp only [Act.put, List.getElem_toArray, List.getElem_cons_zero, List.getElem_cons_succ, List.setIfInBounds_toArray, List.set_cons_zero, List.set_cons_succ]
        refine wpAnyH_take (i := 9) (v := ?_) rfl (by kernel_rfl) (by kernel_rfl) (by kernel_rfl) (fun _ _ _ h => h) (Or.inl ⟨by rfl, ?_⟩) (by assumption) ?_
        rotate_left 1
        · intro w hSw; (try dsimp only at hSw); go_simp; first | done | with_reducible rfl
        try simp only [Act.put, List.getElem_toArray, List.getElem_cons_zero, List.getElem_cons_succ, List.setIfInBounds_toArray, List.set_cons_zero, List.set_cons_succ]
        refine wpAnyH_done (by kernel_rfl) ?_ _
        go_wp2_with fail
        go_roundw
        case rel =>
          refine ⟨p + 1 + 1, by omega, by go_num, .inl (by omega), fun j h1 h2 hj => ?_, hbr.drew⟩
          by_cases e : j = p
          · subst e; rw [HQ.out]; exact he
          · exact HH.out j h1 h2 (by omega)
        case measure => simp only [intOf]; omega
    · have hlt' : decide ((q : Int) < (M.length : Int)) = false := by simp; omega
      have hR := H2.out fun j h1 h2 => hall j h1 h2 (by omega)
      subst hR
      go_wp2_with fail
      go_ret
      exact ⟨rfl, nx b1 hbr⟩
end Go.Proofs.YtmoblfdepcjgfaaDoor.Twice
