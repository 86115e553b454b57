/- The reference's lexer: an interpolation. -/
import Derived.Test.YtfglbgnjgapehaaMApp
namespace Go.Proofs.Ytfglbgnjgapehaa.RHo
open Go.RowKit Go.Proofs.Ytfglbgnjgapehaa.UBase Go.Proofs.Ytfglbgnjgapehaa.EPure Go.Proofs.Ytfglbgnjgapehaa.LPure Go.Proofs.Ytfglbgnjgapehaa.LRd Go.Proofs.Ytfglbgnjgapehaa.LSk Go.Proofs.Ytfglbgnjgapehaa.LNm Go.Proofs.Ytfglbgnjgapehaa.LUp Go.Proofs.Ytfglbgnjgapehaa.LSc Go.Proofs.Ytfglbgnjgapehaa.LIn Go.Proofs.Ytfglbgnjgapehaa.LSn Go.Proofs.Ytfglbgnjgapehaa.LMu Go.Proofs.Ytfglbgnjgapehaa.LTk Go.Proofs.Ytfglbgnjgapehaa.LLy Go.Proofs.Ytfglbgnjgapehaa.LCv Go.Proofs.Ytfglbgnjgapehaa.RLd Go.Proofs.Ytfglbgnjgapehaa.RBl Go.Proofs.Ytfglbgnjgapehaa.RTt Go.Proofs.Ytfglbgnjgapehaa.RRc Go.Proofs.Ytfglbgnjgapehaa.RAp Go.Proofs.Ytfglbgnjgapehaa.RGo
set_option linter.unusedVariables false

set_option maxRecDepth 20000 in
set_option maxHeartbeats 3200000 in
theorem hole_c {w : World} {R : Nat} {s : ByteArray} {i : Nat} {ov : Value} {acc : List Tz} (h : Rl w R s i ov (0, 0)) (ho : To w (R + 1) ov acc) (hacc : acc.length ≤ 65536) (hp : pre s i [123, 123] = true) :
    Calls Try.prog 22 #[ptr R] w fun r w' => (∃ v, r = .returned v) ∧ Tkn w w' R s acc (tkI s i (0, 0)) := by
  obtain ⟨k0, k1, k2, k3, k4⟩ := h.cells
  have f1 := h.free 1
  have hsz := h.sz
  have hla := h.la
  have hi2 : i + 2 ≤ s.size := ((pre_iff _ _ _).1 hp).1
  have hXs := fd_in (x := [125, 125]) hi2
  have hXa := fd_ge (x := [125, 125]) hi2
  have HC := fd_cases (x := [125, 125]) hi2 (by decide)
  obtain ⟨X, HX⟩ : ∃ X, Hid (fd s [125, 125] (i + 2) = X) := ⟨_, rfl⟩
  rw [HX.out] at hXa hXs HC
  have HT : Hid ((X + 2 ≤ s.size ∧ tkI s i (0, 0) = ⟨2, ⟨#[]⟩, s.extract (i + 2) X, i, X + 2, false, (0, 0)⟩) ∨ (X = s.size ∧ (tkI s i (0, 0)).f = (1205, i))) := by
    show _ ∨ _
    rcases HC with ⟨c1, c2, c3, c4⟩ | ⟨c1, c2⟩
    · refine .inl ⟨c1, ?_⟩
      unfold tkI
      rw [c3, c4, decide_eq_true c2]
      rfl
    · refine .inr ⟨c1, ?_⟩
      unfold tkI
      rw [decide_eq_false c2]
      rfl
  generalize tkI s i (0, 0) = T at *
  have HJ : Hid (Rl (w.setCell ⟨R, 1, none⟩ (.int .i64 ((i : Int) + 2))) R s (i + 2) ov (0, 0)) := by
    have := h.go (i + 2) hi2
    rwa [show ((i + 2 : Nat) : Int) = (i : Int) + 2 from by omega] at this
  have HO : Hid (To w (R + 1) ov acc) := ho
  have HL : Hid (R < w.heap.size) := h.lt
  clear h ho HC hp
  unfold ptr
  go_enter Try.func22, Try.ntmps22
  go_wp2_with fail
  go_loopw [] (fun wr => ∃ j : Nat, i + 2 ≤ j ∧ fd s [125, 125] j = X ∧ Rl wr R s j ov (0, 0) ∧ Kr R w wr) (fun wr => s.size - plc R wr)
  case atStart => exact ⟨i + 2, Nat.le_refl _, HX.out, HJ.out, (Kr.refl _ _).set 1 _⟩
  case round =>
    clear HX HJ k0 k1 k2 k3 k4 f1
    obtain ⟨j, hij, hj, hE, hK⟩ := hrel
    obtain ⟨k0, k1, k2, k3, k4⟩ := hE.cells
    have f1 := hE.free 1
    have hlj := hE.la
    have HM : Hid (plc R wr = j) := plr_of hE
    have HE : Hid (∀ m, Rl (wr.drewN m) R s j ov (0, 0)) := fun m => hE.drewN m
    have cH := fun m => here_c (hE.drewN m) ⟨#[125, 125]⟩ (by decide)
    have eb : (⟨#[125, 125]⟩ : ByteArray).data.toList = [125, 125] := rfl
    rw [eb] at cH
    unfold ptr at cH
    by_cases hgo : j < s.size ∧ pre s j [125, 125] = false
    · obtain ⟨hjl, hp⟩ := hgo
      have d0 : decide ((j : Int) < (s.size : Int)) = true := decide_eq_true (by omega)
      have HJ : Hid (∀ m, Rl ((wr.drewN m).setCell ⟨R, 1, none⟩ (.int .i64 ((j : Int) + 1))) R s (j + 1) ov (0, 0)) := fun m => by
        have := (hE.drewN m).go (j + 1) (by omega)
        rwa [show ((j + 1 : Nat) : Int) = (j : Int) + 1 from by omega] at this
      have HS : Hid (fd s [125, 125] (j + 1) = X) := by
        show _ = _
        rw [← hj, fd_step hjl (by decide) hp]
      rw [hp] at cH
      clear hE hj hp
      go_wp2_with fail
      go_quiet (first | (go_at_call 21; exact Calls.quiet_of (cH _)))
      go_wp2_with fail
      go_roundw
      case rel => exact ⟨j + 1, by omega, HS.out, HJ.out nq, (hK.drewN nq).set 1 _⟩
      case measure =>
        show s.size - plc R _ < s.size - plc R wr
        rw [plr_of (HJ.out nq), HM.out]
        omega
    · have hjX : j = X := by rw [← hj, fd_stop hlj (by decide) hgo]
      subst hjX
      by_cases hjl : j < s.size
      · have d0 : decide ((j : Int) < (s.size : Int)) = true := decide_eq_true (by omega)
        have d4 : decide ((s.size : Int) ≤ (j : Int)) = false := decide_eq_false (by omega)
        have hp : pre s j [125, 125] = true := by
          cases e : pre s j [125, 125] with
          | true => rfl
          | false => exact absurd ⟨hjl, e⟩ hgo
        rw [hp] at cH
        rcases HT.out with ⟨q1, q2⟩ | ⟨q1, -⟩
        case inr => omega
        have HT2 : Hid (T = ⟨2, ⟨#[]⟩, s.extract (i + 2) j, i, j + 2, false, (0, 0)⟩) := q2
        clear hE hj hp hgo HT q2
        go_wp2_with fail
        go_quiet (first | (go_at_call 21; exact Calls.quiet_of (cH _)))
        have hE1 := HE.out nq
        have HK1 : Hid (Kr R w (wr.drewN nq)) := hK.drewN nq
        clear cH HE hK HM
        generalize wr.drewN nq = W1 at *
        obtain ⟨k0, k1, k2, k3, k4⟩ := hE1.cells
        have HE1 : Hid (∀ m, Rl (W1.drewN m) R s j ov (0, 0)) := fun m => hE1.drewN m
        clear hE1
        go_wp2_with fail
        go_quiet (fail)
        have hE2 := HE1.out nq
        have HK2 : Hid (Kr R w (W1.drewN nq)) := HK1.out.drewN nq
        clear HK1 HE1 k0 k1 k2 k3 k4
        generalize W1.drewN nq = W2 at *
        obtain ⟨k0, k1, k2, k3, k4⟩ := hE2.cells
        have f2 := hE2.free 2
        have hq : Rl (W2.drewN 1) R s j ov (0, 0) := hE2.drewN 1
        have hqo : To (W2.drewN 1) (R + 1) ov acc := own_kr HO.out (HK2.out.drewN 1)
        have b1 : (0 : Int) ≤ (i : Int) + 2 := by omega
        have b2 : (i : Int) + 2 ≤ (j : Int) := by omega
        have b3 : (j : Int) ≤ (s.size : Int) := by omega
        have b4 : ((i : Int) + 2).toNat = i + 2 := by omega
        have b5 : IntKind.i64.wrap ((i : Int) + 2) = (i : Int) + 2 := by rw [IntKind.wrap_i64]; omega
        have b6 : (0 : Int) ≤ (j : Int) := by omega
        have HQ : Hid (Rl (W2.drewN 1) R s j ov (0, 0) ∧ To (W2.drewN 1) (R + 1) ov acc) := ⟨hq, hqo⟩
        have kA := Rl.alc hE2
        clear hE2 hq hqo
        go_wp2_with fail
        refine wp_region_held_drew (S := fun w' => w'.cell? ⟨R, 0, none⟩ = some (.string s) ∧ w'.cell? ⟨R, 1, none⟩ = some (.int .i64 (j : Int))) (by kernel_rfl) (by first | assumption | go_keep) (fun hHeld => ?_)
        refine wpAnyH_take (i := 0) (v := ?_) rfl (by kernel_rfl) (by kernel_rfl) (by kernel_rfl) (fun _ _ _ h => h) (Or.inl ⟨by rfl, ?_⟩) (by assumption) ?_
        rotate_left 1
        · intro w hSw; (try dsimp only at hSw); go_simp; first | done | with_reducible rfl | (rw [if_neg (by omega)])
        try simp only [Act.put, List.getElem_toArray, List.getElem_cons_zero, List.setIfInBounds_toArray, List.set_cons_zero, List.set_cons_succ]
        refine wpAnyH_take (i := 1) (v := ?_) rfl (by kernel_rfl) (by kernel_rfl) (by kernel_rfl) (fun _ _ _ h => h) (Or.inl ⟨by rfl, ?_⟩) (by assumption) ?_
        rotate_left 1
        · intro w hSw; (try dsimp only at hSw); go_simp; first | done | with_reducible rfl | (rw [if_neg (by omega)])
        try simp only [Act.put, List.getElem_toArray, List.getElem_cons_zero, List.getElem_cons_succ, List.setIfInBounds_toArray, List.set_cons_zero, List.set_cons_succ]
        refine wpAnyH_take (i := 2) (v := ?_) rfl (by kernel_rfl) (by kernel_rfl) (by kernel_rfl) (fun _ _ _ h => h) (Or.inl ⟨by rfl, ?_⟩) (by assumption) ?_
        rotate_left 1
        · intro w hSw; (try dsimp only at hSw); go_simp; first | done | with_reducible rfl | (rw [if_neg (by omega)])
        try simp only [Act.put, List.getElem_toArray, List.getElem_cons_zero, List.getElem_cons_succ, List.setIfInBounds_toArray, List.set_cons_zero, List.set_cons_succ]
        refine wpAnyH_take (i := 3) (v := ?_) rfl (by kernel_rfl) (by kernel_rfl) (by kernel_rfl) (fun _ _ _ h => h) (Or.inl ⟨by rfl, ?_⟩) (by assumption) ?_
        rotate_left 1
        · intro w hSw; (try dsimp only at hSw); go_simp; first | done | with_reducible rfl | (rw [if_neg (by omega)])
        try simp only [Act.put, List.getElem_toArray, List.getElem_cons_zero, List.getElem_cons_succ, List.setIfInBounds_toArray, List.set_cons_zero, List.set_cons_succ]
        refine wpAnyH_take (i := 5) (v := ?_) rfl (by kernel_rfl) (by kernel_rfl) (by kernel_rfl) (fun _ _ _ h => h) (Or.inl ⟨by rfl, ?_⟩) (by assumption) ?_
        rotate_left 1
        · intro w hSw; (try dsimp only at hSw); go_simp; first | done | with_reducible rfl | (rw [if_neg (by omega)])
        try simp only [Act.put, List.getElem_toArray, List.getElem_cons_zero, List.getElem_cons_succ, List.setIfInBounds_toArray, List.set_cons_zero, List.set_cons_succ]
        refine wpAnyH_take (i := 6) (v := ?_) rfl (by kernel_rfl) (by kernel_rfl) (by kernel_rfl) (fun _ _ _ h => h) (Or.inl ⟨by rfl, ?_⟩) (by assumption) ?_
        rotate_left 1
        · intro w hSw; (try dsimp only at hSw); go_simp; first | done | with_reducible rfl | (rw [if_neg (by omega)])
        try simp only [Act.put, List.getElem_toArray, List.getElem_cons_zero, List.getElem_cons_succ, List.setIfInBounds_toArray, List.set_cons_zero, List.set_cons_succ]
        refine wpAnyH_take (i := 7) (v := ?_) rfl (by kernel_rfl) (by kernel_rfl) (by kernel_rfl) (fun _ _ _ h => h) (Or.inl ⟨by rfl, ?_⟩) (by assumption) ?_
        rotate_left 1
        · intro w hSw; (try dsimp only at hSw); go_simp; first | done | with_reducible rfl | (rw [if_neg (by omega)])
        try simp only [Act.put, List.getElem_toArray, List.getElem_cons_zero, List.getElem_cons_succ, List.setIfInBounds_toArray, List.set_cons_zero, List.set_cons_succ]
        refine wpAnyH_take (i := 8) (v := ?_) rfl (by kernel_rfl) (by kernel_rfl) (by kernel_rfl) (fun _ _ _ h => h) (Or.inl ⟨by rfl, ?_⟩) (by assumption) ?_
        rotate_left 1
        · intro w hSw; (try dsimp only at hSw); go_simp; first | done | with_reducible rfl | (rw [if_neg (by omega)])
        try simp only [Act.put, List.getElem_toArray, List.getElem_cons_zero, List.getElem_cons_succ, List.setIfInBounds_toArray, List.set_cons_zero, List.set_cons_succ]
        refine wpAnyH_take (i := 9) (v := ?_) rfl (by kernel_rfl) (by kernel_rfl) (by kernel_rfl) (fun _ _ _ h => h) (Or.inl ⟨by rfl, ?_⟩) (by assumption) ?_
        rotate_left 1
        · intro w hSw; (try dsimp only at hSw); go_simp; first | done | with_reducible rfl | (rw [if_neg (by omega)])
        try simp only [Act.put, List.getElem_toArray, List.getElem_cons_zero, List.getElem_cons_succ, List.setIfInBounds_toArray, List.set_cons_zero, List.set_cons_succ]
        refine wpAnyH_take (i := 10) (v := ?_) rfl (by kernel_rfl) (by kernel_rfl) (by kernel_rfl) (fun _ _ _ h => h) (Or.inl ⟨by rfl, ?_⟩) (by assumption) ?_
        rotate_left 1
        · intro w hSw; (try dsimp only at hSw); go_simp; first | done | with_reducible rfl | (rw [if_neg (by omega)])
        try simp only [Act.put, List.getElem_toArray, List.getElem_cons_zero, List.getElem_cons_succ, List.setIfInBounds_toArray, List.set_cons_zero, List.set_cons_succ]
        refine wpAnyH_take (i := 11) (v := ?_) rfl (by kernel_rfl) (by kernel_rfl) (by kernel_rfl) (fun _ _ _ h => h) (Or.inl ⟨by rfl, ?_⟩) (by assumption) ?_
        rotate_left 1
        · intro w hSw; (try dsimp only at hSw); go_simp; first | done | with_reducible rfl | (rw [if_neg (by omega)])
        try simp only [Act.put, List.getElem_toArray, List.getElem_cons_zero, List.getElem_cons_succ, List.setIfInBounds_toArray, List.set_cons_zero, List.set_cons_succ]
        refine wpAnyH_take (i := 12) (v := ?_) rfl (by kernel_rfl) (by kernel_rfl) (by kernel_rfl) (fun _ _ _ h => h) (Or.inl ⟨by rfl, ?_⟩) (by assumption) ?_
        rotate_left 1
        · intro w hSw; (try dsimp only at hSw); go_simp; first | done | with_reducible rfl | (rw [if_neg (by omega)])
        try simp only [Act.put, List.getElem_toArray, List.getElem_cons_zero, List.getElem_cons_succ, List.setIfInBounds_toArray, List.set_cons_zero, List.set_cons_succ]
        refine wpAnyH_take (i := 13) (v := ?_) rfl (by kernel_rfl) (by kernel_rfl) (by kernel_rfl) (fun _ _ _ h => h) (Or.inl ⟨by rfl, ?_⟩) (by assumption) ?_
        rotate_left 1
        · intro w hSw; (try dsimp only at hSw); go_simp; first | done | with_reducible rfl | (rw [if_neg (by omega)])
        try simp only [Act.put, List.getElem_toArray, List.getElem_cons_zero, List.getElem_cons_succ, List.setIfInBounds_toArray, List.set_cons_zero, List.set_cons_succ]
        refine wpAnyH_take (i := 14) (v := ?_) rfl (by kernel_rfl) (by kernel_rfl) (by kernel_rfl) (fun _ _ _ h => h) (Or.inl ⟨by rfl, ?_⟩) (by assumption) ?_
        rotate_left 1
        · intro w hSw; (try dsimp only at hSw); go_simp; first | done | with_reducible rfl | (rw [if_neg (by omega)])
        try simp only [Act.put, List.getElem_toArray, List.getElem_cons_zero, List.getElem_cons_succ, List.setIfInBounds_toArray, List.set_cons_zero, List.set_cons_succ]
        refine wpAnyH_take (i := 15) (v := ?_) rfl (by kernel_rfl) (by kernel_rfl) (by kernel_rfl) (fun _ _ _ h => h) (Or.inl ⟨by rfl, ?_⟩) (by assumption) ?_
        rotate_left 1
        · intro w hSw; (try dsimp only at hSw); go_simp; first | done | with_reducible rfl | (rw [if_neg (by omega)])
        try simp only [Act.put, List.getElem_toArray, List.getElem_cons_zero, List.getElem_cons_succ, List.setIfInBounds_toArray, List.set_cons_zero, List.set_cons_succ]
        refine wpAnyH_take (i := 16) (v := ?_) rfl (by kernel_rfl) (by kernel_rfl) (by kernel_rfl) (fun _ _ _ h => h) (Or.inl ⟨by rfl, ?_⟩) (by assumption) ?_
        rotate_left 1
        · intro w hSw; (try dsimp only at hSw); go_simp; first | done | with_reducible rfl | (rw [if_neg (by omega)])
        try simp only [Act.put, List.getElem_toArray, List.getElem_cons_zero, List.getElem_cons_succ, List.setIfInBounds_toArray, List.set_cons_zero, List.set_cons_succ]
        refine wpAnyH_take (i := 17) (v := ?_) rfl (by kernel_rfl) (by kernel_rfl) (by kernel_rfl) (fun _ _ _ h => h) (Or.inl ⟨by rfl, ?_⟩) (by assumption) ?_
        rotate_left 1
        · intro w hSw; (try dsimp only at hSw); go_simp; first | done | with_reducible rfl | (rw [if_neg (by omega)])
        try simp only [Act.put, List.getElem_toArray, List.getElem_cons_zero, List.getElem_cons_succ, List.setIfInBounds_toArray, List.set_cons_zero, List.set_cons_succ]
        refine wpAnyH_ready (rs := [4, 18]) (by kernel_rfl) (by simp) ?_
        refine AllReadyH.cons rfl (fun K hK => ?_) (AllReadyH.cons rfl (fun K hK => ?_) (AllReadyH.nil))
        go_simp
        refine hK.out _ _ (by first | assumption | go_keep) (fun hHeld => ?_)
        clear hK K
        try simp only [Act.put, List.getElem_toArray, List.getElem_cons_zero, List.getElem_cons_succ, List.setIfInBounds_toArray, List.set_cons_zero, List.set_cons_succ]
        refine wpAnyH_ready (rs := [18]) (by kernel_rfl) (by simp) ?_
        refine AllReadyH.cons rfl (fun K hK => ?_) (AllReadyH.nil)
        go_simp
        refine hK.out _ _ (by first | assumption | go_keep) (fun hHeld => ?_)
        clear hK K
        try simp only [Act.put, List.getElem_toArray, List.getElem_cons_zero, List.getElem_cons_succ, List.setIfInBounds_toArray, List.set_cons_zero, List.set_cons_succ]
        refine wpAnyH_ready (rs := [19]) (by kernel_rfl) (by simp) ?_
        refine AllReadyH.cons rfl (fun K hK => ?_) (AllReadyH.nil)
        refine step_app (by rfl) _ _ (by rfl) HQ.out.1 HQ.out.2 hacc 2 ⟨#[]⟩ (s.extract (i + 2) j) i (by rfl) (by rfl) (by rfl) ?_; intro vv WW hap; obtain ⟨g2, cap2, rfl⟩ := hap.sh; obtain ⟨y0, y1, y2, y3, y4⟩ := hap.rl.cells; have y5 := hap.rl.free 2; obtain ⟨z0, z1, z2, z3, z4⟩ := hap.done.cells
        refine hK.out _ _ (by first | assumption | go_keep) (fun hHeld => ?_)
        clear hK K
        try simp only [Act.put, List.getElem_toArray, List.getElem_cons_zero, List.getElem_cons_succ, List.setIfInBounds_toArray, List.set_cons_zero, List.set_cons_succ]
        refine wpAnyH_take (i := 20) (v := ?_) rfl (by kernel_rfl) (by kernel_rfl) (by kernel_rfl) (fun _ _ _ h => h) (Or.inl ⟨by rfl, ?_⟩) (by assumption) ?_
        rotate_left 1
        · intro w hSw; (try dsimp only at hSw); go_simp; first | done | with_reducible rfl | (rw [if_neg (by omega)])
        try simp only [Act.put, List.getElem_toArray, List.getElem_cons_zero, List.getElem_cons_succ, List.setIfInBounds_toArray, List.set_cons_zero, List.set_cons_succ]
        refine wpAnyH_take (i := 21) (v := ?_) rfl (by kernel_rfl) (by kernel_rfl) (by kernel_rfl) (fun _ _ _ h => h) (Or.inl ⟨by rfl, ?_⟩) (by assumption) ?_
        rotate_left 1
        · intro w hSw; (try dsimp only at hSw); go_simp; first | done | with_reducible rfl | (rw [if_neg (by omega)])
        try simp only [Act.put, List.getElem_toArray, List.getElem_cons_zero, List.getElem_cons_succ, List.setIfInBounds_toArray, List.set_cons_zero, List.set_cons_succ]
        refine wpAnyH_ready (rs := [22]) (by kernel_rfl) (by simp) ?_
        refine AllReadyH.cons rfl (fun K hK => ?_) (AllReadyH.nil)
        go_simp
        refine hK.out _ _ (by first | assumption | go_keep) (fun hHeld => ?_)
        clear hK K
        try simp only [Act.put, List.getElem_toArray, List.getElem_cons_zero, List.getElem_cons_succ, List.setIfInBounds_toArray, List.set_cons_zero, List.set_cons_succ]
        refine wpAnyH_done (by kernel_rfl) ?_ _
        rotate_left 1
        go_simp
        refine hK.out _ _ (by first | assumption | go_keep) (fun hHeld => ?_)
        clear hK K
        try simp only [Act.put, List.getElem_toArray, List.getElem_cons_zero, List.getElem_cons_succ, List.setIfInBounds_toArray, List.set_cons_zero, List.set_cons_succ]
        refine wpAnyH_ready (rs := [4]) (by kernel_rfl) (by simp) ?_
        refine AllReadyH.cons rfl (fun K hK => ?_) (AllReadyH.nil)
        go_simp
        refine hK.out _ _ (by first | assumption | go_keep) (fun hHeld => ?_)
        clear hK K
        try simp only [Act.put, List.getElem_toArray, List.getElem_cons_zero, List.getElem_cons_succ, List.setIfInBounds_toArray, List.set_cons_zero, List.set_cons_succ]
        refine wpAnyH_ready (rs := [19]) (by kernel_rfl) (by simp) ?_
        refine AllReadyH.cons rfl (fun K hK => ?_) (AllReadyH.nil)
        refine step_app (by rfl) _ _ (by rfl) HQ.out.1 HQ.out.2 hacc 2 ⟨#[]⟩ (s.extract (i + 2) j) i (by rfl) (by rfl) (by rfl) ?_; intro vv WW hap; obtain ⟨g2, cap2, rfl⟩ := hap.sh; obtain ⟨y0, y1, y2, y3, y4⟩ := hap.rl.cells; have y5 := hap.rl.free 2; obtain ⟨z0, z1, z2, z3, z4⟩ := hap.done.cells
        refine hK.out _ _ (by first | assumption | go_keep) (fun hHeld => ?_)
        clear hK K
        try simp only [Act.put, List.getElem_toArray, List.getElem_cons_zero, List.getElem_cons_succ, List.setIfInBounds_toArray, List.set_cons_zero, List.set_cons_succ]
        refine wpAnyH_take (i := 20) (v := ?_) rfl (by kernel_rfl) (by kernel_rfl) (by kernel_rfl) (fun _ _ _ h => h) (Or.inl ⟨by rfl, ?_⟩) (by assumption) ?_
        rotate_left 1
        · intro w hSw; (try dsimp only at hSw); go_simp; first | done | with_reducible rfl | (rw [if_neg (by omega)])
        try simp only [Act.put, List.getElem_toArray, List.getElem_cons_zero, List.getElem_cons_succ, List.setIfInBounds_toArray, List.set_cons_zero, List.set_cons_succ]
        refine wpAnyH_take (i := 21) (v := ?_) rfl (by kernel_rfl) (by kernel_rfl) (by kernel_rfl) (fun _ _ _ h => h) (Or.inl ⟨by rfl, ?_⟩) (by assumption) ?_
        rotate_left 1
        · intro w hSw; (try dsimp only at hSw); go_simp; first | done | with_reducible rfl | (rw [if_neg (by omega)])
        try simp only [Act.put, List.getElem_toArray, List.getElem_cons_zero, List.getElem_cons_succ, List.setIfInBounds_toArray, List.set_cons_zero, List.set_cons_succ]
        refine wpAnyH_ready (rs := [22]) (by kernel_rfl) (by simp) ?_
        refine AllReadyH.cons rfl (fun K hK => ?_) (AllReadyH.nil)
        go_simp
        refine hK.out _ _ (by first | assumption | go_keep) (fun hHeld => ?_)
        clear hK K
        try simp only [Act.put, List.getElem_toArray, List.getElem_cons_zero, List.getElem_cons_succ, List.setIfInBounds_toArray, List.set_cons_zero, List.set_cons_succ]
        refine wpAnyH_done (by kernel_rfl) ?_ _
        all_goals
          have h9 := Rl.go2 hap.done q1
          have HP : Hid (_ ∧ _) := And.intro hap h9
          have z5 := hap.done.free 1
          clear kA hap h9 hHeld y0 y1 y2 y3 y4 y5 k0 k1 k2 k3 k4 f2
          go_wp2_with fail
          go_end0
          refine ⟨⟨_, rfl⟩, _, _, _, HP.out.2, (HK2.out.drewN 1).below.trans (HP.out.1.bel.trans ((Kr.refl R _).set 1 _).below), by rw [HT2.out], fun _ => ⟨by rw [HT2.out], own_kr (HP.out.1.to T (by rw [HT2.out]) (by rw [HT2.out]) (by rw [HT2.out]) (by rw [HT2.out])) ((Kr.refl R _).set 1 _)⟩⟩
      · have d0 : decide ((j : Int) < (s.size : Int)) = false := decide_eq_false (by omega)
        have d4 : decide ((s.size : Int) ≤ (j : Int)) = true := decide_eq_true (by omega)
        rcases HT.out with ⟨q1, -⟩ | ⟨-, q2⟩
        case inl => omega
        have HF : Hid (T.f = (1205, i)) := q2
        clear hE hj hgo HT q2
        go_wp2_with fail
        go_quiet (first | (go_at_call 21; exact Calls.quiet_of (cH _)))
        have hE1 := HE.out nq
        have HK1 : Hid (Kr R w (wr.drewN nq)) := hK.drewN nq
        clear cH HE hK HM
        generalize wr.drewN nq = W1 at *
        obtain ⟨k0, k1, k2, k3, k4⟩ := hE1.cells
        have HE1 : Hid (∀ m, Rl (W1.drewN m) R s j ov (0, 0)) := fun m => hE1.drewN m
        clear hE1
        go_wp2_with fail
        go_quiet (fail)
        have hE2 := HE1.out nq
        have HK2 : Hid (Kr R w (W1.drewN nq)) := HK1.out.drewN nq
        clear HK1 HE1 k0 k1 k2 k3 k4
        generalize W1.drewN nq = W2 at *
        obtain ⟨k0, k1, k2, k3, k4⟩ := hE2.cells
        have cf := fail_c hE2 (1205, i)
        rw [show rf (0, 0) (1205, i) = (1205, i) from rfl] at cf
        unfold ptr at cf
        clear hE2
        go_wp2_with fail
        refine cf.mono ?_
        rintro e W8 ⟨⟨v8, rfl⟩, h8, q8⟩
        have HX : Hid (_ ∧ _) := And.intro h8 (HK2.out.trans q8)
        clear h8 q8 cf
        go_wp2_with fail
        refine bodyPost_ret (results_none rfl _ _ _) rfl ?_
        exact ⟨⟨_, rfl⟩, _, _, _, HX.out.1, HX.out.2.below, HF.out.symm, fun h0 => absurd h0 (by rw [HF.out]; simp)⟩
end Go.Proofs.Ytfglbgnjgapehaa.RHo
