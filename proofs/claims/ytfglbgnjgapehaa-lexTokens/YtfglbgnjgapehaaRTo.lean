/- The reference's lexer: an opening tag, whole. -/
import Derived.Test.YtfglbgnjgapehaaRTg
import Derived.Test.YtfglbgnjgapehaaRAt
import Derived.Deep.CutRange
namespace Go.Proofs.Ytfglbgnjgapehaa.RTo
open Go.RowKit Go.Proofs.Ytfglbgnjgapehaa.UBase Go.Proofs.Ytfglbgnjgapehaa.EPure Go.Proofs.Ytfglbgnjgapehaa.LPure Go.Proofs.Ytfglbgnjgapehaa.LRd Go.Proofs.Ytfglbgnjgapehaa.LSk Go.Proofs.Ytfglbgnjgapehaa.LNm Go.Proofs.Ytfglbgnjgapehaa.LUp Go.Proofs.Ytfglbgnjgapehaa.LSc Go.Proofs.Ytfglbgnjgapehaa.LOc Go.Proofs.Ytfglbgnjgapehaa.LIn Go.Proofs.Ytfglbgnjgapehaa.LSn Go.Proofs.Ytfglbgnjgapehaa.LMu Go.Proofs.Ytfglbgnjgapehaa.LTk Go.Proofs.Ytfglbgnjgapehaa.LLy Go.Proofs.Ytfglbgnjgapehaa.LCv Go.Proofs.Ytfglbgnjgapehaa.RLd Go.Proofs.Ytfglbgnjgapehaa.RBl Go.Proofs.Ytfglbgnjgapehaa.RNa Go.Proofs.Ytfglbgnjgapehaa.RTt Go.Proofs.Ytfglbgnjgapehaa.RRc Go.Proofs.Ytfglbgnjgapehaa.RAp Go.Proofs.Ytfglbgnjgapehaa.RAt Go.Proofs.Ytfglbgnjgapehaa.RTp Go.Proofs.Ytfglbgnjgapehaa.RTg Go.Proofs.Ytfglbgnjgapehaa.RGo
set_option linter.unusedVariables false

theorem open_lp {w W2 W : World} {R : Nat} {s : ByteArray} {i A : Nat} {ov v : Value} {acc : List Tz} (hA : A = i + 1) (hi : i < s.size) (hacc : acc.length ≤ i) (hT : LSn.tok s i false (0, 0) = tkO s i (0, 0)) (hb : Below R w W2)
    (hap : Apd W2 W R s (rn s A A) ov (nF s A (0, 0)) acc 3 (sub s A (rn s A A)) ⟨#[]⟩ i v) : Lp w (W.setCell ⟨R, 2, none⟩ v) R s i false acc true := by
  subst hA
  refine ⟨_, _, _, hap.done, hb.trans hap.bel, ?_⟩
  have ef : (LSn.tok s i false (0, 0)).f = nF s (i + 1) (0, 0) := by rw [hT]; rfl
  by_cases hf : (nF s (i + 1) (0, 0)).1 = 0
  · have hwd : word (nT s (i + 1)) 45 = true := (fif_zero (c := word (nT s (i + 1)) 45) (f := (0, 0)) (e := (1202, i + 1)) hf (by simp)).1
    have hrn : rn s (i + 1) (i + 1) = nE s (i + 1) := by
      rcases rn_word (s := s) (i := i + 1) (by omega) with ⟨-, h2⟩ | ⟨-, h2, -⟩
      · rw [h2] at hwd; cases hwd
      · exact h2
    have e0 : nF s (i + 1) (0, 0) = (0, 0) := by show fif (word (nT s (i + 1)) 45) _ _ = _; rw [hwd]; rfl
    have hrc := Rc.tok (acc := acc) (Nat.le_of_lt hi) (.inr hi) (by rw [ef]; exact hf)
    have hge := rn_ge s (Nat.le_refl (i + 1))
    refine .inr ⟨e0, acc ++ [LSn.tok s i false (0, 0)], by omega, by rw [List.length_append]; simp; omega, ?_, hap.to _ (by rw [hT]; rfl) (by rw [hT, hrn]; rfl) (by rw [hT]; rfl) (by rw [hT]; rfl)⟩
    rw [show (LSn.tok s i false (0, 0)).i = rn s (i + 1) (i + 1) from by rw [hT, hrn]; rfl, show (LSn.tok s i false (0, 0)).b = true from by rw [hT]; rfl] at hrc
    exact hrc
  · exact .inl ⟨hf, by rw [← ef]; exact Fl.tok (Nat.le_of_lt hi) (.inr hi) (by rw [ef]; exact hf)⟩
theorem end_stp {w W3 W W' : World} {R : Nat} {s : ByteArray} {i j Y k d : Nat} {ov v : Value} {acc acc1 : List Tz} (hap : Apd W3 W R s Y ov (0, 0) acc1 k ⟨#[]⟩ ⟨#[]⟩ Y v) (hT : LSn.tok s j true (0, 0) = ⟨k, ⟨#[]⟩, ⟨#[]⟩, Y, Y + d, false, (0, 0)⟩)
    (hj : j ≤ s.size) (hij : i ≤ j) (hl : acc1.length ≤ j) (hrc : Rc s i false acc j true acc1) (hB : Below R w W3) (h : Rl W' R s (Y + d) v (0, 0)) (hW : Kr R (W.setCell ⟨R, 2, none⟩ v) W') : Stp w W' R s i false acc := by
  have h0 : (LSn.tok s j true (0, 0)).f.1 = 0 := by rw [hT]
  have ha := tok_adv (s := s) (i := j) (b := true) (.inl rfl) h0
  have hr := Rc.tok (acc := acc1) hj (.inl rfl) h0
  have hto := hap.to (LSn.tok s j true (0, 0)) (by rw [hT]) (by rw [hT]) (by rw [hT]) (by rw [hT])
  rw [show (LSn.tok s j true (0, 0)).i = Y + d from by rw [hT]] at ha hr
  rw [show (LSn.tok s j true (0, 0)).b = false from by rw [hT]] at hr
  exact ⟨v, Y + d, (0, 0), h, hB.trans (hap.bel.trans hW.below), .inr ⟨rfl, _, by omega, by rw [List.length_append]; simp; omega, hrc.trans hr, own_kr hto hW⟩⟩
theorem bad_lp {w W : World} {R : Nat} {s : ByteArray} {i j p : Nat} {ov : Value} {acc acc1 : List Tz} {e : F} (h : Rl W R s p ov e) (hB : Below R w W) (hj : j ≤ s.size) (hrc : Rc s i false acc j true acc1) (hT : (LSn.tok s j true (0, 0)).f = e) (he : e.1 ≠ 0) : Lp w W R s i false acc true :=
  ⟨p, ov, e, h, hB, .inl ⟨he, hrc.fl (by rw [← hT]; exact Fl.tok hj (.inl rfl) (by rw [hT]; exact he))⟩⟩
theorem attr_lp {w W4 W5 : World} {R : Nat} {s : ByteArray} {i j Y : Nat} {acc acc1 : List Tz} (h : Tkn W4 W5 R s acc1 (tkA s Y (0, 0))) (hT : LSn.tok s j true (0, 0) = tkA s Y (0, 0)) (hB : Below R w W4) (hj : j ≤ s.size) (hij : i ≤ j) (hl : acc1.length ≤ j) (hrc : Rc s i false acc j true acc1) :
    Lp w W5 R s i false acc true ∧ fm R s.size W5 < s.size + 1 - j := by
  obtain ⟨ov', i', f', h1, h2, h3, h4⟩ := h
  by_cases hf : (tkA s Y (0, 0)).f.1 = 0
  · obtain ⟨e, ho⟩ := h4 hf
    have h0 : (LSn.tok s j true (0, 0)).f.1 = 0 := by rw [hT]; exact hf
    have ha := tok_adv (s := s) (i := j) (b := true) (.inl rfl) h0
    have hr := Rc.tok (acc := acc1) hj (.inl rfl) h0
    have hz := tok_fz s j true (f := (0, 0)) (fun _ => rfl) h0
    rw [hT] at ha hr hz
    rw [← e] at ha hr
    have e0 : f' = (0, 0) := h3.trans hz
    subst e0
    refine ⟨⟨i', ov', _, h1, hB.trans h2, .inr ⟨rfl, _, by omega, by rw [List.length_append]; simp; omega, hrc.trans hr, ho⟩⟩, ?_⟩
    rw [fm_ok h1]
    have := h1.la
    omega
  · have hf' : f'.1 ≠ 0 := by rw [h3]; exact hf
    refine ⟨bad_lp h1 (hB.trans h2) hj hrc (by rw [hT, h3]) hf', ?_⟩
    rw [fm_bad h1 hf']
    omega
set_option maxRecDepth 20000 in
set_option maxHeartbeats 6400000 in
theorem tag_open {w : World} {R : Nat} {s : ByteArray} {i : Nat} {ov : Value} {acc : List Tz} (h : Rl w R s i ov (0, 0)) (ho : To w (R + 1) ov acc) (hacc : acc.length ≤ i) (hi : i < s.size) (hp : pre s (i + 1) [47] = false) (hT : LSn.tok s i false (0, 0) = tkO s i (0, 0)) :
    Calls Try.prog 20 #[ptr R] w fun r w' => (∃ v, r = .returned v) ∧ Stp w w' R s i false acc := by
  obtain ⟨k0, k1, k2, k3, k4⟩ := h.cells
  have f1 := h.free 1
  have hsz := h.sz
  have hla := h.la
  have hac : acc.length ≤ 65536 := by omega
  have h1 := Rl.go1 h (by omega)
  obtain ⟨W1, hW1⟩ : ∃ W1, w.setCell ⟨R, 1, none⟩ (.int .i64 ((i : Int) + 1)) = W1 := ⟨_, rfl⟩
  have hK1 : Kr R w W1 := by rw [← hW1]; exact (Kr.refl R w).set 1 _
  rw [hW1] at h1
  have cH := here_c h1 ⟨#[47]⟩ (by decide)
  have eb : (⟨#[47]⟩ : ByteArray).data.toList = [47] := rfl
  rw [eb, hp] at cH
  have HE1 : Hid (∀ m, Rl (W1.drewN m) R s (i + 1) ov (0, 0) ∧ Kr R w (W1.drewN m)) := fun m => ⟨h1.drewN m, hK1.drewN m⟩
  have HO : Hid (To w (R + 1) ov acc) := ho
  have HL : Hid (∀ (W2 W : World) (v : Value), Below R w W2 → Apd W2 W R s (rn s (i + 1) (i + 1)) ov (nF s (i + 1) (0, 0)) acc 3 (sub s (i + 1) (rn s (i + 1) (i + 1))) ⟨#[]⟩ i v → Lp w (W.setCell ⟨R, 2, none⟩ v) R s i false acc true) := fun W2 W v hb ha => open_lp rfl hi hacc hT hb ha
  clear h ho hK1 h1 hp eb hT
  unfold ptr at *
  go_enter Try.func20, Try.ntmps20
  go_wp2_with fail
  try rw [hW1]
  refine cH.mono ?_
  rintro e W2 ⟨rfl, n2, hn2⟩
  obtain ⟨h2, hK2⟩ := HE1.out n2
  rw [← hn2] at h2 hK2
  clear HE1 hn2 cH hW1 k0 k1 k2 k3 k4 f1
  generalize i + 1 = A at *
  obtain ⟨k0, k1, k2, k3, k4⟩ := h2.cells
  have cN := name_c (h2.drewN 1)
  unfold ptr at cN
  obtain ⟨N, hN⟩ : ∃ N, sub s A (rn s A A) = N := ⟨_, rfl⟩
  rw [hN] at cN HL
  generalize rn s A A = A2 at *
  generalize nF s A (0, 0) = F2 at *
  have HK2 : Hid (Kr R w (W2.drewN 1)) := hK2.drewN 1
  clear h2 hK2 hN
  go_wp2_with fail
  go_cut [] from 48 to 60 (fun wc => Lp w wc R s i false acc true)
  case first =>
    refine wp_region_held_drew (S := fun _ => True) (by kernel_rfl) trivial (fun hHeld => ?_)
    refine wpAnyH_take (i := 0) (v := ?_) rfl (by kernel_rfl) (by kernel_rfl) (by kernel_rfl) (fun _ _ _ h => h) (Or.inl ⟨by rfl, ?_⟩) (by assumption) ?_
    rotate_left 1
    · intro w hSw; (try dsimp only at hSw); go_simp; first | done | with_reducible rfl | (rw [if_neg (by omega)])
    try simp only [Act.put, List.getElem_toArray, List.getElem_cons_zero, List.setIfInBounds_toArray, List.set_cons_zero, List.set_cons_succ]
    refine wpAnyH_take (i := 1) (v := ?_) rfl (by kernel_rfl) (by kernel_rfl) (by kernel_rfl) (fun _ _ _ h => h) (Or.inl ⟨by rfl, ?_⟩) (by assumption) ?_
    rotate_left 1
    · intro w hSw; (try dsimp only at hSw); go_simp; first | done | with_reducible rfl | (rw [if_neg (by omega)])
    try simp only [Act.put, List.getElem_toArray, List.getElem_cons_zero, List.getElem_cons_succ, List.setIfInBounds_toArray, List.set_cons_zero, List.set_cons_succ]
    refine wpAnyH_take (i := 2) (v := ?_) rfl (by kernel_rfl) (by kernel_rfl) (by kernel_rfl) (fun _ _ _ h => h) (Or.inl ⟨by rfl, ?_⟩) (by assumption) ?_
    rotate_left 1
    · intro w hSw; (try dsimp only at hSw); go_simp; first | done | with_reducible rfl | (rw [if_neg (by omega)])
    try simp only [Act.put, List.getElem_toArray, List.getElem_cons_zero, List.getElem_cons_succ, List.setIfInBounds_toArray, List.set_cons_zero, List.set_cons_succ]
    refine wpAnyH_take (i := 3) (v := ?_) rfl (by kernel_rfl) (by kernel_rfl) (by kernel_rfl) (fun _ _ _ h => h) (Or.inl ⟨by rfl, ?_⟩) (by assumption) ?_
    rotate_left 1
    · intro w hSw; (try dsimp only at hSw); go_simp; first | done | with_reducible rfl | (rw [if_neg (by omega)])
    try simp only [Act.put, List.getElem_toArray, List.getElem_cons_zero, List.getElem_cons_succ, List.setIfInBounds_toArray, List.set_cons_zero, List.set_cons_succ]
    refine wpAnyH_take (i := 5) (v := ?_) rfl (by kernel_rfl) (by kernel_rfl) (by kernel_rfl) (fun _ _ _ h => h) (Or.inl ⟨by rfl, ?_⟩) (by assumption) ?_
    rotate_left 1
    · intro w hSw; (try dsimp only at hSw); go_simp; first | done | with_reducible rfl | (rw [if_neg (by omega)])
    try simp only [Act.put, List.getElem_toArray, List.getElem_cons_zero, List.getElem_cons_succ, List.setIfInBounds_toArray, List.set_cons_zero, List.set_cons_succ]
    refine wpAnyH_take (i := 7) (v := ?_) rfl (by kernel_rfl) (by kernel_rfl) (by kernel_rfl) (fun _ _ _ h => h) (Or.inl ⟨by rfl, ?_⟩) (by assumption) ?_
    rotate_left 1
    · intro w hSw; (try dsimp only at hSw); go_simp; first | done | with_reducible rfl | (rw [if_neg (by omega)])
    try simp only [Act.put, List.getElem_toArray, List.getElem_cons_zero, List.getElem_cons_succ, List.setIfInBounds_toArray, List.set_cons_zero, List.set_cons_succ]
    refine wpAnyH_ready (rs := [4, 6]) (by kernel_rfl) (by simp) ?_
    refine AllReadyH.cons rfl (fun K hK => ?_) (AllReadyH.cons rfl (fun K hK => ?_) (AllReadyH.nil))
    go_simp
    refine hK.out _ _ (trivial) (fun hHeld => ?_)
    clear hK K
    try simp only [Act.put, List.getElem_toArray, List.getElem_cons_zero, List.getElem_cons_succ, List.setIfInBounds_toArray, List.set_cons_zero, List.set_cons_succ]
    refine wpAnyH_ready (rs := [6]) (by kernel_rfl) (by simp) ?_
    refine AllReadyH.cons rfl (fun K hK => ?_) (AllReadyH.nil)
    go_simp
    refine cN.mono ?_
    rintro e W3 ⟨rfl, h3, q3⟩
    obtain ⟨y0, y1, y2, y3, y4⟩ := h3.cells
    have kA := Rl.alc h3
    have HQ : Hid (_ ∧ _ ∧ _) := And.intro h3 (And.intro (own_kr HO.out (HK2.out.trans q3)) (HK2.out.trans q3).below)
    clear h3 q3
    go_wp2_with fail
    refine hK.out _ _ (trivial) (fun hHeld => ?_)
    clear hK K
    try simp only [Act.put, List.getElem_toArray, List.getElem_cons_zero, List.getElem_cons_succ, List.setIfInBounds_toArray, List.set_cons_zero, List.set_cons_succ]
    refine wpAnyH_take (i := 8) (v := ?_) rfl (by kernel_rfl) (by kernel_rfl) (by kernel_rfl) (fun _ _ _ h => h) (Or.inl ⟨by rfl, ?_⟩) (by assumption) ?_
    rotate_left 1
    · intro w hSw; (try dsimp only at hSw); go_simp; first | done | with_reducible rfl | (rw [if_neg (by omega)])
    try simp only [Act.put, List.getElem_toArray, List.getElem_cons_zero, List.getElem_cons_succ, List.setIfInBounds_toArray, List.set_cons_zero, List.set_cons_succ]
    refine wpAnyH_ready (rs := [9]) (by kernel_rfl) (by simp) ?_
    refine AllReadyH.cons rfl (fun K hK => ?_) (AllReadyH.nil)
    go_simp
    refine hK.out _ _ (trivial) (fun hHeld => ?_)
    clear hK K
    try simp only [Act.put, List.getElem_toArray, List.getElem_cons_zero, List.getElem_cons_succ, List.setIfInBounds_toArray, List.set_cons_zero, List.set_cons_succ]
    refine wpAnyH_ready (rs := [10]) (by kernel_rfl) (by simp) ?_
    refine AllReadyH.cons rfl (fun K hK => ?_) (AllReadyH.nil)
    refine step_app (by rfl) _ _ (by rfl) HQ.out.1 HQ.out.2.1 hac 3 N ⟨#[]⟩ i (by rfl) (by rfl) (by rfl) ?_; intro vv WW hap; obtain ⟨g2, cap2, rfl⟩ := hap.sh; obtain ⟨z0, z1, z2, z3, z4⟩ := hap.rl.cells; have z5 := hap.rl.free 2
    refine hK.out _ _ (trivial) (fun hHeld => ?_)
    clear hK K
    try simp only [Act.put, List.getElem_toArray, List.getElem_cons_zero, List.getElem_cons_succ, List.setIfInBounds_toArray, List.set_cons_zero, List.set_cons_succ]
    refine wpAnyH_take (i := 11) (v := ?_) rfl (by kernel_rfl) (by kernel_rfl) (by kernel_rfl) (fun _ _ _ h => h) (Or.inl ⟨by rfl, ?_⟩) (by assumption) ?_
    rotate_left 1
    · intro w hSw; (try dsimp only at hSw); go_simp; first | done | with_reducible rfl | (rw [if_neg (by omega)])
    try simp only [Act.put, List.getElem_toArray, List.getElem_cons_zero, List.getElem_cons_succ, List.setIfInBounds_toArray, List.set_cons_zero, List.set_cons_succ]
    refine wpAnyH_take (i := 12) (v := ?_) rfl (by kernel_rfl) (by kernel_rfl) (by kernel_rfl) (fun _ _ _ h => h) (Or.inl ⟨by rfl, ?_⟩) (by assumption) ?_
    rotate_left 1
    · intro w hSw; (try dsimp only at hSw); go_simp; first | done | with_reducible rfl | (rw [if_neg (by omega)])
    try simp only [Act.put, List.getElem_toArray, List.getElem_cons_zero, List.getElem_cons_succ, List.setIfInBounds_toArray, List.set_cons_zero, List.set_cons_succ]
    refine wpAnyH_ready (rs := [13]) (by kernel_rfl) (by simp) ?_
    refine AllReadyH.cons rfl (fun K hK => ?_) (AllReadyH.nil)
    go_simp
    refine hK.out _ _ (trivial) (fun hHeld => ?_)
    clear hK K
    try simp only [Act.put, List.getElem_toArray, List.getElem_cons_zero, List.getElem_cons_succ, List.setIfInBounds_toArray, List.set_cons_zero, List.set_cons_succ]
    refine wpAnyH_done (by kernel_rfl) ?_ _
    rotate_left 1
    go_simp
    refine cN.mono ?_
    rintro e W3 ⟨rfl, h3, q3⟩
    obtain ⟨y0, y1, y2, y3, y4⟩ := h3.cells
    have kA := Rl.alc h3
    have HQ : Hid (_ ∧ _ ∧ _) := And.intro h3 (And.intro (own_kr HO.out (HK2.out.trans q3)) (HK2.out.trans q3).below)
    clear h3 q3
    go_wp2_with fail
    refine hK.out _ _ (trivial) (fun hHeld => ?_)
    clear hK K
    try simp only [Act.put, List.getElem_toArray, List.getElem_cons_zero, List.getElem_cons_succ, List.setIfInBounds_toArray, List.set_cons_zero, List.set_cons_succ]
    refine wpAnyH_take (i := 8) (v := ?_) rfl (by kernel_rfl) (by kernel_rfl) (by kernel_rfl) (fun _ _ _ h => h) (Or.inl ⟨by rfl, ?_⟩) (by assumption) ?_
    rotate_left 1
    · intro w hSw; (try dsimp only at hSw); go_simp; first | done | with_reducible rfl | (rw [if_neg (by omega)])
    try simp only [Act.put, List.getElem_toArray, List.getElem_cons_zero, List.getElem_cons_succ, List.setIfInBounds_toArray, List.set_cons_zero, List.set_cons_succ]
    refine wpAnyH_ready (rs := [4, 9]) (by kernel_rfl) (by simp) ?_
    refine AllReadyH.cons rfl (fun K hK => ?_) (AllReadyH.cons rfl (fun K hK => ?_) (AllReadyH.nil))
    go_simp
    refine hK.out _ _ (trivial) (fun hHeld => ?_)
    clear hK K
    try simp only [Act.put, List.getElem_toArray, List.getElem_cons_zero, List.getElem_cons_succ, List.setIfInBounds_toArray, List.set_cons_zero, List.set_cons_succ]
    refine wpAnyH_ready (rs := [9]) (by kernel_rfl) (by simp) ?_
    refine AllReadyH.cons rfl (fun K hK => ?_) (AllReadyH.nil)
    go_simp
    refine hK.out _ _ (trivial) (fun hHeld => ?_)
    clear hK K
    try simp only [Act.put, List.getElem_toArray, List.getElem_cons_zero, List.getElem_cons_succ, List.setIfInBounds_toArray, List.set_cons_zero, List.set_cons_succ]
    refine wpAnyH_ready (rs := [10]) (by kernel_rfl) (by simp) ?_
    refine AllReadyH.cons rfl (fun K hK => ?_) (AllReadyH.nil)
    refine step_app (by rfl) _ _ (by rfl) HQ.out.1 HQ.out.2.1 hac 3 N ⟨#[]⟩ i (by rfl) (by rfl) (by rfl) ?_; intro vv WW hap; obtain ⟨g2, cap2, rfl⟩ := hap.sh; obtain ⟨z0, z1, z2, z3, z4⟩ := hap.rl.cells; have z5 := hap.rl.free 2
    refine hK.out _ _ (trivial) (fun hHeld => ?_)
    clear hK K
    try simp only [Act.put, List.getElem_toArray, List.getElem_cons_zero, List.getElem_cons_succ, List.setIfInBounds_toArray, List.set_cons_zero, List.set_cons_succ]
    refine wpAnyH_take (i := 11) (v := ?_) rfl (by kernel_rfl) (by kernel_rfl) (by kernel_rfl) (fun _ _ _ h => h) (Or.inl ⟨by rfl, ?_⟩) (by assumption) ?_
    rotate_left 1
    · intro w hSw; (try dsimp only at hSw); go_simp; first | done | with_reducible rfl | (rw [if_neg (by omega)])
    try simp only [Act.put, List.getElem_toArray, List.getElem_cons_zero, List.getElem_cons_succ, List.setIfInBounds_toArray, List.set_cons_zero, List.set_cons_succ]
    refine wpAnyH_take (i := 12) (v := ?_) rfl (by kernel_rfl) (by kernel_rfl) (by kernel_rfl) (fun _ _ _ h => h) (Or.inl ⟨by rfl, ?_⟩) (by assumption) ?_
    rotate_left 1
    · intro w hSw; (try dsimp only at hSw); go_simp; first | done | with_reducible rfl | (rw [if_neg (by omega)])
    try simp only [Act.put, List.getElem_toArray, List.getElem_cons_zero, List.getElem_cons_succ, List.setIfInBounds_toArray, List.set_cons_zero, List.set_cons_succ]
    refine wpAnyH_ready (rs := [13]) (by kernel_rfl) (by simp) ?_
    refine AllReadyH.cons rfl (fun K hK => ?_) (AllReadyH.nil)
    go_simp
    refine hK.out _ _ (trivial) (fun hHeld => ?_)
    clear hK K
    try simp only [Act.put, List.getElem_toArray, List.getElem_cons_zero, List.getElem_cons_succ, List.setIfInBounds_toArray, List.set_cons_zero, List.set_cons_succ]
    refine wpAnyH_done (by kernel_rfl) ?_ _
    rotate_left 1
    go_simp
    refine hK.out _ _ (trivial) (fun hHeld => ?_)
    clear hK K
    try simp only [Act.put, List.getElem_toArray, List.getElem_cons_zero, List.getElem_cons_succ, List.setIfInBounds_toArray, List.set_cons_zero, List.set_cons_succ]
    refine wpAnyH_ready (rs := [4]) (by kernel_rfl) (by simp) ?_
    refine AllReadyH.cons rfl (fun K hK => ?_) (AllReadyH.nil)
    go_simp
    refine hK.out _ _ (trivial) (fun hHeld => ?_)
    clear hK K
    try simp only [Act.put, List.getElem_toArray, List.getElem_cons_zero, List.getElem_cons_succ, List.setIfInBounds_toArray, List.set_cons_zero, List.set_cons_succ]
    refine wpAnyH_ready (rs := [10]) (by kernel_rfl) (by simp) ?_
    refine AllReadyH.cons rfl (fun K hK => ?_) (AllReadyH.nil)
    refine step_app (by rfl) _ _ (by rfl) HQ.out.1 HQ.out.2.1 hac 3 N ⟨#[]⟩ i (by rfl) (by rfl) (by rfl) ?_; intro vv WW hap; obtain ⟨g2, cap2, rfl⟩ := hap.sh; obtain ⟨z0, z1, z2, z3, z4⟩ := hap.rl.cells; have z5 := hap.rl.free 2
    refine hK.out _ _ (trivial) (fun hHeld => ?_)
    clear hK K
    try simp only [Act.put, List.getElem_toArray, List.getElem_cons_zero, List.getElem_cons_succ, List.setIfInBounds_toArray, List.set_cons_zero, List.set_cons_succ]
    refine wpAnyH_take (i := 11) (v := ?_) rfl (by kernel_rfl) (by kernel_rfl) (by kernel_rfl) (fun _ _ _ h => h) (Or.inl ⟨by rfl, ?_⟩) (by assumption) ?_
    rotate_left 1
    · intro w hSw; (try dsimp only at hSw); go_simp; first | done | with_reducible rfl | (rw [if_neg (by omega)])
    try simp only [Act.put, List.getElem_toArray, List.getElem_cons_zero, List.getElem_cons_succ, List.setIfInBounds_toArray, List.set_cons_zero, List.set_cons_succ]
    refine wpAnyH_take (i := 12) (v := ?_) rfl (by kernel_rfl) (by kernel_rfl) (by kernel_rfl) (fun _ _ _ h => h) (Or.inl ⟨by rfl, ?_⟩) (by assumption) ?_
    rotate_left 1
    · intro w hSw; (try dsimp only at hSw); go_simp; first | done | with_reducible rfl | (rw [if_neg (by omega)])
    try simp only [Act.put, List.getElem_toArray, List.getElem_cons_zero, List.getElem_cons_succ, List.setIfInBounds_toArray, List.set_cons_zero, List.set_cons_succ]
    refine wpAnyH_ready (rs := [13]) (by kernel_rfl) (by simp) ?_
    refine AllReadyH.cons rfl (fun K hK => ?_) (AllReadyH.nil)
    go_simp
    refine hK.out _ _ (trivial) (fun hHeld => ?_)
    clear hK K
    try simp only [Act.put, List.getElem_toArray, List.getElem_cons_zero, List.getElem_cons_succ, List.setIfInBounds_toArray, List.set_cons_zero, List.set_cons_succ]
    refine wpAnyH_done (by kernel_rfl) ?_ _
    all_goals
      have hlp := HL.out _ _ _ HQ.out.2.2 hap
      clear hap HQ hHeld
      go_wp2_with fail
      go_meet
      case rel => exact hlp
  case rest =>
    have HC : Hid _ := hcut
    clear hcut HL cN k0 k1 k2 k3 k4 HK2
    go_wp2_with fail
    go_loopw [] (fun wr => Lp w wr R s i false acc true) (fun wr => fm R s.size wr)
    case atStart => exact HC.out
    case round =>
      clear HC
      obtain ⟨j, ov1, f1, hE, hB, hcase⟩ := hrel
      obtain ⟨k0, k1, k2, k3, k4⟩ := hE.cells
      rcases hcase with ⟨hf, hfl⟩ | ⟨rfl, acc1, hij, hl1, hrc, hto⟩
      · have d : ((f1.1 : Int) == 0) = false := by simp; omega
        have HX : Hid (_ ∧ _ ∧ _ ∧ _) := And.intro hE (And.intro hB (And.intro hf hfl))
        clear hE hB hf hfl
        go_wp2_with fail
        go_end0
        exact ⟨⟨_, rfl⟩, _, _, _, HX.out.1, HX.out.2.1, .inl HX.out.2.2⟩
      have hjs := hE.la
      have hac1 : acc1.length ≤ 65536 := by omega
      have HM : Hid (fm R s.size wr = s.size + 1 - j) := fm_ok hE
      have HB : Hid (Below R w wr) := hB
      have HI : Hid (i ≤ j ∧ acc1.length ≤ j ∧ Rc s i false acc j true acc1) := ⟨hij, hl1, hrc⟩
      have HTO : Hid (To wr (R + 1) ov1 acc1) := hto
      have cB := blanks_c hE
      unfold ptr at cB
      have hYj := skp_ge isb s j
      have hYs := skp_in (p := isb) hjs
      obtain ⟨Y, hY⟩ : ∃ Y, skp isb s j = Y := ⟨_, rfl⟩
      have t1 := @tok_gt s j Y hY
      have t2 := @tok_self s j Y hY
      have t3 := @tok_slash s j Y hY
      have t4 := @tok_none s j Y hY
      have t5 := @tok_attr s j Y hY
      rw [hY] at cB hYj hYs
      clear hE hB hij hl1 hrc hto hY
      go_wp2_with fail
      refine cB.mono ?_
      rintro e W2 ⟨rfl, h2, q2⟩
      have HK2 : Hid (Kr R wr W2) := q2
      clear q2 cB k0 k1 k2 k3 k4
      by_cases p62 : pre s Y [62] = true
      · have HT : Hid (LSn.tok s j true (0, 0) = ⟨6, ⟨#[]⟩, ⟨#[]⟩, Y, Y + 1, false, (0, 0)⟩) := t1 p62
        have hYd : Y + 1 ≤ s.size := ((pre_iff _ _ _).1 p62).1
        clear t1 t2 t3 t4 t5
        have c62 := here_c h2 ⟨#[62]⟩ (by decide)
        have eb : (⟨#[62]⟩ : ByteArray).data.toList = [62] := rfl
        rw [eb, p62] at c62
        unfold ptr at c62
        have HE2 : Hid (∀ m, Rl (W2.drewN m) R s Y ov1 (0, 0) ∧ Kr R wr (W2.drewN m)) := fun m => ⟨h2.drewN m, HK2.out.drewN m⟩
        clear h2 eb
        go_wp2_with fail
        refine c62.mono ?_
        rintro e W3 ⟨rfl, n3, hn3⟩
        obtain ⟨h3, hK3⟩ := HE2.out n3
        rw [← hn3] at h3 hK3
        have HK3 : Hid (Kr R wr W3) := hK3
        clear HE2 hn3 hK3 c62
        clear p62
        have kA := Rl.alc h3
        have HQ : Hid (Rl (W3.drewN 1) R s Y ov1 (0, 0) ∧ To (W3.drewN 1) (R + 1) ov1 acc1) := ⟨h3.drewN 1, own_kr HTO.out ((HK3.out).drewN 1)⟩
        obtain ⟨k0, k1, k2, k3, k4⟩ := h3.cells
        clear h3
        go_wp2_with fail
        refine wp_region_held_drew (S := fun w' => w'.cell? ⟨R, 1, none⟩ = some (.int .i64 (Y : Int))) (by kernel_rfl) (by first | assumption | go_keep) (fun hHeld => ?_)
        refine wpAnyH_take (i := 0) (v := ?_) rfl (by kernel_rfl) (by kernel_rfl) (by kernel_rfl) (fun _ _ _ h => h) (Or.inl ⟨by rfl, ?_⟩) (by assumption) ?_
        rotate_left 1
        · intro w hSw; (try dsimp only at hSw); go_simp; first | done | with_reducible rfl | (rw [if_neg (by omega)])
        try simp only [Act.put, List.getElem_toArray, List.getElem_cons_zero, List.setIfInBounds_toArray, List.set_cons_zero, List.set_cons_succ]
        refine wpAnyH_take (i := 1) (v := ?_) rfl (by kernel_rfl) (by kernel_rfl) (by kernel_rfl) (fun _ _ _ h => h) (Or.inl ⟨by rfl, ?_⟩) (by assumption) ?_
        rotate_left 1
        · intro w hSw; (try dsimp only at hSw); go_simp; first | done | with_reducible rfl | (rw [if_neg (by omega)])
        try simp only [Act.put, List.getElem_toArray, List.getElem_cons_zero, List.getElem_cons_succ, List.setIfInBounds_toArray, List.set_cons_zero, List.set_cons_succ]
        refine wpAnyH_take (i := 2) (v := ?_) rfl (by kernel_rfl) (by kernel_rfl) (by kernel_rfl) (fun _ _ _ h => h) (Or.inl ⟨by rfl, ?_⟩) (by assumption) ?_
        rotate_left 1
        · intro w hSw; (try dsimp only at hSw); go_simp; first | done | with_reducible rfl | (rw [if_neg (by omega)])
        try simp only [Act.put, List.getElem_toArray, List.getElem_cons_zero, List.getElem_cons_succ, List.setIfInBounds_toArray, List.set_cons_zero, List.set_cons_succ]
        refine wpAnyH_take (i := 3) (v := ?_) rfl (by kernel_rfl) (by kernel_rfl) (by kernel_rfl) (fun _ _ _ h => h) (Or.inl ⟨by rfl, ?_⟩) (by assumption) ?_
        rotate_left 1
        · intro w hSw; (try dsimp only at hSw); go_simp; first | done | with_reducible rfl | (rw [if_neg (by omega)])
        try simp only [Act.put, List.getElem_toArray, List.getElem_cons_zero, List.getElem_cons_succ, List.setIfInBounds_toArray, List.set_cons_zero, List.set_cons_succ]
        refine wpAnyH_take (i := 5) (v := ?_) rfl (by kernel_rfl) (by kernel_rfl) (by kernel_rfl) (fun _ _ _ h => h) (Or.inl ⟨by rfl, ?_⟩) (by assumption) ?_
        rotate_left 1
        · intro w hSw; (try dsimp only at hSw); go_simp; first | done | with_reducible rfl | (rw [if_neg (by omega)])
        try simp only [Act.put, List.getElem_toArray, List.getElem_cons_zero, List.getElem_cons_succ, List.setIfInBounds_toArray, List.set_cons_zero, List.set_cons_succ]
        refine wpAnyH_take (i := 6) (v := ?_) rfl (by kernel_rfl) (by kernel_rfl) (by kernel_rfl) (fun _ _ _ h => h) (Or.inl ⟨by rfl, ?_⟩) (by assumption) ?_
        rotate_left 1
        · intro w hSw; (try dsimp only at hSw); go_simp; first | done | with_reducible rfl | (rw [if_neg (by omega)])
        try simp only [Act.put, List.getElem_toArray, List.getElem_cons_zero, List.getElem_cons_succ, List.setIfInBounds_toArray, List.set_cons_zero, List.set_cons_succ]
        refine wpAnyH_take (i := 7) (v := ?_) rfl (by kernel_rfl) (by kernel_rfl) (by kernel_rfl) (fun _ _ _ h => h) (Or.inl ⟨by rfl, ?_⟩) (by assumption) ?_
        rotate_left 1
        · intro w hSw; (try dsimp only at hSw); go_simp; first | done | with_reducible rfl | (rw [if_neg (by omega)])
        try simp only [Act.put, List.getElem_toArray, List.getElem_cons_zero, List.getElem_cons_succ, List.setIfInBounds_toArray, List.set_cons_zero, List.set_cons_succ]
        refine wpAnyH_take (i := 8) (v := ?_) rfl (by kernel_rfl) (by kernel_rfl) (by kernel_rfl) (fun _ _ _ h => h) (Or.inl ⟨by rfl, ?_⟩) (by assumption) ?_
        rotate_left 1
        · intro w hSw; (try dsimp only at hSw); go_simp; first | done | with_reducible rfl | (rw [if_neg (by omega)])
        try simp only [Act.put, List.getElem_toArray, List.getElem_cons_zero, List.getElem_cons_succ, List.setIfInBounds_toArray, List.set_cons_zero, List.set_cons_succ]
        refine wpAnyH_take (i := 9) (v := ?_) rfl (by kernel_rfl) (by kernel_rfl) (by kernel_rfl) (fun _ _ _ h => h) (Or.inl ⟨by rfl, ?_⟩) (by assumption) ?_
        rotate_left 1
        · intro w hSw; (try dsimp only at hSw); go_simp; first | done | with_reducible rfl | (rw [if_neg (by omega)])
        try simp only [Act.put, List.getElem_toArray, List.getElem_cons_zero, List.getElem_cons_succ, List.setIfInBounds_toArray, List.set_cons_zero, List.set_cons_succ]
        refine wpAnyH_ready (rs := [4, 10]) (by kernel_rfl) (by simp) ?_
        refine AllReadyH.cons rfl (fun K hK => ?_) (AllReadyH.cons rfl (fun K hK => ?_) (AllReadyH.nil))
        go_simp
        refine hK.out _ _ (by first | assumption | go_keep) (fun hHeld => ?_)
        clear hK K
        try simp only [Act.put, List.getElem_toArray, List.getElem_cons_zero, List.getElem_cons_succ, List.setIfInBounds_toArray, List.set_cons_zero, List.set_cons_succ]
        refine wpAnyH_ready (rs := [10]) (by kernel_rfl) (by simp) ?_
        refine AllReadyH.cons rfl (fun K hK => ?_) (AllReadyH.nil)
        go_simp
        refine hK.out _ _ (by first | assumption | go_keep) (fun hHeld => ?_)
        clear hK K
        try simp only [Act.put, List.getElem_toArray, List.getElem_cons_zero, List.getElem_cons_succ, List.setIfInBounds_toArray, List.set_cons_zero, List.set_cons_succ]
        refine wpAnyH_ready (rs := [11]) (by kernel_rfl) (by simp) ?_
        refine AllReadyH.cons rfl (fun K hK => ?_) (AllReadyH.nil)
        refine step_app (by rfl) _ _ (by rfl) HQ.out.1 HQ.out.2 hac1 6 ⟨#[]⟩ ⟨#[]⟩ Y (by rfl) (by rfl) (by rfl) ?_; intro vv WW hap; obtain ⟨g2, cap2, rfl⟩ := hap.sh; obtain ⟨y0, y1, y2, y3, y4⟩ := hap.rl.cells; have y5 := hap.rl.free 2; obtain ⟨z0, z1, z2, z3, z4⟩ := hap.done.cells
        refine hK.out _ _ (by first | assumption | go_keep) (fun hHeld => ?_)
        clear hK K
        try simp only [Act.put, List.getElem_toArray, List.getElem_cons_zero, List.getElem_cons_succ, List.setIfInBounds_toArray, List.set_cons_zero, List.set_cons_succ]
        refine wpAnyH_take (i := 12) (v := ?_) rfl (by kernel_rfl) (by kernel_rfl) (by kernel_rfl) (fun _ _ _ h => h) (Or.inl ⟨by rfl, ?_⟩) (by assumption) ?_
        rotate_left 1
        · intro w hSw; (try dsimp only at hSw); go_simp; first | done | with_reducible rfl | (rw [if_neg (by omega)])
        try simp only [Act.put, List.getElem_toArray, List.getElem_cons_zero, List.getElem_cons_succ, List.setIfInBounds_toArray, List.set_cons_zero, List.set_cons_succ]
        refine wpAnyH_take (i := 13) (v := ?_) rfl (by kernel_rfl) (by kernel_rfl) (by kernel_rfl) (fun _ _ _ h => h) (Or.inl ⟨by rfl, ?_⟩) (by assumption) ?_
        rotate_left 1
        · intro w hSw; (try dsimp only at hSw); go_simp; first | done | with_reducible rfl | (rw [if_neg (by omega)])
        try simp only [Act.put, List.getElem_toArray, List.getElem_cons_zero, List.getElem_cons_succ, List.setIfInBounds_toArray, List.set_cons_zero, List.set_cons_succ]
        refine wpAnyH_ready (rs := [14]) (by kernel_rfl) (by simp) ?_
        refine AllReadyH.cons rfl (fun K hK => ?_) (AllReadyH.nil)
        go_simp
        refine hK.out _ _ (by first | assumption | go_keep) (fun hHeld => ?_)
        clear hK K
        try simp only [Act.put, List.getElem_toArray, List.getElem_cons_zero, List.getElem_cons_succ, List.setIfInBounds_toArray, List.set_cons_zero, List.set_cons_succ]
        refine wpAnyH_done (by kernel_rfl) ?_ _
        rotate_left 1
        go_simp
        refine hK.out _ _ (by first | assumption | go_keep) (fun hHeld => ?_)
        clear hK K
        try simp only [Act.put, List.getElem_toArray, List.getElem_cons_zero, List.getElem_cons_succ, List.setIfInBounds_toArray, List.set_cons_zero, List.set_cons_succ]
        refine wpAnyH_ready (rs := [4]) (by kernel_rfl) (by simp) ?_
        refine AllReadyH.cons rfl (fun K hK => ?_) (AllReadyH.nil)
        go_simp
        refine hK.out _ _ (by first | assumption | go_keep) (fun hHeld => ?_)
        clear hK K
        try simp only [Act.put, List.getElem_toArray, List.getElem_cons_zero, List.getElem_cons_succ, List.setIfInBounds_toArray, List.set_cons_zero, List.set_cons_succ]
        refine wpAnyH_ready (rs := [11]) (by kernel_rfl) (by simp) ?_
        refine AllReadyH.cons rfl (fun K hK => ?_) (AllReadyH.nil)
        refine step_app (by rfl) _ _ (by rfl) HQ.out.1 HQ.out.2 hac1 6 ⟨#[]⟩ ⟨#[]⟩ Y (by rfl) (by rfl) (by rfl) ?_; intro vv WW hap; obtain ⟨g2, cap2, rfl⟩ := hap.sh; obtain ⟨y0, y1, y2, y3, y4⟩ := hap.rl.cells; have y5 := hap.rl.free 2; obtain ⟨z0, z1, z2, z3, z4⟩ := hap.done.cells
        refine hK.out _ _ (by first | assumption | go_keep) (fun hHeld => ?_)
        clear hK K
        try simp only [Act.put, List.getElem_toArray, List.getElem_cons_zero, List.getElem_cons_succ, List.setIfInBounds_toArray, List.set_cons_zero, List.set_cons_succ]
        refine wpAnyH_take (i := 12) (v := ?_) rfl (by kernel_rfl) (by kernel_rfl) (by kernel_rfl) (fun _ _ _ h => h) (Or.inl ⟨by rfl, ?_⟩) (by assumption) ?_
        rotate_left 1
        · intro w hSw; (try dsimp only at hSw); go_simp; first | done | with_reducible rfl | (rw [if_neg (by omega)])
        try simp only [Act.put, List.getElem_toArray, List.getElem_cons_zero, List.getElem_cons_succ, List.setIfInBounds_toArray, List.set_cons_zero, List.set_cons_succ]
        refine wpAnyH_take (i := 13) (v := ?_) rfl (by kernel_rfl) (by kernel_rfl) (by kernel_rfl) (fun _ _ _ h => h) (Or.inl ⟨by rfl, ?_⟩) (by assumption) ?_
        rotate_left 1
        · intro w hSw; (try dsimp only at hSw); go_simp; first | done | with_reducible rfl | (rw [if_neg (by omega)])
        try simp only [Act.put, List.getElem_toArray, List.getElem_cons_zero, List.getElem_cons_succ, List.setIfInBounds_toArray, List.set_cons_zero, List.set_cons_succ]
        refine wpAnyH_ready (rs := [14]) (by kernel_rfl) (by simp) ?_
        refine AllReadyH.cons rfl (fun K hK => ?_) (AllReadyH.nil)
        go_simp
        refine hK.out _ _ (by first | assumption | go_keep) (fun hHeld => ?_)
        clear hK K
        try simp only [Act.put, List.getElem_toArray, List.getElem_cons_zero, List.getElem_cons_succ, List.setIfInBounds_toArray, List.set_cons_zero, List.set_cons_succ]
        refine wpAnyH_done (by kernel_rfl) ?_ _
        all_goals
          have h9 := Rl.go1 hap.done hYd
          have z5 := hap.done.free 1
          have HP : Hid (_ ∧ _) := And.intro hap h9
          clear kA hap h9 hHeld y0 y1 y2 y3 y4 y5
          go_wp2_with fail
          refine bodyPost_ret (results_none rfl _ _ _) rfl ?_
          exact ⟨⟨_, rfl⟩, end_stp HP.out.1 HT.out hjs HI.out.1 HI.out.2.1 HI.out.2.2 (HB.out.trans (HK3.out.drewN 1).below) HP.out.2 ((Kr.refl R _).set 1 _)⟩
      have p62 : pre s Y [62] = false := by simpa using p62
      have c62 := here_c h2 ⟨#[62]⟩ (by decide)
      have eb : (⟨#[62]⟩ : ByteArray).data.toList = [62] := rfl
      rw [eb, p62] at c62
      unfold ptr at c62
      have HE2 : Hid (∀ m, Rl (W2.drewN m) R s Y ov1 (0, 0) ∧ Kr R wr (W2.drewN m)) := fun m => ⟨h2.drewN m, HK2.out.drewN m⟩
      clear h2 eb
      go_wp2_with fail
      refine c62.mono ?_
      rintro e W4 ⟨rfl, n4, hn4⟩
      obtain ⟨h4, hK4⟩ := HE2.out n4
      rw [← hn4] at h4 hK4
      have HK4 : Hid (Kr R wr W4) := hK4
      clear HE2 hn4 hK4 c62
      by_cases p47 : pre s Y [47, 62] = true
      · have HT : Hid (LSn.tok s j true (0, 0) = ⟨7, ⟨#[]⟩, ⟨#[]⟩, Y, Y + 2, false, (0, 0)⟩) := t2 p47
        have hYd : Y + 2 ≤ s.size := ((pre_iff _ _ _).1 p47).1
        clear t1 t2 t3 t4 t5 p62
        have c47 := here_c h4 ⟨#[47, 62]⟩ (by decide)
        have eb : (⟨#[47, 62]⟩ : ByteArray).data.toList = [47, 62] := rfl
        rw [eb, p47] at c47
        unfold ptr at c47
        have HE4 : Hid (∀ m, Rl (W4.drewN m) R s Y ov1 (0, 0) ∧ Kr R wr (W4.drewN m)) := fun m => ⟨h4.drewN m, HK4.out.drewN m⟩
        clear h4 eb
        go_wp2_with fail
        refine c47.mono ?_
        rintro e W3 ⟨rfl, n3, hn3⟩
        obtain ⟨h3, hK3⟩ := HE4.out n3
        rw [← hn3] at h3 hK3
        have HK3 : Hid (Kr R wr W3) := hK3
        clear HE4 hn3 hK3 c47
        clear p47
        have kA := Rl.alc h3
        have HQ : Hid (Rl (W3.drewN 1) R s Y ov1 (0, 0) ∧ To (W3.drewN 1) (R + 1) ov1 acc1) := ⟨h3.drewN 1, own_kr HTO.out ((HK3.out).drewN 1)⟩
        obtain ⟨k0, k1, k2, k3, k4⟩ := h3.cells
        clear h3
        go_wp2_with fail
        refine wp_region_held_drew (S := fun w' => w'.cell? ⟨R, 1, none⟩ = some (.int .i64 (Y : Int))) (by kernel_rfl) (by first | assumption | go_keep) (fun hHeld => ?_)
        refine wpAnyH_take (i := 0) (v := ?_) rfl (by kernel_rfl) (by kernel_rfl) (by kernel_rfl) (fun _ _ _ h => h) (Or.inl ⟨by rfl, ?_⟩) (by assumption) ?_
        rotate_left 1
        · intro w hSw; (try dsimp only at hSw); go_simp; first | done | with_reducible rfl | (rw [if_neg (by omega)])
        try simp only [Act.put, List.getElem_toArray, List.getElem_cons_zero, List.setIfInBounds_toArray, List.set_cons_zero, List.set_cons_succ]
        refine wpAnyH_take (i := 1) (v := ?_) rfl (by kernel_rfl) (by kernel_rfl) (by kernel_rfl) (fun _ _ _ h => h) (Or.inl ⟨by rfl, ?_⟩) (by assumption) ?_
        rotate_left 1
        · intro w hSw; (try dsimp only at hSw); go_simp; first | done | with_reducible rfl | (rw [if_neg (by omega)])
        try simp only [Act.put, List.getElem_toArray, List.getElem_cons_zero, List.getElem_cons_succ, List.setIfInBounds_toArray, List.set_cons_zero, List.set_cons_succ]
        refine wpAnyH_take (i := 2) (v := ?_) rfl (by kernel_rfl) (by kernel_rfl) (by kernel_rfl) (fun _ _ _ h => h) (Or.inl ⟨by rfl, ?_⟩) (by assumption) ?_
        rotate_left 1
        · intro w hSw; (try dsimp only at hSw); go_simp; first | done | with_reducible rfl | (rw [if_neg (by omega)])
        try simp only [Act.put, List.getElem_toArray, List.getElem_cons_zero, List.getElem_cons_succ, List.setIfInBounds_toArray, List.set_cons_zero, List.set_cons_succ]
        refine wpAnyH_take (i := 3) (v := ?_) rfl (by kernel_rfl) (by kernel_rfl) (by kernel_rfl) (fun _ _ _ h => h) (Or.inl ⟨by rfl, ?_⟩) (by assumption) ?_
        rotate_left 1
        · intro w hSw; (try dsimp only at hSw); go_simp; first | done | with_reducible rfl | (rw [if_neg (by omega)])
        try simp only [Act.put, List.getElem_toArray, List.getElem_cons_zero, List.getElem_cons_succ, List.setIfInBounds_toArray, List.set_cons_zero, List.set_cons_succ]
        refine wpAnyH_take (i := 5) (v := ?_) rfl (by kernel_rfl) (by kernel_rfl) (by kernel_rfl) (fun _ _ _ h => h) (Or.inl ⟨by rfl, ?_⟩) (by assumption) ?_
        rotate_left 1
        · intro w hSw; (try dsimp only at hSw); go_simp; first | done | with_reducible rfl | (rw [if_neg (by omega)])
        try simp only [Act.put, List.getElem_toArray, List.getElem_cons_zero, List.getElem_cons_succ, List.setIfInBounds_toArray, List.set_cons_zero, List.set_cons_succ]
        refine wpAnyH_take (i := 6) (v := ?_) rfl (by kernel_rfl) (by kernel_rfl) (by kernel_rfl) (fun _ _ _ h => h) (Or.inl ⟨by rfl, ?_⟩) (by assumption) ?_
        rotate_left 1
        · intro w hSw; (try dsimp only at hSw); go_simp; first | done | with_reducible rfl | (rw [if_neg (by omega)])
        try simp only [Act.put, List.getElem_toArray, List.getElem_cons_zero, List.getElem_cons_succ, List.setIfInBounds_toArray, List.set_cons_zero, List.set_cons_succ]
        refine wpAnyH_take (i := 7) (v := ?_) rfl (by kernel_rfl) (by kernel_rfl) (by kernel_rfl) (fun _ _ _ h => h) (Or.inl ⟨by rfl, ?_⟩) (by assumption) ?_
        rotate_left 1
        · intro w hSw; (try dsimp only at hSw); go_simp; first | done | with_reducible rfl | (rw [if_neg (by omega)])
        try simp only [Act.put, List.getElem_toArray, List.getElem_cons_zero, List.getElem_cons_succ, List.setIfInBounds_toArray, List.set_cons_zero, List.set_cons_succ]
        refine wpAnyH_take (i := 8) (v := ?_) rfl (by kernel_rfl) (by kernel_rfl) (by kernel_rfl) (fun _ _ _ h => h) (Or.inl ⟨by rfl, ?_⟩) (by assumption) ?_
        rotate_left 1
        · intro w hSw; (try dsimp only at hSw); go_simp; first | done | with_reducible rfl | (rw [if_neg (by omega)])
        try simp only [Act.put, List.getElem_toArray, List.getElem_cons_zero, List.getElem_cons_succ, List.setIfInBounds_toArray, List.set_cons_zero, List.set_cons_succ]
        refine wpAnyH_take (i := 9) (v := ?_) rfl (by kernel_rfl) (by kernel_rfl) (by kernel_rfl) (fun _ _ _ h => h) (Or.inl ⟨by rfl, ?_⟩) (by assumption) ?_
        rotate_left 1
        · intro w hSw; (try dsimp only at hSw); go_simp; first | done | with_reducible rfl | (rw [if_neg (by omega)])
        try simp only [Act.put, List.getElem_toArray, List.getElem_cons_zero, List.getElem_cons_succ, List.setIfInBounds_toArray, List.set_cons_zero, List.set_cons_succ]
        refine wpAnyH_ready (rs := [4, 10]) (by kernel_rfl) (by simp) ?_
        refine AllReadyH.cons rfl (fun K hK => ?_) (AllReadyH.cons rfl (fun K hK => ?_) (AllReadyH.nil))
        go_simp
        refine hK.out _ _ (by first | assumption | go_keep) (fun hHeld => ?_)
        clear hK K
        try simp only [Act.put, List.getElem_toArray, List.getElem_cons_zero, List.getElem_cons_succ, List.setIfInBounds_toArray, List.set_cons_zero, List.set_cons_succ]
        refine wpAnyH_ready (rs := [10]) (by kernel_rfl) (by simp) ?_
        refine AllReadyH.cons rfl (fun K hK => ?_) (AllReadyH.nil)
        go_simp
        refine hK.out _ _ (by first | assumption | go_keep) (fun hHeld => ?_)
        clear hK K
        try simp only [Act.put, List.getElem_toArray, List.getElem_cons_zero, List.getElem_cons_succ, List.setIfInBounds_toArray, List.set_cons_zero, List.set_cons_succ]
        refine wpAnyH_ready (rs := [11]) (by kernel_rfl) (by simp) ?_
        refine AllReadyH.cons rfl (fun K hK => ?_) (AllReadyH.nil)
        refine step_app (by rfl) _ _ (by rfl) HQ.out.1 HQ.out.2 hac1 7 ⟨#[]⟩ ⟨#[]⟩ Y (by rfl) (by rfl) (by rfl) ?_; intro vv WW hap; obtain ⟨g2, cap2, rfl⟩ := hap.sh; obtain ⟨y0, y1, y2, y3, y4⟩ := hap.rl.cells; have y5 := hap.rl.free 2; obtain ⟨z0, z1, z2, z3, z4⟩ := hap.done.cells
        refine hK.out _ _ (by first | assumption | go_keep) (fun hHeld => ?_)
        clear hK K
        try simp only [Act.put, List.getElem_toArray, List.getElem_cons_zero, List.getElem_cons_succ, List.setIfInBounds_toArray, List.set_cons_zero, List.set_cons_succ]
        refine wpAnyH_take (i := 12) (v := ?_) rfl (by kernel_rfl) (by kernel_rfl) (by kernel_rfl) (fun _ _ _ h => h) (Or.inl ⟨by rfl, ?_⟩) (by assumption) ?_
        rotate_left 1
        · intro w hSw; (try dsimp only at hSw); go_simp; first | done | with_reducible rfl | (rw [if_neg (by omega)])
        try simp only [Act.put, List.getElem_toArray, List.getElem_cons_zero, List.getElem_cons_succ, List.setIfInBounds_toArray, List.set_cons_zero, List.set_cons_succ]
        refine wpAnyH_take (i := 13) (v := ?_) rfl (by kernel_rfl) (by kernel_rfl) (by kernel_rfl) (fun _ _ _ h => h) (Or.inl ⟨by rfl, ?_⟩) (by assumption) ?_
        rotate_left 1
        · intro w hSw; (try dsimp only at hSw); go_simp; first | done | with_reducible rfl | (rw [if_neg (by omega)])
        try simp only [Act.put, List.getElem_toArray, List.getElem_cons_zero, List.getElem_cons_succ, List.setIfInBounds_toArray, List.set_cons_zero, List.set_cons_succ]
        refine wpAnyH_ready (rs := [14]) (by kernel_rfl) (by simp) ?_
        refine AllReadyH.cons rfl (fun K hK => ?_) (AllReadyH.nil)
        go_simp
        refine hK.out _ _ (by first | assumption | go_keep) (fun hHeld => ?_)
        clear hK K
        try simp only [Act.put, List.getElem_toArray, List.getElem_cons_zero, List.getElem_cons_succ, List.setIfInBounds_toArray, List.set_cons_zero, List.set_cons_succ]
        refine wpAnyH_done (by kernel_rfl) ?_ _
        rotate_left 1
        go_simp
        refine hK.out _ _ (by first | assumption | go_keep) (fun hHeld => ?_)
        clear hK K
        try simp only [Act.put, List.getElem_toArray, List.getElem_cons_zero, List.getElem_cons_succ, List.setIfInBounds_toArray, List.set_cons_zero, List.set_cons_succ]
        refine wpAnyH_ready (rs := [4]) (by kernel_rfl) (by simp) ?_
        refine AllReadyH.cons rfl (fun K hK => ?_) (AllReadyH.nil)
        go_simp
        refine hK.out _ _ (by first | assumption | go_keep) (fun hHeld => ?_)
        clear hK K
        try simp only [Act.put, List.getElem_toArray, List.getElem_cons_zero, List.getElem_cons_succ, List.setIfInBounds_toArray, List.set_cons_zero, List.set_cons_succ]
        refine wpAnyH_ready (rs := [11]) (by kernel_rfl) (by simp) ?_
        refine AllReadyH.cons rfl (fun K hK => ?_) (AllReadyH.nil)
        refine step_app (by rfl) _ _ (by rfl) HQ.out.1 HQ.out.2 hac1 7 ⟨#[]⟩ ⟨#[]⟩ Y (by rfl) (by rfl) (by rfl) ?_; intro vv WW hap; obtain ⟨g2, cap2, rfl⟩ := hap.sh; obtain ⟨y0, y1, y2, y3, y4⟩ := hap.rl.cells; have y5 := hap.rl.free 2; obtain ⟨z0, z1, z2, z3, z4⟩ := hap.done.cells
        refine hK.out _ _ (by first | assumption | go_keep) (fun hHeld => ?_)
        clear hK K
        try simp only [Act.put, List.getElem_toArray, List.getElem_cons_zero, List.getElem_cons_succ, List.setIfInBounds_toArray, List.set_cons_zero, List.set_cons_succ]
        refine wpAnyH_take (i := 12) (v := ?_) rfl (by kernel_rfl) (by kernel_rfl) (by kernel_rfl) (fun _ _ _ h => h) (Or.inl ⟨by rfl, ?_⟩) (by assumption) ?_
        rotate_left 1
        · intro w hSw; (try dsimp only at hSw); go_simp; first | done | with_reducible rfl | (rw [if_neg (by omega)])
        try simp only [Act.put, List.getElem_toArray, List.getElem_cons_zero, List.getElem_cons_succ, List.setIfInBounds_toArray, List.set_cons_zero, List.set_cons_succ]
        refine wpAnyH_take (i := 13) (v := ?_) rfl (by kernel_rfl) (by kernel_rfl) (by kernel_rfl) (fun _ _ _ h => h) (Or.inl ⟨by rfl, ?_⟩) (by assumption) ?_
        rotate_left 1
        · intro w hSw; (try dsimp only at hSw); go_simp; first | done | with_reducible rfl | (rw [if_neg (by omega)])
        try simp only [Act.put, List.getElem_toArray, List.getElem_cons_zero, List.getElem_cons_succ, List.setIfInBounds_toArray, List.set_cons_zero, List.set_cons_succ]
        refine wpAnyH_ready (rs := [14]) (by kernel_rfl) (by simp) ?_
        refine AllReadyH.cons rfl (fun K hK => ?_) (AllReadyH.nil)
        go_simp
        refine hK.out _ _ (by first | assumption | go_keep) (fun hHeld => ?_)
        clear hK K
        try simp only [Act.put, List.getElem_toArray, List.getElem_cons_zero, List.getElem_cons_succ, List.setIfInBounds_toArray, List.set_cons_zero, List.set_cons_succ]
        refine wpAnyH_done (by kernel_rfl) ?_ _
        all_goals
          have h9 := Rl.go2 hap.done hYd
          have z5 := hap.done.free 1
          have HP : Hid (_ ∧ _) := And.intro hap h9
          clear kA hap h9 hHeld y0 y1 y2 y3 y4 y5
          go_wp2_with fail
          refine bodyPost_ret (results_none rfl _ _ _) rfl ?_
          exact ⟨⟨_, rfl⟩, end_stp HP.out.1 HT.out hjs HI.out.1 HI.out.2.1 HI.out.2.2 (HB.out.trans (HK3.out.drewN 1).below) HP.out.2 ((Kr.refl R _).set 1 _)⟩
      have p47 : pre s Y [47, 62] = false := by simpa using p47
      have c47 := here_c h4 ⟨#[47, 62]⟩ (by decide)
      have eb : (⟨#[47, 62]⟩ : ByteArray).data.toList = [47, 62] := rfl
      rw [eb, p47] at c47
      unfold ptr at c47
      have HE4 : Hid (∀ m, Rl (W4.drewN m) R s Y ov1 (0, 0) ∧ Kr R wr (W4.drewN m)) := fun m => ⟨h4.drewN m, HK4.out.drewN m⟩
      clear h4 eb
      go_wp2_with fail
      refine c47.mono ?_
      rintro e W5 ⟨rfl, n5, hn5⟩
      obtain ⟨h5, hK5⟩ := HE4.out n5
      rw [← hn5] at h5 hK5
      have HK5 : Hid (Kr R wr W5) := hK5
      clear HE4 hn5 hK5 c47
      by_cases p4 : pre s Y [47] = true
      · have HT : Hid ((LSn.tok s j true (0, 0)).f = (1202, Y + 1)) := t3 p47 p4
        clear t1 t2 t3 t4 t5 p62 p47
        have c4 := here_c h5 ⟨#[47]⟩ (by decide)
        have eb : (⟨#[47]⟩ : ByteArray).data.toList = [47] := rfl
        rw [eb, p4] at c4
        unfold ptr at c4
        have HE5 : Hid (∀ m, Rl (W5.drewN m) R s Y ov1 (0, 0) ∧ Kr R wr (W5.drewN m)) := fun m => ⟨h5.drewN m, HK5.out.drewN m⟩
        clear h5 eb
        go_wp2_with fail
        refine c4.mono ?_
        rintro e W6 ⟨rfl, n6, hn6⟩
        obtain ⟨h6, hK6⟩ := HE5.out n6
        rw [← hn6] at h6 hK6
        have HK6 : Hid (Kr R wr W6) := hK6
        clear HE5 hn6 hK6 c4
        clear p4
        obtain ⟨k0, k1, k2, k3, k4⟩ := h6.cells
        have cf := fail_c h6 (1202, Y + 1)
        rw [show rf (0, 0) (1202, Y + 1) = (1202, Y + 1) from rfl, show ((Y + 1 : Nat) : Int) = (Y : Int) + 1 from by omega] at cf
        unfold ptr at cf
        clear h6
        go_wp2_with fail
        refine cf.mono ?_
        rintro e W9 ⟨⟨v9, rfl⟩, h9, q9⟩
        have HX : Hid (_ ∧ _) := And.intro h9 (HK6.out.trans q9)
        clear h9 q9 cf
        go_wp2_with fail
        go_roundw
        case rel => exact bad_lp HX.out.1 (HB.out.trans HX.out.2.below) hjs HI.out.2.2 HT.out (by simp)
        case measure =>
          show fm R s.size _ < fm R s.size wr
          rw [fm_bad HX.out.1 (by simp), HM.out]
          omega
      have p4 : pre s Y [47] = false := by simpa using p4
      have c4 := here_c h5 ⟨#[47]⟩ (by decide)
      have eb : (⟨#[47]⟩ : ByteArray).data.toList = [47] := rfl
      rw [eb, p4] at c4
      unfold ptr at c4
      have HE5 : Hid (∀ m, Rl (W5.drewN m) R s Y ov1 (0, 0) ∧ Kr R wr (W5.drewN m)) := fun m => ⟨h5.drewN m, HK5.out.drewN m⟩
      clear h5 eb
      go_wp2_with fail
      refine c4.mono ?_
      rintro e W6 ⟨rfl, n6, hn6⟩
      obtain ⟨h6, hK6⟩ := HE5.out n6
      rw [← hn6] at h6 hK6
      have HK6 : Hid (Kr R wr W6) := hK6
      clear HE5 hn6 hK6 c4
      by_cases hyj : Y = j
      · have HT : Hid ((LSn.tok s j true (0, 0)).f = (1202, Y)) := t4 p62 p4 hyj
        have d5 : ((Y : Int) - (j : Int) == 0) = true := by simp; omega
        clear t1 t2 t3 t4 t5 p62 p47 p4 hyj
        obtain ⟨k0, k1, k2, k3, k4⟩ := h6.cells
        have cf := fail_c h6 (1202, Y)
        rw [show rf (0, 0) (1202, Y) = (1202, Y) from rfl] at cf
        unfold ptr at cf
        clear h6
        go_wp2_with fail
        refine cf.mono ?_
        rintro e W9 ⟨⟨v9, rfl⟩, h9, q9⟩
        have HX : Hid (_ ∧ _) := And.intro h9 (HK6.out.trans q9)
        clear h9 q9 cf
        go_wp2_with fail
        go_roundw
        case rel => exact bad_lp HX.out.1 (HB.out.trans HX.out.2.below) hjs HI.out.2.2 HT.out (by simp)
        case measure =>
          show fm R s.size _ < fm R s.size wr
          rw [fm_bad HX.out.1 (by simp), HM.out]
          omega
      have HT : Hid (LSn.tok s j true (0, 0) = tkA s Y (0, 0)) := t5 p62 p4 (by omega)
      have d5 : ((Y : Int) - (j : Int) == 0) = false := by simp; omega
      have cA := attr_c h6 (own_kr HTO.out HK6.out) hac1
      unfold ptr at cA
      clear t1 t2 t3 t4 t5 p62 p47 p4 hyj h6
      go_wp2_with fail
      refine cA.mono ?_
      rintro e W9 ⟨⟨v9, rfl⟩, h9⟩
      have HX : Hid _ := attr_lp h9 HT.out (HB.out.trans HK6.out.below) hjs HI.out.1 HI.out.2.1 HI.out.2.2
      clear h9 cA
      go_wp2_with fail
      go_roundw
      case rel => exact HX.out.1
      case measure =>
        show fm R s.size _ < fm R s.size wr
        rw [HM.out]
        exact HX.out.2
end Go.Proofs.Ytfglbgnjgapehaa.RTo
