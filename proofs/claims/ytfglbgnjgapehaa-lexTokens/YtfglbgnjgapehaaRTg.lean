/- The reference's lexer: a tag. -/
import Derived.Test.YtfglbgnjgapehaaMApp
namespace Go.Proofs.Ytfglbgnjgapehaa.RTg
open Go.RowKit Go.Proofs.Ytfglbgnjgapehaa.UBase Go.Proofs.Ytfglbgnjgapehaa.EPure Go.Proofs.Ytfglbgnjgapehaa.LPure Go.Proofs.Ytfglbgnjgapehaa.LRd Go.Proofs.Ytfglbgnjgapehaa.LSk Go.Proofs.Ytfglbgnjgapehaa.LNm Go.Proofs.Ytfglbgnjgapehaa.LUp Go.Proofs.Ytfglbgnjgapehaa.LSc Go.Proofs.Ytfglbgnjgapehaa.LOc Go.Proofs.Ytfglbgnjgapehaa.LIn Go.Proofs.Ytfglbgnjgapehaa.LSn Go.Proofs.Ytfglbgnjgapehaa.LMu Go.Proofs.Ytfglbgnjgapehaa.LTk Go.Proofs.Ytfglbgnjgapehaa.LLy Go.Proofs.Ytfglbgnjgapehaa.LCv Go.Proofs.Ytfglbgnjgapehaa.RLd Go.Proofs.Ytfglbgnjgapehaa.RBl Go.Proofs.Ytfglbgnjgapehaa.RNa Go.Proofs.Ytfglbgnjgapehaa.RTt Go.Proofs.Ytfglbgnjgapehaa.RRc Go.Proofs.Ytfglbgnjgapehaa.RAp Go.Proofs.Ytfglbgnjgapehaa.RTp Go.Proofs.Ytfglbgnjgapehaa.RGo
set_option linter.unusedVariables false

set_option maxRecDepth 20000 in
set_option maxHeartbeats 3200000 in
theorem tag_close {w : World} {R : Nat} {s : ByteArray} {i : Nat} {ov : Value} {acc : List Tz} (h : Rl w R s i ov (0, 0)) (ho : To w (R + 1) ov acc) (hacc : acc.length ≤ 65536) (hp : pre s (i + 1) [47] = true) :
    Calls Try.prog 20 #[ptr R] w fun r w' => (∃ v, r = .returned v) ∧ Tkn w w' R s acc (tkC s i (0, 0)) := by
  obtain ⟨k0, k1, k2, k3, k4⟩ := h.cells
  have f1 := h.free 1
  have hsz := h.sz
  have hla := h.la
  have h2s : i + 1 + 1 ≤ s.size := ((pre_iff _ _ _).1 hp).1
  have hb1 := @cl_bad1 s i
  have hb2 := @cl_ok s i (nE s (i + 1 + 1)) (skp isb s (nE s (i + 1 + 1)))
  have HT1 : Hid (word (nT s (i + 1 + 1)) 45 = false → (tkC s i (0, 0)).f = (1202, i + 1 + 1)) := hb1
  have HT2 : Hid (word (nT s (i + 1 + 1)) 45 = true → tkC s i (0, 0) = ⟨8, sub s (i + 1 + 1) (nE s (i + 1 + 1)), ⟨#[]⟩, i, mpl s [62] (skp isb s (nE s (i + 1 + 1))), false, fif (pre s (skp isb s (nE s (i + 1 + 1))) [62]) (0, 0) (1202, skp isb s (nE s (i + 1 + 1)))⟩) := fun h => hb2 h rfl rfl
  clear hb1 hb2
  generalize tkC s i (0, 0) = T at *
  have h1 := Rl.go1 h (by omega)
  obtain ⟨W1, hW1⟩ : ∃ W1, w.setCell ⟨R, 1, none⟩ (.int .i64 ((i : Int) + 1)) = W1 := ⟨_, rfl⟩
  have hK1 : Kr R w W1 := by rw [← hW1]; exact (Kr.refl R w).set 1 _
  rw [hW1] at h1
  have cH := here_c h1 ⟨#[47]⟩ (by decide)
  have eb : (⟨#[47]⟩ : ByteArray).data.toList = [47] := rfl
  rw [eb, hp] at cH
  have HE1 : Hid (∀ m, Rl (W1.drewN m) R s (i + 1) ov (0, 0) ∧ Kr R w (W1.drewN m)) := fun m => ⟨h1.drewN m, hK1.drewN m⟩
  have HO : Hid (To w (R + 1) ov acc) := ho
  clear h ho hK1 h1 hp eb
  unfold ptr at *
  go_enter Try.func20, Try.ntmps20
  go_wp2_with fail
  try rw [hW1]
  refine cH.mono ?_
  rintro e W2 ⟨rfl, n2, hn2⟩
  obtain ⟨h2, hK2⟩ := HE1.out n2
  rw [← hn2] at h2 hK2
  clear HE1 hn2 cH hW1 k0 k1 k2 k3 k4 f1
  generalize i + 1 = I1 at *
  have hI1 : I1 ≤ 65536 := by omega
  obtain ⟨k0, k1, k2, k3, k4⟩ := h2.cells
  have f1 := h2.free 1
  have h3 := Rl.go1 h2 h2s
  obtain ⟨W3, hW3⟩ : ∃ W3, W2.setCell ⟨R, 1, none⟩ (.int .i64 ((I1 : Int) + 1)) = W3 := ⟨_, rfl⟩
  have HK3 : Hid (Kr R w W3) := by show Kr R w W3; rw [← hW3]; exact hK2.set 1 _
  rw [hW3] at h3
  have hA := h3.la
  have hw := rn_word hA
  have hXs := rn_in hA
  have cN := name_c h3
  unfold ptr at cN
  clear h2 hK2 h3
  generalize I1 + 1 = A at *
  by_cases hwd : word (nT s A) 45 = true
  · have hrn : rn s A A = nE s A := by
      rcases hw with ⟨-, h2⟩ | ⟨-, h2, -⟩
      · rw [h2] at hwd; cases hwd
      · exact h2
    have e : nF s A (0, 0) = (0, 0) := by show fif (word (nT s A) 45) _ _ = _; rw [hwd]; rfl
    have HT2 : Hid (T = _) := HT2.out hwd
    rw [hrn, e] at cN
    rw [hrn] at hXs
    generalize nE s A = A2 at *
    obtain ⟨N, hN⟩ : ∃ N, sub s A A2 = N := ⟨_, rfl⟩
    rw [hN] at cN HT2
    clear hw hwd hrn e HT1 hN
    go_wp2_with fail
    try rw [hW3]
    refine cN.mono ?_
    rintro e W4 ⟨rfl, h4, q4⟩
    obtain ⟨k0, k1, k2, k3, k4⟩ := h4.cells
    have HK4 : Hid (Kr R w W4) := HK3.out.trans q4
    have cB := blanks_c h4
    unfold ptr at cB
    clear h4 q4 cN HK3 hW3 f1
    go_wp2_with fail
    refine cB.mono ?_
    rintro e W5 ⟨rfl, h5, q5⟩
    have HK5 : Hid (Kr R w W5) := HK4.out.trans q5
    have cM := must_c h5 62
    have hYs := h5.la
    generalize skp isb s A2 = Y at *
    unfold ptr at cM
    clear h5 q5 cB HK4
    go_wp2_with fail
    refine cM.mono ?_
    rintro e W6 ⟨⟨v6, rfl⟩, h6, q6⟩
    have HK6 : Hid (Kr R w W6) := HK5.out.trans q6
    obtain ⟨k0, k1, k2, k3, k4⟩ := h6.cells
    have HQ : Hid (_ ∧ _) := And.intro h6 (own_kr HO.out HK6.out)
    clear h6 q6 cM HK5
    go_wp2_with (first
      | (at_builtin; refine list_app (by rfl) _ _ (by rfl) HQ.out.1 HQ.out.2 hacc 8 N ⟨#[]⟩ i (by rfl) (by rfl) (by rfl) ?_))
    intro vv WW hap
    obtain ⟨g2, cap2, rfl⟩ := hap.sh
    obtain ⟨l0, l1, l2, l3, l4⟩ := hap.rl.cells
    have y5 := hap.rl.free 2
    have HP : Hid (_) := hap
    clear hap HQ
    go_wp2_with fail
    refine bodyPost_ret (results_none rfl _ _ _) rfl ?_
    refine ⟨⟨_, rfl⟩, _, _, _, HP.out.done, HK6.out.below.trans HP.out.bel, by rw [HT2.out], fun _ => ⟨by rw [HT2.out], HP.out.to T (by rw [HT2.out]) (by rw [HT2.out]) (by rw [HT2.out]) (by rw [HT2.out])⟩⟩
  · have hwd : word (nT s A) 45 = false := by simpa using hwd
    have e : nF s A (0, 0) = (1202, A) := by show fif (word (nT s A) 45) _ _ = _; rw [hwd]; rfl
    have HF : Hid (T.f = (1202, A)) := HT1.out hwd
    rw [e] at cN
    obtain ⟨N, hN⟩ : ∃ N, sub s A (rn s A A) = N := ⟨_, rfl⟩
    rw [hN] at cN
    clear hw hwd e HT1 HT2 hN
    generalize rn s A A = A2 at *
    go_wp2_with fail
    try rw [hW3]
    refine cN.mono ?_
    rintro e W4 ⟨rfl, h4, q4⟩
    obtain ⟨k0, k1, k2, k3, k4⟩ := h4.cells
    have HK6 : Hid (Kr R w W4) := HK3.out.trans q4
    have HQ : Hid (_ ∧ _) := And.intro h4 (own_kr HO.out HK6.out)
    clear h4 q4 cN HK3 hW3 f1
    go_wp2_with (first
      | (at_builtin; refine list_app (by rfl) _ _ (by rfl) HQ.out.1 HQ.out.2 hacc 8 N ⟨#[]⟩ i (by rfl) (by rfl) (by rfl) ?_))
    intro vv WW hap
    obtain ⟨g2, cap2, rfl⟩ := hap.sh
    obtain ⟨l0, l1, l2, l3, l4⟩ := hap.rl.cells
    have y5 := hap.rl.free 2
    have HP : Hid (_) := hap
    clear hap HQ
    go_wp2_with fail
    refine bodyPost_ret (results_none rfl _ _ _) rfl ?_
    exact ⟨⟨_, rfl⟩, _, _, _, HP.out.done, HK6.out.below.trans HP.out.bel, HF.out.symm, fun h0 => absurd h0 (by rw [HF.out]; simp)⟩
end Go.Proofs.Ytfglbgnjgapehaa.RTg
