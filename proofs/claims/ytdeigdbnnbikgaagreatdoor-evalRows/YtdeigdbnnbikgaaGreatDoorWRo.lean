/- Of two integers, of two texts, the four orders and the two equalities fit one another: the walk. -/
import Derived.Test.YtdeigdbnnbikgaaGreatDoorWRr
namespace Go.Proofs.YtdeigdbnnbikgaaGreatDoor.WRo
open Go.RowKit Go.Proofs.YtdeigdbnnbikgaaGreatDoor.Base Go.Proofs.YtdeigdbnnbikgaaGreatDoor.EPure Go.Proofs.YtdeigdbnnbikgaaGreatDoor.VPure Go.Proofs.YtdeigdbnnbikgaaGreatDoor.VSm Go.Proofs.YtdeigdbnnbikgaaGreatDoor.VMp Go.Proofs.YtdeigdbnnbikgaaGreatDoor.VNo Go.Proofs.YtdeigdbnnbikgaaGreatDoor.VVa Go.Proofs.YtdeigdbnnbikgaaGreatDoor.VEv Go.Proofs.YtdeigdbnnbikgaaGreatDoor.VOf Go.Proofs.YtdeigdbnnbikgaaGreatDoor.VAp Go.Proofs.YtdeigdbnnbikgaaGreatDoor.VAw Go.Proofs.YtdeigdbnnbikgaaGreatDoor.VRw Go.Proofs.YtdeigdbnnbikgaaGreatDoor.WRr Go.Proofs.YtdeigdbnnbikgaaGreatDoor.Fresh
set_option linter.unusedVariables false

theorem chk_str (s : ByteArray) (hs : s.size ≤ 140737488351232) (w : World) :
    Calls Tryz.prog 28 #[v0 4 false 0 s] w fun e w' => e = .returned (.int .i64 (code (strC s))) ∧ Below w.heap.size w w' :=
  MeasB.check_c (m := 1) (VRs.in_str _ _ _ hs) (by simp [Shallow.dep, Shallow.depL, strC])
set_option maxRecDepth 20000 in
set_option maxHeartbeats 12800000 in
theorem walk (a : Int) (a0 : -9223372036854775808 ≤ a) (a1 : a ≤ 9223372036854775807) (b : Int) (b0 : -9223372036854775808 ≤ b) (b1 : b ≤ 9223372036854775807) (s : ByteArray) (hs : s.size ≤ 140737488351232) (t : ByteArray) (ht : t.size ≤ 140737488351232) {w : World} (hT : TX w) :
    Calls Tryz.prog 7 #[.int .i64 a, .int .i64 b, .string s, .string t] w fun e w' => e = .returned (.bool true) ∧ Below w.heap.size w w' := by
  have HT : Hid (TX w) := hT
  have cA := awake_c hT
  have HS : Hid (s.size ≤ 140737488351232) := hs
  have HTT : Hid (t.size ≤ 140737488351232) := ht
  clear hT
  have k1 := chk_str s hs
  have k2 := chk_str t ht
  have HC : Hid (code (strC s) = code (strC s) ∧ code (strC t) = code (strC t)) := ⟨rfl, rfl⟩
  obtain ⟨E, hE⟩ : ∃ E, code (strC s) = E := ⟨_, rfl⟩
  obtain ⟨F, hF⟩ : ∃ F, code (strC t) = F := ⟨_, rfl⟩
  rw [hE] at k1
  rw [hF] at k2
  have HEF : Hid (code (strC s) = E ∧ code (strC t) = F) := ⟨hE, hF⟩
  clear hE hF HC
  go_enter Tryz.func7, Tryz.ntmps7
  go_upto_region 3 with (first | (go_at_call 19; refine cA.mono ?_; rintro e W0 ⟨rfl, hb0⟩))
  clear cA
  obtain ⟨V1z, hV1z⟩ : ∃ V1z, W0.alloc (.cells #[.int .i64 0, .bool false, .int .i64 0, .string ⟨#[]⟩, .slice none 0 0, .slice none 0 0] 32) = V1z := ⟨_, rfl⟩
  have zV1 : V1z.heap[W0.heap.size]? = some (.cells #[.int .i64 0, .bool false, .int .i64 0, .string ⟨#[]⟩, .slice none 0 0, .slice none 0 0] 32 (0, 0)) := by rw [← hV1z]; exact heap_alloc_new _ _
  have bzV1 : Below W0.heap.size W0 V1z := by rw [← hV1z]; exact (Below.refl _ _).alloc (Nat.le_refl _) _
  obtain ⟨mV10, mV11, mV12, mV13, mV14, mV15⟩ := six_box zV1
  have fV10 := frozen_box zV1 0
  have fV11 := frozen_box zV1 1
  have fV12 := frozen_box zV1 2
  have fV13 := frozen_box zV1 3
  have fV14 := frozen_box zV1 4
  have fV15 := frozen_box zV1 5
  obtain ⟨V1, hV1⟩ : ∃ V1, ((((((V1z.setCell ⟨W0.heap.size, 0, none⟩ (.int .i64 4)).setCell ⟨W0.heap.size, 1, none⟩ (.bool false)).setCell ⟨W0.heap.size, 2, none⟩ (.int .i64 0)).setCell ⟨W0.heap.size, 3, none⟩ (.string s)).setCell ⟨W0.heap.size, 4, none⟩ (.slice none 0 0)).setCell ⟨W0.heap.size, 5, none⟩ (.slice none 0 0)) = V1 := ⟨_, rfl⟩
  obtain ⟨aV11, aV12, aV13, aV14⟩ := set6 _ _ _ _ _ _ zV1 hV1
  have bV1 : Below W0.heap.size W0 V1 := aV14 _ _ (by omega) bzV1
  have sV1 : V1.heap.size = W0.heap.size + 1 := by rw [← hV1, ← hV1z]; simp
  have hy1 : V1.heap.size = W0.heap.size + 1 := sV1
  obtain ⟨V2z, hV2z⟩ : ∃ V2z, V1.alloc (.cells #[.int .i64 0, .bool false, .int .i64 0, .string ⟨#[]⟩, .slice none 0 0, .slice none 0 0] 32) = V2z := ⟨_, rfl⟩
  have zV2 : V2z.heap[W0.heap.size + 1]? = some (.cells #[.int .i64 0, .bool false, .int .i64 0, .string ⟨#[]⟩, .slice none 0 0, .slice none 0 0] 32 (0, 0)) := by rw [← hV2z, ← hy1]; exact heap_alloc_new _ _
  have bzV2 : Below V1.heap.size V1 V2z := by rw [← hV2z]; exact (Below.refl _ _).alloc (Nat.le_refl _) _
  obtain ⟨mV20, mV21, mV22, mV23, mV24, mV25⟩ := six_box zV2
  have fV20 := frozen_box zV2 0
  have fV21 := frozen_box zV2 1
  have fV22 := frozen_box zV2 2
  have fV23 := frozen_box zV2 3
  have fV24 := frozen_box zV2 4
  have fV25 := frozen_box zV2 5
  obtain ⟨V2, hV2⟩ : ∃ V2, ((((((V2z.setCell ⟨W0.heap.size + 1, 0, none⟩ (.int .i64 4)).setCell ⟨W0.heap.size + 1, 1, none⟩ (.bool false)).setCell ⟨W0.heap.size + 1, 2, none⟩ (.int .i64 0)).setCell ⟨W0.heap.size + 1, 3, none⟩ (.string t)).setCell ⟨W0.heap.size + 1, 4, none⟩ (.slice none 0 0)).setCell ⟨W0.heap.size + 1, 5, none⟩ (.slice none 0 0)) = V2 := ⟨_, rfl⟩
  obtain ⟨aV21, aV22, aV23, aV24⟩ := set6 _ _ _ _ _ _ zV2 hV2
  have bV2 : Below V1.heap.size V1 V2 := aV24 _ _ (by omega) bzV2
  have sV2 : V2.heap.size = V1.heap.size + 1 := by rw [← hV2, ← hV2z]; simp
  have hu : V2.heap[W0.heap.size]? = some (.cells #[.int .i64 4, .bool false, .int .i64 0, .string s, .slice none 0 0, .slice none 0 0] 32 (0, 0)) := ((aV22 _ (by omega)).trans (bzV2.block W0.heap.size (by omega))).trans aV11
  have hv := aV21
  obtain ⟨u0, u1, u2, u3, u4, u5⟩ := six_box hu
  obtain ⟨v0', v1', v2', v3', v4', v5'⟩ := six_box hv
  have HU : Hid (V2.heap[W0.heap.size]? = some (.cells #[.int .i64 4, .bool false, .int .i64 0, .string s, .slice none 0 0, .slice none 0 0] 32 (0, 0))) := hu
  have HV : Hid (V2.heap[W0.heap.size + 1]? = some (.cells #[.int .i64 4, .bool false, .int .i64 0, .string t, .slice none 0 0, .slice none 0 0] 32 (0, 0))) := hv
  have bb : Below w.heap.size w V2 := (hb0.trans (bV1.mono hb0.size)).trans (bV2.mono (hb0.trans (bV1.mono hb0.size)).size)
  have HB2 : Hid (Below w.heap.size w V2) := bb
  have hs2 : V2.heap.size = W0.heap.size + 2 := by omega
  have HS2 : Hid (V2.heap.size = W0.heap.size + 2) := hs2
  clear zV1 zV2 bzV1 bzV2 aV11 aV12 aV13 aV14 aV21 aV22 aV23 aV24 bV1 bV2 hb0 bb hu hv
  go_upto_region 5 with fail
  try rw [hV1]
  try rw [hV2]
  clear hV1 hV2 hV1z hV2z mV10 fV10 mV11 fV11 mV12 fV12 mV13 fV13 mV14 fV14 mV15 fV15 mV20 fV20 mV21 fV21 mV22 fV22 mV23 fV23 mV24 fV24 mV25 fV25
  have hsd : V2.drew.heap.size = W0.heap.size + 2 := by simp [hs2]
  go_cut [11, 12] from 19 to 22 (fun x y wc => x = .int .i64 E ∧ y = .int .i64 F ∧ Below V2.heap.size V2 wc)
  case first =>
    refine wp_region_held_drew (S := fun w' => (w'.cell? ⟨W0.heap.size, 0, none⟩ = some (.int .i64 4) ∧ w'.cell? ⟨W0.heap.size, 1, none⟩ = some (.bool false) ∧ w'.cell? ⟨W0.heap.size, 2, none⟩ = some (.int .i64 0) ∧ w'.cell? ⟨W0.heap.size, 3, none⟩ = some (.string s) ∧ w'.cell? ⟨W0.heap.size, 4, none⟩ = some (.slice none 0 0) ∧ w'.cell? ⟨W0.heap.size, 5, none⟩ = some (.slice none 0 0)) ∧ (w'.cell? ⟨W0.heap.size + 1, 0, none⟩ = some (.int .i64 4) ∧ w'.cell? ⟨W0.heap.size + 1, 1, none⟩ = some (.bool false) ∧ w'.cell? ⟨W0.heap.size + 1, 2, none⟩ = some (.int .i64 0) ∧ w'.cell? ⟨W0.heap.size + 1, 3, none⟩ = some (.string t) ∧ w'.cell? ⟨W0.heap.size + 1, 4, none⟩ = some (.slice none 0 0) ∧ w'.cell? ⟨W0.heap.size + 1, 5, none⟩ = some (.slice none 0 0))) (by kernel_rfl) (by first | assumption | go_keep) (fun hHeld => ?_)
    refine wpAnyH_take (i := 0) (v := ?_) rfl (by kernel_rfl) (by kernel_rfl) (by kernel_rfl) (fun _ _ _ h => h) (Or.inl ⟨by rfl, ?_⟩) (by assumption) ?_
    rotate_left 1
    · intro w hSw; (try dsimp only at hSw); go_simp; first | done | with_reducible rfl | (rw [if_neg (by omega)])
    try simp only [Act.put, List.getElem_toArray, List.getElem_cons_zero, List.setIfInBounds_toArray, List.set_cons_zero, List.set_cons_succ]
    refine wpAnyH_take (i := 2) (v := ?_) rfl (by kernel_rfl) (by kernel_rfl) (by kernel_rfl) (fun _ _ _ h => h) (Or.inl ⟨by rfl, ?_⟩) (by assumption) ?_
    rotate_left 1
    · intro w hSw; (try dsimp only at hSw); go_simp; first | done | with_reducible rfl | (rw [if_neg (by omega)])
    try simp only [Act.put, List.getElem_toArray, List.getElem_cons_zero, List.getElem_cons_succ, List.setIfInBounds_toArray, List.set_cons_zero, List.set_cons_succ]
    refine wpAnyH_ready (rs := [1]) (by kernel_rfl) (by simp) ?_
    refine AllReadyH.cons rfl (fun K hK => ?_) (AllReadyH.nil)
    go_simp
    refine (k1 _).mono ?_
    rintro e Y1 ⟨rfl, hz1⟩
    have G1 : Below V2.heap.size V2 Y1 := VIn.bel_d (Below.refl _ _) hz1
    obtain ⟨x0, x1, x2, x3, x4, x5⟩ := six_box ((G1.block W0.heap.size (by omega)).trans HU.out)
    obtain ⟨y0, y1, y2, y3, y4, y5⟩ := six_box ((G1.block (W0.heap.size + 1) (by omega)).trans HV.out)
    clear hz1
    go_wp2_with fail
    refine hK.out _ _ (by first | assumption | go_keep) (fun hHeld => ?_)
    clear hK K
    try simp only [Act.put, List.getElem_toArray, List.getElem_cons_zero, List.getElem_cons_succ, List.setIfInBounds_toArray, List.set_cons_zero, List.set_cons_succ]
    refine wpAnyH_ready (rs := [3]) (by kernel_rfl) (by simp) ?_
    refine AllReadyH.cons rfl (fun K hK => ?_) (AllReadyH.nil)
    go_simp
    refine (k2 _).mono ?_
    rintro e Y2 ⟨rfl, hz2⟩
    have G2 : Below V2.heap.size V2 Y2 := G1.trans (hz2.mono G1.size)
    obtain ⟨x0, x1, x2, x3, x4, x5⟩ := six_box ((G2.block W0.heap.size (by omega)).trans HU.out)
    obtain ⟨y0, y1, y2, y3, y4, y5⟩ := six_box ((G2.block (W0.heap.size + 1) (by omega)).trans HV.out)
    clear hz2
    go_wp2_with fail
    refine hK.out _ _ (by first | assumption | go_keep) (fun hHeld => ?_)
    clear hK K
    try simp only [Act.put, List.getElem_toArray, List.getElem_cons_zero, List.getElem_cons_succ, List.setIfInBounds_toArray, List.set_cons_zero, List.set_cons_succ]
    refine wpAnyH_take (i := 4) (v := ?_) rfl (by kernel_rfl) (by kernel_rfl) (by kernel_rfl) (fun _ _ _ h => h) (Or.inl ⟨by rfl, ?_⟩) (by assumption) ?_
    rotate_left 1
    · intro w hSw; (try dsimp only at hSw); go_simp; first | done | with_reducible rfl | (rw [if_neg (by omega)])
    try simp only [Act.put, List.getElem_toArray, List.getElem_cons_zero, List.getElem_cons_succ, List.setIfInBounds_toArray, List.set_cons_zero, List.set_cons_succ]
    refine wpAnyH_take (i := 5) (v := ?_) rfl (by kernel_rfl) (by kernel_rfl) (by kernel_rfl) (fun _ _ _ h => h) (Or.inl ⟨by rfl, ?_⟩) (by assumption) ?_
    rotate_left 1
    · intro w hSw; (try dsimp only at hSw); go_simp; first | done | with_reducible rfl | (rw [if_neg (by omega)])
    try simp only [Act.put, List.getElem_toArray, List.getElem_cons_zero, List.getElem_cons_succ, List.setIfInBounds_toArray, List.set_cons_zero, List.set_cons_succ]
    refine wpAnyH_done (by kernel_rfl) ?_ _
    go_wp2_with fail
    go_meet
    case rel => exact ⟨rfl, rfl, G2⟩
  case rest =>
    obtain ⟨rfl, rfl, hbc⟩ := hcut
    clear u0 u1 u2 u3 u4 u5 v0' v1' v2' v3' v4' v5' k1 k2 hsd
    have hsc := hbc.size
    have HB3 : Hid (Below w.heap.size w wc) := HB2.out.trans (hbc.mono HB2.out.size)
    have HU3 : Hid (wc.heap[W0.heap.size]? = some (.cells #[.int .i64 4, .bool false, .int .i64 0, .string s, .slice none 0 0, .slice none 0 0] 32 (0, 0))) := (hbc.block W0.heap.size (by omega)).trans HU.out
    have HV3 : Hid (wc.heap[W0.heap.size + 1]? = some (.cells #[.int .i64 4, .bool false, .int .i64 0, .string t, .slice none 0 0, .slice none 0 0] 32 (0, 0))) := (hbc.block (W0.heap.size + 1) (by omega)).trans HV.out
    have c1 := int_c a
    have c2 := int_c b
    clear hbc HU HV HB2
    go_upto_region 8 with (first | (go_at_call 29; first | (have tt := hn1; clear tt; refine (c2 _).mono ?_; rintro e Y2 ⟨rfl, hn2⟩; have HN : Hid (Below wc.heap.size wc Y2) := hn1.trans (hn2.mono hn1.size); have cR := rows_c (k := 3) (i1 := a) (i2 := b) (s1 := ⟨#[]⟩) (s2 := ⟨#[]⟩) (by decide) ⟨a0, a1⟩ ⟨b0, b1⟩ (by decide) (by decide) (six_int a b) (code_int a) (code_int b) (HT.out.later (HB3.out.trans (HN.out.mono HB3.out.size)))) | (refine (c1 _).mono ?_; rintro e Y1 ⟨rfl, hn1⟩)) | (go_at_call 39; refine cR.mono ?_; rintro e Y3 ⟨rfl, hr3⟩))
    have HN3 : Hid (Below wc.heap.size wc Y3) := HN.out.trans (hr3.mono HN.out.size)
    have hs3 := HN3.out.size
    have HB4 : Hid (Below w.heap.size w Y3) := HB3.out.trans (HN3.out.mono HB3.out.size)
    clear hr3 cR hn1 hn2 c1 c2
    have cE := num_c E
    have cF := num_c F
    by_cases hE : E = 0
    · have e0 : (E != 0) = false := by simp [hE]
      by_cases hF : F = 0
      · have f0 : (F != 0) = false := by simp [hF]
        obtain ⟨u0, u1, u2, u3, u4, u5⟩ := six_box ((HN3.out.block W0.heap.size (by omega)).trans HU3.out)
        obtain ⟨v0', v1', v2', v3', v4', v5'⟩ := six_box ((HN3.out.block (W0.heap.size + 1) (by omega)).trans HV3.out)
        have cR := rows_c (k := 4) (i1 := 0) (i2 := 0) (s1 := s) (s2 := t) (by decide) (by decide) (by decide) HS.out HTT.out (six_str s t) (HEF.out.1.trans hE) (HEF.out.2.trans hF) (HT.out.later HB4.out)
        clear hE hF
        go_wp2_with (first | (go_at_call 14; first | (refine (cE _).mono ?_; rintro e Y3 ⟨rfl, rfl⟩) | (refine (cF _).mono ?_; rintro e Y3 ⟨rfl, rfl⟩)) | (go_at_call 39; refine cR.mono ?_; rintro e Y5 ⟨rfl, hr5⟩))
        go_ret
        exact ⟨rfl, HB4.out.trans (hr5.mono HB4.out.size)⟩
      · have f0 : (F != 0) = true := by simpa using hF
        clear hF hE
        go_wp2_with (first | (go_at_call 14; first | (refine (cE _).mono ?_; rintro e Y3 ⟨rfl, rfl⟩) | (refine (cF _).mono ?_; rintro e Y3 ⟨rfl, rfl⟩)))
        go_ret
        exact ⟨rfl, HB4.out⟩
    · have e0 : (E != 0) = true := by simpa using hE
      clear hE
      go_wp2_with (first | (go_at_call 14; first | (refine (cE _).mono ?_; rintro e Y3 ⟨rfl, rfl⟩)))
      go_ret
      exact ⟨rfl, HB4.out⟩
end Go.Proofs.YtdeigdbnnbikgaaGreatDoor.WRo
