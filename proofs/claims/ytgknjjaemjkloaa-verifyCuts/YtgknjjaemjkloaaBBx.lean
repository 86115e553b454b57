/- What package verify holds in memory; the small questions about numbers. -/
import Derived.Test.YtgknjjaemjkloaaCLn
import Derived.Deep.WholeRow
import Derived.Test.YtgknjjaemjkloaaBPl
import Derived.Test.YtgknjjaemjkloaaYRs
namespace Go.Proofs.Ytgknjjaemjkloaa.CFl
open Go.RowKit Go.Proofs.Ytgknjjaemjkloaa.IPure Go.Proofs.Ytgknjjaemjkloaa.CPu Go.Proofs.Ytgknjjaemjkloaa.CBx Go.Proofs.Ytgknjjaemjkloaa.CHt Go.Proofs.Ytgknjjaemjkloaa.CLo Go.Proofs.Ytgknjjaemjkloaa.CLn
set_option linter.unusedVariables false

/-- What fault answers. -/
def FR (B : Nat) (w : World) (n t d : Int) (X : Except Int (Nat → Int)) (e : Ending) (w' : World) : Prop := Below B w w' ∧ match X with
  | .error c => e = .returned (.int .i64 c)
  | .ok H' => e = .returned (.int .i64 0) ∧ Wy w' B n t d H'
theorem two_keep {W W' : World} {g : Nat} {x y : Value} (h : W.cell? ⟨g, 0, none⟩ = some x ∧ W.cell? ⟨g, 1, none⟩ = some y) (hb : Below W.heap.size W W') : W'.cell? ⟨g, 0, none⟩ = some x ∧ W'.cell? ⟨g, 1, none⟩ = some y := ⟨IBase.below_cell h.1 hb, IBase.below_cell h.2 hb⟩
theorem fl_low {n : Nat} {t d : Int} {H : Nat → Int} {i : Nat} {o a : Int} (h1 : H i < 0) : fl n t d H i (o, a) = .error 2001 := by simp [fl, h1]
theorem fl_form {n : Nat} {t d : Int} {H : Nat → Int} {i : Nat} {o a : Int} (h1 : 0 ≤ H i) (hF : fmd o a = false) : fl n t d H i (o, a) = .error 2000 := by simp [fl, Int.not_lt.2 h1, hF]
theorem fl_name {n : Nat} {t d : Int} {H : Nat → Int} {i : Nat} {o a : Int} (h1 : 0 ≤ H i) (hF : fmd o a = true) (hG : hnm t d o a = false) : fl n t d H i (o, a) = .error 2003 := by simp [fl, Int.not_lt.2 h1, hF, hG]
theorem fl_jump {n : Nat} {t d : Int} {H : Nat → Int} {i : Nat} {o a : Int} (h1 : 0 ≤ H i) (hF : fmd o a = true) (hG : hnm t d o a = true) (hJ : ijp o = true ∧ (a ≤ (i : Int) ∨ (n : Int) < a)) : fl n t d H i (o, a) = .error 2002 := by
  unfold fl
  dsimp only
  rw [if_neg (Int.not_lt.2 h1), if_neg (by rw [hF]; decide), if_neg (by rw [hG]; decide), if_pos hJ]
theorem fl_none {n : Nat} {t d : Int} {H : Nat → Int} {i : Nat} {o a : Int} (h1 : 0 ≤ H i) (hF : fmd o a = true) (hG : hnm t d o a = true) (hJ : ijp o = true → (i : Int) < a ∧ a ≤ (n : Int)) (hL : lon H i o a = none) : fl n t d H i (o, a) = .error 2001 := by
  unfold fl
  dsimp only
  rw [if_neg (Int.not_lt.2 h1), if_neg (by rw [hF]; decide), if_neg (by rw [hG]; decide), if_neg (fun hh => by have := hJ hh.1; omega), hL]
theorem fl_some {n : Nat} {t d : Int} {H H' : Nat → Int} {i : Nat} {o a : Int} (h1 : 0 ≤ H i) (hF : fmd o a = true) (hG : hnm t d o a = true) (hJ : ijp o = true → (i : Int) < a ∧ a ≤ (n : Int)) (hL : lon H i o a = some H') : fl n t d H i (o, a) = .ok H' := by
  unfold fl
  dsimp only
  rw [if_neg (Int.not_lt.2 h1), if_neg (by rw [hF]; decide), if_neg (by rw [hG]; decide), if_neg (fun hh => by have := hJ hh.1; omega), hL]
set_option maxRecDepth 20000 in
set_option maxHeartbeats 3200000 in
theorem fault_c {w : World} {B n : Nat} {t d : Int} {H : Nat → Int} (h : Wy w B n t d H) (hH : Hb H) (hn : n ≤ 8192) {i : Nat} (hi : i < n) (o a : Int) :
    Calls Try.prog 91 #[.pointer (some ⟨B, 0, none⟩), .int .i64 (i : Nat), .agg #[.int .i64 o, .int .i64 a]] w fun e w' => FR B w n t d (fl n t d H i (o, a)) e w' := by
  obtain ⟨W, hW, hb, hs, c0, c1⟩ := box1 w (.int .i64 o) (.int .i64 a) 49
  have hB := h.lt
  have hwy := h.keep hb hB
  have cH := height_c hwy hH (k := i) (by omega)
  have HC : Hid (W.cell? ⟨w.heap.size, 0, none⟩ = some (.int .i64 o) ∧ W.cell? ⟨w.heap.size, 1, none⟩ = some (.int .i64 a)) := ⟨c0, c1⟩
  have cF := isFormed_c o a W
  have HB : Hid (Below B w W) := hb.mono (by omega)
  have HW : Hid (Wy W B n t d H) := hwy
  have HH : Hid (Hb H) := hH
  obtain ⟨X, hX⟩ : ∃ X, fl n t d H i (o, a) = X := ⟨_, rfl⟩
  rw [hX]
  obtain ⟨y, hy⟩ : ∃ y, H i = y := ⟨_, rfl⟩
  rw [hy] at cH
  clear h hH hwy hb
  by_cases h1 : y < 0
  · rw [fl_low (by rw [hy]; exact h1)] at hX
    subst hX
    have d1 : decide (y < 0) = true := by simp [h1]
    clear h1 hy cF HC HW HH c0 c1
    go_enter Try.func91, Try.ntmps91
    go_wp2_with fail
    refine cH.mono ?_
    rintro e w1 ⟨rfl, rfl⟩
    go_wp2_with fail
    go_ret
    exact ⟨HB.out, rfl⟩
  have d1 : decide (y < 0) = false := by simp [h1]
  have HX : Hid (fl n t d H i (o, a) = X) := hX
  have HN : Hid (0 ≤ H i) := by show 0 ≤ H i; rw [hy]; omega
  clear h1 hX hy
  go_enter Try.func91, Try.ntmps91
  go_wp2_with fail
  refine cH.mono ?_
  rintro e w1 ⟨rfl, rfl⟩
  go_wp2_with fail
  refine cF.mono ?_
  rintro e W1 ⟨rfl, b1⟩
  have hs1 := b1.size
  have HW1 : Hid (Wy W1 B n t d H) := HW.out.keep b1 HW.out.lt
  have HB1 : Hid (Below B w W1) := HB.out.trans (b1.mono (Nat.le_of_lt HW.out.lt))
  have HC1 : Hid (W1.cell? ⟨w.heap.size, 0, none⟩ = some (.int .i64 o) ∧ W1.cell? ⟨w.heap.size, 1, none⟩ = some (.int .i64 a)) := two_keep HC.out b1
  obtain ⟨x0, x1⟩ := HC1.out
  obtain ⟨F, hF⟩ : ∃ F, fmd o a = F := ⟨_, rfl⟩
  have HF : Hid (fmd o a = F) := hF
  rw [hF]
  clear hF cH cF b1 c0 c1 HC HW HB hW
  have cN := hasName_c HW1.out o a
  cases F with
  | false =>
    have hX := HX.out
    rw [fl_form HN.out HF.out] at hX
    subst hX
    clear cN
    go_wp2_with fail
    go_ret
    exact ⟨HB1.out, rfl⟩
  | true =>
  go_wp2_with fail
  refine cN.mono ?_
  rintro e W2 ⟨rfl, b2⟩
  have hs2 := b2.size
  have HW2 : Hid (Wy W2 B n t d H) := HW1.out.keep b2 HW1.out.lt
  have HB2 : Hid (Below B w W2) := HB1.out.trans (b2.mono (Nat.le_of_lt HW1.out.lt))
  have HC2 : Hid (W2.cell? ⟨w.heap.size, 0, none⟩ = some (.int .i64 o) ∧ W2.cell? ⟨w.heap.size, 1, none⟩ = some (.int .i64 a)) := two_keep HC1.out b2
  obtain ⟨z0, z1⟩ := HC2.out
  obtain ⟨G, hG⟩ : ∃ G, hnm t d o a = G := ⟨_, rfl⟩
  have HG : Hid (hnm t d o a = G) := hG
  rw [hG]
  clear hG cN b2 x0 x1 HC1 HW1 HB1
  cases G with
  | false =>
    have hX := HX.out
    rw [fl_name HN.out HF.out HG.out] at hX
    subst hX
    go_wp2_with fail
    go_ret
    exact ⟨HB2.out, rfl⟩
  | true =>
  have zn := HW2.out.n
  have cJ : ∀ m, Calls Try.prog 129 #[.int .i64 o] (W2.drewN m) fun e w' => e = .returned (.bool (ijp o)) ∧ w' = W2.drewN m := fun m => (isJump_c o (W2.drewN m)).mono fun _ _ h => ⟨h.1, h.2.symm⟩
  have cL : ∀ m, (ijp o = true → (i : Int) < a ∧ a ≤ 8192) → Calls Try.prog 130 #[.pointer (some ⟨B, 0, none⟩), .int .i64 (i : Nat), .agg #[.int .i64 o, .int .i64 a]] (W2.drewN m) fun e w' => LO B (W2.drewN m) n t d (lon H i o a) e w' := fun m hh => leadOn_c (w := W2.drewN m) HW2.out HH.out (by omega) hh
  have HL : Hid (∀ m, (ijp o = true → (i : Int) < a ∧ a ≤ 8192) → Calls Try.prog 130 #[.pointer (some ⟨B, 0, none⟩), .int .i64 (i : Nat), .agg #[.int .i64 o, .int .i64 a]] (W2.drewN m) fun e w' => LO B (W2.drewN m) n t d (lon H i o a) e w') := cL
  clear cL
  obtain ⟨J, hJ⟩ : ∃ J, ijp o = J := ⟨_, rfl⟩
  have HJ : Hid (ijp o = J) := hJ
  rw [hJ] at cJ
  clear hJ
  obtain ⟨e1, he1⟩ : ∃ b, decide (a ≤ (i : Int)) = b := ⟨_, rfl⟩
  obtain ⟨e2, he2⟩ : ∃ b, decide ((n : Int) < a) = b := ⟨_, rfl⟩
  have HE : Hid (decide (a ≤ (i : Int)) = e1 ∧ decide ((n : Int) < a) = e2) := ⟨he1, he2⟩
  by_cases hK : J = true ∧ (e1 = true ∨ e2 = true)
  · have hX := HX.out
    rw [fl_jump HN.out HF.out HG.out ⟨HJ.out.trans hK.1, hK.2.imp (fun h => by simpa using HE.out.1.trans h) (fun h => by simpa using HE.out.2.trans h)⟩] at hX
    subst hX
    obtain ⟨rfl, hK⟩ := hK
    cases e1 <;> cases e2 <;> first | (simp at hK; done) | skip
    all_goals
      clear hK
      go_wp2_with fail
      go_quiet (first | (go_at_call 129; exact Calls.quiet_of_same (cJ _)))
      go_wp2_with fail
      go_ret
      exact ⟨IBase.below_drewN HB2.out, rfl⟩
  · have hj : ijp o = true → (i : Int) < a ∧ a ≤ (n : Int) := fun hj => by
      have hJ := HJ.out.symm.trans hj
      have h1 := HE.out.1
      have h2 := HE.out.2
      have h3 : ¬ e1 = true := fun h => hK ⟨hJ, .inl h⟩
      have h4 : ¬ e2 = true := fun h => hK ⟨hJ, .inr h⟩
      rw [← h1] at h3
      rw [← h2] at h4
      simp at h3 h4
      omega
    have HK : Hid (ijp o = true → (i : Int) < a ∧ a ≤ (n : Int)) := hj
    have cL := fun m => HL.out m fun hh => by have := hj hh; omega
    obtain ⟨Y, hY⟩ : ∃ Y, lon H i o a = Y := ⟨_, rfl⟩
    rw [hY] at cL
    have HYY : Hid (lon H i o a = Y) := hY
    clear hY hj HL
    cases J <;> cases e1 <;> cases e2 <;> first | (simp at hK; done) | skip
    all_goals
      clear hK
      go_wp2_with fail
      go_quiet (first | (go_at_call 129; exact Calls.quiet_of_same (cJ _)))
      go_wp2_with fail
      refine (cL _).mono ?_
      rintro e W3 ⟨b3, hA⟩
      have HB3 : Hid (Below B w W3) := (IBase.below_drewN HB2.out).trans b3
      have hX := HX.out
      clear b3 cL cJ
      cases Y with
      | none =>
        obtain rfl := hA
        rw [fl_none HN.out HF.out HG.out HK.out HYY.out] at hX
        subst hX
        go_wp2_with fail
        go_ret
        exact ⟨HB3.out, rfl⟩
      | some H' =>
        obtain ⟨rfl, hA⟩ := hA
        have HA : Hid (Wy W3 B n t d H') := hA
        clear hA
        rw [fl_some HN.out HF.out HG.out HK.out HYY.out] at hX
        subst hX
        go_wp2_with fail
        go_ret
        exact ⟨HB3.out, rfl, HA.out⟩
end Go.Proofs.Ytgknjjaemjkloaa.CFl

namespace Go.Proofs.Ytgknjjaemjkloaa.CZe
open Go.RowKit Go.Proofs.Ytgknjjaemjkloaa.IPure Go.Proofs.Ytgknjjaemjkloaa.CPu Go.Proofs.Ytgknjjaemjkloaa.CBx
open Go.Proofs.Ytgknjjaemjkloaa.IBase (ro ro_len)
set_option linter.unusedVariables false

def isZ (v : Value) : Bool := match v with
  | .int .i16 n => n == 0
  | _ => false
theorem z1 : Try.zeroCells146.toList.take 3 = [Value.int .i64 0, Value.int .i64 0, Value.int .i64 0] := by kernel_rfl
theorem z2 : (Try.zeroCells146.toList.drop 3).all isZ = true := by kernel_rfl
theorem isZ_eq {v : Value} (h : isZ v = true) : v = .int .i16 0 := by
  unfold isZ at h
  split at h
  · simp at h; subst h; rfl
  · cases h
theorem z36 : Try.zeroCells146 = (Value.int .i64 0 :: Value.int .i64 0 :: Value.int .i64 0 :: List.replicate 8193 (Value.int .i16 0)).toArray := by
  have h1 : Try.zeroCells146.toList.drop 3 = List.replicate 8193 (Value.int .i16 0) := by
    rw [List.eq_replicate_iff]
    refine ⟨?_, fun b hb => isZ_eq (List.all_eq_true.1 z2 b hb)⟩
    have := Try.zeroCells146_size
    rw [List.length_drop, Array.length_toList, this]
  apply Array.toList_inj.1
  rw [← List.take_append_drop 3 Try.zeroCells146.toList, z1, h1]
  rfl
theorem wyc_new (n t d : Int) : wyc n t d (fun _ => -1) = (Value.int .i64 n :: Value.int .i64 t :: Value.int .i64 d :: List.replicate 8193 (Value.int .i16 0)).toArray := by
  have e : (ro 8193 fun k => (fun _ => (-1 : Int)) k + 1).map (Value.int .i16) = List.replicate 8193 (Value.int .i16 0) := by
    rw [List.eq_replicate_iff]
    refine ⟨by rw [List.length_map, ro_len], fun b hb => ?_⟩
    obtain ⟨x, hx, rfl⟩ := List.mem_map.1 hb
    unfold ro at hx
    obtain ⟨k, -, rfl⟩ := List.mem_map.1 hx
    rfl
  unfold wyc
  rw [e]
theorem ones (n t d : Int) (H : Nat → Int) : (wyc n t d H).all (·.oneCell') = true := by
  rw [Array.all_eq_true_iff_forall_mem]
  intro x hx
  simp [wyc] at hx
  rcases hx with rfl | rfl | rfl | ⟨k, -, rfl⟩ <;> rfl
theorem set_c (n t d : Int) : ((Try.zeroCells146.toList.set 0 (.int .i64 n)).set 1 (.int .i64 t)).set 2 (.int .i64 d) = (wyc n t d fun _ => -1).toList := by
  rw [z36, wyc_new]
  rfl
theorem store_c (n t d : Int) (w : World) : (storeCells ⟨w.heap.size, 0, none⟩ (((Try.zeroCells146.toList.set 0 (.int .i64 n)).set 1 (.int .i64 t)).set 2 (.int .i64 d))).run Try.prog (w.alloc (.cells Try.zeroCells146 146)) = .ok () (w.alloc (.cells (wyc n t d fun _ => -1) 146)) := by
  rw [set_c]
  exact run_storeCells_new w _ _ _ (by rw [wyc_size]; kernel_rfl) (by rw [wyc_size]; exact Try.zeroCells146_size) (ones n t d _)
end Go.Proofs.Ytgknjjaemjkloaa.CZe

namespace Go.Proofs.Ytgknjjaemjkloaa.CCk
open Go.RowKit Go.Proofs.Ytgknjjaemjkloaa.IPure Go.Proofs.Ytgknjjaemjkloaa.CPu Go.Proofs.Ytgknjjaemjkloaa.CBx Go.Proofs.Ytgknjjaemjkloaa.CHt Go.Proofs.Ytgknjjaemjkloaa.CLo Go.Proofs.Ytgknjjaemjkloaa.CLn Go.Proofs.Ytgknjjaemjkloaa.CFl Go.Proofs.Ytgknjjaemjkloaa.CZe
open Go.Proofs.Ytgknjjaemjkloaa.IBase (heap_alloc_new)
set_option linter.unusedVariables false

theorem fl_ne {n : Nat} {t d : Int} {H : Nat → Int} {i : Nat} {x : Ins} {c : Int} (h : fl n t d H i x = .error c) : (c == 0) = false := by
  unfold fl at h
  split at h
  · cases h; decide
  split at h
  · cases h; decide
  split at h
  · cases h; decide
  split at h
  · cases h; decide
  split at h
  · cases h; decide
  · cases h
theorem ld0 : ld (fun _ => -1) 0 0 = h0 := by
  unfold ld h0 upd
  simp
set_option maxRecDepth 20000 in
set_option maxHeartbeats 3200000 in
theorem check_c {K : Nat} {w : World} {v : Value} {L : List Ins} (hv : Cx K w v L) (hK : K ≤ w.heap.size) (t d : Int) :
    Calls Try.prog 54 #[v, .int .i64 t, .int .i64 d] w fun e w' => e = .returned (.int .i64 (ck L t d)) ∧ Below w.heap.size w w' := by
  have HV : Hid (Cx K w v L) := hv
  obtain ⟨a, cap, rfl, hl, hm, hnil, hL⟩ := hv
  clear hL hnil
  obtain ⟨R, hR⟩ : ∃ R, ck L t d = R := ⟨_, rfl⟩
  rw [hR]
  unfold ck at hR
  obtain ⟨n, hn⟩ : ∃ n, L.length = n := ⟨_, rfl⟩
  rw [hn] at hR hl ⊢
  by_cases h8 : 8192 < n
  · rw [if_pos h8] at hR
    subst hR
    have d8 : decide ((8192 : Int) < (n : Int)) = true := by simp; omega
    clear hn h8
    go_enter Try.func54, Try.ntmps54
    go_wp2_with fail
    go_ret
    exact ⟨rfl, Below.refl _ _⟩
  rw [if_neg h8] at hR
  have d8 : decide ((8192 : Int) < (n : Int)) = false := by simp; omega
  have HN : Hid (L.length = n) := hn
  have HR : Hid (fls n t d h0 0 L = R) := hR
  have hS := store_c n t d w
  obtain ⟨W0, hW0⟩ : ∃ W0, w.alloc (.cells (wyc n t d fun _ => -1) 146) = W0 := ⟨_, rfl⟩
  have b0 : Below w.heap.size w W0 := by rw [← hW0]; exact (Below.refl _ w).alloc (Nat.le_refl _) _
  have y0 : Wy W0 w.heap.size n t d fun _ => -1 := by rw [← hW0]; exact heap_alloc_new w _
  have cL := lead_c y0 (fun k => ⟨Int.le_refl _, by show (-1 : Int) ≤ k; omega⟩) (k := 0) (by omega) (x := 0) (by omega) (by omega)
  rw [hW0] at hS
  have HB0 : Hid (Below w.heap.size w W0) := b0
  have h9 : n ≤ 8192 := by omega
  clear hn hR b0 y0 h8 hW0
  go_enter Try.func54, Try.ntmps54
  go_wp2_with fail
  refine cL.mono ?_
  rintro e W1 ⟨rfl, y1, b1⟩
  rw [ld0] at y1
  have HB1 : Hid (Below w.heap.size w W1) := HB0.out.trans b1
  have HY1 : Hid (Wy W1 w.heap.size n t d h0) := y1
  have HLE : Hid (n ≤ 8192) := h9
  clear cL b1 y1 HB0 hS h9
  go_wp2_with fail
  go_loopw [22] (fun v1 wr => ∃ (q : Nat) (H : Nat → Int), v1 = .int .i64 q ∧ q ≤ n ∧ Wy wr w.heap.size n t d H ∧ Hb H ∧ Below w.heap.size w wr ∧ fls n t d H q (L.drop q) = R) (fun v1 _ => n - (intOf v1).toNat)
  case atStart => exact ⟨0, h0, rfl, by omega, HY1.out, hb0, HB1.out, HR.out⟩
  case round =>
    clear HB1 HY1 HR
    obtain ⟨q, H, rfl, hq, hy, hh, hB, hF⟩ := hrel
    have HYR : Hid (Wy wr w.heap.size n t d H) := hy
    have HBR : Hid (Below w.heap.size w wr) := hB
    have HHR : Hid (Hb H) := hh
    have HF : Hid (fls n t d H q (L.drop q) = R) := hF
    clear hy hh hB hF
    by_cases hlt : q < n
    · have d0 : decide ((q : Int) < (n : Int)) = true := by simp; omega
      obtain ⟨aa, cc, hsl, -, -, -, hL⟩ := HV.out
      cases hsl
      have hlq : q < L.length := by rw [HN.out]; exact hlt
      obtain ⟨g, og, rfl, hg, hc⟩ : ∃ g o, a = some ⟨g, o, none⟩ ∧ g < K ∧ ∀ j (h : j < L.length), w.cell? ⟨g, o + j * 2, none⟩ = some (.int .i64 L[j].1) ∧ w.cell? ⟨g, o + j * 2 + 1, none⟩ = some (.int .i64 L[j].2) := by
        rcases hL with rfl | hL
        · simp at hlq
        · exact hL
      obtain ⟨k0, k1⟩ := hc q hlq
      have k0 := cell_keep (by omega : g < w.heap.size) k0 HBR.out
      have k1 := cell_keep (by omega : g < w.heap.size) k1 HBR.out
      have HD : Hid (L.drop q = L[q] :: L.drop (q + 1)) := List.drop_eq_getElem_cons hlq
      clear hc hL
      generalize L[q] = x at *
      obtain ⟨o, a⟩ := x
      dsimp only at k0 k1
      obtain ⟨W4, hW4, b4, s4, e0, e1⟩ := box1 wr (.int .i64 o) (.int .i64 a) 49
      have cF := fault_c (HYR.out.keep b4 HYR.out.lt) HHR.out HLE.out hlt o a
      have hF := HF.out
      rw [HD.out, fls] at hF
      obtain ⟨X, hX⟩ : ∃ X, fl n t d H q (o, a) = X := ⟨_, rfl⟩
      rw [hX] at hF cF
      have HX : Hid (fl n t d H q (o, a) = X) := hX
      have HB4 : Hid (Below w.heap.size w W4) := HBR.out.trans (b4.mono HBR.out.size)
      clear hX HD HF b4
      have HF : Hid (_ = R) := hF
      clear hF
      go_wp2_with fail
      refine cF.mono ?_
      rintro e W5 ⟨b5, hA⟩
      have HB5 : Hid (Below w.heap.size w W5) := HB4.out.trans b5
      clear cF b5 HB4 e0 e1 hW4 k0 k1
      cases X with
      | error c =>
        obtain rfl := hA
        have hc := fl_ne HX.out
        have hF := HF.out
        dsimp only at hF
        subst hF
        go_wp2_with fail
        go_ret
        exact ⟨rfl, HB5.out⟩
      | ok H' =>
        obtain ⟨rfl, y5⟩ := hA
        have HY5 : Hid (Wy W5 w.heap.size n t d H') := y5
        clear y5
        go_wp2_with fail
        go_roundw
        case rel => exact ⟨q + 1, H', by go_num, by omega, HY5.out, fl_hb HHR.out HX.out, HB5.out, HF.out⟩
        case measure => simp only [intOf]; omega
    · have d0 : decide ((q : Int) < (n : Int)) = false := by simp; omega
      obtain rfl : q = n := by omega
      have hF := HF.out
      rw [List.drop_eq_nil_of_le (by rw [HN.out]; exact Nat.le_refl _), fls] at hF
      have cH := height_c HYR.out HHR.out (k := q) (by have := HLE.out; omega)
      have zn := HYR.out.n
      generalize H q = y at *
      by_cases h1 : y = 1
      · rw [if_pos h1] at hF
        subst h1
        subst hF
        go_wp2_with fail
        refine cH.mono ?_
        rintro e w9 ⟨rfl, rfl⟩
        go_wp2_with fail
        go_ret
        exact ⟨rfl, HBR.out⟩
      · rw [if_neg h1] at hF
        have d1 : (y == 1) = false := by simp [h1]
        subst hF
        clear h1
        go_wp2_with fail
        refine cH.mono ?_
        rintro e w9 ⟨rfl, rfl⟩
        go_wp2_with fail
        go_ret
        exact ⟨rfl, HBR.out⟩
end Go.Proofs.Ytgknjjaemjkloaa.CCk

namespace Go.Proofs.Ytgknjjaemjkloaa.BBx
open Go.RowKit Go.Proofs.Ytgknjjaemjkloaa.BPl Go.Proofs.Ytgknjjaemjkloaa.YRr Go.Proofs.Ytgknjjaemjkloaa.YRs
open Go.Proofs.Ytgknjjaemjkloaa.YPl (Oq Bk Pg)
open Go.Proofs.Ytgknjjaemjkloaa.TBase (T Keep)
set_option linter.unusedVariables false

/-- What operations name, in memory: the box P and its rows lie in blocks of R. -/
def Pw (R : Nat → Prop) (w : World) (P : Nat) (S : Sh) (hv : Value) : Prop :=
  ∃ tv nv dv, w.heap[P]? = some (.cells #[tv, nv, dv, hv] 81 (0, 0)) ∧ R P ∧ RrS 1 LyS R w tv S.t ∧ RrS 1 LyI R w nv S.n ∧ RrS 1 LyI R w dv S.d
theorem Pw.keep {R : Nat → Prop} {w w' : World} {P : Nat} {S : Sh} {hv : Value} (h : Pw R w P S hv) (hk : Keep R w w') : Pw R w' P S hv := by
  obtain ⟨tv, nv, dv, h1, h2, h3, h4, h5⟩ := h
  exact ⟨tv, nv, dv, (hk P h2 (Array.getElem?_eq_some_iff.1 h1).1).trans h1, h2, h3.keep (fun _ h => h) fun g o x _ hg h => kS hk hg h, h4.keep (fun _ h => h) fun g o x _ hg h => kI hk hg h, h5.keep (fun _ h => h) fun g o x _ hg h => kI hk hg h⟩
theorem Pw.drewN {R : Nat → Prop} {w : World} {P : Nat} {S : Sh} {hv : Value} (h : Pw R w P S hv) (m : Nat) : Pw R (w.drewN m) P S hv := h.keep fun b _ hl => (IBase.below_drewN (Below.refl w.heap.size w)).block b hl
/-- The box of a body. -/
def Bw (w : World) (B P : Nat) (A : Ar) (nb : Nat) (ov : Value) (lt : Int) (uv : Value) (cl : Int) : Prop :=
  w.heap[B]? = some (.cells #[.pointer (some ⟨P, 0, none⟩), .bool A.ow, .bool A.lp, .int .i64 A.st, .int .i64 A.el, .int .i64 A.ls, .int .i64 nb, ov, .int .i64 lt, uv, .int .i64 cl] 83 (0, 0))
theorem Bw.lt {w : World} {B P : Nat} {A : Ar} {nb : Nat} {ov : Value} {lt : Int} {uv : Value} {cl : Int} (h : Bw w B P A nb ov lt uv cl) : B < w.heap.size := by
  unfold Bw at h
  exact (Array.getElem?_eq_some_iff.1 h).1
theorem Bw.keep {w w' : World} {B P : Nat} {A : Ar} {nb : Nat} {ov : Value} {lt : Int} {uv : Value} {cl : Int} (h : Bw w B P A nb ov lt uv cl) (hb : Below w.heap.size w w') : Bw w' B P A nb ov lt uv cl := (hb.block B h.lt).trans h
theorem Bw.drewN {w : World} {B P : Nat} {A : Ar} {nb : Nat} {ov : Value} {lt : Int} {uv : Value} {cl : Int} (h : Bw w B P A nb ov lt uv cl) (m : Nat) : Bw (w.drewN m) B P A nb ov lt uv cl := h.keep (IBase.below_drewN (Below.refl _ _))
theorem isText_c {R : Nat → Prop} {w : World} {P : Nat} {S : Sh} {hv : Value} (h : Pw R w P S hv) (i : Int) :
    Calls Try.prog 132 #[.pointer (some ⟨P, 0, none⟩), .int .i64 i] w fun e w' => e = .returned (.bool (isN i S.t.length)) ∧ w' = w := by
  obtain ⟨tv, nv, dv, h1, -, ⟨a, cap, rfl, -⟩, -, -⟩ := h
  have c0 := cell_of h1 0 _ rfl
  clear h1
  unfold isN
  generalize S.t.length = n at *
  cases d1 : decide (0 ≤ i) <;> cases d2 : decide (i < (n : Int)) <;> (
    go_enter Try.func132, Try.ntmps132
    go_wp2_with fail
    go_ret
    exact ⟨rfl, rfl⟩)
theorem isCode_c {R : Nat → Prop} {w : World} {P : Nat} {S : Sh} {hv : Value} (h : Pw R w P S hv) (i : Int) :
    Calls Try.prog 135 #[.pointer (some ⟨P, 0, none⟩), .int .i64 i] w fun e w' => e = .returned (.bool (isN i S.n.length)) ∧ w' = w := by
  obtain ⟨tv, nv, dv, h1, -, -, ⟨a, cap, rfl, -⟩, -⟩ := h
  have c0 := cell_of h1 1 _ rfl
  clear h1
  unfold isN
  generalize S.n.length = n at *
  cases d1 : decide (0 ≤ i) <;> cases d2 : decide (i < (n : Int)) <;> (
    go_enter Try.func135, Try.ntmps135
    go_wp2_with fail
    go_ret
    exact ⟨rfl, rfl⟩)
theorem isStatic_c {R : Nat → Prop} {w : World} {P : Nat} {S : Sh} {hv : Value} (h : Pw R w P S hv) (i : Int) :
    Calls Try.prog 138 #[.pointer (some ⟨P, 0, none⟩), .int .i64 i] w fun e w' => e = .returned (.bool (isN i S.d.length)) ∧ w' = w := by
  obtain ⟨tv, nv, dv, h1, -, -, -, ⟨a, cap, rfl, -⟩⟩ := h
  have c0 := cell_of h1 2 _ rfl
  clear h1
  unfold isN
  generalize S.d.length = n at *
  cases d1 : decide (0 ≤ i) <;> cases d2 : decide (i < (n : Int)) <;> (
    go_enter Try.func138, Try.ntmps138
    go_wp2_with fail
    go_ret
    exact ⟨rfl, rfl⟩)
theorem isN_of {i : Int} {n : Nat} (h : isN i n = true) : ∃ q : Nat, i = (q : Int) ∧ q < n := by
  unfold isN at h
  cases hd : decide (0 ≤ i) with
  | false => rw [hd] at h; cases h
  | true =>
    rw [hd] at h
    simp only [cond_true, decide_eq_true_eq] at h hd
    exact ⟨i.toNat, by omega, by omega⟩
theorem getD_at {α : Type} {l : List α} {q : Nat} (h : q < l.length) (d : α) : l.getD ((q : Int)).toNat d = l[q] := by
  rw [Int.toNat_natCast, List.getD_eq_getElem?_getD, List.getElem?_eq_getElem h, Option.getD_some]
/-- An element of a row of one-celled ones. -/
theorem RrS.at {α : Type} {n : Nat} {Ly : World → Nat → Nat → α → Prop} {S : Nat → Prop} {w : World} {v : Value} {l : List α} (h : RrS n Ly S w v l) {q : Nat} (hq : q < l.length) : ∃ g o cap, v = .slice (some ⟨g, o, none⟩) l.length cap ∧ l.length ≤ cap ∧ cap ≤ 9223372036854775807 ∧ S g ∧ Ly w g (o + q * n) l[q] := by
  obtain ⟨a, cap, h1, h2, h3, h4, h5, h6⟩ := h
  rcases h6 with rfl | ⟨g, o, rfl, hg, hc⟩
  · simp at hq
  · exact ⟨g, o, cap, h1, h2, h3, hg, hc q hq⟩
theorem isTag_c {R : Nat → Prop} {w : World} {P : Nat} {S : Sh} {hv : Value} (h : Pw R w P S hv) (i : Int) :
    Calls Try.prog 134 #[.pointer (some ⟨P, 0, none⟩), .int .i64 i] w fun e w' => e = .returned (.bool (isTg S i)) ∧ w' = w := by
  have cT := isText_c h i
  unfold isTg
  cases hN : isN i S.t.length with
  | false =>
    rw [hN] at cT
    clear hN h
    go_enter Try.func134, Try.ntmps134
    go_wp2_with (first | (go_at_call 132; refine cT.mono ?_; rintro e w1 ⟨rfl, rfl⟩))
    go_ret
    exact ⟨rfl, rfl⟩
  | true =>
    rw [hN] at cT
    obtain ⟨q, rfl, hq⟩ := isN_of hN
    obtain ⟨tv, nv, dv, h1, -, h3, -, -⟩ := h
    obtain ⟨g, o, cap, rfl, hl, hm, hg, hc⟩ := RrS.at h3 hq
    have c0 := cell_of h1 0 _ rfl
    have e1 : txa S (q : Int) = S.t[q] := getD_at hq _
    have cG := UWord.tag_c S.t[q] (by have := hc.2; omega) w
    rw [e1]
    have k0 := hc.1
    rw [Nat.mul_one] at k0
    have i0 : (0 : Int) ≤ (q : Int) := by omega
    have i1 : (q : Int) < (S.t.length : Int) := by omega
    generalize S.t[q] = s at *
    generalize UBase.word s 45 = z at *
    generalize S.t.length = n at *
    clear h1 h3 hc e1 hN
    go_enter Try.func134, Try.ntmps134
    go_wp2_with (first | (go_at_call 132; refine cT.mono ?_; rintro e w1 ⟨rfl, rfl⟩) | (go_at_call 152; refine cG.mono ?_; rintro e w1 ⟨rfl, rfl⟩))
    go_ret
    exact ⟨rfl, rfl⟩
theorem isNoCode_c {R : Nat → Prop} {w : World} {B P : Nat} {S : Sh} {hv : Value} {A : Ar} {nb : Nat} {ov : Value} {lt : Int} {uv : Value} {cl : Int} (h : Pw R w P S hv) (hB : Bw w B P A nb ov lt uv cl) (i : Int) :
    Calls Try.prog 137 #[.pointer (some ⟨B, 0, none⟩), .int .i64 i] w fun e w' => e = .returned (.bool (!isN i S.n.length)) ∧ w' = w := by
  have cT := isCode_c h i
  have c0 := cell_of hB 0 _ rfl
  clear hB h
  generalize isN i S.n.length = z at *
  go_enter Try.func137, Try.ntmps137
  go_wp2_with (first | (go_at_call 135; refine cT.mono ?_; rintro e w1 ⟨rfl, rfl⟩))
  go_ret
  exact ⟨rfl, rfl⟩
theorem isBeyond_c {R : Nat → Prop} {w : World} {B P : Nat} {S : Sh} {hv : Value} {A : Ar} {nb : Nat} {ov : Value} {lt : Int} {uv : Value} {cl : Int} (h : Pw R w P S hv) (hB : Bw w B P A nb ov lt uv cl) (i : Int) (hi : isN i S.n.length = true) :
    Calls Try.prog 139 #[.pointer (some ⟨B, 0, none⟩), .int .i64 i] w fun e w' => e = .returned (.bool (decide (A.st < nda S i))) ∧ Below w.heap.size w w' := by
  have c0 := cell_of hB 0 _ rfl
  have c3 := cell_of hB 3 _ rfl
  obtain ⟨q, rfl, hq⟩ := isN_of hi
  obtain ⟨tv, nv, dv, h1, -, -, h3, -⟩ := h
  obtain ⟨g, o, cap, rfl, hl, hm, hg, hc⟩ := RrS.at h3 hq
  have p1 := cell_of h1 1 _ rfl
  have e1 : nda S (q : Int) = S.n[q] := getD_at hq _
  rw [e1]
  have k0 := hc.1
  rw [Nat.mul_one] at k0
  have i0 : (0 : Int) ≤ (q : Int) := by omega
  have i1 : (q : Int) < (S.n.length : Int) := by omega
  generalize S.n[q] = x at *
  generalize S.n.length = n at *
  generalize A.st = y at *
  clear hB h1 h3 hc hi e1
  go_enter Try.func139, Try.ntmps139
  go_wp2_with fail
  go_quiet (fail)
  go_wp2_with fail
  go_ret
  exact ⟨rfl, IBase.below_drewN (Below.refl _ _)⟩
end Go.Proofs.Ytgknjjaemjkloaa.BBx
