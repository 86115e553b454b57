/- Proved: for every two uint64 x, y and every int z the call stencillaw2.LebOrders(x, y, z) of the landed program returns true. Conditions: none beside those of the given row. -/
import Derived.Test.YtnhnmbmbldhpnaaRows
import Derived.Test.YtnhnmbmbldhpnaaKeep
import Derived.ChangeOld
namespace Go.Proofs.Ytnhnmbmbldhpnaa.lebOrders
open Go.ChangeShapes Go.WideShapes Go.ChangeAt Go.RowKit Go.Proofs.Ytnhnmbmbldhpnaa.Base
set_option linter.unusedVariables false

/-- The last comparison: PutInt of z is Put of the number that the document says. -/
theorem zig_pos {z : Int} (h : ¬ z < 0) : zig z = (2 * z).toNat := by unfold zig; rw [if_neg h]
theorem zig_neg {z : Int} (h : z < 0) : zig z = (2 * -(z + 1) + 1).toNat := by unfold zig; rw [if_pos h]; omega
set_option maxHeartbeats 1600000 in
theorem walk (x y z : Int) (x0 : 0 ≤ x) (x1 : x ≤ 18446744073709551615) (y0 : 0 ≤ y) (y1 : y ≤ 18446744073709551615) (z0 : -9223372036854775808 ≤ z) (z1 : z ≤ 9223372036854775807) (w : World) :
    Calls Try.prog 6 #[.int .u64 x, .int .u64 y, .int .i64 z] w fun e w' => e = .returned (.bool true) ∧ Below w.heap.size w w' := by
  obtain ⟨P, hP⟩ : ∃ P, P = putL x.toNat := ⟨_, rfl⟩
  obtain ⟨R, hR⟩ : ∃ R, R = putL y.toNat := ⟨_, rfl⟩
  obtain ⟨Q, hQ⟩ : ∃ Q, Q = putL (zig z) := ⟨_, rfl⟩
  have hPl : P.length ≤ 10 := by rw [hP]; exact putL_len (by omega)
  have hRl : R.length ≤ 10 := by rw [hR]; exact putL_len (by omega)
  have hP1 : 1 ≤ P.length := by rw [hP]; exact putL_pos _
  have hR1 : 1 ≤ R.length := by rw [hR]; exact putL_pos _
  have m1 : x ≤ y → P.length ≤ R.length := by rw [hP, hR]; exact fun h => putL_mono _ (Nat.le_refl _) (by omega)
  have m2 : y < x → R.length ≤ P.length := by rw [hP, hR]; exact fun h => putL_mono _ (Nat.le_refl _) (by omega)
  have cx : Makes 7 (.int .u64 x) P := by rw [hP]; exact makes (putL_ne _) fun w => put_i x x0 (by omega) w
  have cy : Makes 7 (.int .u64 y) R := by rw [hR]; exact makes (putL_ne _) fun w => put_i y y0 (by omega) w
  have c8 : Makes 8 (.int .i64 z) Q := by rw [hQ]; exact makes (putL_ne _) fun w => puti_c z z0 z1 w
  by_cases hz : z < 0
  · have cz : Makes 7 (.int .u64 (2 * -(z + 1) + 1)) Q := by rw [hQ, zig_neg hz]; exact makes (putL_ne _) fun w => put_i _ (by omega) (by omega) w
    clear hP hQ hR
    by_cases hxy : y < x
    · have m := m2 hxy
      clear m1 m2
      go_enter Try.func6, Try.ntmps6
      go_wp2_with (first
        | (go_at_call 16; refine (awake_c _).mono ?_; rintro e w1 ⟨rfl, b1⟩)
        | (go_at_call 9; refine (same_c _ _ Q _ q7.seen q8.seen).mono ?_; rintro e w' ⟨rfl, rfl⟩)
        | (go_at_call 7; have t := q6; clear t; refine (cz _).mono ?_; rintro e w7 ⟨g7, k7, rfl, l7, u7, q8, b7⟩; have q7 := below_own q6 b7)
        | (go_at_call 8; refine (c8 _).mono ?_; rintro e w6 ⟨g6, k6, rfl, l6, u6, q6, b6⟩)
        | (go_at_call 7; have t := b4; clear t; refine (cx _).mono ?_; rintro e w5 ⟨g5, k5, rfl, l5, u5, q5, b5⟩)
        | (go_at_call 7; have t := b3; clear t; refine (cy _).mono ?_; rintro e w4 ⟨g4, k4, rfl, l4, u4, q4, b4⟩)
        | (go_at_call 7; have t := b2; clear t; refine (cy _).mono ?_; rintro e w3 ⟨g3, k3, rfl, l3, u3, q3, b3⟩)
        | (go_at_call 7; refine (cx _).mono ?_; rintro e w2 ⟨g2, k2, rfl, l2, u2, q2, b2⟩))
      go_ret
      exact ⟨rfl, nx (nx (nx (nx (nx (nx b1 b2) b3) b4) b5) b6) b7⟩
    · have m := m1 (by omega)
      clear m1 m2
      go_enter Try.func6, Try.ntmps6
      go_wp2_with (first
        | (go_at_call 16; refine (awake_c _).mono ?_; rintro e w1 ⟨rfl, b1⟩)
        | (go_at_call 9; refine (same_c _ _ Q _ q7.seen q8.seen).mono ?_; rintro e w' ⟨rfl, rfl⟩)
        | (go_at_call 7; have t := q6; clear t; refine (cz _).mono ?_; rintro e w7 ⟨g7, k7, rfl, l7, u7, q8, b7⟩; have q7 := below_own q6 b7)
        | (go_at_call 8; refine (c8 _).mono ?_; rintro e w6 ⟨g6, k6, rfl, l6, u6, q6, b6⟩)
        | (go_at_call 7; have t := b2; clear t; refine (cy _).mono ?_; rintro e w3 ⟨g3, k3, rfl, l3, u3, q3, b3⟩)
        | (go_at_call 7; refine (cx _).mono ?_; rintro e w2 ⟨g2, k2, rfl, l2, u2, q2, b2⟩))
      go_ret
      exact ⟨rfl, nx (nx (nx (nx b1 b2) b3) b6) b7⟩
  · have cz : Makes 7 (.int .u64 (2 * z)) Q := by rw [hQ, zig_pos hz]; exact makes (putL_ne _) fun w => put_i _ (by omega) (by omega) w
    clear hP hQ hR
    by_cases hxy : y < x
    · have m := m2 hxy
      clear m1 m2
      go_enter Try.func6, Try.ntmps6
      go_wp2_with (first
        | (go_at_call 16; refine (awake_c _).mono ?_; rintro e w1 ⟨rfl, b1⟩)
        | (go_at_call 9; refine (same_c _ _ Q _ q7.seen q8.seen).mono ?_; rintro e w' ⟨rfl, rfl⟩)
        | (go_at_call 7; have t := q6; clear t; refine (cz _).mono ?_; rintro e w7 ⟨g7, k7, rfl, l7, u7, q8, b7⟩; have q7 := below_own q6 b7)
        | (go_at_call 8; refine (c8 _).mono ?_; rintro e w6 ⟨g6, k6, rfl, l6, u6, q6, b6⟩)
        | (go_at_call 7; have t := b4; clear t; refine (cx _).mono ?_; rintro e w5 ⟨g5, k5, rfl, l5, u5, q5, b5⟩)
        | (go_at_call 7; have t := b3; clear t; refine (cy _).mono ?_; rintro e w4 ⟨g4, k4, rfl, l4, u4, q4, b4⟩)
        | (go_at_call 7; have t := b2; clear t; refine (cy _).mono ?_; rintro e w3 ⟨g3, k3, rfl, l3, u3, q3, b3⟩)
        | (go_at_call 7; refine (cx _).mono ?_; rintro e w2 ⟨g2, k2, rfl, l2, u2, q2, b2⟩))
      go_ret
      exact ⟨rfl, nx (nx (nx (nx (nx (nx b1 b2) b3) b4) b5) b6) b7⟩
    · have m := m1 (by omega)
      clear m1 m2
      go_enter Try.func6, Try.ntmps6
      go_wp2_with (first
        | (go_at_call 16; refine (awake_c _).mono ?_; rintro e w1 ⟨rfl, b1⟩)
        | (go_at_call 9; refine (same_c _ _ Q _ q7.seen q8.seen).mono ?_; rintro e w' ⟨rfl, rfl⟩)
        | (go_at_call 7; have t := q6; clear t; refine (cz _).mono ?_; rintro e w7 ⟨g7, k7, rfl, l7, u7, q8, b7⟩; have q7 := below_own q6 b7)
        | (go_at_call 8; refine (c8 _).mono ?_; rintro e w6 ⟨g6, k6, rfl, l6, u6, q6, b6⟩)
        | (go_at_call 7; have t := b2; clear t; refine (cy _).mono ?_; rintro e w3 ⟨g3, k3, rfl, l3, u3, q3, b3⟩)
        | (go_at_call 7; refine (cx _).mono ?_; rintro e w2 ⟨g2, k2, rfl, l2, u2, q2, b2⟩))
      go_ret
      exact ⟨rfl, nx (nx (nx (nx b1 b2) b3) b6) b7⟩

theorem own : ownKnob Try.prog.godebug = none := by kernel_rfl
set_option maxRecDepth 100000 in
theorem lifted (os : Os) (started : os.Started) (H : Type) (enc : TypeId × Value → H) :
    ReturnsInHanded {} Try.checked os 6 .any (Rows.lebOrdersSpec.pre6 enc Try.prog Try.f6 Rows.lebOrdersRow.domain false) (Rows.lebOrdersSpec.post enc Try.prog Try.f6 false true false false) := by
  refine returnsInHanded_of_change (C := Try.checked) own started (by kernel_rfl) Try.func6
    (ChangeSpec.witness6 (enc := enc) (C := Try.checked) false ⟨#[], #[.int .u64 0, .int .u64 0, .int .i64 0], []⟩ 8 (by kernel_rfl) (by kernel_rfl) (by kernel_rfl) (by kernel_rfl)) ?_
  intro W base args ds gs before hval0 hW hcnd _
  have hval : ∀ (j : Nat) t v, Try.f6.params[j]? = some t → args[j]? = some v → Value.okWide Try.prog W .any base t v := hval0
  have hW' := hW
  obtain ⟨p, q, hA0, hV, rfl, hfz, hnd⟩ := hW
  have hA : DataW.TrodAll enc Try.prog W 0 (fun _ => true) true Try.f6.params.toList args.toList ds p := hA0
  rw [Try.params6] at hA hval
  obtain ⟨v0, vs0, d0, ds0, p0, q0, hargs, rfl, rfl, h0, r0⟩ := trodAll_cons hA
  obtain ⟨v1, vs1, d1, ds1, p1, q1, rfl, rfl, rfl, h1, r1⟩ := trodAll_cons r0
  obtain ⟨v2, vs2, d2, ds2, p2, q2, rfl, rfl, rfl, h2, r2⟩ := trodAll_cons r1
  obtain ⟨rfl, rfl, rfl⟩ := trodAll_nil r2
  obtain rfl : args = #[v0, v1, v2] := by cases args; simp_all
  obtain ⟨rfl, rfl⟩ := trodVars_none hV
  obtain ⟨a0, rfl, rfl, rfl, w0⟩ := open_int Try.underlying22 (hval 0 22 v0 rfl rfl) h0
  obtain ⟨a1, rfl, rfl, rfl, w1⟩ := open_int Try.underlying22 (hval 1 22 v1 rfl rfl) h1
  obtain ⟨a2, rfl, rfl, rfl, w2⟩ := open_int Try.underlying3 (hval 2 3 v2 rfl rfl) h2
  clear hA0 hval0
  have t0 := bounds_u64 w0
  have t1 := bounds_u64 w1
  have t2 := bounds_i64 w2
  refine (walk a0 a1 a2 t0.1 t0.2 t1.1 t1.2 t2.1 t2.2 W).mono fun e W' ⟨he, bel⟩ => ?_
  subst he
  exact ⟨_, rfl, _, _, _, [], _, [], hW', trodAll_mk1 (shut_bool Try.underlying4 _), (trodAll_cons_mk (shut_int Try.underlying22 w0) (trodAll_cons_mk (shut_int Try.underlying22 w1) (trodAll_cons_mk (shut_int Try.underlying3 w2) trodAll_mk0))), rfl, bel.frame _, fun h => by cases h⟩
theorem over : Rows.lebOrdersRow.holds Try.pinned (OpenSpec.ofChange Rows.lebOrdersSpec) :=
  OpenClaim.holds_of_wide 6 Try.f6 rfl rfl rfl rfl rfl rfl rfl ⟨rfl, rfl, rfl, rfl, rfl⟩ rfl rfl rfl rfl rfl (by kernel_rfl) Try.func6 (by kernel_rfl)
    (of_decide_eq_true (by kernel_rfl)) (by unfold Func.isWrapper; first | (rw [if_pos (by decide +kernel)]; kernel_rfl) | (rw [if_neg (by decide +kernel)]; exact ⟨rfl, rfl⟩))
    (fun os started H enc _ => lifted os started H enc)
theorem lebOrders_holds : Rows.LebOrdersSaid := over
#print axioms lebOrders_holds
end Go.Proofs.Ytnhnmbmbldhpnaa.lebOrders
