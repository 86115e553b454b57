/- Proved: for every uint64 x and every int y the call stencillaw2.LebPuts(x, y) of the landed program returns true. Conditions: none beside those of the given row. -/
import Derived.Test.YtnhnmbmbldhpnaaRows
import Derived.Test.YtnhnmbmbldhpnaaKeep
import Derived.ChangeOld
namespace Go.Proofs.Ytnhnmbmbldhpnaa.lebPuts
open Go.ChangeShapes Go.WideShapes Go.ChangeAt Go.RowKit Go.Proofs.Ytnhnmbmbldhpnaa.Base
set_option linter.unusedVariables false

set_option maxHeartbeats 1600000 in
theorem walk (x y : Int) (x0 : 0 ≤ x) (x1 : x ≤ 18446744073709551615) (y0 : -9223372036854775808 ≤ y) (y1 : y ≤ 9223372036854775807) (w : World) :
    Calls Try.prog 3 #[.int .u64 x, .int .i64 y] w fun e w' => e = .returned (.bool true) ∧ Below w.heap.size w w' := by
  obtain ⟨P, hP⟩ : ∃ P, P = putL x.toNat := ⟨_, rfl⟩
  obtain ⟨Q, hQ⟩ : ∃ Q, Q = putL (zig y) := ⟨_, rfl⟩
  have hPn : P ≠ [] := by rw [hP]; exact putL_ne _
  have hQn : Q ≠ [] := by rw [hQ]; exact putL_ne _
  have hPl : P.length ≤ 10 := by rw [hP]; exact putL_len (by omega)
  have hQl : Q.length ≤ 10 := by rw [hQ]; exact putL_len (zig_lt y0 y1)
  have c7 : Makes 7 (.int .u64 x) P := by rw [hP]; exact makes (putL_ne _) fun w => put_i x x0 (by omega) w
  have c10 : Makes 10 (.int .u64 x) P := by rw [hP]; exact makes (putL_ne _) fun w => rput_i x x0 (by omega) w
  have c8 : Makes 8 (.int .i64 y) Q := by rw [hQ]; exact makes (putL_ne _) fun w => puti_c y y0 y1 w
  have c11 : Makes 11 (.int .i64 y) Q := by rw [hQ]; exact makes (putL_ne _) fun w => rputi_c y y0 y1 w
  have c13 : ∀ (w : World) v, Seen w v P → Calls Try.prog 13 #[v, .int .i64 0] w fun e w' => e = .returned (.tuple #[.int .u64 x, .int .i64 P.length, .int .i64 0]) ∧ w' = w := by
    intro w v h
    have := take_c v P 0 w h
    rw [hP, tk_put (by omega)] at this
    rw [hP]
    have e : ((x.toNat : Nat) : Int) = x := by omega
    unfold tkV at this
    simp only [e] at this
    exact this
  have c14 : ∀ (w : World) v, Seen w v Q → Calls Try.prog 14 #[v, .int .i64 0] w fun e w' => e = .returned (.tuple #[.int .i64 y, .int .i64 Q.length, .int .i64 0]) ∧ w' = w := by
    intro w v h
    have := takei_c v Q 0 w h
    rw [hQ, tk_put (zig_lt y0 y1)] at this
    rw [hQ]
    unfold tkI at this
    simp only [unz_zig] at this
    exact this
  clear hP hQ
  go_enter Try.func3, Try.ntmps3
  go_wp2_with (first
    | (go_at_call 16; refine (awake_c _).mono ?_; rintro e w11 ⟨rfl, b11⟩)
    | (go_at_call 15; refine (num_c _ _).mono ?_; rintro e w' ⟨rfl, rfl⟩)
    | (go_at_call 14; refine (c14 _ _ d10.seen).mono ?_; rintro e w' ⟨rfl, rfl⟩)
    | (go_at_call 13; refine (c13 _ _ q10.seen).mono ?_; rintro e w' ⟨rfl, rfl⟩)
    | (go_at_call 9; refine (same_c _ _ Q _ d10.seen s10.seen).mono ?_; rintro e w' ⟨rfl, rfl⟩)
    | (go_at_call 11; refine (c11 _).mono ?_; rintro e w10 ⟨g10, k10, rfl, l10, u10, s10, b10⟩; have d10 := below_own d9 b10; have q10 := below_own q9 b10)
    | (go_at_call 9; refine (same_c _ _ P _ q9.seen r9.seen).mono ?_; rintro e w' ⟨rfl, rfl⟩)
    | (go_at_call 10; refine (c10 _).mono ?_; rintro e w9 ⟨g9, k9, rfl, l9, u9, r9, b9⟩; have d9 := below_own d8 b9; have q9 := below_own q8 b9)
    | (go_at_call 12; refine (spoil_c _ _ Q _ t7 hQl hQn).mono ?_; rintro e w8 ⟨rfl, m8⟩; have d8 := grown_own d7 m8 (by simp [Value.ownBlock]; omega); have q8 := grown_own q7 m8 (by simp [Value.ownBlock]; omega))
    | (go_at_call 12; refine (spoil_c _ _ P _ p6 hPl hPn).mono ?_; rintro e w7 ⟨rfl, m7⟩; have d7 := grown_own d6 m7 (by simp [Value.ownBlock]; omega); have q7 := grown_own q6 m7 (by simp [Value.ownBlock]; omega); have t7 := grown_own t6 m7 (by simp [Value.ownBlock]; omega))
    | (go_at_call 9; refine (same_c _ _ Q _ t6.seen s6.seen).mono ?_; rintro e w' ⟨rfl, rfl⟩)
    | (go_at_call 11; refine (c11 _).mono ?_; rintro e w6 ⟨g6, k6, rfl, l6, u6, s6, b6⟩; have d6 := below_own d5 b6; have q6 := below_own q5 b6; have t6 := below_own t5 b6; have p6 := below_own p5 b6)
    | (go_at_call 9; refine (same_c _ _ P _ p5.seen r5.seen).mono ?_; rintro e w' ⟨rfl, rfl⟩)
    | (go_at_call 10; refine (c10 _).mono ?_; rintro e w5 ⟨g5, k5, rfl, l5, u5, r5, b5⟩; have d5 := below_own d4 b5; have q5 := below_own q4 b5; have t5 := below_own t4 b5; have p5 := below_own p4 b5)
    | (go_at_call 8; refine (c8 _).mono ?_; rintro e w4 ⟨g4, k4, rfl, l4, u4, d4, b4⟩; have q4 := below_own q3 b4; have t4 := below_own t3 b4; have p4 := below_own p3 b4)
    | (go_at_call 8; refine (c8 _).mono ?_; rintro e w3 ⟨g3, k3, rfl, l3, u3, t3, b3⟩; have q3 := below_own q2 b3; have p3 := below_own p2 b3)
    | (go_at_call 7; refine (c7 _).mono ?_; rintro e w2 ⟨g2, k2, rfl, l2, u2, q2, b2⟩; have p2 := below_own p1 b2)
    | (go_at_call 7; refine (c7 _).mono ?_; rintro e w1 ⟨g1, k1, rfl, l1, u1, p1, b1⟩))
  go_ret
  have h2 := nx b1 b2
  have h6 := nx (nx (nx (nx h2 b3) b4) b5) b6
  exact ⟨rfl, nx (nx (nx (gx (gx h6 m7 l1) m8 (Nat.le_trans h2.size l3)) b9) b10) b11⟩

theorem own : ownKnob Try.prog.godebug = none := by kernel_rfl
set_option maxRecDepth 100000 in
theorem lifted (os : Os) (started : os.Started) (H : Type) (enc : TypeId × Value → H) :
    ReturnsInHanded {} Try.checked os 3 .any (Rows.lebPutsSpec.pre6 enc Try.prog Try.f3 Rows.lebPutsRow.domain false) (Rows.lebPutsSpec.post enc Try.prog Try.f3 false true false false) := by
  refine returnsInHanded_of_change (C := Try.checked) own started (by kernel_rfl) Try.func3
    (ChangeSpec.witness6 (enc := enc) (C := Try.checked) false ⟨#[], #[.int .u64 0, .int .i64 0], []⟩ 8 (by kernel_rfl) (by kernel_rfl) (by kernel_rfl) (by kernel_rfl)) ?_
  intro W base args ds gs before hval0 hW hcnd _
  have hval : ∀ (j : Nat) t v, Try.f3.params[j]? = some t → args[j]? = some v → Value.okWide Try.prog W .any base t v := hval0
  have hW' := hW
  obtain ⟨p, q, hA0, hV, rfl, hfz, hnd⟩ := hW
  have hA : DataW.TrodAll enc Try.prog W 0 (fun _ => true) true Try.f3.params.toList args.toList ds p := hA0
  rw [Try.params3] at hA hval
  obtain ⟨v0, vs0, d0, ds0, p0, q0, hargs, rfl, rfl, h0, r0⟩ := trodAll_cons hA
  obtain ⟨v1, vs1, d1, ds1, p1, q1, rfl, rfl, rfl, h1, r1⟩ := trodAll_cons r0
  obtain ⟨rfl, rfl, rfl⟩ := trodAll_nil r1
  obtain rfl : args = #[v0, v1] := by cases args; simp_all
  obtain ⟨rfl, rfl⟩ := trodVars_none hV
  obtain ⟨a0, rfl, rfl, rfl, w0⟩ := open_int Try.underlying22 (hval 0 22 v0 rfl rfl) h0
  obtain ⟨a1, rfl, rfl, rfl, w1⟩ := open_int Try.underlying3 (hval 1 3 v1 rfl rfl) h1
  clear hA0 hval0
  have t0 := bounds_u64 w0
  have t1 := bounds_i64 w1
  refine (walk a0 a1 t0.1 t0.2 t1.1 t1.2 W).mono fun e W' ⟨he, bel⟩ => ?_
  subst he
  exact ⟨_, rfl, _, _, _, [], _, [], hW', trodAll_mk1 (shut_bool Try.underlying4 _), (trodAll_cons_mk (shut_int Try.underlying22 w0) (trodAll_cons_mk (shut_int Try.underlying3 w1) trodAll_mk0)), rfl, bel.frame _, fun h => by cases h⟩
theorem over : Rows.lebPutsRow.holds Try.pinned (OpenSpec.ofChange Rows.lebPutsSpec) :=
  OpenClaim.holds_of_wide 3 Try.f3 rfl rfl rfl rfl rfl rfl rfl ⟨rfl, rfl, rfl, rfl, rfl⟩ rfl rfl rfl rfl rfl (by kernel_rfl) Try.func3 (by kernel_rfl)
    (of_decide_eq_true (by kernel_rfl)) (by unfold Func.isWrapper; first | (rw [if_pos (by decide +kernel)]; kernel_rfl) | (rw [if_neg (by decide +kernel)]; exact ⟨rfl, rfl⟩))
    (fun os started H enc _ => lifted os started H enc)
theorem lebPuts_holds : Rows.LebPutsSaid := over
#print axioms lebPuts_holds
end Go.Proofs.Ytnhnmbmbldhpnaa.lebPuts
