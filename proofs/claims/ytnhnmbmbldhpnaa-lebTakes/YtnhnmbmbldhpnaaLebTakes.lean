/- Proved: for all bytes b, of whatever length and spare room, and every int at the call stencillaw2.LebTakes(b, at) of the landed program returns true, and b reads as before. Conditions: none beside those of the given row. -/
import Derived.Test.YtnhnmbmbldhpnaaRows
import Derived.Test.YtnhnmbmbldhpnaaArg
namespace Go.Proofs.Ytnhnmbmbldhpnaa.lebTakes
open Go.ChangeShapes Go.WideShapes Go.ChangeAt Go.RowKit Go.Proofs.Ytnhnmbmbldhpnaa.Base
set_option linter.unusedVariables false

set_option maxHeartbeats 1600000 in
theorem walk (v : Value) (L : List UInt8) (s : Int) (w : World) (h : Seen w v L) (hl : L.length ≤ 140737488351232) (s0 : -9223372036854775808 ≤ s) (s1 : s ≤ 9223372036854775807) :
    Calls Try.prog 4 #[v, .int .i64 s] w fun e w' => e = .returned (.bool true) ∧ Below w.heap.size w w' := by
  obtain ⟨r, hr⟩ : ∃ r, tk L s = r := ⟨_, rfl⟩
  obtain ⟨X, T, E⟩ := r
  have c13 : ∀ (w : World) v, Seen w v L → Calls Try.prog 13 #[v, .int .i64 s] w fun e w' => e = .returned (.tuple #[.int .u64 X, .int .i64 T, .int .i64 E]) ∧ w' = w := fun w v h => by
    have := take_c v L s w h
    rw [hr] at this
    exact this
  have c14 : ∀ (w : World) v, Seen w v L → Calls Try.prog 14 #[v, .int .i64 s] w fun e w' => e = .returned (.tuple #[.int .i64 (unz X), .int .i64 T, .int .i64 E]) ∧ w' = w := fun w v h => by
    have := takei_c v L s w h
    rw [hr] at this
    exact this
  have c18 : ∀ (w : World) v, Seen w v L → Calls Try.prog 18 #[v, .int .i64 s] w fun e w' => e = .returned (.tuple #[.int .u64 X, .int .i64 T, .int .i64 E]) ∧ w' = w := fun w v h => by
    have := rtake_c v L s w h
    rw [hr] at this
    exact this
  have c19 : ∀ (w : World) v, Seen w v L → Calls Try.prog 19 #[v, .int .i64 s] w fun e w' => e = .returned (.tuple #[.int .i64 (unz X), .int .i64 T, .int .i64 E]) ∧ w' = w := fun w v h => by
    have := rtakei_c v L s w h
    rw [hr] at this
    exact this
  have c17 := lend_c v L w h hl
  clear hr
  go_enter Try.func4, Try.ntmps4
  go_wp2_with (first
    | (go_at_call 17; refine c17.mono ?_; rintro e w1 ⟨g, k, rfl, o1, b1⟩; have x1 := seen_front o1.seen; have h1 := seen_below h b1)
    | (go_at_call 13; refine (c13 _ _ x1).mono ?_; rintro e w' ⟨rfl, rfl⟩)
    | (go_at_call 14; refine (c14 _ _ x1).mono ?_; rintro e w' ⟨rfl, rfl⟩)
    | (go_at_call 18; refine (c18 _ _ h1).mono ?_; rintro e w' ⟨rfl, rfl⟩)
    | (go_at_call 19; refine (c19 _ _ h1).mono ?_; rintro e w' ⟨rfl, rfl⟩)
    | (go_at_call 20; refine (kept_c _ _ _ L _ o1.seen h1 hl).mono ?_; rintro e w' ⟨rfl, rfl⟩)
    | (go_at_call 15; refine (num_c _ _).mono ?_; rintro e w' ⟨rfl, rfl⟩)
    | (go_at_call 16; refine (awake_c _).mono ?_; rintro e w2 ⟨rfl, b2⟩))
  go_ret
  exact ⟨rfl, nx b1 b2⟩
set_option maxRecDepth 100000 in
theorem lifted (os : Os) (started : os.Started) (H : Type) (enc : TypeId × Value → H) :
    ReturnsInHanded {} Try.checked os 4 .any (Rows.lebTakesSpec.pre6 enc Try.prog Try.f4 Rows.lebTakesRow.domain false) (Rows.lebTakesSpec.post enc Try.prog Try.f4 false true false false) := by
  refine returnsInHanded_of_change_sized (C := Try.checked) own started (by kernel_rfl) Try.func4
    (ChangeSpec.witness6 (enc := enc) (C := Try.checked) false ⟨#[], #[.slice none 0 0, .int .i64 0], []⟩ 8 (by kernel_rfl) (by kernel_rfl) (by kernel_rfl) (by kernel_rfl)) ?_
  intro W base args ds gs before hval0 hW hcnd hsz0 _
  have hval : ∀ (j : Nat) t v, Try.f4.params[j]? = some t → args[j]? = some v → Value.okWide Try.prog W .any base t v := hval0
  have hsz : (DataW.weightsEach Try.prog (Try.f4.params.toList ++ Rows.lebTakesSpec.plain.varTypes Try.prog) (ds ++ gs)).all (· ≤ reachBytes) = true := hsz0
  have hW' := hW
  obtain ⟨p, q, hA0, hV, rfl, hfz, hnd⟩ := hW
  have hA : DataW.TrodAll enc Try.prog W 0 (fun _ => true) true Try.f4.params.toList args.toList ds p := hA0
  rw [Try.params4] at hA hval hsz
  obtain ⟨v0, vs0, d0, ds0, p0, q0, hargs, rfl, rfl, h0, r0⟩ := trodAll_cons hA
  obtain ⟨v1, vs1, d1, ds1, p1, q1, rfl, rfl, rfl, h1, r1⟩ := trodAll_cons r0
  obtain ⟨rfl, rfl, rfl⟩ := trodAll_nil r1
  obtain rfl : args = #[v0, v1] := by cases args; simp_all
  obtain ⟨rfl, rfl⟩ := trodVars_none hV
  obtain ⟨a0, len0, cap0, rfl⟩ := okWide_slice Try.underlying23 (hval 0 23 v0 rfl rfl)
  have k0 := h0
  have lt0 : ∀ x ∈ p0, x.block < W.heap.size := by obtain ⟨m, hm⟩ := k0; exact DataW.trod_lt m _ _ _ hm
  obtain ⟨L, w0, hl0⟩ : ∃ L, Seen W (.slice a0 len0 cap0) L ∧ L.length ≤ 140737488351232 := by
    obtain ⟨fuel, hf⟩ := h0
    rcases open_ints Try.underlying23 Try.underlying5 (by kernel_rfl) hf with ⟨hcs, _⟩ | ⟨x, l, c, zs, hcs, _, hl, hm, hz, hd, hcell, hwz⟩
    · simp [Value.cells] at hcs
      obtain ⟨rfl, rfl, rfl⟩ := hcs
      exact ⟨[], seen_nil W, by simp⟩
    · simp [Value.cells] at hcs
      obtain ⟨rfl, rfl, rfl⟩ := hcs
      have hz' : zs.length = cap0 := by simpa using hz
      obtain ⟨hs, hlen⟩ := seen_of hl hm hz' hcell hwz
      refine ⟨_, hs, ?_⟩
      obtain ⟨rfl, _⟩ := Prod.mk.inj hd
      have hw := sized_slice hsz (j := 0) (t := 23) (e := 5) rfl rfl Try.underlying23
      rw [bytes5] at hw
      simp only [lits, List.length_map, List.length_take, List.length_drop, reachBytes] at hw
      omega
  obtain ⟨a1, rfl, rfl, rfl, w1⟩ := open_int Try.underlying3 (hval 1 3 v1 rfl rfl) h1
  clear hA0 hval0 hsz0
  have t1 := bounds_i64 w1
  refine (walk _ L a1 W w0 hl0 t1.1 t1.2).mono fun e W' ⟨he, bel⟩ => ?_
  subst he
  exact ⟨_, rfl, _, _, _, [], _, [], hW', trodAll_mk1 (shut_bool Try.underlying4 _), (trodAll_cons_mk (Below.trod laidOut (by kernel_rfl) (of_decide_eq_true (by kernel_rfl)) k0 bel lt0) (trodAll_cons_mk (shut_int Try.underlying3 w1) trodAll_mk0)), rfl, bel.frame _, fun h => by cases h⟩
theorem over : Rows.lebTakesRow.holds Try.pinned (OpenSpec.ofChange Rows.lebTakesSpec) :=
  OpenClaim.holds_of_wide 4 Try.f4 rfl rfl rfl rfl rfl rfl rfl ⟨rfl, rfl, rfl, rfl, rfl⟩ rfl rfl rfl rfl rfl (by kernel_rfl) Try.func4 (by kernel_rfl)
    (of_decide_eq_true (by kernel_rfl)) (by unfold Func.isWrapper; first | (rw [if_pos (by decide +kernel)]; kernel_rfl) | (rw [if_neg (by decide +kernel)]; exact ⟨rfl, rfl⟩))
    (fun os started H enc _ => lifted os started H enc)
theorem lebTakes_holds : Rows.LebTakesSaid := over
#print axioms lebTakes_holds
end Go.Proofs.Ytnhnmbmbldhpnaa.lebTakes
