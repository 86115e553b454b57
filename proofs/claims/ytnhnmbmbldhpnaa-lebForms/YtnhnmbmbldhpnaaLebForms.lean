/- Proved: for all bytes b, of whatever length and spare room, and every int at the call stencillaw2.LebForms(b, at) of the landed program returns true, and b reads as before. Conditions: none beside those of the given row. -/
import Derived.Test.YtnhnmbmbldhpnaaRows
import Derived.Test.YtnhnmbmbldhpnaaArg
import Derived.Deep.RegionHeld3
namespace Go.Proofs.Ytnhnmbmbldhpnaa.lebForms
open Go.ChangeShapes Go.WideShapes Go.ChangeAt Go.RowKit Go.Proofs.Ytnhnmbmbldhpnaa.Base
set_option linter.unusedVariables false

/-- A cut of what is seen is seen. -/
theorem seen_mid {w : World} {g o len cap : Nat} {L : List UInt8} (h : Seen w (.slice (some ⟨g, o, none⟩) len cap) L) (m n : Nat) (hn : m + n ≤ L.length) : Seen w (.slice (some ⟨g, o + m, none⟩) n (cap - m)) ((L.drop m).take n) := by
  obtain ⟨a, cap', e, hlc, hm, hnil, hcell⟩ := h
  obtain ⟨e1, e3, e2⟩ := Value.slice.inj e
  subst e1 e2
  have hlen : ((L.drop m).take n).length = n := by rw [List.length_take, List.length_drop]; omega
  refine ⟨some ⟨g, o + m, none⟩, cap - m, by rw [hlen], by rw [hlen]; omega, by omega, (fun h => by cases h), fun g' o' s' h j hj => ?_⟩
  cases h
  rw [hlen] at hj
  have := (hcell g o none rfl (m + j) (by omega)).2
  refine ⟨rfl, ?_⟩
  rw [Nat.add_assoc, this]
  simp
theorem below_seen {w w' : World} {v : Value} {L : List UInt8} (hb : Below w.heap.size w w') (h : Seen w v L) : Seen w' v L := seen_below h hb
theorem mid_seen {w : World} {g o len cap m K : Nat} {L P : List UInt8} (h : Seen w (.slice (some ⟨g, o, none⟩) len cap) L) (hl : Hid (L.length = len)) (hm : Hid ((L.drop m).take (K + 1 - m) = P)) (h1 : m ≤ K) (h2 : K + 1 ≤ len) :
    Seen w (.slice (some ⟨g, o + m, none⟩) (K + 1 - m) (cap - m)) P := by
  have t := seen_mid h m (K + 1 - m) (by rw [hl.out]; omega)
  rw [hm.out] at t
  exact t
theorem front_seen {w : World} {g o len cap K : Nat} {L : List UInt8} (h : Seen w (.slice (some ⟨g, o, none⟩) len cap) L) (hl : Hid (L.length = len)) (h2 : K ≤ len) : Seen w (.slice (some ⟨g, o, none⟩) K cap) (L.take K) :=
  seen_mid h 0 K (by rw [hl.out]; omega)
/-- No number stands there. -/
theorem walk_err (v : Value) (L : List UInt8) (s : Int) (E : Nat) (hE : E = 200 ∨ E = 201) (w : World) (h : Seen w v L) (hl : L.length ≤ 140737488351232) (hr : tk L s = (0, 0, E)) :
    Calls Try.prog 5 #[v, .int .i64 s] w fun e w' => e = .returned (.bool true) ∧ Below w.heap.size w w' := by
  have c13 : ∀ (w : World) v, Seen w v L → Calls Try.prog 13 #[v, .int .i64 s] w fun e w' => e = .returned (.tuple #[.int .u64 0, .int .i64 0, .int .i64 E]) ∧ w' = w := fun w v h => by
    have := take_c v L s w h
    rw [hr] at this
    exact this
  have c21 : ∀ w : World, Seen w v L → Calls Try.prog 21 #[v] w fun e w' => ∃ u, e = .returned u ∧ u ≠ .slice none 0 0 ∧ Own w' w.heap.size u L ∧ Below w.heap.size w w' := fun w h => copy_c v L w h (by omega)
  clear hr
  rcases hE with rfl | rfl
  all_goals
    go_enter Try.func5, Try.ntmps5
    go_wp2_with (first
      | (go_at_call 16; refine (awake_c _).mono ?_; rintro e w1 ⟨rfl, b1⟩; have h1 := seen_below h b1)
      | (go_at_call 21; refine (c21 _ h1).mono ?_; rintro e w2 ⟨u, rfl, hu, o2, b2⟩)
      | (go_at_call 13; refine (c13 _ _ o2.seen).mono ?_; rintro e w' ⟨rfl, rfl⟩)
      | (go_at_call 15; refine (num_c _ _).mono ?_; rintro e w' ⟨rfl, rfl⟩))
    go_ret
    exact ⟨rfl, nx b1 b2⟩
set_option maxHeartbeats 1600000 in
theorem walk_ok (g o cap m K X len : Nat) (L : List UInt8) (w : World) (hlen : L.length = len) (h : Seen w (.slice (some ⟨g, o, none⟩) len cap) L) (hl : len ≤ 140737488351232) (hX : X < 18446744073709551616)
    (hn : K + 1 ≤ len) (hmK : m ≤ K) (hr : tk L m = (X, K + 1, 0)) (hput : putL X = (L.drop m).take (K + 1 - m)) (hcut : tk (L.take K) m = (0, 0, 200)) :
    Calls Try.prog 5 #[.slice (some ⟨g, o, none⟩) len cap, .int .i64 m] w fun e w' => e = .returned (.bool true) ∧ Below w.heap.size w w' := by
  have c13 : ∀ (w : World) v, Seen w v L → Calls Try.prog 13 #[v, .int .i64 m] w fun e w' => e = .returned (.tuple #[.int .u64 X, .int .i64 ((K : Int) + 1), .int .i64 0]) ∧ w' = w := fun w v h => by
    have := take_c v L m w h
    rw [hr] at this
    exact this
  have d13 : ∀ (w : World) v, Seen w v (L.take K) → Calls Try.prog 13 #[v, .int .i64 m] w fun e w' => e = .returned (.tuple #[.int .u64 0, .int .i64 0, .int .i64 200]) ∧ w' = w := fun w v h => by
    have := take_c v (L.take K) m w h
    rw [hcut] at this
    exact this
  have c7 : Makes 7 (.int .u64 X) (putL X) := makes (putL_ne _) fun w => put_c X hX w
  have c21 : ∀ w : World, Seen w (.slice (some ⟨g, o, none⟩) len cap) L → Calls Try.prog 21 #[.slice (some ⟨g, o, none⟩) len cap] w fun e w' => ∃ u, e = .returned u ∧ u ≠ .slice none 0 0 ∧ Own w' w.heap.size u L ∧ Below w.heap.size w w' := fun w h => copy_c _ L w h (by omega)
  have hcap : len ≤ cap ∧ cap ≤ 9223372036854775807 := by
    obtain ⟨a, cap', e, hlc, hm, _⟩ := h
    obtain ⟨e1, e3, e2⟩ := Value.slice.inj e
    unfold maxLen at hm
    omega
  obtain ⟨hcap, hcm⟩ := hcap
  have hc : ¬ cap = m := by omega
  obtain ⟨P, hP⟩ : ∃ P, P = putL X := ⟨_, rfl⟩
  rw [← hP] at c7
  have HM : Hid ((L.drop m).take (K + 1 - m) = P) := by show _ = _; rw [hP, hput]
  have HL : Hid (L.length = len) := hlen
  have i1 : (0 : Int) ≤ (m : Int) := by omega
  have i2 : (m : Int) ≤ (K : Int) + 1 := by omega
  have i3 : (K : Int) + 1 ≤ (len : Int) := by omega
  have i4 : (K : Int) + 1 ≤ (cap : Int) := by omega
  have t1 : decide ((m : Int) < 0) = false := by simp
  have t2 : decide ((K : Int) + 1 ≤ (m : Int)) = false := by simp; omega
  have t3 : decide ((len : Int) < (K : Int) + 1) = false := by simp; omega
  clear hr hput hcut hP hlen
  go_enter Try.func5, Try.ntmps5
  go_wp2_with (first
    | (go_at_call 16; refine (awake_c _).mono ?_; rintro e w1 ⟨rfl, b1⟩; have h1 := seen_below h b1)
    | (go_at_call 21; refine (c21 _ h1).mono ?_; rintro e w2 ⟨u, rfl, hu, o2, b2⟩; have h2 := seen_below h1 b2)
    | (go_at_call 13; refine (c13 _ _ o2.seen).mono ?_; rintro e w' ⟨rfl, rfl⟩)
    | (go_at_call 15; refine (num_c _ _).mono ?_; rintro e w' ⟨rfl, rfl⟩)
    | fail)
  go_region_held3 (fun w' => True) (go_keep) (first
    | (go_at_call 7; refine (c7 _).mono ?_; rintro e w3 ⟨g3, k3, rfl, l3, u3, q3, b3⟩; have h3 := below_seen b3 h2; have s3 := mid_seen h3 HL HM (by omega) (by omega); have f3 := front_seen h3 HL (K := K) (by omega))
    | (go_at_call 9; refine (same_c _ _ P _ q3.seen s3).mono ?_; rintro e w' ⟨rfl, rfl⟩)
    | fail)
  all_goals go_wp2_with (first
    | (go_at_call 21; refine (copy_c _ (L.take K) _ f3 (by rw [List.length_take]; omega)).mono ?_; rintro e w4 ⟨u4, rfl, hu4, o4, b4⟩)
    | (go_at_call 13; refine (d13 _ _ o4.seen).mono ?_; rintro e w' ⟨rfl, rfl⟩)
    | (go_at_call 15; refine (num_c _ _).mono ?_; rintro e w' ⟨rfl, rfl⟩))
  go_ret
  exact ⟨rfl, nx (nx (nx b1 b2).drew b3) b4⟩
theorem walk (v : Value) (L : List UInt8) (s : Int) (w : World) (h : Seen w v L) (hl : L.length ≤ 140737488351232) (s0 : -9223372036854775808 ≤ s) (s1 : s ≤ 9223372036854775807) :
    Calls Try.prog 5 #[v, .int .i64 s] w fun e w' => e = .returned (.bool true) ∧ Below w.heap.size w w' := by
  by_cases hE : (tk L s).2.2 = 0
  · obtain ⟨n, hs, hn, hle, hT, hput, hcut⟩ := tk_back hE
    have hX := tk_lt L s
    obtain ⟨m, rfl⟩ : ∃ m : Nat, s = (m : Int) := ⟨s.toNat, by omega⟩
    rw [Int.toNat_natCast] at hle hT hput hcut
    obtain ⟨r, hr⟩ : ∃ r, tk L (m : Int) = r := ⟨_, rfl⟩
    obtain ⟨X, T, E⟩ := r
    rw [hr] at hE hT hput hX
    simp only at hE hT hput hX
    have hv := h
    obtain ⟨a, cap, rfl, hlc, hm, hnil, hcell⟩ := hv
    cases a with
    | none => have := hnil rfl; omega
    | some x =>
      obtain ⟨g, o, sp⟩ := x
      obtain rfl : sp = none := (hcell g o sp rfl 0 (by omega)).1
      have e1 : m + n - 1 + 1 = m + n := by omega
      have e2 : m + n - 1 + 1 - m = n := by omega
      exact walk_ok g o cap m (m + n - 1) X L.length L w rfl h hl hX (by omega) (by omega) (by rw [hr, hT, hE, e1]) (by rw [e2]; exact hput) hcut
  · rcases tk_err hE with hr | hr
    · exact walk_err v L s 200 (.inl rfl) w h hl hr
    · exact walk_err v L s 201 (.inr rfl) w h hl hr
set_option maxRecDepth 100000 in
theorem lifted (os : Os) (started : os.Started) (H : Type) (enc : TypeId × Value → H) :
    ReturnsInHanded {} Try.checked os 5 .any (Rows.lebFormsSpec.pre6 enc Try.prog Try.f5 Rows.lebFormsRow.domain false) (Rows.lebFormsSpec.post enc Try.prog Try.f5 false true false false) := by
  refine returnsInHanded_of_change_sized (C := Try.checked) own started (by kernel_rfl) Try.func5
    (ChangeSpec.witness6 (enc := enc) (C := Try.checked) false ⟨#[], #[.slice none 0 0, .int .i64 0], []⟩ 8 (by kernel_rfl) (by kernel_rfl) (by kernel_rfl) (by kernel_rfl)) ?_
  intro W base args ds gs before hval0 hW hcnd hsz0 _
  have hval : ∀ (j : Nat) t v, Try.f5.params[j]? = some t → args[j]? = some v → Value.okWide Try.prog W .any base t v := hval0
  have hsz : (DataW.weightsEach Try.prog (Try.f5.params.toList ++ Rows.lebFormsSpec.plain.varTypes Try.prog) (ds ++ gs)).all (· ≤ reachBytes) = true := hsz0
  have hW' := hW
  obtain ⟨p, q, hA0, hV, rfl, hfz, hnd⟩ := hW
  have hA : DataW.TrodAll enc Try.prog W 0 (fun _ => true) true Try.f5.params.toList args.toList ds p := hA0
  rw [Try.params5] at hA hval hsz
  obtain ⟨v0, vs0, d0, ds0, p0, q0, hargs, rfl, rfl, h0, r0⟩ := trodAll_cons hA
  obtain ⟨v1, vs1, d1, ds1, p1, q1, rfl, rfl, rfl, h1, r1⟩ := trodAll_cons r0
  obtain ⟨rfl, rfl, rfl⟩ := trodAll_nil r1
  obtain rfl : args = #[v0, v1] := by cases args; simp_all
  obtain ⟨rfl, rfl⟩ := trodVars_none hV
  obtain ⟨a0, len0, cap0, rfl⟩ := okWide_slice Try.underlying23 (hval 0 23 v0 rfl rfl)
  have k0 := h0
  have lt0 : ∀ x ∈ p0, x.block < W.heap.size := by obtain ⟨m, hm⟩ := k0; exact DataW.trod_lt m _ _ _ hm
  obtain ⟨L, w0, hl0⟩ : ∃ L, Seen W (.slice a0 len0 cap0) L ∧ L.length ≤ 140737488351232 := by
    obtain ⟨fuel, hf⟩ := h0
    rcases open_ints Try.underlying23 Try.underlying5 (by kernel_rfl) hf with ⟨hcs, _⟩ | ⟨x, l, c, zs, hcs, _, hl, hm, hz, hd, hcell, hwz⟩
    · simp [Value.cells] at hcs
      obtain ⟨rfl, rfl, rfl⟩ := hcs
      exact ⟨[], seen_nil W, by simp⟩
    · simp [Value.cells] at hcs
      obtain ⟨rfl, rfl, rfl⟩ := hcs
      have hz' : zs.length = cap0 := by simpa using hz
      obtain ⟨hs, hlen⟩ := seen_of hl hm hz' hcell hwz
      refine ⟨_, hs, ?_⟩
      obtain ⟨rfl, _⟩ := Prod.mk.inj hd
      have hw := sized_slice hsz (j := 0) (t := 23) (e := 5) rfl rfl Try.underlying23
      rw [bytes5] at hw
      simp only [lits, List.length_map, List.length_take, List.length_drop, reachBytes] at hw
      omega
  obtain ⟨a1, rfl, rfl, rfl, w1⟩ := open_int Try.underlying3 (hval 1 3 v1 rfl rfl) h1
  clear hA0 hval0 hsz0
  have t1 := bounds_i64 w1
  refine (walk _ L a1 W w0 hl0 t1.1 t1.2).mono fun e W' ⟨he, bel⟩ => ?_
  subst he
  exact ⟨_, rfl, _, _, _, [], _, [], hW', trodAll_mk1 (shut_bool Try.underlying4 _), (trodAll_cons_mk (Below.trod laidOut (by kernel_rfl) (of_decide_eq_true (by kernel_rfl)) k0 bel lt0) (trodAll_cons_mk (shut_int Try.underlying3 w1) trodAll_mk0)), rfl, bel.frame _, fun h => by cases h⟩
theorem over : Rows.lebFormsRow.holds Try.pinned (OpenSpec.ofChange Rows.lebFormsSpec) :=
  OpenClaim.holds_of_wide 5 Try.f5 rfl rfl rfl rfl rfl rfl rfl ⟨rfl, rfl, rfl, rfl, rfl⟩ rfl rfl rfl rfl rfl (by kernel_rfl) Try.func5 (by kernel_rfl)
    (of_decide_eq_true (by kernel_rfl)) (by unfold Func.isWrapper; first | (rw [if_pos (by decide +kernel)]; kernel_rfl) | (rw [if_neg (by decide +kernel)]; exact ⟨rfl, rfl⟩))
    (fun os started H enc _ => lifted os started H enc)
theorem lebForms_holds : Rows.LebFormsSaid := over
#print axioms lebForms_holds
end Go.Proofs.Ytnhnmbmbldhpnaa.lebForms
