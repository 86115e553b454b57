/- For every two texts s and t the law UtfJoins returns true and both read as before; conditions: none but the form's own reach (each text of at most 140737488351232 bytes). -/
import Derived.Test.YtipalibkonggkaaRows
import Derived.Test.YtipalibkonggkaaJoin
import Derived.SizedLaws
import Derived.ChangeOld
import Derived.ShutString
namespace Go.Proofs.Ytipalibkonggkaa.utfJoins
open Go.ChangeShapes Go.WideShapes Go.ChangeAt Go.RowKit Go.Proofs.Ytipalibkonggkaa Go.Proofs.Ytipalibkonggkaa.Base Go.Proofs.Ytipalibkonggkaa.Small Go.Proofs.Ytipalibkonggkaa.Length Go.Proofs.Ytipalibkonggkaa.Valid Go.Proofs.Ytipalibkonggkaa.Own Go.Proofs.Ytipalibkonggkaa.Place Go.Proofs.Ytipalibkonggkaa.Word Go.Proofs.Ytipalibkonggkaa.Awake Go.Proofs.Ytipalibkonggkaa.Join
open Go.ChangeMaps (open_string shut_string)
set_option linter.unusedVariables false

theorem walk_bad (s t d : ByteArray) (m E : Nat) (hs : s.size ≤ 140737488351232) (hm : m < s.size) (hd : s.extract 0 m = d)
    (c7s : ∀ w, Calls Try.prog 7 #[.string s] w fun r w' => r = .returned (.tuple #[.int .i64 m, .int .i64 300]) ∧ Below w.heap.size w w')
    (c7t : ∀ w, Calls Try.prog 7 #[.string t] w fun r w' => r = .returned (.tuple #[.int .i64 (vat t), .int .i64 E]) ∧ Below w.heap.size w w')
    (c7d : ∀ w, Calls Try.prog 7 #[.string d] w fun r w' => r = .returned (.tuple #[.int .i64 0, .int .i64 0]) ∧ Below w.heap.size w w') (w : World) :
    Calls Try.prog 6 #[.string s, .string t] w fun r w' => r = .returned (.bool true) ∧ Below w.heap.size w w' := by
  have h1 : decide ((m : Int) < 0) = false := by simp
  have h2 : decide ((s.size : Int) ≤ (m : Int)) = false := by simp; omega
  go_enter Try.func6, Try.ntmps6
  go_wp2_with (first
    | (go_at_call 7; have z := b3; clear z; refine (c7d _).mono ?_; rintro e w4 ⟨rfl, b4⟩)
    | (go_at_call 7; have z := b2; clear z; refine (c7t _).mono ?_; rintro e w3 ⟨rfl, b3⟩)
    | (go_at_call 7; have z := b1; clear z; refine (c7s _).mono ?_; rintro e w2 ⟨rfl, b2⟩)
    | (go_at_call 10; refine (awake_c _).mono ?_; rintro e w1 ⟨rfl, b1⟩)
    | (go_at_call 9; refine (num_c _ _).mono ?_; rintro e w' ⟨rfl, rfl⟩))
  go_ret
  exact ⟨rfl, nx (nx (nx b1 b2) b3) b4⟩
theorem walk_ok (s t u : ByteArray) (E : Nat) (hs : s.size ≤ 140737488351232) (ht : t.size ≤ 140737488351232) (hu : s ++ t = u) (ok : bad s 0 = none)
    (c7s : ∀ w, Calls Try.prog 7 #[.string s] w fun r w' => r = .returned (.tuple #[.int .i64 0, .int .i64 0]) ∧ Below w.heap.size w w')
    (c7t : ∀ w, Calls Try.prog 7 #[.string t] w fun r w' => r = .returned (.tuple #[.int .i64 (vat t), .int .i64 E]) ∧ Below w.heap.size w w')
    (c7u : ∀ w, Calls Try.prog 7 #[.string u] w fun r w' => r = .returned (.tuple #[.int .i64 (vat u), .int .i64 E]) ∧ Below w.heap.size w w') (w : World) :
    Calls Try.prog 6 #[.string s, .string t] w fun r w' => r = .returned (.bool true) ∧ Below w.heap.size w w' := by
  have OK : Hid (bad s 0 = none) := ok
  clear ok
  go_enter Try.func6, Try.ntmps6
  go_wp2_with (first
    | (go_at_call 7; have z := b3; clear z; refine (c7u _).mono ?_; rintro e w4 ⟨rfl, b4⟩)
    | (go_at_call 7; have z := b2; clear z; refine (c7t _).mono ?_; rintro e w3 ⟨rfl, b3⟩)
    | (go_at_call 7; have z := b1; clear z; refine (c7s _).mono ?_; rintro e w2 ⟨rfl, b2⟩)
    | (go_at_call 10; refine (awake_c _).mono ?_; rintro e w1 ⟨rfl, b1⟩)
    | (go_at_call 11; refine (in_c s s.size hs (Nat.le_refl _) _).mono ?_; rintro e w' ⟨rfl, rfl⟩)
    | (go_at_call 9; refine (num_c _ _).mono ?_; rintro e w' ⟨rfl, rfl⟩))
  have B : Below w.heap.size w w' := nx (nx (nx b1 b2) b3) b4
  clear b1 b2 b3 b4
  go_loopw [16, 17] (fun l c wr => ∃ n : Nat, n ≤ s.size ∧ wr = w'.iter s n ∧ l = .int .i64 (ln s n) ∧ c = .int .i64 (cl s n) ∧ bad s n = none) (fun _ _ wr => s.size - wr.iterPos w'.heap.size)
  case atStart => exact ⟨0, by omega, rfl, rfl, rfl, OK.out⟩
  case round =>
    obtain ⟨n, hn, rfl, rfl, rfl, hb⟩ := hrel
    have HB : Hid (bad s n = none) := hb
    clear hb
    have l1 := ln_le s n
    have l2 := cl_le s n
    by_cases hlt : n < s.size
    · have hnx : ∀ ty, (Instr.next (.pointer (some ⟨w'.heap.size, 0, none⟩)) true ty).run Try.prog (w'.iter s n) = _ := fun ty => run_next_any w' s n ty hlt
      obtain ⟨_, hd2, hd3⟩ := dec_len s n
      have hi := len_in hlt
      have hz : len s n ≠ 0 := fun hz => by have := HB.out; rw [bad_here hlt hz] at this; cases this
      have hw := hd2 hz
      have hN : Hid (bad s (n + len s n) = none) := (bad_step hlt hz).symm.trans HB.out
      by_cases c : at' s n = 10
      · have q : (Utf8.decode s n).1 = 10 := hd3.mpr c
        have st := step_lf hz c
        clear hd2 hd3
        go_wp2
        go_roundw
        case rel => exact ⟨n + len s n, hi, rfl, by rw [st.1]; go_num, by rw [st.2]; go_num, hN.out⟩
        case measure => simp; omega
      · have q : (((Utf8.decode s n).1 : Int) == 10) = false := by
          have : ¬ (Utf8.decode s n).1 = 10 := fun e => c (hd3.mp e)
          simp
          omega
        have st := step_ch hz c
        clear hd2 hd3
        go_wp2
        go_roundw
        case rel => exact ⟨n + len s n, hi, rfl, by rw [st.1], by rw [st.2]; go_num, hN.out⟩
        case measure => simp; omega
    · have hnx : ∀ ty, (Instr.next (.pointer (some ⟨w'.heap.size, 0, none⟩)) true ty).run Try.prog (w'.iter s n) = _ := fun ty => run_next_end w' s n ty hlt
      obtain rfl : n = s.size := by omega
      go_wp2_with (first | (go_at_call 9; refine (num_c _ _).mono ?_; rintro e w2 ⟨rfl, rfl⟩))
      go_ret
      exact ⟨rfl, B.alloc B.size _⟩
theorem walk (s t : ByteArray) (hs : s.size ≤ 140737488351232) (ht : t.size ≤ 140737488351232) (w : World) :
    Calls Try.prog 6 #[.string s, .string t] w fun r w' => r = .returned (.bool true) ∧ Below w.heap.size w w' := by
  cases h : bad s 0 with
  | some m =>
    obtain ⟨hm, hd⟩ := bad_cut h
    have hdz : (s.extract 0 m).size ≤ 9223372036854775807 := by simp; omega
    obtain ⟨e1, e2⟩ := verr_some h
    obtain ⟨f1, f2⟩ := verr_none hd
    refine walk_bad s t _ m (verr t) hs hm rfl (fun w => ?_) (fun w => valid_b t (by omega) w) (fun w => ?_) w
    · have c := valid_b s (by omega) w
      rw [e1, e2] at c
      exact c
    · have c := valid_b (s.extract 0 m) hdz w
      rw [f1, f2] at c
      exact c
  | none =>
    obtain ⟨e1, e2⟩ := verr_none h
    have ej := verr_join (t := t) h
    refine walk_ok s t _ (verr t) hs ht rfl h (fun w => ?_) (fun w => valid_b t (by omega) w) (fun w => ?_) w
    · have c := valid_b s (by omega) w
      rw [e1, e2] at c
      exact c
    · have c := valid_b (s ++ t) (by simp; omega) w
      rw [ej] at c
      exact c

theorem own : ownKnob Try.prog.godebug = none := by kernel_rfl
set_option maxRecDepth 100000 in
theorem lifted (os : Os) (started : os.Started) (H : Type) (enc : TypeId × Value → H) :
    ReturnsInHanded {} Try.checked os 6 .any (Rows.utfJoinsSpec.pre6 enc Try.prog Try.f6 Rows.utfJoinsRow.domain false) (Rows.utfJoinsSpec.post enc Try.prog Try.f6 false true false false) := by
  refine returnsInHanded_of_change_sized (C := Try.checked) own started (by kernel_rfl) Try.func6
    (ChangeSpec.witness6 (enc := enc) (C := Try.checked) false ⟨#[], #[.string ByteArray.empty, .string ByteArray.empty], []⟩ 8 (by kernel_rfl) (by kernel_rfl) (by kernel_rfl) (by kernel_rfl)) ?_
  intro W base args ds gs before hval0 hW hcnd hsz0 _
  have hval : ∀ (j : Nat) t v, Try.f6.params[j]? = some t → args[j]? = some v → Value.okWide Try.prog W .any base t v := hval0
  have hsz : (DataW.weightsEach Try.prog (Try.f6.params.toList ++ Rows.utfJoinsSpec.plain.varTypes Try.prog) (ds ++ gs)).all (· ≤ reachBytes) = true := hsz0
  have hW' := hW
  obtain ⟨p, q, hA0, hV, rfl, hfz, hnd⟩ := hW
  have hA : DataW.TrodAll enc Try.prog W 0 (fun _ => true) true Try.f6.params.toList args.toList ds p := hA0
  rw [Try.params6] at hA hval hsz
  obtain ⟨v0, vs0, d0, ds0, p0, q0, hargs, rfl, rfl, h0, r0⟩ := trodAll_cons hA
  obtain ⟨v1, vs1, d1, ds1, p1, q1, rfl, rfl, rfl, h1, r1⟩ := trodAll_cons r0
  obtain ⟨rfl, rfl, rfl⟩ := trodAll_nil r1
  obtain rfl : args = #[v0, v1] := by cases args; simp_all
  obtain ⟨rfl, rfl⟩ := trodVars_none hV
  obtain ⟨a0, rfl, rfl, rfl, w0⟩ := open_string Try.underlying9 (hval 0 9 v0 rfl rfl) h0
  have s0 : a0.size ≤ 140737488351232 := by
    have hw := sized_string hsz (j := 0) (t := 9) rfl rfl
    simp only [reachBytes] at hw
    have hl : a0.data.toList.length = a0.size := Array.length_toList
    omega
  obtain ⟨a1, rfl, rfl, rfl, w1⟩ := open_string Try.underlying9 (hval 1 9 v1 rfl rfl) h1
  have s1 : a1.size ≤ 140737488351232 := by
    have hw := sized_string hsz (j := 1) (t := 9) rfl rfl
    simp only [reachBytes] at hw
    have hl : a1.data.toList.length = a1.size := Array.length_toList
    omega
  clear hA0 hval0 hsz0
  refine (walk a0 a1 s0 s1 W).mono fun e W' ⟨he, bel⟩ => ?_
  subst he
  exact ⟨_, rfl, _, _, _, [], _, [], hW', trodAll_mk1 (shut_bool Try.underlying4 _), (trodAll_cons_mk (shut_string Try.underlying9 w0) (trodAll_cons_mk (shut_string Try.underlying9 w1) trodAll_mk0)), rfl, bel.frame _, fun h => by cases h⟩
theorem over : Rows.utfJoinsRow.holds Try.pinned (OpenSpec.ofChange Rows.utfJoinsSpec) :=
  OpenClaim.holds_of_wide 6 Try.f6 rfl rfl rfl rfl rfl rfl rfl ⟨rfl, rfl, rfl, rfl, rfl⟩ rfl rfl rfl rfl rfl (by kernel_rfl) Try.func6 (by kernel_rfl)
    (of_decide_eq_true (by kernel_rfl)) (by unfold Func.isWrapper; first | (rw [if_pos (by decide +kernel)]; kernel_rfl) | (rw [if_neg (by decide +kernel)]; exact ⟨rfl, rfl⟩))
    (fun os started H enc _ => lifted os started H enc)
theorem utfJoins_holds : Rows.UtfJoinsSaid := over
#print axioms utfJoins_holds
end Go.Proofs.Ytipalibkonggkaa.utfJoins
