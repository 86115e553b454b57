/- For all texts s and t that hold together at most 1048576 values and letters the law HtmlTexts returns true and both read as before; conditions: that bound alone. -/
import Derived.Test.YtfcgbcjffabmoaaRows
import Derived.Test.YtfcgbcjffabmoaaAwake
import Derived.JoinedCond
import Derived.ChangeOld
import Derived.ShutString
namespace Go.Proofs.Ytfcgbcjffabmoaa.htmlTexts
open Go.ChangeShapes Go.WideShapes Go.ChangeAt Go.RowKit Go.Proofs.Ytfcgbcjffabmoaa Go.Proofs.Ytfcgbcjffabmoaa.Base Go.Proofs.Ytfcgbcjffabmoaa.Small Go.Proofs.Ytfcgbcjffabmoaa.Awake
open Go.ChangeMaps (open_string shut_string)
set_option linter.unusedVariables false

/-- The walk, the answers under letters. -/
theorem way (s t u A B C D : ByteArray) (hs : s.size ≤ 1048576) (ht : t.size ≤ 1048576) (hu : s ++ t = u)
    (c6s : ∀ w, Calls Try.prog 6 #[.string s] w fun r w' => r = .returned (.string A) ∧ Below w.heap.size w w')
    (c6t : ∀ w, Calls Try.prog 6 #[.string t] w fun r w' => r = .returned (.string B) ∧ Below w.heap.size w w')
    (c6u : ∀ w, Calls Try.prog 6 #[.string u] w fun r w' => r = .returned (.string (A ++ B)) ∧ Below w.heap.size w w')
    (c7s : ∀ w, Calls Try.prog 7 #[.string s] w fun r w' => r = .returned (.string A) ∧ Below w.heap.size w w')
    (c8s : ∀ w, Calls Try.prog 8 #[.string s] w fun r w' => r = .returned (.string C) ∧ Below w.heap.size w w')
    (c8t : ∀ w, Calls Try.prog 8 #[.string t] w fun r w' => r = .returned (.string D) ∧ Below w.heap.size w w')
    (c8u : ∀ w, Calls Try.prog 8 #[.string u] w fun r w' => r = .returned (.string (C ++ D)) ∧ Below w.heap.size w w')
    (c9s : ∀ w, Calls Try.prog 9 #[.string s] w fun r w' => r = .returned (.string C) ∧ Below w.heap.size w w')
    (hA : A.size ≤ 8388608) (hB : B.size ≤ 8388608) (hC : C.size ≤ 8388608) (hD : D.size ≤ 8388608) (w : World) :
    Calls Try.prog 3 #[.string s, .string t] w fun r w' => r = .returned (.bool true) ∧ Below w.heap.size w w' := by
  go_enter Try.func3, Try.ntmps3
  go_wp2_with (first
    | (go_at_call 10; refine (awake_c _).mono ?_; rintro e w11 ⟨rfl, b11⟩)
    | (go_at_call 8; have z := b9; clear z; refine (c8t _).mono ?_; rintro e w10 ⟨rfl, b10⟩)
    | (go_at_call 8; have z := b8; clear z; refine (c8s _).mono ?_; rintro e w9 ⟨rfl, b9⟩)
    | (go_at_call 8; have z := b7; clear z; refine (c8u _).mono ?_; rintro e w8 ⟨rfl, b8⟩)
    | (go_at_call 6; have z := b6; clear z; refine (c6t _).mono ?_; rintro e w7 ⟨rfl, b7⟩)
    | (go_at_call 6; have z := b5; clear z; refine (c6s _).mono ?_; rintro e w6 ⟨rfl, b6⟩)
    | (go_at_call 6; have z := b4; clear z; refine (c6u _).mono ?_; rintro e w5 ⟨rfl, b5⟩)
    | (go_at_call 9; refine (c9s _).mono ?_; rintro e w4 ⟨rfl, b4⟩)
    | (go_at_call 8; refine (c8s _).mono ?_; rintro e w3 ⟨rfl, b3⟩)
    | (go_at_call 7; refine (c7s _).mono ?_; rintro e w2 ⟨rfl, b2⟩)
    | (go_at_call 6; refine (c6s _).mono ?_; rintro e w1 ⟨rfl, b1⟩))
  go_ret
  exact ⟨rfl, nx (nx (nx (nx (nx (nx (nx (nx (nx (nx b1 b2) b3) b4) b5) b6) b7) b8) b9) b10) b11⟩
theorem walk (s t : ByteArray) (hs : s.size ≤ 1048576) (ht : t.size ≤ 1048576) (w : World) :
    Calls Try.prog 3 #[.string s, .string t] w fun r w' => r = .returned (.bool true) ∧ Below w.heap.size w w' := by
  have hu : 8 * (s ++ t).size ≤ 140737488355328 := by rw [ByteArray.size_append]; omega
  have h1 := esc_size false s
  have h2 := esc_size false t
  have h3 := esc_size true s
  have h4 := esc_size true t
  exact way s t (s ++ t) (escB false s) (escB false t) (escB true s) (escB true t) hs ht rfl (Esc.text_c s (by omega)) (Esc.text_c t (by omega))
    (by rw [← escB_append]; exact Esc.text_c (s ++ t) hu) (Esc.rtext_c s (by omega)) (Esc.attr_c s (by omega)) (Esc.attr_c t (by omega))
    (by rw [← escB_append]; exact Esc.attr_c (s ++ t) hu) (Esc.rattr_c s (by omega)) (by omega) (by omega) (by omega) (by omega) w

theorem own : ownKnob Try.prog.godebug = none := by kernel_rfl
set_option maxRecDepth 100000 in
theorem lifted (os : Os) (started : os.Started) (H : Type) (enc : TypeId × Value → H) (F : Stop.Interp) :
    ReturnsInHanded {} Try.checked os 3 .any ((Rows.OpenSpec.upto Rows.htmlTextsSpec).pre6 enc Try.prog Try.f3 Rows.htmlTextsUptoRow.domain false) (((Rows.OpenSpec.upto Rows.htmlTextsSpec).at F).post enc Try.prog Try.f3 false true false false) := by
  refine returnsInHanded_of_cond (C := Try.checked) (s := Rows.OpenSpec.upto Rows.htmlTextsSpec) (k := Rows.uptoSmall) rfl own started (by kernel_rfl) Try.func3
    (OpenSpec.witness (enc := enc) (C := Try.checked) (s := Rows.OpenSpec.upto Rows.htmlTextsSpec) (k := Rows.uptoSmall) rfl false ⟨#[], #[.string ByteArray.empty, .string ByteArray.empty], []⟩ 8 (by kernel_rfl) (by kernel_rfl) (by kernel_rfl)
      (x := ([.lit (.string []), .lit (.string [])], [], [])) (by kernel_rfl) rfl (by kernel_rfl)) ?_
  intro W base args ds gs before hval0 hW _ hk0 _
  have hval : ∀ (j : Nat) t v, Try.f3.params[j]? = some t → args[j]? = some v → Value.okWide Try.prog W .any base t v := hval0
  have hk : Rows.uptoSmall H (ds ++ gs) = true := hk0
  have hW' := hW
  obtain ⟨p, q, hA0, hV, rfl, hfz, hnd⟩ := hW
  have hA : DataW.TrodAll enc Try.prog W 0 (fun _ => true) true Try.f3.params.toList args.toList ds p := hA0
  rw [Try.params3] at hA hval
  obtain ⟨v0, vs0, d0, ds0, p0, q0, hargs, rfl, rfl, h0, r0⟩ := trodAll_cons hA
  obtain ⟨v1, vs1, d1, ds1, p1, q1, rfl, rfl, rfl, h1, r1⟩ := trodAll_cons r0
  obtain ⟨rfl, rfl, rfl⟩ := trodAll_nil r1
  obtain rfl : args = #[v0, v1] := by cases args; simp_all
  obtain ⟨rfl, rfl⟩ := trodVars_none hV
  obtain ⟨a0, rfl, rfl, rfl, w0⟩ := open_string Try.underlying9 (hval 0 9 v0 rfl rfl) h0
  obtain ⟨a1, rfl, rfl, rfl, w1⟩ := open_string Try.underlying9 (hval 1 9 v1 rfl rfl) h1
  have hu : Rows.uptoBulkAll [DataW.lit (H := H) (.string a0.data.toList), DataW.lit (H := H) (.string a1.data.toList)] ≤ 1048576 := of_decide_eq_true hk
  simp only [Rows.uptoBulkAll, Rows.uptoBulk] at hu
  have s0 : a0.size ≤ 1048576 := by
    have hl : a0.data.toList.length = a0.size := Array.length_toList
    omega
  have s1 : a1.size ≤ 1048576 := by
    have hl : a1.data.toList.length = a1.size := Array.length_toList
    omega
  clear hA0 hval0 hk0 hk hu
  refine (walk a0 a1 s0 s1 W).mono fun e W' ⟨he, bel⟩ => ?_
  subst he
  exact ⟨_, rfl, _, _, _, [], _, [], hW', trodAll_mk1 (shut_bool Try.underlying4 _), (trodAll_cons_mk (shut_string Try.underlying9 w0) (trodAll_cons_mk (shut_string Try.underlying9 w1) trodAll_mk0)), rfl, bel.frame _, fun h => by cases h⟩
theorem htmlTexts_upto : Rows.HtmlTextsUptoSaid :=
  OpenClaim.holds_of_cond 3 Try.f3 rfl rfl rfl rfl rfl rfl rfl ⟨rfl, rfl, rfl, rfl, rfl⟩ rfl rfl rfl rfl rfl (by kernel_rfl) Try.func3 (by kernel_rfl)
    (of_decide_eq_true (by kernel_rfl)) (by unfold Func.isWrapper; first | (rw [if_pos (by decide +kernel)]; kernel_rfl) | (rw [if_neg (by decide +kernel)]; exact ⟨rfl, rfl⟩))
    (fun os started H enc _ F => lifted os started H enc F)
#print axioms htmlTexts_upto
end Go.Proofs.Ytfcgbcjffabmoaa.htmlTexts
