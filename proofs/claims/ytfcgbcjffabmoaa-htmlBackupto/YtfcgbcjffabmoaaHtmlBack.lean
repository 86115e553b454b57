/- For every text s that holds at most 1048576 values and letters the law HtmlBack returns true and s reads as before; conditions: that bound alone. -/
import Derived.Test.YtfcgbcjffabmoaaRows
import Derived.Test.YtfcgbcjffabmoaaAwake
import Derived.JoinedCond
import Derived.ChangeOld
import Derived.ShutString
namespace Go.Proofs.Ytfcgbcjffabmoaa.htmlBack
open Go.ChangeShapes Go.WideShapes Go.ChangeAt Go.RowKit Go.Proofs.Ytfcgbcjffabmoaa Go.Proofs.Ytfcgbcjffabmoaa.Base Go.Proofs.Ytfcgbcjffabmoaa.Small Go.Proofs.Ytfcgbcjffabmoaa.Awake
open Go.ChangeMaps (open_string shut_string)
set_option linter.unusedVariables false

/-- The walk, the answers under letters. -/
theorem way (s A C : ByteArray) (hs : s.size ≤ 1048576) (hC : C.size ≤ 8388608)
    (c6 : ∀ w, Calls Try.prog 6 #[.string s] w fun r w' => r = .returned (.string A) ∧ Below w.heap.size w w')
    (c8 : ∀ w, Calls Try.prog 8 #[.string s] w fun r w' => r = .returned (.string C) ∧ Below w.heap.size w w')
    (p1 : ∀ w, Calls Try.prog 11 #[.string A] w fun r w' => r = .returned (.tuple #[.string s, .int .i64 0, .int .i64 0]) ∧ Below w.heap.size w w')
    (p2 : ∀ w, Calls Try.prog 11 #[.string C] w fun r w' => r = .returned (.tuple #[.string s, .int .i64 0, .int .i64 0]) ∧ Below w.heap.size w w')
    (HF : Hid (∀ i (h : i < C.size), ¬ C[i].toNat = 60 ∧ ¬ C[i].toNat = 62 ∧ ¬ C[i].toNat = 34 ∧ ¬ C[i].toNat = 123)) (w : World) :
    Calls Try.prog 5 #[.string s] w fun r w' => r = .returned (.bool true) ∧ Below w.heap.size w w' := by
  go_enter Try.func5, Try.ntmps5
  go_wp2_with (first
    | (go_at_call 8; have z := b4; clear z; refine (c8 _).mono ?_; rintro e w5 ⟨rfl, b5⟩)
    | (go_at_call 11; have z := b3; clear z; refine (p2 _).mono ?_; rintro e w4 ⟨rfl, b4⟩)
    | (go_at_call 8; have z := b2; clear z; refine (c8 _).mono ?_; rintro e w3 ⟨rfl, b3⟩)
    | (go_at_call 11; have z := b1; clear z; refine (p1 _).mono ?_; rintro e w2 ⟨rfl, b2⟩)
    | (go_at_call 6; refine (c6 _).mono ?_; rintro e w1 ⟨rfl, b1⟩)
    | (go_at_call 10; refine (awake_c _).mono ?_; rintro e w0 ⟨rfl, b0⟩)
    | (go_at_call 13; refine (num_c _ _).mono ?_; rintro e w' ⟨rfl, rfl⟩))
  have bel := nx (nx (nx (nx (nx b0 b1) b2) b3) b4) b5
  clear b0 b1 b2 b3 b4 b5 c6 c8 p1 p2
  go_loop [10] (fun i => ∃ n : Nat, n ≤ C.size ∧ i = .int .i64 n) (fun i => C.size - (intOf i).toNat)
  case atStart => exact ⟨0, by omega, rfl⟩
  case round =>
    obtain ⟨n, hn, rfl⟩ := hrel
    by_cases hlt : n < C.size
    · obtain ⟨h60, h62, h34, h123⟩ := HF.out n hlt
      obtain ⟨c, hc⟩ : ∃ c, C[n].toNat = c := ⟨_, rfl⟩
      rw [hc] at h60 h62 h34 h123
      have i60 : ((c : Int) == 60) = false := by simp; omega
      have i62 : ((c : Int) == 62) = false := by simp; omega
      have i34 : ((c : Int) == 34) = false := by simp; omega
      have i123 : ((c : Int) == 123) = false := by simp; omega
      clear h60 h62 h34 h123
      go_wp2
      go_round
      case rel => exact ⟨n + 1, by omega, by go_num⟩
      case measure => simp only [intOf]; omega
    · go_wp2
      go_ret
      exact ⟨rfl, bel⟩
theorem none_of (s : ByteArray) (i : Nat) (h : i < (escB true s).size) : ¬ (escB true s)[i].toNat = 60 ∧ ¬ (escB true s)[i].toNat = 62 ∧ ¬ (escB true s)[i].toNat = 34 ∧ ¬ (escB true s)[i].toNat = 123 := by
  refine free s.data.toList _ ?_
  have h2 : i < (esc true s.data.toList).length := by simpa [escB, ByteArray.size] using h
  exact List.getElem_mem h2
theorem walk (s : ByteArray) (hs : s.size ≤ 1048576) (w : World) :
    Calls Try.prog 5 #[.string s] w fun r w' => r = .returned (.bool true) ∧ Below w.heap.size w w' := by
  have h1 := esc_size false s
  have h2 := esc_size true s
  have p : ∀ q, (escB q s).size ≤ 140737488351232 → ∀ w, Calls Try.prog 11 #[.string (escB q s)] w fun r w' => r = .returned (.tuple #[.string s, .int .i64 0, .int .i64 0]) ∧ Below w.heap.size w w' := fun q hq w => by
    have h := Plain.plain_c (escB q s) hq w
    obtain ⟨e1, e2, e3⟩ := back_text q s
    rw [e1, e2, e3] at h
    exact h
  exact way s (escB false s) (escB true s) hs (by omega) (Esc.text_c s (by omega)) (Esc.attr_c s (by omega)) (p false (by omega)) (p true (by omega)) (none_of s) w

theorem own : ownKnob Try.prog.godebug = none := by kernel_rfl
set_option maxRecDepth 100000 in
theorem lifted (os : Os) (started : os.Started) (H : Type) (enc : TypeId × Value → H) (F : Stop.Interp) :
    ReturnsInHanded {} Try.checked os 5 .any ((Rows.OpenSpec.upto Rows.htmlBackSpec).pre6 enc Try.prog Try.f5 Rows.htmlBackUptoRow.domain false) (((Rows.OpenSpec.upto Rows.htmlBackSpec).at F).post enc Try.prog Try.f5 false true false false) := by
  refine returnsInHanded_of_cond (C := Try.checked) (s := Rows.OpenSpec.upto Rows.htmlBackSpec) (k := Rows.uptoSmall) rfl own started (by kernel_rfl) Try.func5
    (OpenSpec.witness (enc := enc) (C := Try.checked) (s := Rows.OpenSpec.upto Rows.htmlBackSpec) (k := Rows.uptoSmall) rfl false ⟨#[], #[.string ByteArray.empty], []⟩ 8 (by kernel_rfl) (by kernel_rfl) (by kernel_rfl)
      (x := ([.lit (.string [])], [], [])) (by kernel_rfl) rfl (by kernel_rfl)) ?_
  intro W base args ds gs before hval0 hW _ hk0 _
  have hval : ∀ (j : Nat) t v, Try.f5.params[j]? = some t → args[j]? = some v → Value.okWide Try.prog W .any base t v := hval0
  have hk : Rows.uptoSmall H (ds ++ gs) = true := hk0
  have hW' := hW
  obtain ⟨p, q, hA0, hV, rfl, hfz, hnd⟩ := hW
  have hA : DataW.TrodAll enc Try.prog W 0 (fun _ => true) true Try.f5.params.toList args.toList ds p := hA0
  rw [Try.params5] at hA hval
  obtain ⟨v0, vs0, d0, ds0, p0, q0, hargs, rfl, rfl, h0, r0⟩ := trodAll_cons hA
  obtain ⟨rfl, rfl, rfl⟩ := trodAll_nil r0
  obtain rfl : args = #[v0] := by cases args; simp_all
  obtain ⟨rfl, rfl⟩ := trodVars_none hV
  obtain ⟨a0, rfl, rfl, rfl, w0⟩ := open_string Try.underlying9 (hval 0 9 v0 rfl rfl) h0
  have hu : Rows.uptoBulkAll [DataW.lit (H := H) (.string a0.data.toList)] ≤ 1048576 := of_decide_eq_true hk
  simp only [Rows.uptoBulkAll, Rows.uptoBulk] at hu
  have s0 : a0.size ≤ 1048576 := by
    have hl : a0.data.toList.length = a0.size := Array.length_toList
    omega
  clear hA0 hval0 hk0 hk hu
  refine (walk a0 s0 W).mono fun e W' ⟨he, bel⟩ => ?_
  subst he
  exact ⟨_, rfl, _, _, _, [], _, [], hW', trodAll_mk1 (shut_bool Try.underlying4 _), (trodAll_cons_mk (shut_string Try.underlying9 w0) trodAll_mk0), rfl, bel.frame _, fun h => by cases h⟩
theorem htmlBack_upto : Rows.HtmlBackUptoSaid :=
  OpenClaim.holds_of_cond 5 Try.f5 rfl rfl rfl rfl rfl rfl rfl ⟨rfl, rfl, rfl, rfl, rfl⟩ rfl rfl rfl rfl rfl (by kernel_rfl) Try.func5 (by kernel_rfl)
    (of_decide_eq_true (by kernel_rfl)) (by unfold Func.isWrapper; first | (rw [if_pos (by decide +kernel)]; kernel_rfl) | (rw [if_neg (by decide +kernel)]; exact ⟨rfl, rfl⟩))
    (fun os started H enc _ F => lifted os started H enc F)
#print axioms htmlBack_upto
end Go.Proofs.Ytfcgbcjffabmoaa.htmlBack
