/- For every a of 64 bits and every text s, WholeTexts answers true and leaves its arguments as they were: Text and Parse of package whole answer as the reference's, Parse of Text is the number and Text of Parse the text; the library's three tables lie as the program's text lays them (the card ties that). -/
import Derived.Test.YtjcobebabpeogaaDoorCards
import Derived.Test.YtjcobebabpeogaaDoorTie
import Derived.Test.YtjcobebabpeogaaDoorFrame
import Derived.ShutString
import Derived.Test.YtjcobebabpeogaaDoorWrite
import Derived.Test.YtjcobebabpeogaaDoorBack
import Derived.Lib.ItoaLen
namespace Go.Proofs.YtjcobebabpeogaaDoor.wholeTexts
set_option linter.unusedVariables false
open Go.ChangeShapes Go.WideShapes Go.ChangeAt Go.RowKit Go.Proofs.YtjcobebabpeogaaDoor.Sums Go.Proofs.YtjcobebabpeogaaDoor.Base Go.Proofs.YtjcobebabpeogaaDoor.Frame
open Go.ChangeMaps (open_string shut_string)

/-- The world w is as w0 was below w0's end, and holds the table. -/
def TB (w0 w : World) : Prop := Below w0.heap.size w0 w ∧ Tab w
theorem textB (n : Int) (h0 : -9223372036854775808 ≤ n) (h1 : n ≤ 9223372036854775807) (w0 w : World) (h : TB w0 w) :
    Calls Tryd.prog 32 #[.int .i64 n] w fun e w' => e = .returned (.string ⟨(Lib.itoa n).toArray⟩) ∧ TB w0 w' :=
  (text n h0 h1 w h.2).mono fun _ _ ⟨he, hb⟩ => ⟨he, below_step h.1 hb, h.2.later hb⟩
theorem rtextB (n : Int) (h0 : -9223372036854775808 ≤ n) (h1 : n ≤ 9223372036854775807) (w0 w : World) (h : TB w0 w) :
    Calls Tryd.prog 33 #[.int .i64 n] w fun e w' => e = .returned (.string ⟨(Lib.itoa n).toArray⟩) ∧ TB w0 w' :=
  (rtext n h0 h1 w).mono fun _ _ ⟨he, hb⟩ => ⟨he, below_step h.1 hb, h.2.later hb⟩
theorem awakeB (w0 w : World) (h : TB w0 w) : Calls Tryd.prog 18 #[] w fun e w' => e = .returned (.bool true) ∧ TB w0 w' :=
  (awake w h.2).mono fun _ _ ⟨he, hb⟩ => ⟨he, below_step h.1 hb, h.2.later hb⟩

theorem core (a x e : Int) (s T : ByteArray) (a0 : -9223372036854775808 ≤ a) (a1 : a ≤ 9223372036854775807) (x0 : -9223372036854775808 ≤ x) (x1 : x ≤ 9223372036854775807) (hs : s.size ≤ 9223372036854775807) (hT : T.size ≤ 9223372036854775807)
    (eT : (⟨(Lib.itoa a).toArray⟩ : ByteArray) = T) (p1 : pnum (bs T) = a) (p2 : perr (bs T) = 0) (p3 : pnum (bs s) = x) (p4 : perr (bs s) = e)
    (he : (e != 0) = true) (w0 w : World) (ht : TB w0 w) :
    Calls Tryd.prog 7 #[.int .i64 a, .string s] w fun r w' => r = .returned (.bool true) ∧ TB w0 w' := by
  go_enter Tryd.func7, Tryd.ntmps7
  go_wp2_with (first | (go_at_call 30; refine (parse _ (by assumption) _).mono ?_; rintro e w' ⟨rfl, rfl⟩) | (go_at_call 31; refine (rparse _ (by assumption) _).mono ?_; rintro e w' ⟨rfl, rfl⟩) | (go_at_call 32; refine (textB _ (by assumption) (by assumption) _ _ (by assumption)).mono ?_; rintro e w' ⟨rfl, hb⟩) | (go_at_call 33; refine (rtextB _ (by assumption) (by assumption) _ _ (by assumption)).mono ?_; rintro e w' ⟨rfl, hb⟩) | (go_at_call 17; refine (fine_same _ _ _).mono ?_; rintro e w' ⟨rfl, rfl⟩) | (go_at_call 18; refine (awakeB _ _ (by assumption)).mono ?_; rintro e w' ⟨rfl, hb⟩))
  go_ret
  exact ⟨rfl, by assumption⟩
theorem core_ok (a x : Int) (s T : ByteArray) (a0 : -9223372036854775808 ≤ a) (a1 : a ≤ 9223372036854775807) (x0 : -9223372036854775808 ≤ x) (x1 : x ≤ 9223372036854775807) (hs : s.size ≤ 9223372036854775807) (hT : T.size ≤ 9223372036854775807)
    (eT : (⟨(Lib.itoa a).toArray⟩ : ByteArray) = T) (eS : (⟨(Lib.itoa x).toArray⟩ : ByteArray) = s) (p1 : pnum (bs T) = a) (p2 : perr (bs T) = 0) (p3 : pnum (bs s) = x) (p4 : perr (bs s) = 0)
    (w0 w : World) (ht : TB w0 w) :
    Calls Tryd.prog 7 #[.int .i64 a, .string s] w fun r w' => r = .returned (.bool true) ∧ TB w0 w' := by
  go_enter Tryd.func7, Tryd.ntmps7
  go_wp2_with (first | (go_at_call 30; refine (parse _ (by assumption) _).mono ?_; rintro e w' ⟨rfl, rfl⟩) | (go_at_call 31; refine (rparse _ (by assumption) _).mono ?_; rintro e w' ⟨rfl, rfl⟩) | (go_at_call 32; refine (textB _ (by assumption) (by assumption) _ _ (by assumption)).mono ?_; rintro e w' ⟨rfl, hb⟩) | (go_at_call 33; refine (rtextB _ (by assumption) (by assumption) _ _ (by assumption)).mono ?_; rintro e w' ⟨rfl, hb⟩) | (go_at_call 17; refine (fine_same _ _ _).mono ?_; rintro e w' ⟨rfl, rfl⟩) | (go_at_call 18; refine (awakeB _ _ (by assumption)).mono ?_; rintro e w' ⟨rfl, hb⟩))
  go_ret
  exact ⟨rfl, by assumption⟩
theorem walk (a : Int) (a0 : -9223372036854775808 ≤ a) (a1 : a ≤ 9223372036854775807) (s : ByteArray) (hs : s.size ≤ maxLen) (w : World) (ht : Tab w) :
    Calls Tryd.prog 7 #[.int .i64 a, .string s] w fun r w' => r = .returned (.bool true) ∧ Below w.heap.size w w' := by
  have hs' : s.size ≤ 9223372036854775807 := hs
  have hp := parse_itoa a a0 a1
  have hl := Lib.itoa_length_le a a0 a1
  have hT : (⟨(Lib.itoa a).toArray⟩ : ByteArray).size ≤ 9223372036854775807 := by
    have : (⟨(Lib.itoa a).toArray⟩ : ByteArray).size = (Lib.itoa a).length := List.size_toArray
    omega
  have hr := pnum_range (bs s)
  have h0 : TB w w := ⟨Below.refl _ _, ht⟩
  by_cases he : perr (bs s) = 0
  · have e := itoa_parse (bs s) he
    have eS : (⟨(Lib.itoa (pnum (bs s))).toArray⟩ : ByteArray) = s := by
      rw [e]
      apply ByteArray.ext
      exact Array.toArray_toList
    exact (core_ok a _ s _ a0 a1 hr.1 hr.2 hs' hT rfl eS hp.1 hp.2 rfl he w w h0).mono fun _ _ ⟨h, hb⟩ => ⟨h, hb.1⟩
  · exact (core a _ _ s _ a0 a1 hr.1 hr.2 hs' hT rfl hp.1 hp.2 rfl rfl (by simp [he]) w w h0).mono fun _ _ ⟨h, hb⟩ => ⟨h, hb.1⟩

/-- What the walk gives, for every argument and every world that holds the tables. -/
theorem contract (H : Type) (enc : TypeId × Value → H) (W : World) (base : Nat) (args : Array Value) (ds gs : List (DataW H)) (before : List MemPlace)
    (hval : ∀ (j : Nat) t v, Tryd.f7.params[j]? = some t → args[j]? = some v → Value.okWide Tryd.prog W .any base t v)
    (hW : DataW.Whole enc Tryd.prog Tryd.f7.params.toList Rows.wholeTextsSpec.vars false W args.toList ds gs before) (hL : laidMetH Tryd.prog Rows.wholeTextsRow.laid W) :
    Calls Tryd.prog 7 args W fun e W' => ∃ v, e = .returned v ∧ Rows.wholeTextsSpec.post enc Tryd.prog Tryd.f7 false true false false W args v W' := by
  have hW' := hW
  obtain ⟨p, q, hA0, hV, rfl, hfz, hnd⟩ := hW
  have hA : DataW.TrodAll enc Tryd.prog W 0 (fun _ => true) true Tryd.f7.params.toList args.toList ds p := hA0
  rw [Tryd.params7] at hA hval
  obtain ⟨v0, vs0, d0, ds0, p0, q0, hargs, rfl, rfl, h0, r0⟩ := trodAll_cons hA
  obtain ⟨v1, vs1, d1, ds1, p1, q1, rfl, rfl, rfl, h1, r1⟩ := trodAll_cons r0
  obtain ⟨rfl, rfl, rfl⟩ := trodAll_nil r1
  obtain rfl : args = #[v0, v1] := by cases args; simp_all
  obtain ⟨rfl, rfl⟩ := trodVars_none hV
  obtain ⟨a0, rfl, rfl, rfl, w0⟩ := open_int Tryd.underlying3 (hval 0 3 v0 rfl rfl) h0
  have bd0 : -9223372036854775808 ≤ a0 ∧ a0 ≤ 9223372036854775807 := bounds_i64 w0
  obtain ⟨a1, rfl, rfl, rfl, w1⟩ := open_string Tryd.underlying9 (hval 1 9 v1 rfl rfl) h1
  clear hA0
  simp only [List.append_nil] at hW'
  refine (walk a0 bd0.1 bd0.2 a1 w1 W (tab_of hL)).mono fun e W' ⟨he, bel⟩ => ?_
  subst he
  exact ⟨_, rfl, _, _, _, [], _, [], hW', trodAll_mk1 (shut_bool Tryd.underlying4 _), (trodAll_cons_mk (shut_int Tryd.underlying3 w0) (trodAll_cons_mk (shut_string Tryd.underlying9 w1) trodAll_mk0)), rfl, bel.frame _, fun h => by cases h⟩

theorem laid_met (os : Os) : laidMet Tryd.prog Rows.wholeTextsRow.laid ((laidWorld os).forCall (fun _ _ => 0) ⟨#[], #[.int .i64 0, .string ByteArray.empty], []⟩).memory :=
  laidMet_of_run' 8 (by kernel_rfl) (by kernel_rfl)
theorem reads (os : Os) {H : Type} (enc : TypeId × Value → H) : ∃ places, DataW.whole enc Tryd.prog ((laidWorld os).forCall (fun _ _ => 0) ⟨#[], #[.int .i64 0, .string ByteArray.empty], []⟩).memory Tryd.f7.params.toList Rows.wholeTextsSpec.vars false #[Value.int .i64 0, Value.string ByteArray.empty].toList 8 = some ([.lit (.int .i64 0), .lit (.string [])], [], places) :=
  ⟨[], by kernel_rfl⟩

set_option maxRecDepth 100000 in
theorem lifted (os : Os) (started : os.Started) (H : Type) (enc : TypeId × Value → H) (F : Stop.Interp) :
    ReturnsInHanded {} Tryd.checked os 7 .any ((OpenSpec.ofChange Rows.wholeTextsSpec).preRow enc Tryd.prog Tryd.f7 Rows.wholeTextsRow.domain false Rows.wholeTextsRow.laid) (((OpenSpec.ofChange Rows.wholeTextsSpec).at F).post enc Tryd.prog Tryd.f7 false true false false) := by
  obtain ⟨places, hx⟩ := reads os enc
  refine returnsInHanded_of_row (C := Tryd.checked) (s := OpenSpec.ofChange Rows.wholeTextsSpec) own started (by kernel_rfl) Tryd.func7
    (witness_row_at (enc := enc) (C := Tryd.checked) false (laidWorld os) #[.int .i64 0, .string ByteArray.empty] rfl (by kernel_rfl) (by kernel_rfl) (by kernel_rfl)
      (OpenSpec.preRow_of_cond 8 hx (by kernel_rfl) (fun k hk => by cases hk) (by kernel_rfl) (laid_met os))) ?_
  intro W base args ds gs before hval hW _ _ _ hL _ _
  exact contract H enc W base args ds gs before hval hW hL

theorem said : Rows.WholeTextsSaid :=
  OpenClaim.holds_of_cond 7 Tryd.f7 rfl rfl rfl rfl rfl rfl rfl ⟨rfl, rfl, rfl, rfl, rfl⟩ rfl rfl rfl rfl rfl (by kernel_rfl) Tryd.func7 (by kernel_rfl)
    (of_decide_eq_true (by kernel_rfl)) (by unfold Func.isWrapper; first | (rw [if_pos (by decide +kernel)]; kernel_rfl) | (rw [if_neg (by decide +kernel)]; exact ⟨rfl, rfl⟩))
    (fun os started H enc _ F => by rw [OpenClaim.pre_eq_preRow]; exact lifted os started H enc F)

/-- No parameter wants a stand-in; the program's own looks are off. -/
theorem plain (f : FuncId) (fn : Func) (hf : Tryd.pinned.checked.prog.funcNamed "stencil/stencillaw1.WholeTexts" = some f) (hfn : Tryd.pinned.checked.prog.funcs[f]? = some fn) :
    false = Tryd.pinned.checked.prog.looks [] ∧ ∀ (j : Nat) t, fn.params[j]? = some t → Tryd.pinned.checked.prog.wantsStandIn t = false := by
  obtain rfl : f = 7 := Option.some.inj ((show Tryd.prog.funcNamed "stencil/stencillaw1.WholeTexts" = some 7 by kernel_rfl).symm.trans hf) |>.symm
  obtain rfl : fn = Tryd.f7 := (Option.some.inj (Tryd.func7.symm.trans hfn)).symm
  refine ⟨by kernel_rfl, fun j t ht => ?_⟩
  rw [Tryd.params7] at ht
  have hm := Array.mem_of_getElem? ht
  have ho : t = 3 ∨ t = 9 := by simp at hm; omega
  rcases ho with rfl | rfl
  · exact (show Tryd.prog.wantsStandIn 3 = false by kernel_rfl)
  · exact (show Tryd.prog.wantsStandIn 9 = false by kernel_rfl)

/-- The given statement. -/
theorem card : Rows.WholeTextsCardSaid :=
  Claim7.holds_tied_plain_at .later [] _ _ _ _ said (fun _ h => by cases h) (by kernel_rfl) (fun _ h => by cases h) wholeTexts_row_tie rfl ⟨rfl, rfl⟩ (by kernel_rfl) rfl plain (by kernel_rfl)
#print axioms card
end Go.Proofs.YtjcobebabpeogaaDoor.wholeTexts
