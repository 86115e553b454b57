/- For every a and k of 64 bits, WholeShifts answers true and leaves its arguments as they were: Shl and Shr of package whole answer as the reference's, and Shr of Shl is a; the library's three tables lie as the program's text lays them (the card ties that). -/
import Derived.Test.YtjcobebabpeogaaDoorCards
import Derived.Test.YtjcobebabpeogaaDoorTie
import Derived.Test.YtjcobebabpeogaaDoorFrame
import Derived.ShutString
namespace Go.Proofs.YtjcobebabpeogaaDoor.wholeShifts
set_option linter.unusedVariables false
open Go.ChangeShapes Go.WideShapes Go.ChangeAt Go.RowKit Go.Proofs.YtjcobebabpeogaaDoor.Sums Go.Proofs.YtjcobebabpeogaaDoor.Base Go.Proofs.YtjcobebabpeogaaDoor.Frame
open Go.ChangeMaps (open_string shut_string)

theorem core_err (a k x e y f : Int) (H23 : ∀ w, Calls Tryd.prog 23 #[.int .i64 a, .int .i64 k] w fun r w' => r = .returned (.tuple #[.int .i64 x, .int .i64 e]) ∧ w' = w) (H24 : ∀ w, Calls Tryd.prog 24 #[.int .i64 a, .int .i64 k] w fun r w' => r = .returned (.tuple #[.int .i64 y, .int .i64 f]) ∧ w' = w) (H25 : ∀ w, Calls Tryd.prog 25 #[.int .i64 a, .int .i64 k] w fun r w' => r = .returned (.tuple #[.int .i64 x, .int .i64 e]) ∧ w' = w) (H26 : ∀ w, Calls Tryd.prog 26 #[.int .i64 a, .int .i64 k] w fun r w' => r = .returned (.tuple #[.int .i64 y, .int .i64 f]) ∧ w' = w) (he : (e != 0) = true) (w : World) (ht : Tab w) :
    Calls Tryd.prog 5 #[.int .i64 a, .int .i64 k] w fun r w' => r = .returned (.bool true) ∧ Below w.heap.size w w' := by
  go_enter Tryd.func5, Tryd.ntmps5
  go_wp2_with (first | (go_at_call 23; refine (H23 _).mono ?_; rintro e w' ⟨rfl, rfl⟩) | (go_at_call 24; refine (H24 _).mono ?_; rintro e w' ⟨rfl, rfl⟩) | (go_at_call 25; refine (H25 _).mono ?_; rintro e w' ⟨rfl, rfl⟩) | (go_at_call 26; refine (H26 _).mono ?_; rintro e w' ⟨rfl, rfl⟩) | (go_at_call 17; refine (fine_same _ _ _).mono ?_; rintro e w' ⟨rfl, rfl⟩) | (go_at_call 18; refine (awake _ ht).mono ?_; rintro e w2 ⟨rfl, hb2⟩))
  go_ret
  exact ⟨rfl, by assumption⟩
theorem core_ok (a k x : Int) (k0 : 0 ≤ k) (k1 : k ≤ 63) (H23 : ∀ w, Calls Tryd.prog 23 #[.int .i64 a, .int .i64 k] w fun r w' => r = .returned (.tuple #[.int .i64 x, .int .i64 0]) ∧ w' = w) (H25 : ∀ w, Calls Tryd.prog 25 #[.int .i64 a, .int .i64 k] w fun r w' => r = .returned (.tuple #[.int .i64 x, .int .i64 0]) ∧ w' = w) (H26 : ∀ w, Calls Tryd.prog 26 #[.int .i64 a, .int .i64 k] w fun r w' => r = .returned (.tuple #[.int .i64 (a / 2 ^ k.toNat), .int .i64 0]) ∧ w' = w) (hx : x / 2 ^ k.toNat = a) (w : World) (ht : Tab w) :
    Calls Tryd.prog 5 #[.int .i64 a, .int .i64 k] w fun r w' => r = .returned (.bool true) ∧ Below w.heap.size w w' := by
  go_enter Tryd.func5, Tryd.ntmps5
  go_wp2_with (first | (go_at_call 23; refine (H23 _).mono ?_; rintro e w' ⟨rfl, rfl⟩) | (go_at_call 25; refine (H25 _).mono ?_; rintro e w' ⟨rfl, rfl⟩) | (go_at_call 26; refine (H26 _).mono ?_; rintro e w' ⟨rfl, rfl⟩) | (go_at_call 24; refine (shr _ _ k0 k1 _).mono ?_; rintro e w' ⟨rfl, rfl⟩) | (go_at_call 17; refine (fine_same _ _ _).mono ?_; rintro e w' ⟨rfl, rfl⟩) | (go_at_call 18; refine (awake _ ht).mono ?_; rintro e w2 ⟨rfl, hb2⟩))
  go_ret
  exact ⟨rfl, by assumption⟩
theorem walk (a : Int) (a0 : -9223372036854775808 ≤ a) (a1 : a ≤ 9223372036854775807) (k : Int) (k0 : -9223372036854775808 ≤ k) (k1 : k ≤ 9223372036854775807) (w : World) (ht : Tab w) :
    Calls Tryd.prog 5 #[.int .i64 a, .int .i64 k] w fun r w' => r = .returned (.bool true) ∧ Below w.heap.size w w' := by
  by_cases hk : k < 0 ∨ 63 < k
  · exact core_err a k _ _ _ _ (shl_bad a k hk) (shr_bad a k hk) (rshl_bad a k hk) (rshr_bad a k hk) (by decide) w ht
  · have c0 : 0 ≤ k := by omega
    have c1 : k ≤ 63 := by omega
    by_cases he : err (a * 2 ^ k.toNat) = 0
    · have h23 := shl a k c0 c1
      have h25 := rshl a k a0 a1 c0 c1
      rw [he, (err_zero he).2.2] at h23 h25
      exact core_ok a k _ c0 c1 h23 h25 (rshr a k a0 a1 c0 c1) (Int.mul_ediv_cancel _ (by have := pow_bound (n := k.toNat) (by omega); omega)) w ht
    · exact core_err a k _ _ _ _ (shl a k c0 c1) (shr a k c0 c1) (rshl a k a0 a1 c0 c1) (rshr a k a0 a1 c0 c1) (by simp [he]) w ht

/-- What the walk gives, for every argument and every world that holds the tables. -/
theorem contract (H : Type) (enc : TypeId × Value → H) (W : World) (base : Nat) (args : Array Value) (ds gs : List (DataW H)) (before : List MemPlace)
    (hval : ∀ (j : Nat) t v, Tryd.f5.params[j]? = some t → args[j]? = some v → Value.okWide Tryd.prog W .any base t v)
    (hW : DataW.Whole enc Tryd.prog Tryd.f5.params.toList Rows.wholeShiftsSpec.vars false W args.toList ds gs before) (hL : laidMetH Tryd.prog Rows.wholeShiftsRow.laid W) :
    Calls Tryd.prog 5 args W fun e W' => ∃ v, e = .returned v ∧ Rows.wholeShiftsSpec.post enc Tryd.prog Tryd.f5 false true false false W args v W' := by
  have hW' := hW
  obtain ⟨p, q, hA0, hV, rfl, hfz, hnd⟩ := hW
  have hA : DataW.TrodAll enc Tryd.prog W 0 (fun _ => true) true Tryd.f5.params.toList args.toList ds p := hA0
  rw [Tryd.params5] at hA hval
  obtain ⟨v0, vs0, d0, ds0, p0, q0, hargs, rfl, rfl, h0, r0⟩ := trodAll_cons hA
  obtain ⟨v1, vs1, d1, ds1, p1, q1, rfl, rfl, rfl, h1, r1⟩ := trodAll_cons r0
  obtain ⟨rfl, rfl, rfl⟩ := trodAll_nil r1
  obtain rfl : args = #[v0, v1] := by cases args; simp_all
  obtain ⟨rfl, rfl⟩ := trodVars_none hV
  obtain ⟨a0, rfl, rfl, rfl, w0⟩ := open_int Tryd.underlying3 (hval 0 3 v0 rfl rfl) h0
  have bd0 : -9223372036854775808 ≤ a0 ∧ a0 ≤ 9223372036854775807 := bounds_i64 w0
  obtain ⟨a1, rfl, rfl, rfl, w1⟩ := open_int Tryd.underlying3 (hval 1 3 v1 rfl rfl) h1
  have bd1 : -9223372036854775808 ≤ a1 ∧ a1 ≤ 9223372036854775807 := bounds_i64 w1
  clear hA0
  simp only [List.append_nil] at hW'
  refine (walk a0 bd0.1 bd0.2 a1 bd1.1 bd1.2 W (tab_of hL)).mono fun e W' ⟨he, bel⟩ => ?_
  subst he
  exact ⟨_, rfl, _, _, _, [], _, [], hW', trodAll_mk1 (shut_bool Tryd.underlying4 _), (trodAll_cons_mk (shut_int Tryd.underlying3 w0) (trodAll_cons_mk (shut_int Tryd.underlying3 w1) trodAll_mk0)), rfl, bel.frame _, fun h => by cases h⟩

theorem laid_met (os : Os) : laidMet Tryd.prog Rows.wholeShiftsRow.laid ((laidWorld os).forCall (fun _ _ => 0) ⟨#[], #[.int .i64 0, .int .i64 0], []⟩).memory :=
  laidMet_of_run' 8 (by kernel_rfl) (by kernel_rfl)
theorem reads (os : Os) {H : Type} (enc : TypeId × Value → H) : ∃ places, DataW.whole enc Tryd.prog ((laidWorld os).forCall (fun _ _ => 0) ⟨#[], #[.int .i64 0, .int .i64 0], []⟩).memory Tryd.f5.params.toList Rows.wholeShiftsSpec.vars false #[Value.int .i64 0, Value.int .i64 0].toList 8 = some ([.lit (.int .i64 0), .lit (.int .i64 0)], [], places) :=
  ⟨[], by kernel_rfl⟩

set_option maxRecDepth 100000 in
theorem lifted (os : Os) (started : os.Started) (H : Type) (enc : TypeId × Value → H) (F : Stop.Interp) :
    ReturnsInHanded {} Tryd.checked os 5 .any ((OpenSpec.ofChange Rows.wholeShiftsSpec).preRow enc Tryd.prog Tryd.f5 Rows.wholeShiftsRow.domain false Rows.wholeShiftsRow.laid) (((OpenSpec.ofChange Rows.wholeShiftsSpec).at F).post enc Tryd.prog Tryd.f5 false true false false) := by
  obtain ⟨places, hx⟩ := reads os enc
  refine returnsInHanded_of_row (C := Tryd.checked) (s := OpenSpec.ofChange Rows.wholeShiftsSpec) own started (by kernel_rfl) Tryd.func5
    (witness_row_at (enc := enc) (C := Tryd.checked) false (laidWorld os) #[.int .i64 0, .int .i64 0] rfl (by kernel_rfl) (by kernel_rfl) (by kernel_rfl)
      (OpenSpec.preRow_of_cond 8 hx (by kernel_rfl) (fun k hk => by cases hk) (by kernel_rfl) (laid_met os))) ?_
  intro W base args ds gs before hval hW _ _ _ hL _ _
  exact contract H enc W base args ds gs before hval hW hL

theorem said : Rows.WholeShiftsSaid :=
  OpenClaim.holds_of_cond 5 Tryd.f5 rfl rfl rfl rfl rfl rfl rfl ⟨rfl, rfl, rfl, rfl, rfl⟩ rfl rfl rfl rfl rfl (by kernel_rfl) Tryd.func5 (by kernel_rfl)
    (of_decide_eq_true (by kernel_rfl)) (by unfold Func.isWrapper; first | (rw [if_pos (by decide +kernel)]; kernel_rfl) | (rw [if_neg (by decide +kernel)]; exact ⟨rfl, rfl⟩))
    (fun os started H enc _ F => by rw [OpenClaim.pre_eq_preRow]; exact lifted os started H enc F)

/-- No parameter wants a stand-in; the program's own looks are off. -/
theorem plain (f : FuncId) (fn : Func) (hf : Tryd.pinned.checked.prog.funcNamed "stencil/stencillaw1.WholeShifts" = some f) (hfn : Tryd.pinned.checked.prog.funcs[f]? = some fn) :
    false = Tryd.pinned.checked.prog.looks [] ∧ ∀ (j : Nat) t, fn.params[j]? = some t → Tryd.pinned.checked.prog.wantsStandIn t = false := by
  obtain rfl : f = 5 := Option.some.inj ((show Tryd.prog.funcNamed "stencil/stencillaw1.WholeShifts" = some 5 by kernel_rfl).symm.trans hf) |>.symm
  obtain rfl : fn = Tryd.f5 := (Option.some.inj (Tryd.func5.symm.trans hfn)).symm
  refine ⟨by kernel_rfl, fun j t ht => ?_⟩
  rw [Tryd.params5] at ht
  have hm := Array.mem_of_getElem? ht
  obtain rfl : t = 3 := by simpa using hm
  exact (show Tryd.prog.wantsStandIn 3 = false by kernel_rfl)

/-- The given statement. -/
theorem card : Rows.WholeShiftsCardSaid :=
  Claim7.holds_tied_plain_at .later [] _ _ _ _ said (fun _ h => by cases h) (by kernel_rfl) (fun _ h => by cases h) wholeShifts_row_tie rfl ⟨rfl, rfl⟩ (by kernel_rfl) rfl plain (by kernel_rfl)
#print axioms card
end Go.Proofs.YtjcobebabpeogaaDoor.wholeShifts
