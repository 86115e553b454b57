/- For every a and b of 64 bits, WholeParts answers true and leaves its arguments as they were: Div and Mod of package whole answer as the reference's, and where both are numbers they make a again; the library's three tables lie as the program's text lays them (the card ties that). -/
import Derived.Test.YtjcobebabpeogaaDoorCards
import Derived.Test.YtjcobebabpeogaaDoorTie
import Derived.Test.YtjcobebabpeogaaDoorFrame
import Derived.ShutString
namespace Go.Proofs.YtjcobebabpeogaaDoor.wholeParts
set_option linter.unusedVariables false
open Go.ChangeShapes Go.WideShapes Go.ChangeAt Go.RowKit Go.Proofs.YtjcobebabpeogaaDoor.Sums Go.Proofs.YtjcobebabpeogaaDoor.Base Go.Proofs.YtjcobebabpeogaaDoor.Frame
open Go.ChangeMaps (open_string shut_string)

theorem core_err (a b x e y f : Int) (H19 : ∀ w, Calls Tryd.prog 19 #[.int .i64 a, .int .i64 b] w fun r w' => r = .returned (.tuple #[.int .i64 x, .int .i64 e]) ∧ w' = w) (H20 : ∀ w, Calls Tryd.prog 20 #[.int .i64 a, .int .i64 b] w fun r w' => r = .returned (.tuple #[.int .i64 y, .int .i64 f]) ∧ w' = w) (H21 : ∀ w, Calls Tryd.prog 21 #[.int .i64 a, .int .i64 b] w fun r w' => r = .returned (.tuple #[.int .i64 x, .int .i64 e]) ∧ w' = w) (H22 : ∀ w, Calls Tryd.prog 22 #[.int .i64 a, .int .i64 b] w fun r w' => r = .returned (.tuple #[.int .i64 y, .int .i64 f]) ∧ w' = w) (he : (e != 0) = true) (w : World) (ht : Tab w) :
    Calls Tryd.prog 4 #[.int .i64 a, .int .i64 b] w fun r w' => r = .returned (.bool true) ∧ Below w.heap.size w w' := by
  go_enter Tryd.func4, Tryd.ntmps4
  go_wp2_with (first | (go_at_call 19; refine (H19 _).mono ?_; rintro e w' ⟨rfl, rfl⟩) | (go_at_call 20; refine (H20 _).mono ?_; rintro e w' ⟨rfl, rfl⟩) | (go_at_call 21; refine (H21 _).mono ?_; rintro e w' ⟨rfl, rfl⟩) | (go_at_call 22; refine (H22 _).mono ?_; rintro e w' ⟨rfl, rfl⟩) | (go_at_call 17; refine (fine_same _ _ _).mono ?_; rintro e w' ⟨rfl, rfl⟩) | (go_at_call 18; refine (awake _ ht).mono ?_; rintro e w2 ⟨rfl, hb2⟩))
  go_ret
  exact ⟨rfl, by assumption⟩
theorem core_ok (a b x y f : Int) (H19 : ∀ w, Calls Tryd.prog 19 #[.int .i64 a, .int .i64 b] w fun r w' => r = .returned (.tuple #[.int .i64 x, .int .i64 0]) ∧ w' = w) (H20 : ∀ w, Calls Tryd.prog 20 #[.int .i64 a, .int .i64 b] w fun r w' => r = .returned (.tuple #[.int .i64 y, .int .i64 f]) ∧ w' = w) (H21 : ∀ w, Calls Tryd.prog 21 #[.int .i64 a, .int .i64 b] w fun r w' => r = .returned (.tuple #[.int .i64 x, .int .i64 0]) ∧ w' = w) (H22 : ∀ w, Calls Tryd.prog 22 #[.int .i64 a, .int .i64 b] w fun r w' => r = .returned (.tuple #[.int .i64 y, .int .i64 f]) ∧ w' = w) (hx : wrap64 (wrap64 (x * b) + y) = a) (hy : (y == 0) = true ∨ (y == 0) = false ∧ (decide (y < 0) == decide (a < 0)) = true) (w : World) (ht : Tab w) :
    Calls Tryd.prog 4 #[.int .i64 a, .int .i64 b] w fun r w' => r = .returned (.bool true) ∧ Below w.heap.size w w' := by
  rcases hy with hy | ⟨hy, hs⟩
  all_goals
    go_enter Tryd.func4, Tryd.ntmps4
    go_wp2_with (first | (go_at_call 19; refine (H19 _).mono ?_; rintro e w' ⟨rfl, rfl⟩) | (go_at_call 20; refine (H20 _).mono ?_; rintro e w' ⟨rfl, rfl⟩) | (go_at_call 21; refine (H21 _).mono ?_; rintro e w' ⟨rfl, rfl⟩) | (go_at_call 22; refine (H22 _).mono ?_; rintro e w' ⟨rfl, rfl⟩) | (go_at_call 17; refine (fine_same _ _ _).mono ?_; rintro e w' ⟨rfl, rfl⟩) | (go_at_call 18; refine (awake _ ht).mono ?_; rintro e w2 ⟨rfl, hb2⟩))
    go_ret
    exact ⟨rfl, by assumption⟩
theorem walk (a : Int) (a0 : -9223372036854775808 ≤ a) (a1 : a ≤ 9223372036854775807) (b : Int) (b0 : -9223372036854775808 ≤ b) (b1 : b ≤ 9223372036854775807) (w : World) (ht : Tab w) :
    Calls Tryd.prog 4 #[.int .i64 a, .int .i64 b] w fun r w' => r = .returned (.bool true) ∧ Below w.heap.size w w' := by
  by_cases he : derr a b = 0
  · have h19 := div a b a0 a1
    have h21 := rdiv a b a0 a1 b0 b1
    rw [he] at h19 h21
    have hb : b ≠ 0 := fun h => by rw [derr, if_pos h] at he; omega
    rw [derr, if_neg hb] at he
    have hr := err_zero he
    have ed : dnum a b = a.tdiv b := by rw [dnum, if_neg hb, hr.2.2]
    have em : mnum a b = a.tmod b := by rw [mnum, if_neg hb]
    refine core_ok a b _ _ _ h19 (mod a b) h21 (rmod a b a0 a1 b0 b1) ?_ ?_ w ht
    · rw [ed, em]
      have := Int.tdiv_mul_add_tmod a b
      unfold wrap64
      omega
    · rw [em]
      by_cases c : a.tmod b = 0
      · exact Or.inl (by simp [c])
      · refine Or.inr ⟨by simp [c], ?_⟩
        have e := rem_sign a b
        have hn : (0 : Int) ≤ (a.natAbs : Int) % (b.natAbs : Int) := Int.emod_nonneg _ (by omega)
        by_cases ca : a < 0
        · rw [decide_eq_true ca, sg_true] at e
          rw [decide_eq_true ca, decide_eq_true (by omega)]
          rfl
        · rw [decide_eq_false ca, sg_false] at e
          rw [decide_eq_false ca, decide_eq_false (by omega)]
          rfl
  · exact core_err a b _ _ _ _ (div a b a0 a1) (mod a b) (rdiv a b a0 a1 b0 b1) (rmod a b a0 a1 b0 b1) (by simp [he]) w ht

/-- What the walk gives, for every argument and every world that holds the tables. -/
theorem contract (H : Type) (enc : TypeId × Value → H) (W : World) (base : Nat) (args : Array Value) (ds gs : List (DataW H)) (before : List MemPlace)
    (hval : ∀ (j : Nat) t v, Tryd.f4.params[j]? = some t → args[j]? = some v → Value.okWide Tryd.prog W .any base t v)
    (hW : DataW.Whole enc Tryd.prog Tryd.f4.params.toList Rows.wholePartsSpec.vars false W args.toList ds gs before) (hL : laidMetH Tryd.prog Rows.wholePartsRow.laid W) :
    Calls Tryd.prog 4 args W fun e W' => ∃ v, e = .returned v ∧ Rows.wholePartsSpec.post enc Tryd.prog Tryd.f4 false true false false W args v W' := by
  have hW' := hW
  obtain ⟨p, q, hA0, hV, rfl, hfz, hnd⟩ := hW
  have hA : DataW.TrodAll enc Tryd.prog W 0 (fun _ => true) true Tryd.f4.params.toList args.toList ds p := hA0
  rw [Tryd.params4] at hA hval
  obtain ⟨v0, vs0, d0, ds0, p0, q0, hargs, rfl, rfl, h0, r0⟩ := trodAll_cons hA
  obtain ⟨v1, vs1, d1, ds1, p1, q1, rfl, rfl, rfl, h1, r1⟩ := trodAll_cons r0
  obtain ⟨rfl, rfl, rfl⟩ := trodAll_nil r1
  obtain rfl : args = #[v0, v1] := by cases args; simp_all
  obtain ⟨rfl, rfl⟩ := trodVars_none hV
  obtain ⟨a0, rfl, rfl, rfl, w0⟩ := open_int Tryd.underlying3 (hval 0 3 v0 rfl rfl) h0
  have bd0 : -9223372036854775808 ≤ a0 ∧ a0 ≤ 9223372036854775807 := bounds_i64 w0
  obtain ⟨a1, rfl, rfl, rfl, w1⟩ := open_int Tryd.underlying3 (hval 1 3 v1 rfl rfl) h1
  have bd1 : -9223372036854775808 ≤ a1 ∧ a1 ≤ 9223372036854775807 := bounds_i64 w1
  clear hA0
  simp only [List.append_nil] at hW'
  refine (walk a0 bd0.1 bd0.2 a1 bd1.1 bd1.2 W (tab_of hL)).mono fun e W' ⟨he, bel⟩ => ?_
  subst he
  exact ⟨_, rfl, _, _, _, [], _, [], hW', trodAll_mk1 (shut_bool Tryd.underlying4 _), (trodAll_cons_mk (shut_int Tryd.underlying3 w0) (trodAll_cons_mk (shut_int Tryd.underlying3 w1) trodAll_mk0)), rfl, bel.frame _, fun h => by cases h⟩

theorem laid_met (os : Os) : laidMet Tryd.prog Rows.wholePartsRow.laid ((laidWorld os).forCall (fun _ _ => 0) ⟨#[], #[.int .i64 0, .int .i64 0], []⟩).memory :=
  laidMet_of_run' 8 (by kernel_rfl) (by kernel_rfl)
theorem reads (os : Os) {H : Type} (enc : TypeId × Value → H) : ∃ places, DataW.whole enc Tryd.prog ((laidWorld os).forCall (fun _ _ => 0) ⟨#[], #[.int .i64 0, .int .i64 0], []⟩).memory Tryd.f4.params.toList Rows.wholePartsSpec.vars false #[Value.int .i64 0, Value.int .i64 0].toList 8 = some ([.lit (.int .i64 0), .lit (.int .i64 0)], [], places) :=
  ⟨[], by kernel_rfl⟩

set_option maxRecDepth 100000 in
theorem lifted (os : Os) (started : os.Started) (H : Type) (enc : TypeId × Value → H) (F : Stop.Interp) :
    ReturnsInHanded {} Tryd.checked os 4 .any ((OpenSpec.ofChange Rows.wholePartsSpec).preRow enc Tryd.prog Tryd.f4 Rows.wholePartsRow.domain false Rows.wholePartsRow.laid) (((OpenSpec.ofChange Rows.wholePartsSpec).at F).post enc Tryd.prog Tryd.f4 false true false false) := by
  obtain ⟨places, hx⟩ := reads os enc
  refine returnsInHanded_of_row (C := Tryd.checked) (s := OpenSpec.ofChange Rows.wholePartsSpec) own started (by kernel_rfl) Tryd.func4
    (witness_row_at (enc := enc) (C := Tryd.checked) false (laidWorld os) #[.int .i64 0, .int .i64 0] rfl (by kernel_rfl) (by kernel_rfl) (by kernel_rfl)
      (OpenSpec.preRow_of_cond 8 hx (by kernel_rfl) (fun k hk => by cases hk) (by kernel_rfl) (laid_met os))) ?_
  intro W base args ds gs before hval hW _ _ _ hL _ _
  exact contract H enc W base args ds gs before hval hW hL

theorem said : Rows.WholePartsSaid :=
  OpenClaim.holds_of_cond 4 Tryd.f4 rfl rfl rfl rfl rfl rfl rfl ⟨rfl, rfl, rfl, rfl, rfl⟩ rfl rfl rfl rfl rfl (by kernel_rfl) Tryd.func4 (by kernel_rfl)
    (of_decide_eq_true (by kernel_rfl)) (by unfold Func.isWrapper; first | (rw [if_pos (by decide +kernel)]; kernel_rfl) | (rw [if_neg (by decide +kernel)]; exact ⟨rfl, rfl⟩))
    (fun os started H enc _ F => by rw [OpenClaim.pre_eq_preRow]; exact lifted os started H enc F)

/-- No parameter wants a stand-in; the program's own looks are off. -/
theorem plain (f : FuncId) (fn : Func) (hf : Tryd.pinned.checked.prog.funcNamed "stencil/stencillaw1.WholeParts" = some f) (hfn : Tryd.pinned.checked.prog.funcs[f]? = some fn) :
    false = Tryd.pinned.checked.prog.looks [] ∧ ∀ (j : Nat) t, fn.params[j]? = some t → Tryd.pinned.checked.prog.wantsStandIn t = false := by
  obtain rfl : f = 4 := Option.some.inj ((show Tryd.prog.funcNamed "stencil/stencillaw1.WholeParts" = some 4 by kernel_rfl).symm.trans hf) |>.symm
  obtain rfl : fn = Tryd.f4 := (Option.some.inj (Tryd.func4.symm.trans hfn)).symm
  refine ⟨by kernel_rfl, fun j t ht => ?_⟩
  rw [Tryd.params4] at ht
  have hm := Array.mem_of_getElem? ht
  obtain rfl : t = 3 := by simpa using hm
  exact (show Tryd.prog.wantsStandIn 3 = false by kernel_rfl)

/-- The given statement. -/
theorem card : Rows.WholePartsCardSaid :=
  Claim7.holds_tied_plain_at .later [] _ _ _ _ said (fun _ h => by cases h) (by kernel_rfl) (fun _ h => by cases h) wholeParts_row_tie rfl ⟨rfl, rfl⟩ (by kernel_rfl) rfl plain (by kernel_rfl)
#print axioms card
end Go.Proofs.YtjcobebabpeogaaDoor.wholeParts
