/- The walk of the law ForestChecks. -/
import Derived.Test.YtonoalbhpligfaaRHtml
import Derived.Test.YtonoalbhpligfaaTLends
import Derived.Test.YtonoalbhpligfaaTKept
import Derived.Test.YtonoalbhpligfaaTAw
namespace Go.Proofs.Ytonoalbhpligfaa.WChecks
open Go.RowKit Go.Proofs.Ytonoalbhpligfaa.TBase Go.Proofs.Ytonoalbhpligfaa.TPure Go.Proofs.Ytonoalbhpligfaa.TMay Go.Proofs.Ytonoalbhpligfaa.TMeas Go.Proofs.Ytonoalbhpligfaa.TShallow Go.Proofs.Ytonoalbhpligfaa.TSpecH Go.Proofs.Ytonoalbhpligfaa.TWrite Go.Proofs.Ytonoalbhpligfaa.RLook Go.Proofs.Ytonoalbhpligfaa.RHtml Go.Proofs.Ytonoalbhpligfaa.TLends Go.Proofs.Ytonoalbhpligfaa.TKept Go.Proofs.Ytonoalbhpligfaa.TAw
set_option linter.unusedVariables false

set_option maxRecDepth 20000 in
set_option maxHeartbeats 1600000 in
theorem walk {m : Nat} {u : Value} {L : List T} {w : World} (hu : InL false All w m u L) (wL : wt L ≤ 1048576) :
    Calls Try.prog 3 #[u] w fun r w' => r = .returned (.bool true) ∧ Below w.heap.size w w' := by
  have c1 := shallow_c m u L w hu
  have HU : Hid (InL false All w m u L) := hu
  obtain ⟨a, cap, rfl, -⟩ := hu
  cases h1 : decide (depL L ≤ 4096) with
  | false =>
    rw [h1] at c1
    go_enter Try.func3, Try.ntmps3
    go_wp2_with fail
    refine c1.mono ?_
    rintro e w1 ⟨rfl, b1⟩
    go_wp2_with fail
    go_ret
    exact ⟨rfl, b1⟩
  | true =>
    rw [h1] at c1
    have hdep : depL L ≤ 4096 := of_decide_eq_true h1
    have Hdep : Hid (depL L ≤ 4096) := hdep
    clear hdep
    go_enter Try.func3, Try.ntmps3
    go_wp2_with fail
    refine c1.mono ?_
    rintro e w1 ⟨rfl, b1⟩
    clear c1
    have c2 := lendTs_c m _ L w1 (HU.out.below b1)
    go_wp2_with fail
    refine c2.mono ?_
    rintro e w2 ⟨x, rfl, hx, b2⟩
    have B2 := nx b1 b2
    have HX : Hid (InL true (Rg w1.heap.size w2.heap.size) w2 m x L) := hx
    obtain ⟨ax, cx, rfl, -⟩ := hx
    clear c2 b1 b2
    have c3 := check_c m _ L w2 HX.out.plain
    have hck := (ck_ok L)
    obtain ⟨E, hE⟩ : ∃ E, ck L = E := ⟨_, rfl⟩
    obtain ⟨C, hC⟩ : ∃ C, ct L = C := ⟨_, rfl⟩
    obtain ⟨D, hD⟩ : ∃ D, dp L = D := ⟨_, rfl⟩
    obtain ⟨X, hX⟩ : ∃ X, htB L = X := ⟨_, rfl⟩
    have HE : Hid (ck L = E) := hE
    have HC : Hid (ct L = C) := hC
    have HD : Hid (dp L = D) := hD
    have HH : Hid (htB L = X) := hX
    rw [hE, hC, hD] at hck
    clear hE hC hD hX
    rw [HE.out] at c3
    go_wp2_with fail
    refine c3.mono ?_
    rintro e w3 ⟨rfl, b3⟩
    clear c3
    have c4 := count_c m _ L w3 (HX.out.below b3).plain
    rw [HC.out] at c4
    go_wp2_with fail
    refine c4.mono ?_
    rintro e w4 ⟨rfl, b4⟩
    have D4 := nx b3 b4
    clear c4 b3 b4
    have c5 := depth_c m _ L w4 (HX.out.below D4).plain
    rw [HD.out] at c5
    go_wp2_with fail
    refine c5.mono ?_
    rintro e w5 ⟨rfl, b5⟩
    have D5 := nx D4 b5
    clear c5 b5 D4
    have c6 := html_c m _ L w5 (HX.out.below D5).plain (fun _ => by omega)
    rw [HE.out, HH.out] at c6
    go_wp2_with fail
    refine c6.mono ?_
    rintro e w6 ⟨rfl, b6⟩
    have D6 := nx D5 b6
    clear c6 b6 D5
    have c7 := rhtml_c m _ L w6 (HU.out.below (nx B2 D6)) (fun _ => by omega)
    rw [HE.out, HH.out] at c7
    go_wp2_with fail
    refine c7.mono ?_
    rintro e w7 ⟨rfl, b7⟩
    have D7 := nx D6 b7
    clear c7 b7 D6
    have c8 := rcheck_c m _ L w7 (HU.out.below (nx B2 D7))
    rw [HE.out] at c8
    go_wp2_with (first | (go_at_call 14; refine (num_c _ _).mono ?_; rintro e w' ⟨rfl, rfl⟩))
    refine c8.mono ?_
    rintro e w8 ⟨rfl, b8⟩
    have D8 := nx D7 b8
    clear c8 b8 D7
    have c9 := rcount_c m _ L w8 (HU.out.below (nx B2 D8))
    rw [HC.out] at c9
    go_wp2_with fail
    refine c9.mono ?_
    rintro e w9 ⟨rfl, b9⟩
    have D9 := nx D8 b9
    clear c9 b9 D8
    have c10 := rdepth_c m _ L w9 (HU.out.below (nx B2 D9)) Hdep.out
    rw [HD.out] at c10
    go_wp2_with fail
    refine c10.mono ?_
    rintro e w10 ⟨rfl, b10⟩
    have D10 := nx D9 b10
    clear c10 b10 D9
    have c11 := kepts_c m _ _ L w10 (HX.out.below D10) (HU.out.below (nx B2 D10))
    go_wp2_with (first | (go_at_call 14; refine (num_c _ _).mono ?_; rintro e w' ⟨rfl, rfl⟩))
    refine c11.mono ?_
    rintro e w11 ⟨rfl, b11⟩
    have D11 := nx D10 b11
    clear c11 b11 D10
    have c12 := awake_c w11
    go_wp2_with fail
    refine c12.mono ?_
    rintro e w12 ⟨rfl, b12⟩
    clear c12
    go_wp2_with fail
    go_ret
    exact ⟨rfl, nx (nx B2 D11) b12⟩
end Go.Proofs.Ytonoalbhpligfaa.WChecks
