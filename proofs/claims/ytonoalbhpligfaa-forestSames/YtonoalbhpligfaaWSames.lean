/- The walk of the law ForestSames. -/
import Derived.Test.YtonoalbhpligfaaRSame
import Derived.Test.YtonoalbhpligfaaTShallow
import Derived.Test.YtonoalbhpligfaaTLends
import Derived.Test.YtonoalbhpligfaaTCopy
import Derived.Test.YtonoalbhpligfaaTKept
import Derived.Test.YtonoalbhpligfaaTAw
namespace Go.Proofs.Ytonoalbhpligfaa.WSames
open Go.RowKit Go.Proofs.Ytonoalbhpligfaa.TBase Go.Proofs.Ytonoalbhpligfaa.TPure Go.Proofs.Ytonoalbhpligfaa.TMay Go.Proofs.Ytonoalbhpligfaa.TSame Go.Proofs.Ytonoalbhpligfaa.RSame Go.Proofs.Ytonoalbhpligfaa.TShallow Go.Proofs.Ytonoalbhpligfaa.TLends Go.Proofs.Ytonoalbhpligfaa.TCopy Go.Proofs.Ytonoalbhpligfaa.TKept Go.Proofs.Ytonoalbhpligfaa.TAw
set_option linter.unusedVariables false

theorem eqB_symm (a b : ByteArray) : eqB a b = eqB b a := by
  unfold eqB
  exact Bool.beq_comm
theorem sa_symm : ∀ (L M : List (ByteArray × ByteArray)), sa L M = sa M L
  | [], [] => rfl
  | [], _ :: _ => rfl
  | _ :: _, [] => rfl
  | x :: L, y :: M => by
    rw [sa, sa, sa_symm L M]
    unfold ea
    rw [eqB_symm x.1, eqB_symm x.2]
theorem sm_symm : ∀ (m : Nat) (L M : List T), SizeOf.sizeOf L ≤ m → sm L M = sm M L := by
  intro m
  induction m with
  | zero =>
    intro L M hm
    cases L with
    | nil =>
      cases M with
      | nil => rfl
      | cons d ds => rw [sm_len (by simp), sm_len (by simp)]
    | cons c cs => simp at hm
  | succ m ih =>
    intro L M hm
    cases L with
    | nil =>
      cases M with
      | nil => rfl
      | cons d ds => rw [sm_len (by simp), sm_len (by simp)]
    | cons c cs =>
      cases M with
      | nil => rw [sm_len (by simp), sm_len (by simp)]
      | cons d ds =>
        obtain ⟨g, s, n, l⟩ := c
        simp at hm
        rw [sm_cons, sm_cons, ih cs ds (by omega)]
        unfold s1
        rw [eqB_symm, eqB_symm (T.mk g s n l).s, sa_symm, show sm (T.mk g s n l).l d.l = sm d.l (T.mk g s n l).l from ih l d.l (by omega)]
theorem sm_refl : ∀ (m : Nat) (l : List T), SizeOf.sizeOf l ≤ m → sm l l = true := by
  intro m
  induction m with
  | zero =>
    intro l hm
    cases l with
    | nil => exact sm_nil
    | cons c cs => simp at hm
  | succ m ih =>
    intro l hm
    cases l with
    | nil => exact sm_nil
    | cons c cs =>
      obtain ⟨g, s, n, l⟩ := c
      simp at hm
      rw [sm_cons, ih cs (by omega)]
      unfold s1
      rw [show sm (T.mk g s n l).l (T.mk g s n l).l = true from ih l (by omega)]
      have hn : ∀ n : List (ByteArray × ByteArray), sa n n = true := by
        intro n
        induction n with
        | nil => rfl
        | cons t n ih => rw [sa, ih]; simp [ea, eqB]
      rw [hn]
      simp [eqB]
set_option maxRecDepth 20000 in
set_option maxHeartbeats 1600000 in
theorem walk_of {m : Nat} {u v : Value} {L M : List T} {w : World} (hu : InL false All w m u L) (hv : InL false All w m v M) :
    Calls Try.prog 4 #[u, v] w fun r w' => r = .returned (.bool true) ∧ Below w.heap.size w w' := by
  have c1 := shallow_c m u L w hu
  have HU : Hid (InL false All w m u L) := hu
  have HV : Hid (InL false All w m v M) := hv
  obtain ⟨a, cap, rfl, -⟩ := hu
  obtain ⟨a', cap', rfl, -⟩ := hv
  cases h1 : decide (depL L ≤ 4096) with
  | false =>
    rw [h1] at c1
    go_enter Try.func4, Try.ntmps4
    go_wp2_with fail
    refine c1.mono ?_
    rintro e w1 ⟨rfl, b1⟩
    go_wp2_with fail
    go_ret
    exact ⟨rfl, b1⟩
  | true =>
    rw [h1] at c1
    go_enter Try.func4, Try.ntmps4
    go_wp2_with fail
    refine c1.mono ?_
    rintro e w1 ⟨rfl, b1⟩
    have c2 := shallow_c m _ M w1 (HV.out.below b1)
    clear c1
    cases h2 : decide (depL M ≤ 4096) with
    | false =>
      rw [h2] at c2
      go_wp2_with fail
      refine c2.mono ?_
      rintro e w2 ⟨rfl, b2⟩
      go_wp2_with fail
      go_ret
      exact ⟨rfl, nx b1 b2⟩
    | true =>
      rw [h2] at c2
      go_wp2_with fail
      refine c2.mono ?_
      rintro e w2 ⟨rfl, b2⟩
      have B2 := nx b1 b2
      clear c2 b1 b2
      have c3 := lendTs_c m _ L w2 (HU.out.below B2)
      go_wp2_with fail
      refine c3.mono ?_
      rintro e w3 ⟨x, rfl, hx, b3⟩
      have B3 := nx B2 b3
      have HX : Hid (InL true (Rg w2.heap.size w3.heap.size) w3 m x L) := hx
      obtain ⟨ax, cx, rfl, -⟩ := hx
      clear c3 B2
      have c4 := lendTs_c m _ M w3 (HV.out.below B3)
      go_wp2_with fail
      refine c4.mono ?_
      rintro e w4 ⟨y, rfl, hy, b4⟩
      have B4 := nx B3 b4
      have HY : Hid (InL true (Rg w3.heap.size w4.heap.size) w4 m y M) := hy
      obtain ⟨ay, cy, rfl, -⟩ := hy
      clear c4
      have hx4 : Hid (InL true (Rg w2.heap.size w3.heap.size) w4 m (.slice ax L.length cx) L) := HX.out.below b4
      have c5 := same_c m _ _ L M w4 hx4.out.plain HY.out.plain
      obtain ⟨R, hR⟩ : ∃ R, sm L M = R := ⟨_, rfl⟩
      rw [hR] at c5
      have hR2 : sm M L = R := by rw [← hR]; exact (sm_symm _ L M (Nat.le_refl _)).symm
      have HR : Hid (sm L M = R) := hR
      have HR2 : Hid (sm M L = R) := hR2
      clear hR hR2
      go_wp2_with fail
      refine c5.mono ?_
      rintro e w5 ⟨rfl, b5⟩
      have B5 := nx B4 b5
      clear c5
      have c6 := rsame_c m _ _ L M w5 (HU.out.below B5) (HV.out.below B5)
      rw [HR.out] at c6
      go_wp2_with fail
      refine c6.mono ?_
      rintro e w6 ⟨rfl, b6⟩
      have B6 := nx b5 b6
      clear c6
      have c7 := same_c m _ _ M L w6 (HY.out.below B6).plain (hx4.out.below B6).plain
      rw [HR2.out] at c7
      go_wp2_with fail
      refine c7.mono ?_
      rintro e w7 ⟨rfl, b7⟩
      have B7 := nx B6 b7
      clear c7
      have c8 := copyTs_c m _ L w7 (HU.out.below (nx B4 B7))
      go_wp2_with fail
      refine c8.mono ?_
      rintro e w8 ⟨z, rfl, hz, b8⟩
      have B8 := nx B7 b8
      clear c8
      have c9 := same_c m _ _ L L w8 (hx4.out.below B8).plain hz.plain
      rw [sm_refl _ L (Nat.le_refl _)] at c9
      obtain ⟨az, cz, rfl, -⟩ := hz
      go_wp2_with fail
      refine c9.mono ?_
      rintro e w9 ⟨rfl, b9⟩
      have B9 := nx B8 b9
      clear c9
      have c10 := kepts_c m _ _ L w9 (hx4.out.below B9) (HU.out.below (nx B4 B9))
      go_wp2_with fail
      refine c10.mono ?_
      rintro e w10 ⟨rfl, b10⟩
      have B10 := nx B9 b10
      clear c10
      have c11 := kepts_c m _ _ M w10 (HY.out.below B10) (HV.out.below (nx B4 B10))
      go_wp2_with fail
      refine c11.mono ?_
      rintro e w11 ⟨rfl, b11⟩
      have B11 := nx B10 b11
      clear c11
      have c12 := awake_c w11
      go_wp2_with fail
      refine c12.mono ?_
      rintro e w12 ⟨rfl, b12⟩
      clear c12
      go_wp2_with fail
      go_ret
      exact ⟨by simp, nx (nx B4 B11) b12⟩
theorem walk {m n : Nat} {u v : Value} {L M : List T} {w : World} (hu : InL false All w m u L) (hv : InL false All w n v M) :
    Calls Try.prog 4 #[u, v] w fun r w' => r = .returned (.bool true) ∧ Below w.heap.size w w' :=
  walk_of (hu.weak (fun _ h => h) false id (max m n) (by omega)) (hv.weak (fun _ h => h) false id (max m n) (by omega))
end Go.Proofs.Ytonoalbhpligfaa.WSames
