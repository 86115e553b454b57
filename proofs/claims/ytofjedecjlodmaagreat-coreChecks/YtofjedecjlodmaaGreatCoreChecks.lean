/- stencillaw15.CoreChecks is true of every list of cores: core.Check, Count, Loops and Statics answer as the document's own reckoning does, and the cores stay as they were. No condition. -/
import Derived.Test.YtofjedecjlodmaaGreatKRch
import Derived.Test.YtofjedecjlodmaaGreatKKp
import Derived.Test.YtofjedecjlodmaaGreatKLq
import Derived.Test.YtofjedecjlodmaaGreatKSx
import Derived.Test.YtofjedecjlodmaaGreatKAw
import Derived.Test.YtofjedecjlodmaaGreatIInts
import Derived.Test.YtofjedecjlodmaaGreatRows
import Derived.Test.YtofjedecjlodmaaGreatChecked
import Derived.Test.YtofjedecjlodmaaGreatKCm
import Derived.SizedLaws
import Derived.ChangeOld
import Derived.ShutString
import Derived.Deep.CondSized
namespace Go.Proofs.YtofjedecjlodmaaGreat.WCc
open Go.RowKit Go.Proofs.YtofjedecjlodmaaGreat.Base Go.Proofs.YtofjedecjlodmaaGreat.EPure Go.Proofs.YtofjedecjlodmaaGreat.KBase Go.Proofs.YtofjedecjlodmaaGreat.KNd Go.Proofs.YtofjedecjlodmaaGreat.KVp Go.Proofs.YtofjedecjlodmaaGreat.KCo Go.Proofs.YtofjedecjlodmaaGreat.KAw
open Go.Proofs.YtofjedecjlodmaaGreat.KSt (sts)
open Go.Proofs.YtofjedecjlodmaaGreat.XBase (Rg)
set_option linter.unusedVariables false

theorem same_true {w : World} {v u : Value} {L : List Int} (hv : IBase.Ix w v L) (hu : IBase.Ix w u L) :
    Calls Tryz.prog 15 #[v, u] w fun e w' => e = .returned (.bool true) ∧ Below w.heap.size w w' := by
  have c := IInts.sameI_c hv hu
  rw [decide_eq_true rfl] at c
  exact c
set_option maxRecDepth 20000 in
set_option maxHeartbeats 3200000 in
theorem walk {cs : List Co} {m : Nat} {v : Value} {w : World} (hin : InL false (fun _ => True) w m v cs) :
    Calls Tryz.prog 3 #[v] w fun e w' => e = .returned (.bool true) ∧ Below w.heap.size w w' := by
  have HI : Hid (InL false (fun _ => True) w m v cs) := hin
  have cN := fun x W => num_c x W
  have cS := KSx.shallow_c hin
  have hSl : (sts cs).length ≤ 1000000 := by
    have h1 := KSt.stL_len _ (tk cs) 0 (Nat.le_refl _)
    have h2 := (tk_small cs).2
    unfold sts
    omega
  obtain ⟨va, vc, rfl, -⟩ := hin
  go_enter Tryz.func3, Tryz.ntmps3
  go_wp2_with fail
  refine cS.mono ?_
  rintro e W1 ⟨⟨sh, rfl⟩, b1⟩
  have HB1 : Hid (Below w.heap.size w W1) := b1
  clear cS b1
  cases sh with
  | false =>
    go_wp2_with fail
    go_ret
    exact ⟨rfl, HB1.out⟩
  | true =>
    have cL := KLq.cores_c (HI.out.below HB1.out)
    go_wp2_with fail
    refine cL.mono ?_
    rintro e W2 ⟨x, rfl, hx, b2⟩
    have HX2 : Hid (InL true (Rg W1.heap.size W2.heap.size) W2 m x cs) := hx
    have HB2 : Hid (Below w.heap.size w W2) := nx HB1.out b2
    have hy : InL false (fun _ => True) W2 m x cs := InL.weak (fun _ _ => trivial) false (fun h => by cases h) m (Nat.le_refl _) hx
    have HY : Hid (InL false (fun _ => True) W2 m x cs) := hy
    clear cL b2 hx
    obtain ⟨xa, xc, rfl, -⟩ := hy
    obtain ⟨E, hE⟩ : ∃ E, chk cs = E := ⟨_, rfl⟩
    obtain ⟨C, hC⟩ : ∃ C, szL (tk cs) = C := ⟨_, rfl⟩
    obtain ⟨L, hL⟩ : ∃ L, KVl.vf 0 (tk cs) 0 = L := ⟨_, rfl⟩
    obtain ⟨S, hS⟩ : ∃ S, sts cs = S := ⟨_, rfl⟩
    rw [hS] at hSl
    have c3 := KNd.check_c HY.out
    rw [hE] at c3
    go_wp2_with fail
    refine c3.mono ?_
    rintro e W3 ⟨rfl, b3⟩
    have HB3 : Hid (Below W2.heap.size W2 W3) := b3
    clear c3 b3
    have c4 := KCo.count_c (HY.out.below HB3.out)
    rw [hC] at c4
    go_wp2_with fail
    refine c4.mono ?_
    rintro e W4 ⟨rfl, b4⟩
    have HB4 : Hid (Below W2.heap.size W2 W4) := nx HB3.out b4
    clear c4 b4
    have c5 := KCo.loops_c (HY.out.below HB4.out)
    rw [hL] at c5
    go_wp2_with fail
    refine c5.mono ?_
    rintro e W5 ⟨rfl, b5⟩
    have HB5 : Hid (Below W2.heap.size W2 W5) := nx HB4.out b5
    clear c5 b5
    have c6 := KSt.statics_c (HY.out.below HB5.out)
    rw [hS] at c6
    go_wp2_with fail
    refine c6.mono ?_
    rintro e W6 ⟨b6, av, rfl, ha⟩
    have HO6 : Hid (IBase.Oi W6 W5.heap.size av S) := ha
    have HB6 : Hid (Below W2.heap.size W2 W6) := nx HB5.out b6
    have HD6 : Hid (Below W5.heap.size W5 W6) := b6
    clear c6 b6 ha
    have c7 := KSt.statics_c (HY.out.below HB6.out)
    rw [hS] at c7
    go_wp2_with fail
    refine c7.mono ?_
    rintro e W7 ⟨b7, bv, rfl, hb⟩
    have HO7 : Hid (IBase.Oi W7 W6.heap.size bv S) := hb
    have HB7 : Hid (Below w.heap.size w W7) := HB2.out.trans ((HB6.out.trans (b7.mono HB6.out.size)).mono HB2.out.size)
    have HD7 : Hid (Below W6.heap.size W6 W7) := b7
    clear c7 b7 hb
    have c8 := KRch.statics_c (HI.out.below HB7.out)
    rw [hS] at c8
    go_wp2_with fail
    refine c8.mono ?_
    rintro e W8 ⟨b8, uv, rfl, hu⟩
    have HO8 : Hid (IBase.Oi W8 W7.heap.size uv S) := hu
    have HB8 : Hid (Below w.heap.size w W8) := nx HB7.out b8
    have HD8 : Hid (Below W7.heap.size W7 W8) := b8
    clear c8 b8 hu
    have c9 := KRch.check_c (HI.out.below HB8.out)
    rw [hE] at c9
    go_wp2_with fail
    refine (cN _ _).mono ?_
    rintro e w' ⟨rfl, hw'⟩
    subst w'
    go_wp2_with fail
    refine c9.mono ?_
    rintro e W9 ⟨rfl, b9⟩
    have HB9 : Hid (Below w.heap.size w W9) := nx HB8.out b9
    have HD9 : Hid (Below W8.heap.size W8 W9) := b9
    clear c9 b9
    have c10 := KRch.count_c (HI.out.below HB9.out)
    rw [hC] at c10
    go_wp2_with fail
    refine c10.mono ?_
    rintro e W10 ⟨rfl, b10⟩
    have HB10 : Hid (Below w.heap.size w W10) := nx HB9.out b10
    have HD10 : Hid (Below W8.heap.size W8 W10) := nx HD9.out b10
    clear c10 b10
    have c11 := KRch.loops_c (HI.out.below HB10.out)
    rw [hL] at c11
    go_wp2_with fail
    refine c11.mono ?_
    rintro e W11 ⟨rfl, b11⟩
    have HD11 : Hid (Below W8.heap.size W8 W11) := nx HD10.out b11
    clear c11 b11
    have HE6 : Hid (Below W6.heap.size W6 W11) := nx (nx HD7.out HD8.out) HD11.out
    have c12 := same_true (IBase.Oi.ix (HO6.out.below HE6.out)) (IBase.Oi.ix (HO8.out.below HD11.out))
    go_wp2_with fail
    refine c12.mono ?_
    rintro e W12 ⟨rfl, b12⟩
    have HD12 : Hid (Below W8.heap.size W8 W12) := nx HD11.out b12
    clear c12 b12
    have HE12 : Hid (Below W6.heap.size W6 W12) := nx (nx HD7.out HD8.out) HD12.out
    have ho := HO6.out.below HE12.out
    have HO12 : Hid (IBase.Oi W12 W5.heap.size av S) := ho
    have c13 := IInts.spoilI_c ho (by omega)
    clear ho
    go_wp2_with fail
    refine c13.mono ?_
    rintro e W13 ⟨rfl, hg⟩
    have hs56 := HD6.out.size
    have hs67 := HD7.out.size
    have hs78 := HD8.out.size
    have hs8 := HD12.out.size
    have hs25 := HB5.out.size
    have hlt : ∀ g, av.ownBlock = some g → W5.heap.size ≤ g ∧ g < W6.heap.size := fun g hgg => World.ownsRow.lt HO6.out g hgg
    have HB13 : Hid (Below W5.heap.size W5 W13) := (nx HD6.out HE12.out).grown hg (by omega) (fun k hk => (hlt k hk).1)
    have HOb : Hid (IBase.Oi W13 W6.heap.size bv S) := (HO7.out.below (nx HD8.out HD12.out)).grown hg (by
      cases hbo : bv.ownBlock with
      | none => exact .inl rfl
      | some k =>
        refine .inr (fun h => ?_)
        have h1 := (World.ownsRow.lt HO7.out k hbo).1
        have h2 := (hlt k h.symm).2
        omega)
    have HOu : Hid (IBase.Oi W13 W7.heap.size uv S) := (HO8.out.below HD12.out).grown hg (by
      cases hbo : uv.ownBlock with
      | none => exact .inl rfl
      | some k =>
        refine .inr (fun h => ?_)
        have h1 := (World.ownsRow.lt HO8.out k hbo).1
        have h2 := (hlt k h.symm).2
        omega)
    clear c13 hg hlt
    have c14 := same_true (IBase.Oi.ix HOb.out) (IBase.Oi.ix HOu.out)
    go_wp2_with fail
    refine c14.mono ?_
    rintro e W14 ⟨rfl, b14⟩
    have HB14 : Hid (Below W2.heap.size W2 W14) := nx (nx HB5.out HB13.out) b14
    have HC14 : Hid (Below w.heap.size w W14) := nx HB2.out HB14.out
    clear c14 b14
    have c15 := KKp.kepts_c (HX2.out.below HB14.out) (HI.out.below HC14.out)
    go_wp2_with fail
    refine c15.mono ?_
    rintro e W15 ⟨rfl, b15⟩
    have HC15 : Hid (Below w.heap.size w W15) := nx HC14.out b15
    clear c15 b15
    go_wp2_with fail
    refine (awake_c _).mono ?_
    rintro e W16 ⟨rfl, b16⟩
    have HC16 : Hid (Below w.heap.size w W16) := nx HC15.out b16
    clear b16
    go_wp2_with fail
    go_ret
    exact ⟨rfl, HC16.out⟩
end Go.Proofs.YtofjedecjlodmaaGreat.WCc

namespace Go.Proofs.YtofjedecjlodmaaGreat.coreChecks
open Go.ChangeShapes Go.WideShapes Go.ChangeAt Go.RowKit Go.Proofs.YtofjedecjlodmaaGreat Go.Proofs.YtofjedecjlodmaaGreat.WCc
set_option linter.unusedVariables false

theorem own : ownKnob Tryz.prog.godebug = none := by kernel_rfl
set_option maxRecDepth 100000 in
theorem lifted (os : Os) (started : os.Started) (H : Type) (enc : TypeId × Value → H) :
    ReturnsInHanded {} Tryz.checked os 3 .any (Rows.coreChecksSpec.pre6 enc Tryz.prog Tryz.f3 Rows.coreChecksRow.domain false) (Rows.coreChecksSpec.post enc Tryz.prog Tryz.f3 false true false false) := by
  refine returnsInHanded_of_change_sized (C := Tryz.checked) own started (by kernel_rfl) Tryz.func3
    (ChangeSpec.witness6 (enc := enc) (C := Tryz.checked) false ⟨#[], #[.slice none 0 0], []⟩ 8 (by kernel_rfl) (by kernel_rfl) (by kernel_rfl) (by kernel_rfl)) ?_
  intro W base args ds gs before hval0 hW hcnd hsz0 _
  have hval : ∀ (j : Nat) t v, Tryz.f3.params[j]? = some t → args[j]? = some v → Value.okWide Tryz.prog W .any base t v := hval0
  have hsz : (DataW.weightsEach Tryz.prog (Tryz.f3.params.toList ++ Rows.coreChecksSpec.plain.varTypes Tryz.prog) (ds ++ gs)).all (· ≤ reachBytes) = true := hsz0
  have hW' := hW
  obtain ⟨p, q, hA0, hV, rfl, hfz, hnd⟩ := hW
  have hA : DataW.TrodAll enc Tryz.prog W 0 (fun _ => true) true Tryz.f3.params.toList args.toList ds p := hA0
  rw [Tryz.params3] at hA hval hsz
  obtain ⟨v0, vs0, d0, ds0, p0, q0, hargs, rfl, rfl, h0, r0⟩ := trodAll_cons hA
  obtain ⟨rfl, rfl, rfl⟩ := trodAll_nil r0
  obtain rfl : args = #[v0] := by cases args; simp_all
  obtain ⟨rfl, rfl⟩ := trodVars_none hV
  obtain ⟨a0, len0, cap0, rfl⟩ := okWide_slice Tryz.underlying22 (hval 0 22 v0 rfl rfl)
  obtain ⟨⟨m0, l0, g0, k0⟩, s0⟩ := KCm.come h0 hsz (j := 0) rfl rfl rfl
  clear hA0 hval0 hsz0
  simp only [List.append_nil] at hW'
  refine (WCc.walk g0).mono fun e W' ⟨he, bel⟩ => ?_
  subst he
  exact ⟨_, rfl, _, _, _, [], _, [], hW', trodAll_mk1 (shut_bool Tryz.underlying4 _), (trodAll_cons_mk (s0 _ bel) trodAll_mk0), rfl, bel.frame _, fun h => by cases h⟩
theorem over : Rows.coreChecksRow.holds Tryz.pinned (OpenSpec.ofChange Rows.coreChecksSpec) :=
  OpenClaim.holds_of_wide 3 Tryz.f3 rfl rfl rfl rfl rfl rfl rfl ⟨rfl, rfl, rfl, rfl, rfl⟩ rfl rfl rfl rfl rfl (by kernel_rfl) Tryz.func3 (by kernel_rfl)
    (of_decide_eq_true (by kernel_rfl)) (by unfold Func.isWrapper; first | (rw [if_pos (by decide +kernel)]; kernel_rfl) | (rw [if_neg (by decide +kernel)]; exact ⟨rfl, rfl⟩))
    (fun os started H enc _ => lifted os started H enc)
theorem coreChecks_holds : Rows.CoreChecksSaid := over
#print axioms coreChecks_holds
end Go.Proofs.YtofjedecjlodmaaGreat.coreChecks
