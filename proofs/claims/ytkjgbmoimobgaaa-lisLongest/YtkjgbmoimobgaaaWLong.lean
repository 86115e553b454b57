/- The walk of the law LisLongest. -/
import Derived.Test.YtkjgbmoimobgaaaIRef
import Derived.Test.YtkjgbmoimobgaaaIAw
namespace Go.Proofs.Ytkjgbmoimobgaaa.WLong
open Go.RowKit Go.Proofs.Ytkjgbmoimobgaaa.IPure Go.Proofs.Ytkjgbmoimobgaaa.IBase Go.Proofs.Ytkjgbmoimobgaaa.IInts Go.Proofs.Ytkjgbmoimobgaaa.ILong Go.Proofs.Ytkjgbmoimobgaaa.IRef Go.Proofs.Ytkjgbmoimobgaaa.IAw
set_option linter.unusedVariables false

theorem own_lt {w : World} {B : Nat} {v : Value} {L : List Int} (h : Oi w B v L) : ∀ k, v.ownBlock = some k → B ≤ k ∧ k < w.heap.size := World.ownsRow.lt h
set_option maxRecDepth 20000 in
set_option maxHeartbeats 800000 in
theorem walk {w : World} {v : Value} {L : List Int} (hv : Ix w v L) (hn : L.length * 8 ≤ 140737488351232) (hwf : ∀ y ∈ L, (Lit.int .i64 y).wf = true) :
    Calls Try.prog 3 #[v] w fun e w' => e = .returned (.bool true) ∧ Below w.heap.size w w' := by
  have c1 := lendI_c hv (by omega)
  have hKn := K_le L
  go_enter Try.func3, Try.ntmps3
  go_wp2_with (first | (go_at_call 8; refine c1.mono ?_; clear c1; rintro e w1 ⟨x, rfl, hx, b1⟩))
  refine (long_c hx.ix (by omega)).mono ?_
  rintro e w2 ⟨ua, rfl, hA, b2⟩
  go_wp2_with fail
  refine (long_c (hx.below b2).ix (by omega)).mono ?_
  rintro e w3 ⟨ub, rfl, hB, b3⟩
  have B3 := nx (nx b1 b2) b3
  go_wp2_with fail
  refine (rlong_c (hv.below B3) (by omega)).mono ?_
  rintro e w4 ⟨uw, rfl, hW0, b4⟩
  have hW : Oi w4 w3.heap.size uw (ro (K L) fun k => (fin L k : Int)) := hW0
  clear hW0
  have hA4 := (hA.below b3).below b4
  have hB4 := hB.below b4
  have hx4 := ((hx.below b2).below b3).below b4
  have B4 := nx B3 b4
  have cS := sameI_c hA4.ix hW.ix
  rw [decide_eq_true rfl] at cS
  go_wp2_with fail
  refine cS.mono ?_
  rintro e w5 ⟨rfl, b5⟩
  have cK := keptI_c (hx4.below b5) (hv.below (nx B4 b5)) (by omega)
  clear cS
  go_wp2_with fail
  refine cK.mono ?_
  rintro e w6 ⟨rfl, b6⟩
  have B6 := nx (nx B4 b5) b6
  have hA6 := (hA4.below b5).below b6
  have hB6 := (hB4.below b5).below b6
  have hW6 := (hW.below b5).below b6
  have cP := spoilI_c hA6 (by rw [ro_len]; omega)
  clear cK
  go_wp2_with fail
  refine cP.mono ?_
  rintro e w7 ⟨rfl, hg⟩
  have s2 := b2.size
  have s3 := b3.size
  have hla := own_lt hA
  have hB7 : Oi w7 _ ub _ := hB6.grown hg (by
    cases e : ub.ownBlock with
    | none => exact .inl rfl
    | some k =>
      refine .inr fun e2 => ?_
      have h1 := (own_lt hB k e).1
      have h2 := (hla k e2.symm).2
      omega)
  have hW7 : Oi w7 _ uw _ := hW6.grown hg (by
    cases e : uw.ownBlock with
    | none => exact .inl rfl
    | some k =>
      refine .inr fun e2 => ?_
      have h1 := (own_lt hW k e).1
      have h2 := (hla k e2.symm).2
      omega)
  have B7 : Below w.heap.size w w7 := B6.grown hg B6.size (fun k hk => by have := (hla k hk).1; have := b1.size; omega)
  have cS := sameI_c hB7.ix hW7.ix
  rw [decide_eq_true rfl] at cS
  clear cP
  go_wp2_with (first
    | (go_at_call 11; refine cS.mono ?_; clear cS; rintro e w8 ⟨rfl, b8⟩)
    | (go_at_call 14; refine (awake_c _).mono ?_; rintro e w9 ⟨rfl, b9⟩))
  go_ret
  exact ⟨rfl, nx (nx B7 b8) b9⟩
end Go.Proofs.Ytkjgbmoimobgaaa.WLong
