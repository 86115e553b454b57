/- Operations by themselves (package verify): fits. -/
import Derived.Test.YtgknjjaemjkloaaBSt
namespace Go.Proofs.Ytgknjjaemjkloaa.BRe
open Go.RowKit Go.Proofs.Ytgknjjaemjkloaa.BPl Go.Proofs.Ytgknjjaemjkloaa.YRr Go.Proofs.Ytgknjjaemjkloaa.YRs Go.Proofs.Ytgknjjaemjkloaa.BBx Go.Proofs.Ytgknjjaemjkloaa.BIx Go.Proofs.Ytgknjjaemjkloaa.BSm Go.Proofs.Ytgknjjaemjkloaa.BOp Go.Proofs.Ytgknjjaemjkloaa.BSn Go.Proofs.Ytgknjjaemjkloaa.BSt
open Go.Proofs.Ytgknjjaemjkloaa.YPl (Oq Bk Pg)
open Go.Proofs.Ytgknjjaemjkloaa.TBase (T Keep)
open Go.Proofs.Ytgknjjaemjkloaa.CBx (w64)
set_option linter.unusedVariables false

set_option maxRecDepth 20000 in
set_option maxHeartbeats 1600000 in
theorem reaches_c {R : Nat → Prop} {w : World} {B P : Nat} {S : Sh} {hv : Value} {A : Ar} {nb : Nat} {ov : Value} {lt : Int} {uv : Value} {cl : Int} (h : Pw R w P S hv) (hR : ∀ g, R g → g < w.heap.size) (hB : Bw w B P A nb ov lt uv cl) (o : Oq) {lv : Value} (hl : RrS 1 LyI R w lv o.l) (hf : fits S o = true) (hst : 0 ≤ A.st ∧ A.st ≤ 64) :
    Calls Try.prog 102 #[.pointer (some ⟨B, 0, none⟩), opv o lv] w fun e w' => e = .returned (.bool (reaches S A.st o)) ∧ Below w.heap.size w w' := by
  have HL : Hid (RrS 1 LyI R w lv o.l) := hl
  obtain ⟨a, cap, rfl, -⟩ := hl
  obtain ⟨W, hW, hb, hs, hx⟩ := box5 w (.int .i64 o.k) (.int .i64 o.a) (.int .i64 o.b) (.int .i64 o.c) (.slice a o.l.length cap) 46
  have hPw := h.keep (keep_of hb)
  have hBw := hB.keep hb
  have HB : Hid (Below w.heap.size w W) := hb
  have HP : Hid (Pw R W P S hv) := hPw
  have HW : Hid (Bw W B P A nb ov lt uv cl) := hBw
  have c0 := cell_of hx 0 _ rfl
  have c1 := cell_of hx 1 _ rfl
  have c2 := cell_of hx 2 _ rfl
  have c4 := cell_of hx 4 _ rfl
  have b0 := cell_of hBw 0 _ rfl
  have b3 := cell_of hBw 3 _ rfl
  have hR' : ∀ g, R g → g < W.heap.size := fun g hg => Nat.lt_of_lt_of_le (hR g hg) hb.size
  have hl' : RrS 1 LyI R W (.slice a o.l.length cap) o.l := HL.out.keep (fun _ h => h) fun g o x _ hg h => kI (keep_of hb) hg h
  unfold reaches
  clear hx hBw hB h hR hb
  by_cases h5 : o.k = 5
  · rw [if_pos h5]
    obtain ⟨tv, nv, dv, hP, -, -, hN, -⟩ := hPw
    obtain ⟨q, g, oo, cp, e1, i0, i1, hlc, -, rfl, t0⟩ := int_at hN (fits_codeB hf (.inl h5))
    have p1 := cell_of hP 1 _ rfl
    clear hf hP hN HP HW HL hR' hl'
    obtain ⟨k, x, y, z, l⟩ := o
    dsimp only at *
    unfold nda
    generalize S.n.getD y.toNat 0 = u at *
    subst e1
    generalize A.st = s at *
    generalize S.n.length = n at *
    subst h5
    clear hst
    go_enter Try.func102, Try.ntmps102
    go_wp2_with fail
    go_quiet (fail)
    go_wp2_with fail
    go_ret
    exact ⟨rfl, IBase.below_drewN HB.out⟩
  rw [if_neg h5]
  have d5 : (o.k == 5) = false := by simp [h5]
  by_cases h10 : o.k = 10
  · rw [if_pos h10]
    have hin := (fits_list hf h10).2
    have cC := contains_be hl' hR' (fun i => decide (A.st < nda S i)) B fun W' x hx hb' => isBeyond_c (HP.out.keep (keep_of hb')) (HW.out.keep hb') x (hin x hx)
    clear hf hPw HP HW HL hR' hl' hin hst
    obtain ⟨k, x, y, z, l⟩ := o
    dsimp only at *
    generalize (l.any fun i => decide (A.st < nda S i)) = Z at *
    subst h10
    go_enter Try.func102, Try.ntmps102
    go_wp2_with fail
    refine cC.mono ?_
    rintro e W1 ⟨rfl, b1⟩
    have HB1 : Hid (Below w.heap.size w W1) := HB.out.trans (b1.mono HB.out.size)
    clear cC b1
    go_wp2_with fail
    go_ret
    exact ⟨rfl, HB1.out⟩
  rw [if_neg h10]
  have d10 : (o.k == 10) = false := by simp [h10]
  by_cases h9 : o.k = 9
  · rw [if_pos h9]
    obtain ⟨tv, nv, dv, hP, -, -, hN, -⟩ := hPw
    obtain ⟨q, g, oo, cp, e1, i0, i1, hlc, -, rfl, t0⟩ := int_at hN (fits_codeB hf (.inr h9))
    obtain ⟨q', g', oo', cp', e1', i0', i1', hlc', -, hsl, t0'⟩ := int_at hN (fits_code hf (.inr (.inr (.inl h9))))
    cases hsl
    have p1 := cell_of hP 1 _ rfl
    clear hf hP hN HP HW HL hR' hl'
    obtain ⟨k, x, y, z, l⟩ := o
    dsimp only at *
    unfold nda
    generalize S.n.getD y.toNat 0 = u at *
    generalize S.n.getD x.toNat 0 = u' at *
    subst e1
    subst e1'
    generalize A.st = s at *
    generalize S.n.length = n at *
    subst h9
    have hw : IntKind.i64.wrap (s + 2) = s + 2 := w64 (by omega) (by omega)
    clear hst
    by_cases hlt : s + 2 < u
    · rw [if_pos hlt]
      have dl : decide (s + 2 < u) = true := by simp [hlt]
      clear hlt
      go_enter Try.func102, Try.ntmps102
      go_wp2_with fail
      go_quiet (fail)
      go_wp2_with fail
      go_ret
      exact ⟨rfl, IBase.below_drewN HB.out⟩
    · rw [if_neg hlt]
      have dl : decide (s + 2 < u) = false := by simp; omega
      clear hlt
      go_enter Try.func102, Try.ntmps102
      go_wp2_with fail
      go_quiet (fail)
      go_wp2_with fail
      go_quiet (fail)
      go_wp2_with fail
      go_ret
      exact ⟨rfl, IBase.below_drewN (IBase.below_drewN HB.out)⟩
  rw [if_neg h9]
  have d9 : (o.k == 9) = false := by simp [h9]
  by_cases hc : o.k = 2 ∨ o.k = 8 ∨ o.k = 11
  · rw [if_pos hc]
    obtain ⟨tv, nv, dv, hP, -, -, hN, -⟩ := hPw
    obtain ⟨q, g, oo, cp, e1, i0, i1, hlc, -, rfl, t0⟩ := int_at hN (fits_code hf (by omega))
    have p1 := cell_of hP 1 _ rfl
    clear hf hP hN HP HW HL hR' hl'
    obtain ⟨k, x, y, z, l⟩ := o
    dsimp only at *
    unfold nda
    generalize S.n.getD x.toNat 0 = u at *
    subst e1
    generalize A.st = s at *
    generalize S.n.length = n at *
    clear hst h5 h10 h9
    rcases hc with rfl | rfl | rfl <;> (
      go_enter Try.func102, Try.ntmps102
      go_wp2_with fail
      go_quiet (fail)
      go_wp2_with fail
      go_ret
      exact ⟨rfl, IBase.below_drewN HB.out⟩)
  rw [if_neg hc]
  have d2 : (o.k == 2) = false := by simp; omega
  have d8 : (o.k == 8) = false := by simp; omega
  have d11 : (o.k == 11) = false := by simp; omega
  clear hf hPw HP HW HL hR' hl' h5 h10 h9 hc hst
  obtain ⟨k, x, y, z, l⟩ := o
  dsimp only at *
  go_enter Try.func102, Try.ntmps102
  go_wp2_with fail
  go_ret
  exact ⟨rfl, HB.out⟩
end Go.Proofs.Ytgknjjaemjkloaa.BRe

namespace Go.Proofs.Ytgknjjaemjkloaa.BFz
open Go.RowKit Go.Proofs.Ytgknjjaemjkloaa.BPl Go.Proofs.Ytgknjjaemjkloaa.YRr Go.Proofs.Ytgknjjaemjkloaa.YRs Go.Proofs.Ytgknjjaemjkloaa.BBx Go.Proofs.Ytgknjjaemjkloaa.BIx Go.Proofs.Ytgknjjaemjkloaa.BSm Go.Proofs.Ytgknjjaemjkloaa.BOp Go.Proofs.Ytgknjjaemjkloaa.BSn Go.Proofs.Ytgknjjaemjkloaa.BSt
open Go.Proofs.Ytgknjjaemjkloaa.YPl (Oq Bk Pg)
open Go.Proofs.Ytgknjjaemjkloaa.TBase (T Keep)
open Go.Proofs.Ytgknjjaemjkloaa.CBx (w64)
set_option linter.unusedVariables false

theorem frozen_of {W : World} {B : Nat} {cs : Array Value} {t : TypeId} (h : W.heap[B]? = some (.cells cs t (0, 0))) (j : Nat) : W.frozen? ⟨B, j, none⟩ = false := by simp [World.frozen?, h]
/-- The number 0 is the only one that is 0. -/
theorem len0 (n : Nat) : ((n : Int) == 0) = decide (n = 0) := by
  cases n <;> simp <;> omega
end Go.Proofs.Ytgknjjaemjkloaa.BFz
