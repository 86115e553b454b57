import Derived.BigQuiet
import Derived.Deep.CutBlock
import Derived.Deep.CutRange
import Derived.Test.YtaiackmmmlhgbaaGreatPV25
open Go.Proofs.Tryz
set_option linter.unusedVariables false
set_option maxRecDepth 20000
set_option maxHeartbeats 12800000
namespace Go.Proofs.YtaiackmmmlhgbaaGreat.BQf
open Go.RowKit BPl YRr YRs BBx BQa BQb BQe
open YPl (Oq Bk Pg)
open BSf (hid)
open TBase (Keep heap_alloc_new)
theorem and3 {a b c : Bool} : (a && (b && c)) = ((a && b) && c) := by cases a <;> rfl
theorem all_snoc (n : Nat) (cs : List Int) {q : Nat} (h : q < cs.length) : ((cs.take (q + 1)).all fun i => isN i n) = (((cs.take q).all fun i => isN i n) && isN cs[q] n) := by
 rw [List.take_succ_eq_append_getElem h, List.all_append]
 simp
theorem op_c {R : Nat -> Prop} {w : World} {X n tc nc cc ns sc p : Nat} {ta ca sa : Option Addr} {bv iv : Value} {bk pl ft dp : Int} {lv nv : Value} (h : Lw w X (.slice ta n tc) (.slice ca nc cc) (.slice sa ns sc) bv iv bk pl ft (p : Int) dp lv nv) {S : Sh} (ht : RrS 1 LyS R w (.slice ta n tc) S.t) (hnc : nc = S.n.length) (hns : ns = S.d.length) (hR : ∀ g, R g -> g < w.heap.size)
  {o : Oq} {la : Option Addr} {lc ln : Nat} (hl : RrS 1 LyI R w (.slice la ln lc) o.l) (ha : i64 o.a) (hb : i64 o.b) :
  Calls prog 97 #[.pointer (some ⟨X, 0, none⟩), .agg #[.int .i64 o.k, .int .i64 o.a, .int .i64 o.b, .int .i64 o.c, .slice la ln lc]] w fun e w' => e = .returned (.bool (decide (8192 <= p) || !fits S o)) /\ Below w.heap.size w w' := by
 have hln : o.l.length = ln := by obtain ⟨_, _, e, -⟩ := hl; cases e; rfl
 rw [fits_rop]
 obtain ⟨W, hW, bW, sW, xW⟩ := BSm.box5 w (.int .i64 o.k) (.int .i64 o.a) (.int .i64 o.b) (.int .i64 o.c) (.slice la ln lc) 127
 have XW := hid xW
 have z0 := cell_of xW 0 _ rfl
 have z1 := cell_of xW 1 _ rfl
 have z2 := cell_of xW 2 _ rfl
 have z3 := cell_of xW 3 _ rfl
 have z4 := cell_of xW 4 _ rfl
 have hXl : X < w.heap.size := (Array.getElem?_eq_some_iff.1 h).1
 have hsW : w.heap.size < W.heap.size := by omega
 have HX : Hid (∀ W', Below w.heap.size w W' -> Lw W' X (.slice ta n tc) (.slice ca nc cc) (.slice sa ns sc) bv iv bk pl ft (p : Int) dp lv nv) := fun W' hb => (hb.block X hXl).trans h
 obtain ⟨c0, c1, c2, -, -, -, -, -, c8, -⟩ := (HX.out W bW).cell
 have BW := hid bW
 have HT := hid ht
 have HL := hid hl
 have HR := hid hR
 have HNT : Hid (S.t.length = n) := by obtain ⟨_, _, e, -⟩ := ht; cases e; rfl
 have HNC := hid hnc
 have HNS := hid hns
 have HA := hid ha
 have HBI := hid hb
 have HLN := hid hln
 have cU := used_c o.k W
 obtain ⟨ua, hua⟩ : ∃ x, uA o.k = x := ⟨_, rfl⟩
 obtain ⟨ub, hub⟩ : ∃ x, uB o.k = x := ⟨_, rfl⟩
 obtain ⟨uc, huc⟩ : ∃ x, uC o.k = x := ⟨_, rfl⟩
 obtain ⟨ul, hul⟩ : ∃ x, uL o.k = x := ⟨_, rfl⟩
 obtain ⟨uk, huk⟩ : ∃ x, uK o.k = x := ⟨_, rfl⟩
 rw [hua, hub, huc, hul, huk] at cU
 obtain ⟨P8, dp8⟩ : ∃ x, decide ((8192 : Int) <= (p : Int)) = x := ⟨_, rfl⟩
 obtain ⟨dA, ddA⟩ : ∃ x, (o.a != 0) = x := ⟨_, rfl⟩
 obtain ⟨dB, ddB⟩ : ∃ x, (o.b != 0) = x := ⟨_, rfl⟩
 obtain ⟨dC, ddC⟩ : ∃ x, (o.c != 0) = x := ⟨_, rfl⟩
 obtain ⟨L0, dL0⟩ : ∃ x, decide (0 < ln) = x := ⟨_, rfl⟩
 obtain ⟨L6, dL6⟩ : ∃ x, decide ((64 : Int) < (ln : Int)) = x := ⟨_, rfl⟩
 obtain ⟨R1, hR1⟩ : ∃ x, r1 p o = x := ⟨_, rfl⟩
 have HRR : Hid (R1 = (P8 || (!uk || ((!ua && dA) || ((!ub && dB) || ((!uc && dC) || ((!ul && L0) || L6))))))) := by
  show R1 = _
  rw [<- hR1]
  unfold r1
  have e1 : decide (8192 <= p) = P8 := by rw [<- dp8]; by_cases h : 8192 <= p <;> simp [h] <;> omega
  have e3 : decide (64 < ln) = L6 := by rw [<- dL6]; by_cases h : 64 < ln <;> simp [h] <;> omega
  rw [e1, hln, dL0, e3, hua, hub, huc, hul, huk, ddA, ddB, ddC]
 have HD0 := hid dL0
 have HD6 := hid dL6
 have HR1 := hid hR1
 have HUK := hid huk
 clear h ht hl hR hnc hns ha hb bW xW sW hua hub huc hul huk hR1 dL0 hln
 go_enter func97, ntmps97
 go_wp2_with fail
 refine cU.mono ?_
 rintro e W1 ⟨rfl, h1⟩
 obtain rfl := h1
 clear cU
 go_upto_region 2 with fail
 go_cut [73] from 22 to 73 (fun t wx => t = .bool R1 /\ wx = W)
 case first =>
  rcases Nat.eq_zero_or_pos ln with h0 | h0
  ·have e0 : L0 = false := by rw [<- HD0.out, h0]; rfl
   have e6 : L6 = false := by rw [<- dL6, h0]; rfl
   subst e0 e6 h0
   clear dL6 HD0 HD6 HLN HL HNC HNS HNT HT
   cases P8 with
   | true =>
    go_wp2_with fail
    go_meet
    exact ⟨by rw [HRR.out]; rfl, rfl⟩
   | false =>
   cases uk with
   | false =>
    go_wp2_with fail
    go_meet
    exact ⟨by rw [HRR.out]; rfl, rfl⟩
   | true =>
   cases ua with
   | true =>
    cases ub with
    | true =>
     cases uc with
     | true =>
      cases ul with
      | true =>
       go_wp2_with fail
       go_meet
       exact ⟨by rw [HRR.out]; rfl, rfl⟩
      | false =>
       go_wp2_with fail
       go_meet
       exact ⟨by rw [HRR.out]; rfl, rfl⟩
     | false =>
      cases dC with
      | true =>
       go_wp2_with fail
       go_meet
       exact ⟨by rw [HRR.out]; rfl, rfl⟩
      | false =>
      cases ul with
      | true =>
       go_wp2_with fail
       go_meet
       exact ⟨by rw [HRR.out]; rfl, rfl⟩
      | false =>
       go_wp2_with fail
       go_meet
       exact ⟨by rw [HRR.out]; rfl, rfl⟩
    | false =>
     cases dB with
     | true =>
      go_wp2_with fail
      go_meet
      exact ⟨by rw [HRR.out]; rfl, rfl⟩
     | false =>
     cases uc with
     | true =>
      cases ul with
      | true =>
       go_wp2_with fail
       go_meet
       exact ⟨by rw [HRR.out]; rfl, rfl⟩
      | false =>
       go_wp2_with fail
       go_meet
       exact ⟨by rw [HRR.out]; rfl, rfl⟩
     | false =>
      cases dC with
      | true =>
       go_wp2_with fail
       go_meet
       exact ⟨by rw [HRR.out]; rfl, rfl⟩
      | false =>
      cases ul with
      | true =>
       go_wp2_with fail
       go_meet
       exact ⟨by rw [HRR.out]; rfl, rfl⟩
      | false =>
       go_wp2_with fail
       go_meet
       exact ⟨by rw [HRR.out]; rfl, rfl⟩
   | false =>
    cases dA with
    | true =>
     go_wp2_with fail
     go_meet
     exact ⟨by rw [HRR.out]; rfl, rfl⟩
    | false =>
    cases ub with
    | true =>
     cases uc with
     | true =>
      cases ul with
      | true =>
       go_wp2_with fail
       go_meet
       exact ⟨by rw [HRR.out]; rfl, rfl⟩
      | false =>
       go_wp2_with fail
       go_meet
       exact ⟨by rw [HRR.out]; rfl, rfl⟩
     | false =>
      cases dC with
      | true =>
       go_wp2_with fail
       go_meet
       exact ⟨by rw [HRR.out]; rfl, rfl⟩
      | false =>
      cases ul with
      | true =>
       go_wp2_with fail
       go_meet
       exact ⟨by rw [HRR.out]; rfl, rfl⟩
      | false =>
       go_wp2_with fail
       go_meet
       exact ⟨by rw [HRR.out]; rfl, rfl⟩
    | false =>
     cases dB with
     | true =>
      go_wp2_with fail
      go_meet
      exact ⟨by rw [HRR.out]; rfl, rfl⟩
     | false =>
     cases uc with
     | true =>
      cases ul with
      | true =>
       go_wp2_with fail
       go_meet
       exact ⟨by rw [HRR.out]; rfl, rfl⟩
      | false =>
       go_wp2_with fail
       go_meet
       exact ⟨by rw [HRR.out]; rfl, rfl⟩
     | false =>
      cases dC with
      | true =>
       go_wp2_with fail
       go_meet
       exact ⟨by rw [HRR.out]; rfl, rfl⟩
      | false =>
      cases ul with
      | true =>
       go_wp2_with fail
       go_meet
       exact ⟨by rw [HRR.out]; rfl, rfl⟩
      | false =>
       go_wp2_with fail
       go_meet
       exact ⟨by rw [HRR.out]; rfl, rfl⟩
  ·have e0 : L0 = true := by rw [<- HD0.out]; simp; omega
   have d0n : decide (0 < ln) = true := by simp; omega
   have d0 : decide ((0 : Int) < (ln : Int)) = true := by simp; omega
   subst e0
   clear HD0 h0
   cases P8 with
   | true =>
    go_wp2_with fail
    go_meet
    exact ⟨by rw [HRR.out]; rfl, rfl⟩
   | false =>
   cases uk with
   | false =>
    go_wp2_with fail
    go_meet
    exact ⟨by rw [HRR.out]; rfl, rfl⟩
   | true =>
   cases ua with
   | true =>
    cases ub with
    | true =>
     cases uc with
     | true =>
      cases ul with
      | false =>
       go_wp2_with fail
       go_meet
       exact ⟨by rw [HRR.out]; rfl, rfl⟩
      | true =>
      cases L6 with
      | true =>
       go_wp2_with fail
       go_meet
       exact ⟨by rw [HRR.out]; rfl, rfl⟩
      | false =>
       go_wp2_with fail
       go_meet
       exact ⟨by rw [HRR.out]; rfl, rfl⟩
     | false =>
      cases dC with
      | true =>
       go_wp2_with fail
       go_meet
       exact ⟨by rw [HRR.out]; rfl, rfl⟩
      | false =>
      cases ul with
      | false =>
       go_wp2_with fail
       go_meet
       exact ⟨by rw [HRR.out]; rfl, rfl⟩
      | true =>
      cases L6 with
      | true =>
       go_wp2_with fail
       go_meet
       exact ⟨by rw [HRR.out]; rfl, rfl⟩
      | false =>
       go_wp2_with fail
       go_meet
       exact ⟨by rw [HRR.out]; rfl, rfl⟩
    | false =>
     cases dB with
     | true =>
      go_wp2_with fail
      go_meet
      exact ⟨by rw [HRR.out]; rfl, rfl⟩
     | false =>
     cases uc with
     | true =>
      cases ul with
      | false =>
       go_wp2_with fail
       go_meet
       exact ⟨by rw [HRR.out]; rfl, rfl⟩
      | true =>
      cases L6 with
      | true =>
       go_wp2_with fail
       go_meet
       exact ⟨by rw [HRR.out]; rfl, rfl⟩
      | false =>
       go_wp2_with fail
       go_meet
       exact ⟨by rw [HRR.out]; rfl, rfl⟩
     | false =>
      cases dC with
      | true =>
       go_wp2_with fail
       go_meet
       exact ⟨by rw [HRR.out]; rfl, rfl⟩
      | false =>
      cases ul with
      | false =>
       go_wp2_with fail
       go_meet
       exact ⟨by rw [HRR.out]; rfl, rfl⟩
      | true =>
      cases L6 with
      | true =>
       go_wp2_with fail
       go_meet
       exact ⟨by rw [HRR.out]; rfl, rfl⟩
      | false =>
       go_wp2_with fail
       go_meet
       exact ⟨by rw [HRR.out]; rfl, rfl⟩
   | false =>
    cases dA with
    | true =>
     go_wp2_with fail
     go_meet
     exact ⟨by rw [HRR.out]; rfl, rfl⟩
    | false =>
    cases ub with
    | true =>
     cases uc with
     | true =>
      cases ul with
      | false =>
       go_wp2_with fail
       go_meet
       exact ⟨by rw [HRR.out]; rfl, rfl⟩
      | true =>
      cases L6 with
      | true =>
       go_wp2_with fail
       go_meet
       exact ⟨by rw [HRR.out]; rfl, rfl⟩
      | false =>
       go_wp2_with fail
       go_meet
       exact ⟨by rw [HRR.out]; rfl, rfl⟩
     | false =>
      cases dC with
      | true =>
       go_wp2_with fail
       go_meet
       exact ⟨by rw [HRR.out]; rfl, rfl⟩
      | false =>
      cases ul with
      | false =>
       go_wp2_with fail
       go_meet
       exact ⟨by rw [HRR.out]; rfl, rfl⟩
      | true =>
      cases L6 with
      | true =>
       go_wp2_with fail
       go_meet
       exact ⟨by rw [HRR.out]; rfl, rfl⟩
      | false =>
       go_wp2_with fail
       go_meet
       exact ⟨by rw [HRR.out]; rfl, rfl⟩
    | false =>
     cases dB with
     | true =>
      go_wp2_with fail
      go_meet
      exact ⟨by rw [HRR.out]; rfl, rfl⟩
     | false =>
     cases uc with
     | true =>
      cases ul with
      | false =>
       go_wp2_with fail
       go_meet
       exact ⟨by rw [HRR.out]; rfl, rfl⟩
      | true =>
      cases L6 with
      | true =>
       go_wp2_with fail
       go_meet
       exact ⟨by rw [HRR.out]; rfl, rfl⟩
      | false =>
       go_wp2_with fail
       go_meet
       exact ⟨by rw [HRR.out]; rfl, rfl⟩
     | false =>
      cases dC with
      | true =>
       go_wp2_with fail
       go_meet
       exact ⟨by rw [HRR.out]; rfl, rfl⟩
      | false =>
      cases ul with
      | false =>
       go_wp2_with fail
       go_meet
       exact ⟨by rw [HRR.out]; rfl, rfl⟩
      | true =>
      cases L6 with
      | true =>
       go_wp2_with fail
       go_meet
       exact ⟨by rw [HRR.out]; rfl, rfl⟩
      | false =>
       go_wp2_with fail
       go_meet
       exact ⟨by rw [HRR.out]; rfl, rfl⟩
 case rest =>
 obtain ⟨rfl, hwx⟩ := hcut
 obtain rfl := hwx.symm
 clear c8 ddA ddB ddC dL6 dp8 HRR z3 z4 HD0
 cases R1 with
 | true =>
  go_wp2_with fail
  go_ret
  exact ⟨by rw [HR1.out]; rfl, BW.out⟩
 | false =>
 have HFL : Hid (ln <= 64) := by
  show ln <= 64
  have := HR1.out
  unfold r1 at this
  rw [HLN.out] at this
  simp only [Bool.or_eq_false_iff] at this
  have h6 := this.2.2.2.2.2.2
  simp at h6
  omega
 have HP8 : Hid (r1 p o = false) := HR1.out
 have euk : uk = true := by
  have := HR1.out
  unfold r1 at this
  rw [HUK.out] at this
  cases uk with
  | true => rfl
  | false => simp at this
 subst euk
 clear HR1 HD6
 go_upto_block 0 with fail
 go_cut [9] from 76 to 126 (fun t wx => t = .bool (okk S o) /\ Below W.heap.size W wx)
 case first =>
  by_cases h1 : o.k = 1
  ·have HOK : Hid (okk S o = isN o.a n) := by show okk S o = _; unfold okk; rw [if_pos h1, HNT.out]
   have d1 : (o.k == 1) = true := by simp [h1]
   obtain ⟨D, hD⟩ : ∃ D, isN o.a n = D := ⟨_, rfl⟩
   have cI : ∀ w, Calls prog 102 #[.int .i64 o.a, .int .i64 (n : Int)] w fun e w' => e = .returned (.bool D) /\ w' = w := fun w => by rw [<- hD]; exact (in_c o.a n w).mono fun e w' h => ⟨h.1, h.2.symm⟩
   rw [hD] at HOK
   clear h1 hD
   go_wp2_with fail
   go_quiet (first | (go_at_call 102; exact Calls.quiet_of_same (cI _)) | (go_at_call 153; exact Calls.quiet_of_same (cT _)))
   go_wp2_with fail
   go_meet
   exact ⟨by rw [HOK.out]; try rfl, IBase.below_drewN (Below.refl _ W)⟩
  by_cases h3 : o.k = 3
  ·have HOK : Hid (okk S o = isTg S o.a) := by show okk S o = _; unfold okk; simp [h3]
   have d1 : (o.k == 1) = false := by simp [h3]
   have d3 : (o.k == 3) = true := by simp [h3]
   have cT := tag_c (HX.out W BW.out) (S := S) (R := R) (HT.out.keep (fun b hb => hb) (fun g o x _ hg h => kS (S := R) (fun b hb hl => BW.out.block b (HR.out b hb)) hg h)) o.a
   obtain ⟨D, hD⟩ : ∃ D, isTg S o.a = D := ⟨_, rfl⟩
   rw [hD] at cT HOK
   clear h3 hD
   go_wp2_with (first | (go_at_call 153; refine cT.mono ?_; rintro e w5 ⟨rfl, h5⟩; obtain rfl := h5))
   go_meet
   exact ⟨by rw [HOK.out]; try rfl, Below.refl _ _⟩
  by_cases h5 : o.k = 5
  ·have HOK : Hid (okk S o = isTg S o.a) := by show okk S o = _; unfold okk; simp [h5]
   have d1 : (o.k == 1) = false := by simp [h5]
   have d3 : (o.k == 3) = false := by simp [h5]
   have d5 : (o.k == 5) = true := by simp [h5]
   have cT := tag_c (HX.out W BW.out) (S := S) (R := R) (HT.out.keep (fun b hb => hb) (fun g o x _ hg h => kS (S := R) (fun b hb hl => BW.out.block b (HR.out b hb)) hg h)) o.a
   obtain ⟨D, hD⟩ : ∃ D, isTg S o.a = D := ⟨_, rfl⟩
   rw [hD] at cT HOK
   clear h5 hD
   go_wp2_with (first | (go_at_call 153; refine cT.mono ?_; rintro e w5 ⟨rfl, h5⟩; obtain rfl := h5))
   go_meet
   exact ⟨by rw [HOK.out]; try rfl, Below.refl _ _⟩
  by_cases h4 : o.k = 4
  ·have HOK : Hid (okk S o = (isTg S o.a && isN o.b n)) := by show okk S o = _; unfold okk; rw [if_neg (by omega), if_neg (by omega), if_pos h4, HNT.out]; cases isTg S o.a <;> rfl
   have d1 : (o.k == 1) = false := by simp [h4]
   have d3 : (o.k == 3) = false := by simp [h4]
   have d5 : (o.k == 5) = false := by simp [h4]
   have d4 : (o.k == 4) = true := by simp [h4]
   obtain ⟨D2, hD2⟩ : ∃ D, isTg S o.a = D := ⟨_, rfl⟩
   obtain ⟨D, hD⟩ : ∃ D, isN o.b n = D := ⟨_, rfl⟩
   have cT : ∀ m, Calls prog 153 #[.pointer (some ⟨X, 0, none⟩), .int .i64 o.a] (W.drewN m) fun e w' => e = .returned (.bool D2) /\ w' = W.drewN m := fun m => by
    rw [<- hD2]
    refine (tag_c (HX.out _ (IBase.below_drewN BW.out)) (S := S) (R := R) (HT.out.keep (fun b hb => hb) (fun g o x _ hg h => kS (S := R) (fun b hb hl => (IBase.below_drewN BW.out : Below w.heap.size w (W.drewN m)).block b (HR.out b hb)) hg h)) o.a).mono fun e w' h => ⟨h.1, h.2.symm⟩
   have cI : ∀ w, Calls prog 102 #[.int .i64 o.b, .int .i64 (n : Int)] w fun e w' => e = .returned (.bool D) /\ w' = w := fun w => by rw [<- hD]; exact (in_c o.b n w).mono fun e w' h => ⟨h.1, h.2.symm⟩
   rw [hD2, hD] at HOK
   clear h4 hD hD2
   cases D2 with
   | true =>
    go_wp2_with fail
    go_quiet (first | (go_at_call 102; exact Calls.quiet_of_same (cI _)) | (go_at_call 153; exact Calls.quiet_of_same (cT _)))
    go_wp2_with fail
    go_meet
    exact ⟨by rw [HOK.out]; try rfl, IBase.below_drewN (Below.refl _ W)⟩
   | false =>
    go_wp2_with fail
    go_quiet (first | (go_at_call 102; exact Calls.quiet_of_same (cI _)) | (go_at_call 153; exact Calls.quiet_of_same (cT _)))
    go_wp2_with fail
    go_meet
    exact ⟨by rw [HOK.out]; try rfl, IBase.below_drewN (Below.refl _ W)⟩
  by_cases h7 : o.k = 7
  ·have HOK : Hid (okk S o = isN o.a ns) := by show okk S o = _; unfold okk; rw [if_neg (by omega), if_neg (by omega), if_neg (by omega), if_pos h7, HNS.out]
   have d1 : (o.k == 1) = false := by simp [h7]
   have d3 : (o.k == 3) = false := by simp [h7]
   have d5 : (o.k == 5) = false := by simp [h7]
   have d4 : (o.k == 4) = false := by simp [h7]
   have d7 : (o.k == 7) = true := by simp [h7]
   obtain ⟨D, hD⟩ : ∃ D, isN o.a ns = D := ⟨_, rfl⟩
   have cI : ∀ w, Calls prog 102 #[.int .i64 o.a, .int .i64 (ns : Int)] w fun e w' => e = .returned (.bool D) /\ w' = w := fun w => by rw [<- hD]; exact (in_c o.a ns w).mono fun e w' h => ⟨h.1, h.2.symm⟩
   rw [hD] at HOK
   clear h7 hD
   go_wp2_with fail
   go_quiet (first | (go_at_call 102; exact Calls.quiet_of_same (cI _)) | (go_at_call 153; exact Calls.quiet_of_same (cT _)))
   go_wp2_with fail
   go_meet
   exact ⟨by rw [HOK.out]; try rfl, IBase.below_drewN (Below.refl _ W)⟩
  by_cases h12 : o.k = 12
  ·have HOK : Hid (okk S o = decide (1 <= o.a)) := by show okk S o = _; unfold okk; simp [h12]
   have d1 : (o.k == 1) = false := by simp [h12]
   have d3 : (o.k == 3) = false := by simp [h12]
   have d5 : (o.k == 5) = false := by simp [h12]
   have d4 : (o.k == 4) = false := by simp [h12]
   have d7 : (o.k == 7) = false := by simp [h12]
   have d12 : (o.k == 12) = true := by simp [h12]
   obtain ⟨D, hD⟩ : ∃ D, decide (1 <= o.a) = D := ⟨_, rfl⟩
   rw [hD] at HOK
   clear h12
   go_wp2_with fail
   go_meet
   exact ⟨by rw [HOK.out]; try rfl, Below.refl _ _⟩
  have HOK : Hid (okk S o = true) := by show okk S o = _; unfold okk; rw [if_neg h1, if_neg (by omega), if_neg h4, if_neg h7, if_neg h12]
  have d1 : (o.k == 1) = false := by simp [h1]
  have d3 : (o.k == 3) = false := by simp [h3]
  have d5 : (o.k == 5) = false := by simp [h5]
  have d4 : (o.k == 4) = false := by simp [h4]
  have d7 : (o.k == 7) = false := by simp [h7]
  have d12 : (o.k == 12) = false := by simp [h12]
  clear h1 h3 h5 h4 h7 h12
  go_wp2_with fail
  go_meet
  exact ⟨by rw [HOK.out], Below.refl _ _⟩
 case rest =>
 obtain ⟨rfl, hwx⟩ := hcut
 obtain ⟨ok0, hok0⟩ : ∃ x, okk S o = x := ⟨_, rfl⟩
 have HOK0 := hid hok0
 have hB1 : Below w.heap.size w wc := BW.out.trans (hwx.mono (by omega))
 have HB1 := hid hB1
 have hs1 := hB1.size
 have hX1 := (hwx.block w.heap.size hsW).trans XW.out
 clear z0 z1 z2 c0 c1 c2 hok0
 have y0 := cell_of hX1 0 _ rfl
 have y1 := cell_of hX1 1 _ rfl
 have y2 := cell_of hX1 2 _ rfl
 have y3 := cell_of hX1 3 _ rfl
 have y4 := cell_of hX1 4 _ rfl
 have cC := codes_c (R := R) (o := o) (la := la) (lc := lc) (w := wc) (by rw [HLN.out]; exact HL.out.keep (fun b hb => hb) (fun g o x _ hg h => kI (S := R) (fun b hb hl => hB1.block b (HR.out b hb)) hg h)) (fun g hg => Nat.lt_of_lt_of_le (HR.out g hg) hs1) (by rw [HLN.out]; exact HFL.out) HA.out HBI.out
 rw [HLN.out] at cC
 have HC64 : Hid ((cdl o).1.length <= 64) := BQd.cdl_64 (by rw [HLN.out]; exact HFL.out)
 obtain ⟨cs, hcs⟩ : ∃ cs, (cdl o).1 = cs := ⟨_, rfl⟩
 rw [hcs] at cC HC64
 have HCS := hid hcs
 obtain ⟨m, hm⟩ : ∃ m, cs.length = m := ⟨_, rfl⟩
 have HM := hid hm
 have hm64 : m <= 64 := by rw [<- hm]; exact HC64.out
 obtain ⟨W1, hW1⟩ : ∃ W1, W1 = wc := ⟨_, rfl⟩
 subst hW1
 have HSW := hid hs1
 clear hcs hm hwx hB1 hX1
 go_wp2_with fail
 refine cC.mono ?_
 rintro e W2 ⟨u, v, rfl, hu, hv, b2⟩
 have HU := hid hu
 obtain ⟨ua, uc, rfl, -⟩ := hu
 rw [HM.out]
 have HB2 := hid (HB1.out.trans (b2.mono HSW.out) : Below w.heap.size w W2)
 obtain ⟨k0, k1, -⟩ := (HX.out W2 HB2.out).cell
 have hs2 := HB2.out.size
 clear b2 cC y0 y1 y2 y3 y4 hv
 go_wp2_with fail
 go_loopw [9, 12] (fun ok i wr => ∃ (q : Nat) (acc : Bool), q <= m /\ i = .int .i64 q /\ ok = .bool acc /\ Hid ((ok0 && (cs.take q).all fun i => isN i S.n.length) = acc) /\ Below W2.heap.size W2 wr) (fun _ i _ => m - (intOf i).toNat)
 case atStart => exact ⟨0, ok0, by omega, rfl, by rw [<- HOK0.out], (by show (_ && _) = _; simp), Below.refl _ _⟩
 case round =>
  obtain ⟨q, acc, hq, rfl, rfl, HAC, hwr⟩ := hrel
  have HWR := hid hwr
  by_cases hlt : q < m
  ·have t0 : decide ((q : Int) < (m : Int)) = true := by simp; omega
   have i1 : (0 : Int) <= (q : Int) := by omega
   have i2 : (q : Int) < (m : Int) := by omega
   have hqc : q < cs.length := by rw [HM.out]; exact hlt
   have HAS := hid (all_snoc S.n.length cs hqc)
   obtain ⟨g1, o1, k3, hsl, -, -, -, ⟨y1, -⟩⟩ := RrS.at HU.out hqc
   rw [HM.out] at hsl
   cases hsl
   rw [Nat.mul_one] at y1
   obtain ⟨x, hx⟩ : ∃ x, cs[q] = x := ⟨_, rfl⟩
   rw [hx] at y1 HAS
   have y1w := IBase.below_cell y1 hwr
   have y0w := IBase.below_cell k1 hwr
   have hwq := fun n => (IBase.below_drewN hwr : Below W2.heap.size W2 (wr.drewN n))
   have HNX := hid hwq
   obtain ⟨D, hD⟩ : ∃ D, isN x nc = D := ⟨_, rfl⟩
   have HD := hid hD
   have cI : ∀ w, Calls prog 102 #[.int .i64 x, .int .i64 (nc : Int)] w fun e w' => e = .returned (.bool D) /\ w' = w := fun w => by rw [<- hD]; exact (in_c x nc w).mono fun e w' h => ⟨h.1, h.2.symm⟩
   clear hx y1 k0 k1 hwr hD hwq
   cases acc with
   | false =>
    go_wp2_with fail
    go_quiet (first | (go_at_call 102; exact Calls.quiet_of_same (cI _)))
    go_wp2_with fail
    go_roundw
    case rel => exact ⟨q + 1, false, by omega, by go_num, rfl, (by show (_ && _) = _; rw [HAS.out, and3, HAC.out]; rfl), HNX.out _⟩
    case measure => simp only [intOf]; omega
   | true =>
    go_wp2_with fail
    go_quiet (first | (go_at_call 102; exact Calls.quiet_of_same (cI _)))
    go_wp2_with fail
    go_roundw
    case rel => exact ⟨q + 1, D, by omega, by go_num, rfl, (by show (_ && _) = _; rw [HAS.out, and3, HAC.out, <- HNC.out, HD.out]; rfl), HNX.out _⟩
    case measure => simp only [intOf]; omega
  ·have hqe : m = q := by omega
   subst hqe
   have t0 : decide ((m : Int) < (m : Int)) = false := by simp
   have HE := hid (HB2.out.trans (HWR.out.mono hs2))
   have HTA : Hid ((cs.take m).all (fun i => isN i S.n.length) = cs.all fun i => isN i S.n.length) := by
    show _ = _
    rw [List.take_of_length_le (by rw [HM.out]; omega)]
   clear hlt hq
   cases acc <;> (
   go_wp2_with fail
   first | go_ret | refine ⟨rfl, _, results_tmp rfl _ _ _, ?_⟩
   exact ⟨by rw [HP8.out, Bool.false_or, HOK0.out, HCS.out, <- HTA.out, HAC.out]; rfl, HE.out⟩)
end Go.Proofs.YtaiackmmmlhgbaaGreat.BQf
namespace Go.Proofs.YtaiackmmmlhgbaaGreat.BQh
open Go.RowKit BPl YRr BQb BRn BQg
open YPl (Oq Bk Pg)
open BSf (hid)
open BPs (Xl)
open BVf (cell_set)
open CBx (w64)
open TBase (Keep heap_alloc_new)
def ShE (X L E : Nat) (tv cv sv bv iv : Value) (bk pl ft at' : Int) (s : Lk) (w : World) (r : Option Lk) (e : Ending) (w' : World) : Prop :=
 e = .returned (.bool r.isNone) /\ (∃ lv nv, Lv w' X L E tv cv sv bv iv bk pl ft at' (r.getD s) lv nv) /\ Xe X L E w w'
theorem shape3 {w : World} {X L E Q nb p hcap nc cc ns sc bc tc : Nat} {ta ca sa ba : Option Addr} {tn bn : Nat} {pl ft : Int} {s : Lk} {lv nv : Value} {H : List Ar} {m : Nat}
  (h : Lv w X L E (.slice ta tn tc) (.slice ca nc cc) (.slice sa ns sc) (.slice ba bn bc) (.slice (some ⟨Q, 0, none⟩) H.length hcap) (nb : Int) pl ft (p : Int) s lv nv) (hX : X < L) (hL : L <= w.heap.size) (hQ : Q < w.heap.size) (hH : Hq w Q H) (hnb : nb < H.length) (hel : 0 <= H[nb].el /\ H[nb].el <= 64) (hnl : s.names.length <= 64) (hvl : s.lets.length <= 65) {S : Sh} {ops : List Oq}
  {o : Oq} {la : Option Addr} {lc ln : Nat} (hk : o.k = 3) :
  Calls prog 99 #[.pointer (some ⟨X, 0, none⟩), .agg #[.int .i64 o.k, .int .i64 o.a, .int .i64 o.b, .int .i64 o.c, .slice la ln lc]] w fun e w' => ShE X L E (.slice ta tn tc) (.slice ca nc cc) (.slice sa ns sc) (.slice ba bn bc) (.slice (some ⟨Q, 0, none⟩) H.length hcap) (nb : Int) pl ft (p : Int) s w (rsh S H[nb].el ops p s o) e w' := by
 obtain ⟨W, hW, bW, sW, xW⟩ := BSm.box5 w (.int .i64 o.k) (.int .i64 o.a) (.int .i64 o.b) (.int .i64 o.c) (.slice la ln lc) 127
 have z0 := cell_of xW 0 _ rfl
 have z1 := cell_of xW 1 _ rfl
 have h1 := h.below bW
 have hH1 : Hq W Q H := (bW.block Q hQ).trans hH
 have cn := hH1.cell hnb (j := 1) (by omega) (v := .int .i64 H[nb].el) rfl
 obtain ⟨na, ncap, hnv, hnc1, hnc2⟩ := own_sh h1.names
 obtain ⟨va, vcap, hlv, hvc1, hvc2⟩ := own_sh h1.lets
 subst hnv hlv
 obtain ⟨c0, c1, c2, c3, c4, c5, c6, c7, c8, c9, c10, c11⟩ := h1.box.cell
 have i0 : (0 : Int) <= (nb : Int) := by omega
 have i1 : (nb : Int) < (H.length : Int) := by omega
 obtain ⟨el, hE⟩ : ∃ x, H[nb].el = x := ⟨_, rfl⟩
 rw [hE] at cn hel ⊢
 have hw1 : IntKind.i64.wrap (el + (s.names.length : Int)) = el + (s.names.length : Int) := by rw [IntKind.wrap_i64]; omega
 have hsW : w.heap.size < W.heap.size := by omega
 have HB0 := hid (xl_below hX hL bW : Xe X L E w W)
 have H1 := hid h1
 have hLW : L <= W.heap.size := by omega
 have HLW := hid hLW
 have e : rsh S el ops p s o = if 63 < el + (s.names.length : Int) + 1 then none else some ⟨s.dep, s.lets ++ [0], s.names ++ [ByteArray.empty]⟩ := by unfold rsh; rw [if_pos hk]
 rw [e]
 have d3 : (o.k == 3) = true := by simp [hk]
 have hw2 : IntKind.i64.wrap (el + (s.names.length : Int) + 1) = el + (s.names.length : Int) + 1 := by rw [IntKind.wrap_i64]; omega
 obtain ⟨nn, hnn⟩ : ∃ x, s.names.length = x := ⟨_, rfl⟩
 obtain ⟨vn, hvn⟩ : ∃ x, s.lets.length = x := ⟨_, rfl⟩
 have HNN := hid hnn
 have HVN := hid hvn
 have HVL := hid hvl
 rw [hnn] at H1 c11 hw1 hw2 hnl hnc1 ⊢
 rw [hvn] at H1 c10 hvc1 hvl
 obtain ⟨la', hla⟩ : ∃ x, IntKind.i64.wrap ((nn : Int) - 1) = x := ⟨_, rfl⟩
 obtain ⟨W1, hW1⟩ : ∃ W1, W.drew = W1 := ⟨_, rfl⟩
 have b1 : Below W.heap.size W W1 := by rw [<- hW1]; exact (Below.refl _ _).drew
 have h2 := H1.out.below b1
 obtain ⟨W2, hW2⟩ : ∃ W2, W1.alloc (.cells #[.string ⟨#[]⟩] 9) = W2 := ⟨_, rfl⟩
 have b2 : Below W1.heap.size W1 W2 := by rw [<- hW2]; exact (Below.refl _ _).alloc (Nat.le_refl _) _
 have h3 := h2.below b2
 have hl2 : L <= W2.heap.size := by have := b1.size; have := b2.size; omega
 have X1 := hid (xl_trans HB0.out (xl_below hX HLW.out b1) : Xe X L E w W1)
 have X2 := hid (xl_trans X1.out (xl_below hX (by have := b1.size; omega) b2) : Xe X L E w W2)
 have hrow := h3.names
 rw [hnn] at hrow
 have HROW := hid hrow
 have HNEWS : Hid (∀ j u, [Value.string ⟨#[]⟩][j]? = some u -> W2.cell? ((⟨W.heap.size, 0, none⟩ : Addr).add j) = some u) := by rw [<- (show W1.heap.size = W.heap.size by rw [<- hW1]; rfl), <- hW2]; exact one_cell
 have H2 := hid h2
 have H3 := hid h3
 have HO1 := hid (by simp [Value.oneCell'] : ∀ z ∈ ([.string ⟨#[]⟩] : List Value), z.oneCell' = true)
 have HO2 := hid (by simp [Value.oneCell'] : ∀ z ∈ ([.int .i64 0] : List Value), z.oneCell' = true)
 have m11 := h2.box.cell.2.2.2.2.2.2.2.2.2.2.2
 have hs12 : W1.heap.size = W.heap.size := by rw [<- hW1]; rfl
 have Z0 := hid (show W1.cell? ⟨w.heap.size, 0, none⟩ = some (.int .i64 o.k) from cell_of ((b1.block w.heap.size hsW).trans xW) 0 _ rfl)
 have HW1 := hid hW1
 have HW2 := hid hW2
 have M11 := hid m11
 clear hW1 hW2 m11
 clear bW xW sW h1 hH1 h hH hE
 clear hk e hnn hvn b1 b2 h2 h3 hrow
 by_cases ht : 63 < el + (nn : Int) + 1
 ·have t0 : decide ((63 : Int) < el + (nn : Int) + 1) = true := by simp; omega
  rw [if_pos ht]
  clear ht
  go_enter func99, ntmps99
  go_wp2_with fail
  go_region
  rw [HW1.out]
  clear z0 c11
  have z0 := Z0.out
  have c11 := M11.out
  go_wp2_with fail
  go_ret
  exact ⟨rfl, ⟨_, _, H2.out⟩, X1.out⟩
 ·have t0 : decide ((63 : Int) < el + (nn : Int) + 1) = false := by simp; omega
  rw [if_neg ht]
  clear ht
  go_enter func99, ntmps99
  go_wp2_with fail
  go_region
  rw [HW1.out]
  clear c0 c1 c2 c3 c4 c5 c6 c7 c8 c9 c10 c11 cn z0
  have z0 := Z0.out
  have m11 := M11.out
  have hW2 := HW2.out
  go_wp2_with (first | (at_builtin; refine wpList_plain rfl fun _ hK => wp_str (news := [.string ⟨#[]⟩]) (m := 1) (n := nn) (xs := cst s.names) _ _ rfl HROW.out rfl HNEWS.out HO1.out (by omega) hl2 rfl rfl ?_))
  intro v4 W4 h4 g4 a4
  refine hK _ _ ?_
  clear hK
  have hX4 : Lw W4 X (.slice ta tn tc) (.slice ca nc cc) (.slice sa ns sc) (.slice ba bn bc) (.slice (some ⟨Q, 0, none⟩) H.length hcap) (nb : Int) pl ft (p : Int) s.dep (.slice va vn vcap) (.slice na nn ncap) := (g4.block X (by have := H3.out.lt; omega) (fun e => by have := (World.ownsRow.lt H3.out.names X e.symm).1; omega)).trans H3.out.box
  have k11 := hX4.cell.2.2.2.2.2.2.2.2.2.2.2
  have r11 := BIn.frz hX4 11
  obtain ⟨h5, x5⟩ := H3.out.names_grow hX hl2 (t := ByteArray.empty) (by rw [HNN.out]; exact h4) g4 a4
  obtain ⟨ng, nc4, rfl⟩ : ∃ ng nc4, v4 = .slice (some ⟨ng, 0, none⟩) (nn + 1) nc4 := by
   rcases h4.2 with ⟨_, e⟩ | ⟨g, cap2, cur, e, _⟩
   ·omega
   ·exact ⟨g, cap2, e⟩
  obtain ⟨W5, hW5⟩ : ∃ W5, W4.setCell ⟨X, 11, none⟩ (.slice (some ⟨ng, 0, none⟩) (nn + 1) nc4) = W5 := ⟨_, rfl⟩
  rw [hW5] at h5 x5
  have hl5 : L <= W5.heap.size := by have := x5.1.size; omega
  obtain ⟨W6, hW6⟩ : ∃ W6, W5.alloc (.cells #[.int .i64 0] 3) = W6 := ⟨_, rfl⟩
  have b6 : Below W5.heap.size W5 W6 := by rw [<- hW6]; exact (Below.refl _ _).alloc (Nat.le_refl _) _
  have h6 := h5.below b6
  have X6 := hid (xl_trans X2.out (xl_trans x5 (xl_below hX hl5 b6)) : Xe X L E w W6)
  have hl6 : L <= W6.heap.size := by have := b6.size; omega
  have hrow := h6.lets
  have H6 := hid h6
  dsimp only at hrow
  rw [HVN.out] at hrow
  have HROW6 := hid hrow
  have HNEW6 : Hid (∀ j u, [Value.int .i64 0][j]? = some u -> W6.cell? ((⟨W5.heap.size, 0, none⟩ : Addr).add j) = some u) := by rw [<- hW6]; exact one_cell
  have k10 := h5.box.cell.2.2.2.2.2.2.2.2.2.2.1
  clear h4 g4 a4 hX4 h5 x5 h6 hrow b6 hW2 z0 z1 m11
  go_wp2_with (first | (at_builtin; refine wpList_plain rfl fun _ hK => BPs.wp_int (news := [.int .i64 0]) (m := 1) (n := vn) (xs := ci s.lets) _ _ rfl HROW6.out rfl HNEW6.out HO2.out (by omega) hl6 rfl rfl ?_))
  intro v7 W7 h7 g7 a7
  refine hK _ _ ?_
  clear hK
  have hX7 : Lw W7 X (.slice ta tn tc) (.slice ca nc cc) (.slice sa ns sc) (.slice ba bn bc) (.slice (some ⟨Q, 0, none⟩) H.length hcap) (nb : Int) pl ft (p : Int) s.dep (.slice va vn vcap) (.slice (some ⟨ng, 0, none⟩) (nn + 1) nc4) := (g7.block X (by have := H6.out.lt; omega) (fun e => by have := (World.ownsRow.lt H6.out.lets X e.symm).1; omega)).trans H6.out.box
  have k10' := hX7.cell.2.2.2.2.2.2.2.2.2.2.1
  have r10 := BIn.frz hX7 10
  obtain ⟨h8, x8⟩ := H6.out.lets_grow hX hl6 (t := 0) (by rw [HVN.out]; exact h7) g7 a7
  obtain ⟨vg, vc7, rfl⟩ : ∃ vg vc7, v7 = .slice (some ⟨vg, 0, none⟩) (vn + 1) vc7 := by
   rcases h7.2 with ⟨_, e⟩ | ⟨g, cap2, cur, e, _⟩
   ·omega
   ·exact ⟨g, cap2, e⟩
  have H8 := hid h8
  have X8 := hid (xl_trans X6.out x8)
  clear h7 g7 a7 hX7 h8 x8 hW5 hW6 k10
  go_wp2_with fail
  first | go_ret | refine ⟨rfl, _, results_tmp rfl _ _ _, ?_⟩
  exact ⟨rfl, ⟨_, _, H8.out⟩, X8.out⟩
end Go.Proofs.YtaiackmmmlhgbaaGreat.BQh
