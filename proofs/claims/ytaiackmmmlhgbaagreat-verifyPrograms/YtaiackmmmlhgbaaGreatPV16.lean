import Derived.Deep.RegionHeld3
import Derived.Maps.AppendAt
import Derived.Test.YtaiackmmmlhgbaaGreatPV12
import Derived.Test.YtaiackmmmlhgbaaGreatPV13
import Derived.Test.YtaiackmmmlhgbaaGreatPV15
open Go.Proofs.Tryz
set_option linter.unusedVariables false
set_option maxRecDepth 20000
set_option maxHeartbeats 6400000
namespace Go.Proofs.YtaiackmmmlhgbaaGreat.BCl
open Go.RowKit BPl YRr YRs BBx BSm BIn BDf BHm
open YPl (Oq Bk Pg)
open TBase (T Keep)
open Tak
def CR (Q : Nat) (n : Nat) (X : Option (List Ar)) (w : World) (e : Ending) (w' : World) : Prop := e = .returned (.bool X.isSome) /\ (∃ H', Hw w' Q H' /\ H'.length = n /\ (X = none \/ X = some H')) /\ Xb Q w w'
theorem clm_cons (nb : Nat) (A : Ar) {l : List Int} {q : Nat} (h : q < l.length) (H : List Ar) : clm nb A (l.drop q) H = if l[q] <= (nb : Int) \/ (H.length : Int) <= l[q] \/ (H.getD l[q].toNat ar0).ow = true then none else clm nb A (l.drop (q + 1)) (H.set l[q].toNat A) := by
 rw [List.drop_eq_getElem_cons h, clm]
theorem claims_c {R : Nat -> Prop} {w : World} {B P Q : Nat} {S : Sh} {hcap : Nat} {A : Ar} {nb : Nat} {ov : Value} {lt : Int} {uv : Value} {cl : Int} {H : List Ar} (h : Pw R w P S (.slice (some ⟨Q, 0, none⟩) H.length hcap)) (hR : ∀ g, R g -> g < w.heap.size) (hRQ : ∀ g, R g -> g ≠ Q) (hB : Bw w B P A nb ov lt uv cl) (hBQ : B ≠ Q) (hH : Hw w Q H) (hc : H.length <= hcap) (hH4 : H.length <= 140737488351232) (o : Oq) (a : Option Addr) (cap : Nat)
  (hst : 0 <= A.st /\ A.st <= 64) (hls : 0 <= A.ls /\ A.ls <= 64) (ho : o.l.length <= 140737488351232) (hob : i64 o.b) (hoc : i64 o.c) :
  Calls prog 144 #[.pointer (some ⟨B, 0, none⟩), opv o (.slice a o.l.length cap)] w fun e w' => CR Q H.length (clm nb (ins A o) (bks o) H) w e w' := by
 obtain ⟨W, hW, b0, hs, hx⟩ := box5 w (.int .i64 o.k) (.int .i64 o.a) (.int .i64 o.b) (.int .i64 o.c) (.slice a o.l.length cap) 127
 have hQ : Q < w.heap.size := (Array.getElem?_eq_some_iff.1 hH).1
 have hBl := hB.lt
 obtain ⟨tv, nv, dv, hP, hRP, -⟩ := h
 have hPl := hR P hRP
 have hPQ := hRQ P hRP
 clear hR hRQ
 have cB := blocks_c o a cap hob hoc W
 obtain ⟨Z, hZ⟩ : ∃ Z, clm nb (ins A o) (bks o) H = Z := ⟨_, rfl⟩
 rw [hZ]
 have HZ : Hid (clm nb (ins A o) ((bks o).drop 0) H = Z) := hZ
 have HI : Hid (∀ W', Bw W' B P A nb ov lt uv cl -> Calls prog 197 #[.pointer (some ⟨B, 0, none⟩), opv o (.slice a o.l.length cap)] W' fun e w' => e = .returned (arv (ins A o)) /\ Below W'.heap.size W' w') := fun W' hb => inside_c hb o a cap hst hls ho
 have c0 := cell_of hx 0 _ rfl
 have c1 := cell_of hx 1 _ rfl
 have c2 := cell_of hx 2 _ rfl
 have c3 := cell_of hx 3 _ rfl
 have c4 := cell_of hx 4 _ rfl
 have HX : Hid (W.heap[w.heap.size]? = some (.cells #[.int .i64 o.k, .int .i64 o.a, .int .i64 o.b, .int .i64 o.c, .slice a o.l.length cap] 127 (0, 0))) := hx
 have HB0 : Hid (Below w.heap.size w W) := b0
 have HBw : Hid (Bw W B P A nb ov lt uv cl) := hB.keep b0
 have HPp : Hid (W.heap[P]? = some (.cells #[tv, nv, dv, .slice (some ⟨Q, 0, none⟩) H.length hcap] 99 (0, 0))) := (b0.block P hPl).trans hP
 have HHw : Hid (Hw W Q H) := (b0.block Q hQ).trans hH
 clear hZ hx b0 hB hP hH
 generalize ins A o = I at *
 obtain ⟨L, hL⟩ : ∃ L, bks o = L := ⟨_, rfl⟩
 rw [hL] at cB
 have HZ : Hid (clm nb I (L.drop 0) H = Z) := by have := HZ.out; rw [hL] at this; exact this
 clear hL
 go_enter func144, ntmps144
 go_wp2_with fail
 refine cB.mono ?_
 rintro e W1 ⟨v, rfl, hr, b1⟩
 have HR : Hid (RrS 1 LyI (fun k => W.heap.size <= k /\ k < W1.heap.size) W1 v L) := hr
 have HB1 : Hid (Below W.heap.size W W1) := b1
 obtain ⟨va, vc, rfl, hl1, hl2, hl3, hl4, hl5⟩ := hr
 clear cB b1 hl5 hl4 c0 c1 c2 c3 c4
 go_wp2_with fail
 go_loopw [10] (fun i wr => ∃ (q : Nat) (Hq : List Ar), q <= L.length /\ i = .int .i64 q /\ clm nb I (L.drop q) Hq = Z /\ Hq.length = H.length /\ Hw wr Q Hq /\ Xb Q W1 wr) (fun i _ => L.length - (intOf i).toNat)
 case atStart => exact ⟨0, H, by omega, rfl, HZ.out, rfl, (HB1.out.block Q (by omega)).trans HHw.out, Xb.refl _ _⟩
 case round =>
  clear HZ
  obtain ⟨q, Hq, hq, rfl, hM, hHl, hHq, hX⟩ := hrel
  have HX' : Hid (Xb Q W1 wr) := hX
  have HQ' : Hid (Hw wr Q Hq) := hHq
  by_cases hlt : q < L.length
  ·have d0 : decide ((q : Int) < (L.length : Int)) = true := by simp; omega
   have i0 : (0 : Int) <= (q : Int) := by omega
   have i1 : (q : Int) < (L.length : Int) := by omega
   obtain ⟨g, oo, cap', hsl, hl, hm, ⟨hg1, hg2⟩, k0⟩ := RrS.at HR.out hlt
   cases hsl
   have hi64 := k0.2
   have k0 := (World.cell?_of_block (w := W1) (hX.2 g hg2 (by omega))).trans k0.1
   rw [Nat.mul_one] at k0
   rw [clm_cons nb I hlt] at hM
   generalize L[q] = s at *
   have hW1 : ∀ g, g < W.heap.size -> g ≠ Q -> wr.heap[g]? = W.heap[g]? := fun g hg hgq => (hX.2 g (Nat.lt_of_lt_of_le hg HB1.out.size) hgq).trans (HB1.out.block g hg)
   have qB : Bw wr B P A nb ov lt uv cl := (hW1 B (by omega) hBQ).trans HBw.out
   have qP := (hW1 P (by omega) hPQ).trans HPp.out
   have qX := (hW1 w.heap.size (by omega) (by omega)).trans HX.out
   have e0 := cell_of qB 0 _ rfl
   have e6 := cell_of qB 6 _ rfl
   have p3 := cell_of qP 3 _ rfl
   have c0 := cell_of qX 0 _ rfl
   have c1 := cell_of qX 1 _ rfl
   have c2 := cell_of qX 2 _ rfl
   have c3 := cell_of qX 3 _ rfl
   have c4 := cell_of qX 4 _ rfl
   have HqB : Hid (Bw wr B P A nb ov lt uv cl) := qB
   have HqP : Hid (wr.heap[P]? = some (.cells #[tv, nv, dv, .slice (some ⟨Q, 0, none⟩) H.length hcap] 99 (0, 0))) := qP
   have HqX : Hid (wr.heap[w.heap.size]? = some (.cells #[.int .i64 o.k, .int .i64 o.a, .int .i64 o.b, .int .i64 o.c, .slice a o.l.length cap] 127 (0, 0))) := qX
   have hsz : W1.heap.size <= wr.heap.size := hX.1.size
   clear qB qP qX hW1 hX hHq
   by_cases hbad : s <= (nb : Int) \/ (Hq.length : Int) <= s \/ (Hq.getD s.toNat ar0).ow = true
   ·rw [if_pos hbad] at hM
    subst hM
    rw [hHl] at hbad
    by_cases g1 : s <= (nb : Int)
    ·have d1 : decide (s <= (nb : Int)) = true := by simp [g1]
     clear hbad g1
     go_wp2_with fail
     go_ret
     exact ⟨rfl, ⟨Hq, HQ'.out, hHl, .inl rfl⟩, (Xb.of HB0.out (by omega)).trans ((Xb.of HB1.out (by omega)).trans HX'.out)⟩
    have d1 : decide (s <= (nb : Int)) = false := by simp; omega
    by_cases g2 : (H.length : Int) <= s
    ·have d2 : decide ((H.length : Int) <= s) = true := by simp [g2]
     clear hbad g1 g2
     go_wp2_with fail
     go_ret
     exact ⟨rfl, ⟨Hq, HQ'.out, hHl, .inl rfl⟩, (Xb.of HB0.out (by omega)).trans ((Xb.of HB1.out (by omega)).trans HX'.out)⟩
    have d2 : decide ((H.length : Int) <= s) = false := by simp; omega
    have g3 := (hbad.resolve_left g1).resolve_left g2
    obtain ⟨t, rfl⟩ : ∃ t : Nat, s = (t : Int) := ⟨s.toNat, by omega⟩
    have ht : t < Hq.length := by omega
    rw [getD_at ht] at g3
    have k5 := HQ'.out.cell ht (j := 0) (by omega) (v := .bool true) (by simp [BHm.hc, g3])
    rw [Nat.add_zero] at k5
    have j0 : (0 : Int) <= (t : Int) := by omega
    have j1 : (t : Int) < (H.length : Int) := by omega
    have d1' : decide (t <= nb) = false := by simp; omega
    have d2' : decide (H.length <= t) = false := by simp; omega
    clear hbad g1 g2 g3
    go_wp2_with fail
    go_ret
    exact ⟨rfl, ⟨Hq, HQ'.out, hHl, .inl rfl⟩, (Xb.of HB0.out (by omega)).trans ((Xb.of HB1.out (by omega)).trans HX'.out)⟩
   ·rw [if_neg hbad] at hM
    have g1 : ¬ s <= (nb : Int) := fun h => hbad (.inl h)
    have g2 : ¬ (Hq.length : Int) <= s := fun h => hbad (.inr (.inl h))
    have g3 : ¬ (Hq.getD s.toNat ar0).ow = true := fun h => hbad (.inr (.inr h))
    rw [hHl] at g2
    have d1 : decide (s <= (nb : Int)) = false := by simp; omega
    have d2 : decide ((H.length : Int) <= s) = false := by simp; omega
    obtain ⟨t, rfl⟩ : ∃ t : Nat, s = (t : Int) := ⟨s.toNat, by omega⟩
    have ht : t < Hq.length := by omega
    rw [getD_at ht] at g3
    rw [Int.toNat_natCast] at hM
    have k5 := HQ'.out.cell ht (j := 0) (by omega) (v := .bool false) (by simpa [BHm.hc] using g3)
    rw [Nat.add_zero] at k5
    have j0 : (0 : Int) <= (t : Int) := by omega
    have j1 : (t : Int) < (H.length : Int) := by omega
    have d1' : decide (t <= nb) = false := by simp; omega
    have d2' : decide (H.length <= t) = false := by simp; omega
    have HM : Hid (clm nb I (L.drop (q + 1)) (Hq.set t I) = Z) := hM
    clear hbad g1 g2 g3 hM
    have cI := HI.out wr.drew HqB.out
    have HSd : Hid (wr.drew.heap.size = wr.heap.size) := rfl
    go_wp2_with fail
    refine wp_region_held_drew (S := fun w' => w'.cell? ⟨B, 0, none⟩ = some (.pointer (some ⟨P, 0, none⟩)) /\ w'.cell? ⟨P, 3, none⟩ = some (.slice (some ⟨Q, 0, none⟩) H.length hcap) /\ w'.cell? ⟨w.heap.size, 0, none⟩ = some (.int .i64 o.k) /\ w'.cell? ⟨w.heap.size, 1, none⟩ = some (.int .i64 o.a) /\ w'.cell? ⟨w.heap.size, 2, none⟩ = some (.int .i64 o.b) /\ w'.cell? ⟨w.heap.size, 3, none⟩ = some (.int .i64 o.c) /\ w'.cell? ⟨w.heap.size, 4, none⟩ = some (.slice a o.l.length cap)) (by kernel_rfl) (by exact ⟨e0, p3, c0, c1, c2, c3, c4⟩) (fun hHeld => ?_)
    refine tkH 0 rfl ?_; try simp only [ptH]
    refine tkH 1 rfl ?_; try simp only [ptH]
    refine tkH 2 rfl ?_; try simp only [ptH]
    refine tkH 3 rfl ?_; try simp only [ptH]
    refine tkH 4 rfl ?_; try simp only [ptH]
    refine tkH 5 rfl ?_; try simp only [ptH]
    refine tkH 6 rfl ?_; try simp only [ptH]
    refine tkH 7 rfl ?_; try simp only [ptH]
    refine tkH 8 rfl ?_; try simp only [ptH]
    refine tkH 9 rfl ?_; try simp only [ptH]
    refine rdH [10] ?_
    refine alH rfl fun K0 hK => ?_
    go_simp
    refine cI.mono ?_
    rintro e W7 ⟨rfl, b7⟩
    have hsz7 : wr.heap.size <= W7.heap.size := b7.size
    have q7 : ∀ g, g < wr.heap.size -> W7.heap[g]? = wr.heap[g]? := fun g hg => b7.block g hg
    have z0 := cell_of ((q7 B (by omega)).trans HqB.out) 0 _ rfl
    have z3 := cell_of ((q7 P (by omega)).trans HqP.out) 3 _ rfl
    have x0 := cell_of ((q7 w.heap.size (by omega)).trans HqX.out) 0 _ rfl
    have x1 := cell_of ((q7 w.heap.size (by omega)).trans HqX.out) 1 _ rfl
    have x2 := cell_of ((q7 w.heap.size (by omega)).trans HqX.out) 2 _ rfl
    have x3 := cell_of ((q7 w.heap.size (by omega)).trans HqX.out) 3 _ rfl
    have x4 := cell_of ((q7 w.heap.size (by omega)).trans HqX.out) 4 _ rfl
    have hH7 : Hw W7 Q Hq := (q7 Q (by omega)).trans HQ'.out
    have HH7 : Hid (Hw W7 Q Hq) := hH7
    have m0 := hH7.cell ht (j := 0) (by omega) rfl
    have m1 := hH7.cell ht (j := 1) (by omega) rfl
    have m2 := hH7.cell ht (j := 2) (by omega) rfl
    have m3 := hH7.cell ht (j := 3) (by omega) rfl
    have m4 := hH7.cell ht (j := 4) (by omega) rfl
    rw [Nat.add_zero] at m0
    have r0 := frz hH7 (t * 5)
    have r1 := frz hH7 (t * 5 + 1)
    have r2 := frz hH7 (t * 5 + 2)
    have r3 := frz hH7 (t * 5 + 3)
    have r4 := frz hH7 (t * 5 + 4)
    have X7 : Hid (Xb Q wr W7) := ⟨⟨b7.os, b7.tape, b7.output, hsz7, fun g hg => q7 g (by omega)⟩, fun g hg _ => q7 g hg⟩
    have ZC : Hid (∀ g j u, g < wr.heap.size -> g ≠ Q -> W7.cell? ⟨g, j, none⟩ = some u -> (((((W7.setCell ⟨Q, t * 5, none⟩ (.bool I.ow)).setCell ⟨Q, t * 5 + 1, none⟩ (.bool I.lp)).setCell ⟨Q, t * 5 + 2, none⟩ (.int .i64 I.st)).setCell ⟨Q, t * 5 + 3, none⟩ (.int .i64 I.el)).setCell ⟨Q, t * 5 + 4, none⟩ (.int .i64 I.ls)).cell? ⟨g, j, none⟩ = some u) := fun g j u hg hgq hu => cell_ne hgq (cell_ne hgq (cell_ne hgq (cell_ne hgq (cell_ne hgq hu))))
    clear b7 q7 hH7 cI
    refine hK.out _ _ ⟨z0, z3, x0, x1, x2, x3, x4⟩ (fun hHeld => ?_)
    clear hK K0
    try simp only [ptH]
    refine tkH 11 rfl ?_; try simp only [ptH]
    refine rdH [12] ?_
    refine alH rfl fun K0 hK => ?_
    go_simp
    refine hK.out _ _ ⟨ZC.out _ _ _ (by omega) hBQ z0, ZC.out _ _ _ (by omega) hPQ z3, ZC.out _ _ _ (by omega) (by omega) x0, ZC.out _ _ _ (by omega) (by omega) x1, ZC.out _ _ _ (by omega) (by omega) x2, ZC.out _ _ _ (by omega) (by omega) x3, ZC.out _ _ _ (by omega) (by omega) x4⟩ (fun hHeld => ?_)
    clear hK K0 hHeld
    try simp only [ptH]
    refine dnH ?_
    have HN : Hid (Hw (((((W7.setCell ⟨Q, t * 5, none⟩ (.bool I.ow)).setCell ⟨Q, t * 5 + 1, none⟩ (.bool I.lp)).setCell ⟨Q, t * 5 + 2, none⟩ (.int .i64 I.st)).setCell ⟨Q, t * 5 + 3, none⟩ (.int .i64 I.el)).setCell ⟨Q, t * 5 + 4, none⟩ (.int .i64 I.ls)) Q (Hq.set t I)) := HH7.out.set ht I
    have HX9 : Hid (Xb Q W1 (((((W7.setCell ⟨Q, t * 5, none⟩ (.bool I.ow)).setCell ⟨Q, t * 5 + 1, none⟩ (.bool I.lp)).setCell ⟨Q, t * 5 + 2, none⟩ (.int .i64 I.st)).setCell ⟨Q, t * 5 + 3, none⟩ (.int .i64 I.el)).setCell ⟨Q, t * 5 + 4, none⟩ (.int .i64 I.ls))) := HX'.out.trans (X7.out.trans (Xb.set5 _ _ _ _ _ _))
    obtain ⟨W9, hW9⟩ : ∃ W9, (((((W7.setCell ⟨Q, t * 5, none⟩ (.bool I.ow)).setCell ⟨Q, t * 5 + 1, none⟩ (.bool I.lp)).setCell ⟨Q, t * 5 + 2, none⟩ (.int .i64 I.st)).setCell ⟨Q, t * 5 + 3, none⟩ (.int .i64 I.el)).setCell ⟨Q, t * 5 + 4, none⟩ (.int .i64 I.ls)) = W9 := ⟨_, rfl⟩
    rw [hW9] at HN HX9 ⊢
    clear hW9 ZC z0 z3 x0 x1 x2 x3 x4 m0 m1 m2 m3 m4 r0 r1 r2 r3 r4 k5
    go_wp2_with fail
    go_roundw
    case rel => exact ⟨q + 1, Hq.set t I, by omega, by go_num, HM.out, by simp [hHl], HN.out, HX9.out⟩
    case measure => simp only [intOf]; omega
  ·have d0 : decide ((q : Int) < (L.length : Int)) = false := by simp; omega
   have hT : some Hq = Z := by
    rw [List.drop_eq_nil_of_le (by omega)] at hM
    exact hM
   subst hT
   clear hM hX hHq
   go_wp2_with fail
   go_ret
   exact ⟨rfl, ⟨Hq, HQ'.out, hHl, .inr rfl⟩, (Xb.of HB0.out (by omega)).trans ((Xb.of HB1.out (by omega)).trans HX'.out)⟩
end Go.Proofs.YtaiackmmmlhgbaaGreat.BCl
namespace Go.Proofs.YtaiackmmmlhgbaaGreat.BOf
open Go.RowKit BPl YRr YRs BBx BSm BSt BRe BHm BCl
open YPl (Oq Bk Pg)
open TBase (T Keep)
open CBx (w64)
theorem fits_c {R : Nat -> Prop} {w : World} {B P : Nat} {S : Sh} {hv : Value} {A : Ar} {nb : Nat} {ov : Value} {lt : Int} {uv : Value} {cl : Int} (h : Pw R w P S hv) (hR : ∀ g, R g -> g < w.heap.size) (hB : Bw w B P A nb ov lt uv cl) (o : Oq) {lv : Value} (hl : RrS 1 LyI R w lv o.l) :
  Calls prog 141 #[.pointer (some ⟨B, 0, none⟩), opv o lv] w fun e w' => e = .returned (.bool (fits S o)) /\ Below w.heap.size w w' := by
 by_cases k1 : o.k = 1
 ·exact BFa.f1 h hR hB o hl k1
 by_cases k2 : o.k = 2
 ·exact BFc.f2 h hR hB o hl k2
 by_cases k3 : o.k = 3
 ·exact BFa.f3 h hR hB o hl k3
 by_cases k4 : o.k = 4
 ·exact BFe.f4 h hR hB o hl k4
 by_cases k5 : o.k = 5
 ·exact BFe.f5 h hR hB o hl k5
 by_cases k6 : o.k = 6
 ·exact BFd.f6 h hR hB o hl k6
 by_cases k7 : o.k = 7
 ·exact BFd.f7 h hR hB o hl k7
 by_cases k8 : o.k = 8
 ·exact BFb.f8 h hR hB o hl k8
 by_cases k9 : o.k = 9
 ·exact BFb.f9 h hR hB o hl k9
 by_cases k10 : o.k = 10
 ·exact BFf.f10 h hR hB o hl k10
 by_cases k11 : o.k = 11
 ·exact BFc.f11 h hR hB o hl k11
 by_cases k12 : o.k = 12
 ·exact BFd.f12 h hR hB o hl k12
 exact BFf.f0 h hR hB o hl (by omega)
def OR (Q : Nat) (n : Nat) (X : Except Int (List Ar)) (w : World) (e : Ending) (w' : World) : Prop := Xb Q w w' /\ match X with
 | .error c => e = .returned (.int .i64 c)
 | .ok H' => e = .returned (.int .i64 0) /\ Hw w' Q H' /\ H'.length = n
section
variable {S : Sh} {nb : Nat} {ops : List Oq} {b : Bd} {H : List Ar} {p : Nat} {o : Oq}
theorem opf_p (h : p = 8192) : opf S nb ops b H p o = .error 2203 := by unfold opf; rw [if_pos (.inl h)]
theorem opf_f (h : fits S o = false) : opf S nb ops b H p o = .error 2203 := by unfold opf; rw [if_pos (.inr h)]
theorem opf_r (h1 : ¬ p = 8192) (h2 : fits S o = true) (h : reaches S b.ar.st o = false) : opf S nb ops b H p o = .error 2201 := by unfold opf; rw [if_neg (by rw [h2]; simp [h1]), if_pos h]
theorem opf_s (h1 : ¬ p = 8192) (h2 : fits S o = true) (h3 : reaches S b.ar.st o = true) (h : stands S ops b p o = false) : opf S nb ops b H p o = .error 2204 := by unfold opf; rw [if_neg (by rw [h2]; simp [h1]), if_neg (by rw [h3]; decide), if_pos h]
theorem opf_c (h1 : ¬ p = 8192) (h2 : fits S o = true) (h3 : reaches S b.ar.st o = true) (h4 : stands S ops b p o = true) : opf S nb ops b H p o = match clm nb (ins b.ar o) (bks o) H with
  | none => .error 2205
  | some H' => if 64 < b.ar.st + grows o then .error 2208 else if o.k = 9 /\ b.ar.ls = 8 then .error 2206 else .ok H' := by
 unfold opf
 rw [if_neg (by rw [h2]; simp [h1]), if_neg (by rw [h3]; decide), if_neg (by rw [h4]; decide)]
 cases clm nb (ins b.ar o) (bks o) H <;> rfl
end
theorem opFault_c {R : Nat -> Prop} {w : World} {B P Q : Nat} {S : Sh} {hcap : Nat} {b : Bd} {nb : Nat} {ov : Value} {ua : Option Addr} {uc : Nat} {H : List Ar} {ops : List Oq} {p : Nat} (h : Pw R w P S (.slice (some ⟨Q, 0, none⟩) H.length hcap)) (hR : ∀ g, R g -> g < w.heap.size) (hRQ : ∀ g, R g -> g ≠ Q) (hB : Bw w B P b.ar nb ov b.lt (.slice ua b.ou.length uc) b.cl) (hBQ : B ≠ Q) (hH : Hw w Q H) (hc : H.length <= hcap) (hH4 : H.length <= 140737488351232) (hO : RrS 5 (LyOs R) R w ov ops) (hp : p < ops.length) (o : Oq) {lv : Value} (hl : RrS 1 LyI R w lv o.l)
  (hst : 0 <= b.ar.st /\ b.ar.st <= 64) (hls : 0 <= b.ar.ls /\ b.ar.ls <= 64) (he : 0 <= b.ar.el /\ b.ar.el <= 64) (hob : i64 o.b) (hoc : i64 o.c) (ha : p ≠ 0 -> ((ahd ops p).k = 4 \/ (ahd ops p).k = 5) -> isN (ahd ops p).a S.t.length = true) (hd : ∀ i, 0 <= dpa S i /\ dpa S i <= 140737488351232) :
  Calls prog 91 #[.pointer (some ⟨B, 0, none⟩), .int .i64 p, opv o lv] w fun e w' => OR Q H.length (opf S nb ops b H p o) w e w' := by
 have HL : Hid (RrS 1 LyI R w lv o.l) := hl
 obtain ⟨a, cap, rfl, -, -, ho4, -⟩ := hl
 obtain ⟨W, hW, b0, hs, hx⟩ := box5 w (.int .i64 o.k) (.int .i64 o.a) (.int .i64 o.b) (.int .i64 o.c) (.slice a o.l.length cap) 127
 have hQ : Q < w.heap.size := (Array.getElem?_eq_some_iff.1 hH).1
 have hBl := hB.lt
 have HX : Hid (W.heap[w.heap.size]? = some (.cells #[.int .i64 o.k, .int .i64 o.a, .int .i64 o.b, .int .i64 o.c, .slice a o.l.length cap] 127 (0, 0))) := hx
 -- what holds in every world to come, but for block Q
 have HP : Hid (∀ W', Below w.heap.size w W' -> Pw R W' P S (.slice (some ⟨Q, 0, none⟩) H.length hcap) /\ (∀ g, R g -> g < W'.heap.size) /\ Bw W' B P b.ar nb ov b.lt (.slice ua b.ou.length uc) b.cl /\ Hw W' Q H /\ RrS 5 (LyOs R) R W' ov ops /\ RrS 1 LyI R W' (.slice a o.l.length cap) o.l) := fun W' hb => ⟨h.keep (keep_of hb), fun g hg => Nat.lt_of_lt_of_le (hR g hg) hb.size, hB.keep hb, (hb.block Q hQ).trans hH, hO.keep (fun _ h => h) fun g o x _ hg h => kO (keep_of hb) (fun _ h => h) hg h, HL.out.keep (fun _ h => h) fun g o x _ hg h => kI (keep_of hb) hg h⟩
 have HB0 : Hid (Below w.heap.size w W) := b0
 have HRQ : Hid (∀ g, R g -> g ≠ Q) := hRQ
 have HA : Hid (p ≠ 0 -> ((ahd ops p).k = 4 \/ (ahd ops p).k = 5) -> isN (ahd ops p).a S.t.length = true) := ha
 have HD : Hid (∀ i, 0 <= dpa S i /\ dpa S i <= 140737488351232) := hd
 obtain ⟨X, hX⟩ : ∃ X, opf S nb ops b H p o = X := ⟨_, rfl⟩
 rw [hX]
 have HXX : Hid (opf S nb ops b H p o = X) := hX
 clear h hR hRQ hB hH hO ha hd hX
 have hp4 : ops.length <= 140737488351232 := by obtain ⟨-, -, -, -, ⟨_, _, _, _, _, h, _⟩, -⟩ := HP.out W b0; exact h
 have c0 := cell_of hx 0 _ rfl
 have c1 := cell_of hx 1 _ rfl
 have c2 := cell_of hx 2 _ rfl
 have c3 := cell_of hx 3 _ rfl
 have c4 := cell_of hx 4 _ rfl
 clear hx b0
 by_cases hp8 : p = 8192
 ·have hX := HXX.out
  rw [opf_p hp8] at hX
  subst hX
  subst hp8
  go_enter func91, ntmps91
  go_wp2_with fail
  go_ret
  exact ⟨Xb.of HB0.out (by omega), rfl⟩
 have d8 : (((p : Nat) : Int) == 8192) = false := by simp; omega
 obtain ⟨p1, r1, w1, -, -, l1⟩ := HP.out W HB0.out
 have cF := fits_c p1 r1 w1 o l1
 clear p1 r1 w1 l1
 go_enter func91, ntmps91
 go_wp2_with fail
 refine cF.mono ?_
 rintro e W1 ⟨rfl, b1⟩
 have HB1 : Hid (Below w.heap.size w W1) := HB0.out.trans (b1.mono HB0.out.size)
 have HX1 : Hid (W1.heap[w.heap.size]? = some (.cells #[.int .i64 o.k, .int .i64 o.a, .int .i64 o.b, .int .i64 o.c, .slice a o.l.length cap] 127 (0, 0))) := (b1.block w.heap.size (by omega)).trans HX.out
 have hs1 : W.heap.size <= W1.heap.size := b1.size
 clear cF b1 c0 c1 c2 c3 c4 HX
 have c0 := cell_of HX1.out 0 _ rfl
 have c1 := cell_of HX1.out 1 _ rfl
 have c2 := cell_of HX1.out 2 _ rfl
 have c3 := cell_of HX1.out 3 _ rfl
 have c4 := cell_of HX1.out 4 _ rfl
 obtain ⟨F, hF⟩ : ∃ F, fits S o = F := ⟨_, rfl⟩
 rw [hF]
 have HF : Hid (fits S o = F) := hF
 clear hF
 cases F with
 | false =>
  have hX := HXX.out
  rw [opf_f HF.out] at hX
  subst hX
  go_wp2_with fail
  go_ret
  exact ⟨Xb.of HB1.out (by omega), rfl⟩
 | true =>
 obtain ⟨p1, r1, w1, -, -, l1⟩ := HP.out W1 HB1.out
 have cR := reaches_c p1 r1 w1 o l1 HF.out hst
 clear p1 r1 w1 l1
 go_wp2_with fail
 refine cR.mono ?_
 rintro e W2 ⟨rfl, b2⟩
 have HB2 : Hid (Below w.heap.size w W2) := HB1.out.trans (b2.mono HB1.out.size)
 have HX2 : Hid (W2.heap[w.heap.size]? = some (.cells #[.int .i64 o.k, .int .i64 o.a, .int .i64 o.b, .int .i64 o.c, .slice a o.l.length cap] 127 (0, 0))) := (b2.block w.heap.size (by omega)).trans HX1.out
 have hs2 : W1.heap.size <= W2.heap.size := b2.size
 clear cR b2 c0 c1 c2 c3 c4 HX1
 have c0 := cell_of HX2.out 0 _ rfl
 have c1 := cell_of HX2.out 1 _ rfl
 have c2 := cell_of HX2.out 2 _ rfl
 have c3 := cell_of HX2.out 3 _ rfl
 have c4 := cell_of HX2.out 4 _ rfl
 obtain ⟨F, hF⟩ : ∃ F, reaches S b.ar.st o = F := ⟨_, rfl⟩
 rw [hF]
 have HG : Hid (reaches S b.ar.st o = F) := hF
 clear hF
 cases F with
 | false =>
  have hX := HXX.out
  rw [opf_r hp8 HF.out HG.out] at hX
  subst hX
  go_wp2_with fail
  go_ret
  exact ⟨Xb.of HB2.out (by omega), rfl⟩
 | true =>
 obtain ⟨p1, r1, w1, -, o1, l1⟩ := HP.out W2 HB2.out
 have cS := stands_c p1 r1 w1 o1 hp o a cap HF.out HA.out HD.out he
 clear p1 r1 w1 l1 o1
 go_wp2_with fail
 refine cS.mono ?_
 rintro e W3 ⟨rfl, b3⟩
 have HB3 : Hid (Below w.heap.size w W3) := HB2.out.trans (b3.mono HB2.out.size)
 have HX3 : Hid (W3.heap[w.heap.size]? = some (.cells #[.int .i64 o.k, .int .i64 o.a, .int .i64 o.b, .int .i64 o.c, .slice a o.l.length cap] 127 (0, 0))) := (b3.block w.heap.size (by omega)).trans HX2.out
 have hs3 : W2.heap.size <= W3.heap.size := b3.size
 clear cS b3 c0 c1 c2 c3 c4 HX2
 have c0 := cell_of HX3.out 0 _ rfl
 have c1 := cell_of HX3.out 1 _ rfl
 have c2 := cell_of HX3.out 2 _ rfl
 have c3 := cell_of HX3.out 3 _ rfl
 have c4 := cell_of HX3.out 4 _ rfl
 obtain ⟨F, hF⟩ : ∃ F, stands S ops b p o = F := ⟨_, rfl⟩
 rw [hF]
 have HT : Hid (stands S ops b p o = F) := hF
 clear hF
 cases F with
 | false =>
  have hX := HXX.out
  rw [opf_s hp8 HF.out HG.out HT.out] at hX
  subst hX
  go_wp2_with fail
  go_ret
  exact ⟨Xb.of HB3.out (by omega), rfl⟩
 | true =>
 obtain ⟨p1, r1, w1, h1, -, -⟩ := HP.out W3 HB3.out
 have cC := claims_c p1 r1 HRQ.out w1 hBQ h1 hc hH4 o a cap hst hls ho4 hob hoc
 clear p1 r1 w1 h1
 have hX := HXX.out
 rw [opf_c hp8 HF.out HG.out HT.out] at hX
 have HY : Hid ((match clm nb (ins b.ar o) (bks o) H with
  | none => .error 2205
  | some H' => if 64 < b.ar.st + grows o then .error 2208 else if o.k = 9 /\ b.ar.ls = 8 then .error 2206 else .ok H') = X) := hX
 clear hX HXX HF HG HT
 obtain ⟨Y, hY⟩ : ∃ Y, clm nb (ins b.ar o) (bks o) H = Y := ⟨_, rfl⟩
 rw [hY] at cC
 have HCY : Hid (clm nb (ins b.ar o) (bks o) H = Y) := hY
 clear hY
 go_wp2_with fail
 refine cC.mono ?_
 rintro e W4 ⟨rfl, ⟨H4, hH4', hn4, hor⟩, x4⟩
 have HX4 : Hid (W4.heap[w.heap.size]? = some (.cells #[.int .i64 o.k, .int .i64 o.a, .int .i64 o.b, .int .i64 o.c, .slice a o.l.length cap] 127 (0, 0))) := (x4.2 w.heap.size (by omega) (by omega)).trans HX3.out
 have HB4 : Hid (Xb Q w W4) := (Xb.of HB3.out (by omega)).trans x4
 have HBw : Hid (Bw W4 B P b.ar nb ov b.lt (.slice ua b.ou.length uc) b.cl) := (x4.2 B (by omega) hBQ).trans ((HP.out W3 HB3.out).2.2.1)
 have hs4 : W3.heap.size <= W4.heap.size := x4.1.size
 have HH4 : Hid (Hw W4 Q H4) := hH4'
 have HOR : Hid (Y = none \/ Y = some H4) := hor
 clear cC x4 c0 c1 c2 c3 c4 HX3 hH4' hor
 cases Y with
 | none =>
  have hX := HY.out
  rw [HCY.out] at hX
  subst hX
  go_wp2_with fail
  go_ret
  exact ⟨HB4.out, rfl⟩
 | some H' =>
 obtain rfl : H' = H4 := by
  rcases HOR.out with h | h
  ·cases h
  ·cases h; rfl
 have hX := HY.out
 rw [HCY.out] at hX
 dsimp only at hX
 have HZ : Hid ((if 64 < b.ar.st + grows o then .error 2208 else if o.k = 9 /\ b.ar.ls = 8 then .error 2206 else .ok H') = X) := hX
 clear hX HY HCY HOR
 have c0 := cell_of HX4.out 0 _ rfl
 have c1 := cell_of HX4.out 1 _ rfl
 have c2 := cell_of HX4.out 2 _ rfl
 have c3 := cell_of HX4.out 3 _ rfl
 have c4 := cell_of HX4.out 4 _ rfl
 have e3 := cell_of HBw.out 3 _ rfl
 have cG := fun W => grows_c o a cap W
 have hg : 0 <= grows o /\ grows o <= 140737488351232 := by
  unfold grows
  split
  ·omega
  split
  ·omega
  split <;> omega
 have hw1 : IntKind.i64.wrap (b.ar.st + grows o) = b.ar.st + grows o := w64 (by omega) (by omega)
 generalize grows o = G at *
 have key : (decide (64 < b.ar.st + G) = true /\ X = .error 2208) \/ (decide (64 < b.ar.st + G) = false /\ (o.k == 9) = true /\ (b.ar.ls == 8) = true /\ X = .error 2206) \/ (decide (64 < b.ar.st + G) = false /\ (o.k == 9) = true /\ (b.ar.ls == 8) = false /\ X = .ok H') \/ (decide (64 < b.ar.st + G) = false /\ (o.k == 9) = false /\ X = .ok H') := by
  have hX := HZ.out
  by_cases h64 : 64 < b.ar.st + G
  ·rw [if_pos h64] at hX
   exact .inl ⟨by simp [h64], hX.symm⟩
  rw [if_neg h64] at hX
  by_cases h9 : o.k = 9
  ·by_cases h8 : b.ar.ls = 8
   ·rw [if_pos ⟨h9, h8⟩] at hX
    exact .inr (.inl ⟨by simp; omega, by simp [h9], by simp [h8], hX.symm⟩)
   ·rw [if_neg (fun hh => h8 hh.2)] at hX
    exact .inr (.inr (.inl ⟨by simp; omega, by simp [h9], by simp [h8], hX.symm⟩))
  ·rw [if_neg (fun hh => h9 hh.1)] at hX
   exact .inr (.inr (.inr ⟨by simp; omega, by simp [h9], hX.symm⟩))
 clear HZ
 rcases key with ⟨dg, rfl⟩ | ⟨dg, d9, d88, rfl⟩ | ⟨dg, d9, d88, rfl⟩ | ⟨dg, d9, rfl⟩
 all_goals
  go_wp2_with fail
  go_region_held3 (fun w' => w'.cell? ⟨B, 3, none⟩ = some (.int .i64 b.ar.st) /\ w'.cell? ⟨w.heap.size, 0, none⟩ = some (.int .i64 o.k) /\ w'.cell? ⟨w.heap.size, 1, none⟩ = some (.int .i64 o.a) /\ w'.cell? ⟨w.heap.size, 2, none⟩ = some (.int .i64 o.b) /\ w'.cell? ⟨w.heap.size, 3, none⟩ = some (.int .i64 o.c) /\ w'.cell? ⟨w.heap.size, 4, none⟩ = some (.slice a o.l.length cap)) (go_keep) (first | (go_at_call 145; refine (cG _).mono ?_; rintro e W5 ⟨rfl, b5⟩; have q5 : ∀ g, g < W4.heap.size -> W5.heap[g]? = W4.heap[g]? := (fun g hg => b5.block g hg); have y3 := cell_of ((q5 B (by omega)).trans HBw.out) 3 _ rfl; have y5 := cell_of ((q5 B (by omega)).trans HBw.out) 5 _ rfl; have z0 := cell_of ((q5 w.heap.size (by omega)).trans HX4.out) 0 _ rfl; have z1 := cell_of ((q5 w.heap.size (by omega)).trans HX4.out) 1 _ rfl; have z2 := cell_of ((q5 w.heap.size (by omega)).trans HX4.out) 2 _ rfl; have z3 := cell_of ((q5 w.heap.size (by omega)).trans HX4.out) 3 _ rfl; have z4 := cell_of ((q5 w.heap.size (by omega)).trans HX4.out) 4 _ rfl; have HB5 : Hid (Xb Q w W5) := HB4.out.trans ⟨⟨b5.os, b5.tape, b5.output, b5.size, fun g hg => q5 g (by omega)⟩, fun g hg _ => q5 g hg⟩; have HH5 : Hid (Hw W5 Q H') := (q5 Q (by omega)).trans HH4.out; clear q5 b5) | fail)
  all_goals
   rename_i hHeld
   clear hHeld
   go_wp2_with fail
   go_ret
   first
    | exact ⟨HB5.out, rfl⟩
    | exact ⟨HB5.out, rfl, HH5.out, hn4⟩
end Go.Proofs.YtaiackmmmlhgbaaGreat.BOf
namespace Go.Proofs.YtaiackmmmlhgbaaGreat.BPs
open Tak
open Go.RowKit BPl YRr BBx BSm BIn
open YPl (Oq Bk Pg)
open CBx (w64)
open IBase (heap_alloc_new)
theorem info_parts {t : TypeId} {z : Value} {s b : Nat} (h : (prog.info? t).map (fun i => (i.zero, i.size, i.bytes)) = some (some z, s, b)) : ∃ i, prog.info? t = some i /\ i.zero = some z /\ i.size = s /\ i.bytes = b := by
 cases hi : prog.info? t with
 | none => rw [hi] at h; cases h
 | some i =>
  rw [hi] at h
  simp only [Option.map_some, Option.some.injEq, Prod.mk.injEq] at h
  exact ⟨i, rfl, h.1, h.2.1, h.2.2⟩
section
variable {ops : Array Oper} {o : Oper} {y : Act} {K : Act -> World -> Prop} {Q : Exit -> Act -> World -> Prop} {E : Prop} {w : World} {base n m c : Nat} {v : Value} {xs news : List Value} {ad : Addr}
theorem wp_int (x z : Operand) (ho : o.op = .call { callee := .builtin .append, args := #[x, z], argTypes := #[72, 72] }) (hown : w.ownsRow base 3 1 v n xs) (hl : news.length = m * 1) (hnews : ∀ j u, news[j]? = some u -> w.cell? (ad.add j) = some u) (h1 : ∀ u ∈ news, u.oneCell' = true) (hb : n + m <= 100000) (hbase : base <= w.heap.size)
  (hx : y.eval x = v) (hz : y.eval z = .slice (some ad) m c) (hk : ∀ v' W, W.ownsRow base 3 1 v' (n + m) (xs ++ news) -> w.grownBy W v.ownBlock -> (v'.ownBlock = v.ownBlock \/ v'.ownBlock = some w.heap.size) -> K (y.put o.dst v') W) : o.wp prog y w K Q := by
 obtain ⟨ij, hij, hj0, hj1, hj2⟩ := info_parts IBase.infoI
 obtain ⟨v', W, hrun, h3, h4, -, h5⟩ := run_append_own_at (P := prog) w base 72 o.type 3 ij _ 1 8 underlying72 hij hj0 hj1 hj2 rfl (by decide) v n xs hown ad m c news hl hnews h1 (by unfold maxLen; omega) (by omega) hbase
 unfold Oper.wp execOp
 simp only [ho, resolve, invoke, builtin, Sem.run_bind, Sem.run_pure, Result.andThen_ok, List.map_toArray, List.map_cons, List.map_nil, hx, hz, hrun]
 exact hk v' W h3 h4 h5
theorem step_int (hgd : o.guard = none) (x z : Operand) (ho : o.op = .call { callee := .builtin .append, args := #[x, z], argTypes := #[72, 72] }) (hown : w.ownsRow base 3 1 v n xs) (hl : news.length = m * 1) (hnews : ∀ j u, news[j]? = some u -> w.cell? (ad.add j) = some u) (h1 : ∀ u ∈ news, u.oneCell' = true) (hb : n + m <= 100000) (hbase : base <= w.heap.size)
  (hx : y.eval x = v) (hz : y.eval z = .slice (some ad) m c) (hk : ∀ v' W, W.ownsRow base 3 1 v' (n + m) (xs ++ news) -> w.grownBy W v.ownBlock -> (v'.ownBlock = v.ownBlock \/ v'.ownBlock = some w.heap.size) -> K (y.put o.dst v') W) : if Region.wanted o (yielded ops y.tmps) = true then Oper.wp prog o y w K Q else E := by
 have hw : Region.wanted o (yielded ops y.tmps) = true := by simp [Region.wanted, hgd]
 rw [if_pos hw]
 exact wp_int x z ho hown hl hnews h1 hb hbase hx hz hk
end
def Xl (B L : Nat) (w w' : World) : Prop := Below B w w' /\ ∀ g, g < L -> g ≠ B -> w'.heap[g]? = w.heap[g]?
def Bs (w : World) (B L P : Nat) (b : Bd) (nb : Nat) (ov : Value) : Prop := ∃ uv, Bw w B P b.ar nb ov b.lt uv b.cl /\ w.ownsRow L 3 1 uv b.ou.length (b.ou.map (Value.int .i64))
theorem own_shape {w : World} {lo n : Nat} {v : Value} {xs : List Value} (h : w.ownsRow lo 3 1 v n xs) : ∃ a cap, v = .slice a n cap /\ n <= cap /\ cap <= 9223372036854775807 := by
 rcases h.2 with ⟨rfl, rfl⟩ | ⟨g, cap, cur, rfl, -, -, h1, h2, -⟩
 ·exact ⟨none, 0, rfl, Nat.le_refl _, by omega⟩
 ·exact ⟨_, _, rfl, h1, by unfold maxLen at h2; omega⟩
theorem own_keep {w w' : World} {lo n : Nat} {v : Value} {xs : List Value} (h : w.ownsRow lo 3 1 v n xs) (hk : ∀ g, v.ownBlock = some g -> w'.heap[g]? = w.heap[g]?) : w'.ownsRow lo 3 1 v n xs := by
 refine ⟨h.1, ?_⟩
 rcases h.2 with h | ⟨g, cap, cur, h1, h2, h3, h4⟩
 ·exact .inl h
 ·exact .inr ⟨g, cap, cur, h1, h2, (hk g (by rw [h1]; rfl)).trans h3, h4⟩
theorem Bs.below {w w' : World} {B L P : Nat} {b : Bd} {nb : Nat} {ov : Value} (h : Bs w B L P b nb ov) (hb : Below w.heap.size w w') : Bs w' B L P b nb ov := by
 obtain ⟨uv, h1, h2⟩ := h
 exact ⟨uv, h1.keep hb, own_keep h2 fun g hg => hb.block g (World.ownsRow.lt h2 g hg).2⟩
section
variable {w : World} {B P : Nat} {A : Ar} {nb : Nat} {ov : Value} {lt : Int} {uv : Value} {cl : Int}
theorem Bw.set9 (h : Bw w B P A nb ov lt uv cl) (u : Value) : Bw (w.setCell ⟨B, 9, none⟩ u) B P A nb ov lt u cl := by
 unfold Bw at *
 simp [World.setCell, Array.getElem?_modify, h]
theorem Bw.set8 (h : Bw w B P A nb ov lt uv cl) (x : Int) : Bw (w.setCell ⟨B, 8, none⟩ (.int .i64 x)) B P A nb ov x uv cl := by
 unfold Bw at *
 simp [World.setCell, Array.getElem?_modify, h]
theorem Bw.set4 (h : Bw w B P A nb ov lt uv cl) (x : Int) : Bw (w.setCell ⟨B, 4, none⟩ (.int .i64 x)) B P { A with el := x } nb ov lt uv cl := by
 unfold Bw at *
 simp [World.setCell, Array.getElem?_modify, h]
theorem Bw.set3 (h : Bw w B P A nb ov lt uv cl) (x : Int) : Bw (w.setCell ⟨B, 3, none⟩ (.int .i64 x)) B P { A with st := x } nb ov lt uv cl := by
 unfold Bw at *
 simp [World.setCell, Array.getElem?_modify, h]
theorem Bw.set10 (h : Bw w B P A nb ov lt uv cl) (x : Int) : Bw (w.setCell ⟨B, 10, none⟩ (.int .i64 x)) B P A nb ov lt uv x := by
 unfold Bw at *
 simp [World.setCell, Array.getElem?_modify, h]
end
theorem pass3 {w : World} {B L P : Nat} {b : Bd} {nb : Nat} {ov : Value} (h : Bs w B L P b nb ov) (hBL : B < L) (hL : L <= w.heap.size) (p : Nat) (o : Oq) (a : Option Addr) (cap : Nat) (hk : o.k = 3) (hou : b.ou.length <= 8192) (he : 0 <= b.ar.el /\ b.ar.el <= 64) :
  Calls prog 92 #[.pointer (some ⟨B, 0, none⟩), .int .i64 p, opv o (.slice a o.l.length cap)] w fun e w' => (∃ v, e = .returned v) /\ Bs w' B L P (pass b p o) nb ov /\ Xl B L w w' := by
 obtain ⟨uv, hB, hU⟩ := h
 obtain ⟨ua, uc, rfl, huc, hum⟩ := own_shape hU
 have hlt := hB.lt
 obtain ⟨W, hW, b0, hs, hx⟩ := box5 w (.int .i64 o.k) (.int .i64 o.a) (.int .i64 o.b) (.int .i64 o.c) (.slice a o.l.length cap) 127
 obtain ⟨W1, hW1⟩ : ∃ W1, (W.drew).alloc (.cells #[.int .i64 b.lt] 3) = W1 := ⟨_, rfl⟩
 have b1 : Below W.heap.size W W1 := by rw [<- hW1]; exact ((Below.refl _ W).drew).alloc (by simp) _
 have s1 : W1.heap.size = w.heap.size + 2 := by rw [<- hW1]; simp [hs]
 have n1 : W1.heap[W.heap.size]? = some (.cells #[.int .i64 b.lt] 3 (0, 0)) := by rw [<- hW1]; exact heap_alloc_new W.drew _
 have hB0 := hB.keep b0
 have hB1 := hB0.keep b1
 have HU1 : Hid (W1.ownsRow L 3 1 (.slice ua b.ou.length uc) b.ou.length (b.ou.map (Value.int .i64))) := own_keep hU fun g hg => by rw [b1.block g (by have := (World.ownsRow.lt hU g hg).2; omega), b0.block g (World.ownsRow.lt hU g hg).2]
 have HB1 : Hid (Bw W1 B P b.ar nb ov b.lt (.slice ua b.ou.length uc) b.cl) := hB1
 have HN1 : Hid (∀ j u, [Value.int .i64 b.lt][j]? = some u -> W1.cell? ((⟨w.heap.size + 1, 0, none⟩ : Addr).add j) = some u) := by
  intro j u hu
  cases j with
  | zero =>
   simp at hu
   subst hu
   rw [<- hs]
   exact cell_of n1 0 _ rfl
  | succ j => simp at hu
 have HBW : Hid (Below w.heap.size w W1) := b0.trans (b1.mono b0.size)
 have c0 := cell_of hx 0 _ rfl
 have e8 := cell_of hB0 8 _ rfl
 have e9 := cell_of hB0 9 _ rfl
 have y9 := cell_of hB1 9 _ rfl
 have y8 := cell_of hB1 8 _ rfl
 have ep : pass b p o = ⟨{ b.ar with el := b.ar.el + 1 }, 0, b.ou ++ [b.lt], b.cl⟩ := by unfold pass; rw [if_pos hk]
 rw [ep]
 have hw1 : IntKind.i64.wrap (b.ar.el + 1) = b.ar.el + 1 := w64 (by omega) (by omega)
 obtain ⟨k, x, y, z, l⟩ := o
 dsimp only at *
 subst hk
 clear hB hB0 hB1 hU b0 b1 n1 hx ep
 go_enter func92, ntmps92
 go_wp2_with fail
 refine wp_region_held_drew (S := fun w' => w'.cell? ⟨B, 8, none⟩ = some (.int .i64 b.lt)) (by kernel_rfl) (by exact e8) (fun hHeld => ?_)
 refine tkH 0 rfl ?_; try simp only [ptH]
 refine tkH 1 rfl ?_; try simp only [ptH]
 refine tkH 2 rfl ?_; try simp only [ptH]
 refine tkH 3 rfl ?_; try simp only [ptH]
 refine tkH 5 rfl ?_; try simp only [ptH]
 refine tkH 6 rfl ?_; try simp only [ptH]
 refine tkH 7 rfl ?_; try simp only [ptH]
 refine tkH 8 rfl ?_; try simp only [ptH]
 refine rdH [4, 9] ?_
 refine AllReadyH.cons rfl (fun K0 hK => ?_) (AllReadyH.cons rfl (fun K0 hK => ?_) (AllReadyH.nil))
 ·go_simp
  refine hK.out _ _ (by assumption) (fun hHeld => ?_)
  clear hK K0
  try simp only [ptH]
  refine rdH [9] ?_
  refine alH rfl fun K0 hK => ?_
  go_simp
  try rw [hW1]
  refine hK.out _ _ y8 (fun hHeld => ?_)
  clear hK K0
  try simp only [ptH]
  refine rdH [10] ?_
  refine alH rfl fun K0 hK => ?_
  refine step_int (news := [.int .i64 b.lt]) (m := 1) (n := b.ou.length) rfl _ _ rfl HU1.out rfl HN1.out (by simp [Value.oneCell']) (by omega) (by omega) rfl rfl (fun v' W2 h3 h4 h5 => ?_)
  obtain ⟨g, cap2, rfl⟩ : ∃ g cap2, v' = .slice (some ⟨g, 0, none⟩) (b.ou.length + 1) cap2 := by
   rcases h3.2 with ⟨_, e⟩ | ⟨g, cap2, cur, e, _⟩
   ·omega
   ·exact ⟨g, cap2, e⟩
  have hgB : B ≠ g := by have := (World.ownsRow.lt h3 g rfl).1; omega
  have hBo : some B ≠ (Value.slice ua b.ou.length uc).ownBlock := fun e => by have := (World.ownsRow.lt HU1.out B e.symm).1; omega
  have hB2 : Bw W2 B P b.ar nb ov b.lt (.slice ua b.ou.length uc) b.cl := (h4.block B (by omega) hBo).trans HB1.out
  have m8 := cell_of hB2 8 _ rfl
  have m9 := cell_of hB2 9 _ rfl
  have m4 := cell_of hB2 4 _ rfl
  have r8 := frz hB2 8
  have r9 := frz hB2 9
  have r4 := frz hB2 4
  have HB2 : Hid (Bw W2 B P b.ar nb ov b.lt (.slice ua b.ou.length uc) b.cl) := hB2
  have H3 : Hid (W2.ownsRow L 3 1 (.slice (some ⟨g, 0, none⟩) (b.ou.length + 1) cap2) (b.ou.length + 1) (b.ou.map (Value.int .i64) ++ [.int .i64 b.lt])) := h3
  have HG : Hid (∀ g, g < L -> W2.heap[g]? = w.heap[g]?) := fun q hq => (h4.block q (by omega) (fun e => by have := (World.ownsRow.lt HU1.out q e.symm).1; omega)).trans (HBW.out.block q (by omega))
  have HL : Hid (Below B w W2) := (HBW.out.mono (by omega)).grown h4 (by omega) (fun k hk => by have := (World.ownsRow.lt HU1.out k hk).1; omega)
  clear h3 h4 h5 hB2
  refine hK.out _ _ m8 (fun hHeld => ?_)
  clear hK K0
  try simp only [ptH]
  refine tkH 11 rfl ?_; try simp only [ptH]
  refine tkH 12 rfl ?_; try simp only [ptH]
  refine rdH [13] ?_
  refine alH rfl fun K0 hK => ?_
  go_simp
  refine hK.out _ _ (cell_of (Bw.set9 HB2.out _) 8 _ rfl) (fun hHeld => ?_)
  clear hK K0 hHeld
  try simp only [ptH]
  refine dnH ?_
  go_wp2_with fail
  go_end0
  refine ⟨⟨_, rfl⟩, ⟨_, Bw.set4 (Bw.set8 (Bw.set9 HB2.out _) _) _, ?_⟩, ((HL.out.setCell (p := ⟨B, 9, none⟩) (Nat.le_refl _) _).setCell (p := ⟨B, 8, none⟩) (Nat.le_refl _) _).setCell (p := ⟨B, 4, none⟩) (Nat.le_refl _) _, fun q hq hqB => ?_⟩
  rotate_left 1
  ·rw [Below.heap_setCell _ _ _ _ hqB, Below.heap_setCell _ _ _ _ hqB, Below.heap_setCell _ _ _ _ hqB]
   exact HG.out q hq
  rw [List.length_append, List.map_append]
  refine own_keep H3.out fun q hq => ?_
  have hqB : q ≠ B := by
   have e : g = q := Option.some.inj hq
   have hgL : L <= g := (World.ownsRow.lt H3.out g rfl).1
   omega
  rw [Below.heap_setCell _ _ _ _ hqB, Below.heap_setCell _ _ _ _ hqB, Below.heap_setCell _ _ _ _ hqB]
 ·go_simp
  try rw [hW1]
  refine hK.out _ _ y8 (fun hHeld => ?_)
  clear hK K0
  try simp only [ptH]
  refine rdH [4] ?_
  refine alH rfl fun K0 hK => ?_
  go_simp
  refine hK.out _ _ (by assumption) (fun hHeld => ?_)
  clear hK K0
  try simp only [ptH]
  refine rdH [10] ?_
  refine alH rfl fun K0 hK => ?_
  refine step_int (news := [.int .i64 b.lt]) (m := 1) (n := b.ou.length) rfl _ _ rfl HU1.out rfl HN1.out (by simp [Value.oneCell']) (by omega) (by omega) rfl rfl (fun v' W2 h3 h4 h5 => ?_)
  obtain ⟨g, cap2, rfl⟩ : ∃ g cap2, v' = .slice (some ⟨g, 0, none⟩) (b.ou.length + 1) cap2 := by
   rcases h3.2 with ⟨_, e⟩ | ⟨g, cap2, cur, e, _⟩
   ·omega
   ·exact ⟨g, cap2, e⟩
  have hgB : B ≠ g := by have := (World.ownsRow.lt h3 g rfl).1; omega
  have hBo : some B ≠ (Value.slice ua b.ou.length uc).ownBlock := fun e => by have := (World.ownsRow.lt HU1.out B e.symm).1; omega
  have hB2 : Bw W2 B P b.ar nb ov b.lt (.slice ua b.ou.length uc) b.cl := (h4.block B (by omega) hBo).trans HB1.out
  have m8 := cell_of hB2 8 _ rfl
  have m9 := cell_of hB2 9 _ rfl
  have m4 := cell_of hB2 4 _ rfl
  have r8 := frz hB2 8
  have r9 := frz hB2 9
  have r4 := frz hB2 4
  have HB2 : Hid (Bw W2 B P b.ar nb ov b.lt (.slice ua b.ou.length uc) b.cl) := hB2
  have H3 : Hid (W2.ownsRow L 3 1 (.slice (some ⟨g, 0, none⟩) (b.ou.length + 1) cap2) (b.ou.length + 1) (b.ou.map (Value.int .i64) ++ [.int .i64 b.lt])) := h3
  have HG : Hid (∀ g, g < L -> W2.heap[g]? = w.heap[g]?) := fun q hq => (h4.block q (by omega) (fun e => by have := (World.ownsRow.lt HU1.out q e.symm).1; omega)).trans (HBW.out.block q (by omega))
  have HL : Hid (Below B w W2) := (HBW.out.mono (by omega)).grown h4 (by omega) (fun k hk => by have := (World.ownsRow.lt HU1.out k hk).1; omega)
  clear h3 h4 h5 hB2
  refine hK.out _ _ m8 (fun hHeld => ?_)
  clear hK K0
  try simp only [ptH]
  refine tkH 11 rfl ?_; try simp only [ptH]
  refine tkH 12 rfl ?_; try simp only [ptH]
  refine rdH [13] ?_
  refine alH rfl fun K0 hK => ?_
  go_simp
  refine hK.out _ _ (cell_of (Bw.set9 HB2.out _) 8 _ rfl) (fun hHeld => ?_)
  clear hK K0 hHeld
  try simp only [ptH]
  refine dnH ?_
  go_wp2_with fail
  go_end0
  refine ⟨⟨_, rfl⟩, ⟨_, Bw.set4 (Bw.set8 (Bw.set9 HB2.out _) _) _, ?_⟩, ((HL.out.setCell (p := ⟨B, 9, none⟩) (Nat.le_refl _) _).setCell (p := ⟨B, 8, none⟩) (Nat.le_refl _) _).setCell (p := ⟨B, 4, none⟩) (Nat.le_refl _) _, fun q hq hqB => ?_⟩
  rotate_left 1
  ·rw [Below.heap_setCell _ _ _ _ hqB, Below.heap_setCell _ _ _ _ hqB, Below.heap_setCell _ _ _ _ hqB]
   exact HG.out q hq
  rw [List.length_append, List.map_append]
  refine own_keep H3.out fun q hq => ?_
  have hqB : q ≠ B := by
   have e : g = q := Option.some.inj hq
   have hgL : L <= g := (World.ownsRow.lt H3.out g rfl).1
   omega
  rw [Below.heap_setCell _ _ _ _ hqB, Below.heap_setCell _ _ _ _ hqB, Below.heap_setCell _ _ _ _ hqB]
end Go.Proofs.YtaiackmmmlhgbaaGreat.BPs
