import Derived.Test.YtiijfmdfccdagaaGreatDoorPA03
import Derived.Test.YtiijfmdfccdagaaGreatDoorPA04
open Go.Proofs.Tryz
set_option linter.unusedVariables false
set_option maxRecDepth 20000
set_option maxHeartbeats 6400000
namespace Go.Proofs.YtiijfmdfccdagaaGreatDoor.VNg
open Go.RowKit Base VPure VSm VIn VEx
theorem nm_blk {m : Nat} {Q : Exit -> Act -> World -> Prop} {a : Act} {w : World} (h : Q .normal a w) : Exit.inBlock m Q .normal a w := h
theorem pair_Neg (k1 : Int) (b1 : Bool) (i1 : Int) (s1 : ByteArray) (an1 : Option Addr) (ln1 cn1 : Nat) (al1 : Option Addr) (ll1 cl1 : Nat) (k2 : Int) (b2 : Bool) (i2 : Int) (s2 : ByteArray) (an2 : Option Addr) (ln2 cn2 : Nat) (al2 : Option Addr) (ll2 cl2 : Nat) (w : World) (x e0 : Int) (cW : k1 = 3 -> ∀ W : World, Calls prog 122 #[.int .i64 0, .int .i64 i1] W fun e w' => e = .returned (.tuple #[.int .i64 x, .int .i64 e0]) /\ w' = W) :
  Calls prog 94 #[.int .i64 10, vl k1 b1 i1 s1 (.slice an1 ln1 cn1) (.slice al1 ll1 cl1), vl k2 b2 i2 s2 (.slice an2 ln2 cn2) (.slice al2 ll2 cl2)] w fun e w' => An w w' e (fun c : Int => v0 3 false c ⟨#[]⟩) (twI 3 k1 x e0) := by
 obtain ⟨W0, hW0, hs0, hb0, hp, hq, hr⟩ := two3 w #[.int .i64 k1, .bool b1, .int .i64 i1, .string s1, (.slice an1 ln1 cn1), (.slice al1 ll1 cl1)] #[.int .i64 k2, .bool b2, .int .i64 i2, .string s2, (.slice an2 ln2 cn2), (.slice al2 ll2 cl2)]
 have HR := hid hr
 have HB := hid hb0
 have HP := hid hp
 have HQ := hid hq
 obtain ⟨p0, p1, p2, p3, p4, p5⟩ := six_box hp
 obtain ⟨q0, q1, q2, q3, q4, q5⟩ := six_box hq
 have hsD : W0.drew.heap.size = w.heap.size + 3 := by simp [hs0]
 have cN := number_c 0
 have cK := checked_c x e0
 obtain ⟨U, hU⟩ : ∃ U, twI 3 k1 x e0 = U := ⟨_, rfl⟩
 rw [hU]
 unfold twI at hU
 rw [if_pos rfl] at hU
 have HU := hid hU
 clear hp hq hb0 hr hU
 go_enter func94, ntmps94
 go_upto_if 15 with fail
 refine wp_cond_true (by rfl) ?_
 refine wp_exit ?_
 repeat (first | (with_reducible refine ex_then ?_) | (with_reducible refine ex_skip (by decide) ?_))
 refine ex_hit ?_
 refine ex_norm ?_
 apply_assumption
 try simp only [hW0]
 go_region_with (first | (go_at_call 89; refine (cN _).mono ?_; rintro e V ⟨rfl, hbv⟩; have hvs := hbv.size; have vp := (hbv.block w.heap.size (by first | (rw [hsD]; omega) | omega)).trans HP.out; have vq := (hbv.block (w.heap.size + 1) (by first | (rw [hsD]; omega) | omega)).trans HQ.out; have vr := (hbv.block (w.heap.size + 2) (by first | (rw [hsD]; omega) | omega)).trans HR.out; obtain ⟨vc0, vc1, vc2, vc3, vc4, vc5⟩ := six_box vp; have vcf0 := frozen_box vp 0; have vcf1 := frozen_box vp 1; have vcf2 := frozen_box vp 2; have vcf3 := frozen_box vp 3; have vcf4 := frozen_box vp 4; have vcf5 := frozen_box vp 5; obtain ⟨vd0, vd1, vd2, vd3, vd4, vd5⟩ := six_box vq; have vdf0 := frozen_box vq 0; have vdf1 := frozen_box vq 1; have vdf2 := frozen_box vq 2; have vdf3 := frozen_box vq 3; have vdf4 := frozen_box vq 4; have vdf5 := frozen_box vq 5; obtain ⟨V1, hV1⟩ : ∃ V1, ((((((V.setCell ⟨w.heap.size, 0, none⟩ (.int .i64 3)).setCell ⟨w.heap.size, 1, none⟩ (.bool false)).setCell ⟨w.heap.size, 2, none⟩ (.int .i64 0)).setCell ⟨w.heap.size, 3, none⟩ (.string ⟨#[]⟩)).setCell ⟨w.heap.size, 4, none⟩ (.slice none 0 0)).setCell ⟨w.heap.size, 5, none⟩ (.slice none 0 0)) = V1 := ⟨_, rfl⟩; obtain ⟨a1, a2, a3, a4⟩ := set6 _ _ _ _ _ _ vp hV1; have aq := (a2 (w.heap.size + 1) (by omega)).trans vq; obtain ⟨ve0, ve1, ve2, ve3, ve4, ve5⟩ := six_box aq; have vef0 := frozen_box aq 0; have vef1 := frozen_box aq 1; have vef2 := frozen_box aq 2; have vef3 := frozen_box aq 3; have vef4 := frozen_box aq 4; have vef5 := frozen_box aq 5; obtain ⟨V2, hV2⟩ : ∃ V2, ((((((V1.setCell ⟨w.heap.size + 1, 0, none⟩ (.int .i64 k1)).setCell ⟨w.heap.size + 1, 1, none⟩ (.bool b1)).setCell ⟨w.heap.size + 1, 2, none⟩ (.int .i64 i1)).setCell ⟨w.heap.size + 1, 3, none⟩ (.string s1)).setCell ⟨w.heap.size + 1, 4, none⟩ (.slice an1 ln1 cn1)).setCell ⟨w.heap.size + 1, 5, none⟩ (.slice al1 ll1 cl1)) = V2 := ⟨_, rfl⟩; obtain ⟨g1, g2, g3, g4⟩ := set6 _ _ _ _ _ _ aq hV2; obtain ⟨U1, hU1⟩ : ∃ U1, ((((((V.setCell ⟨w.heap.size + 1, 0, none⟩ (.int .i64 k1)).setCell ⟨w.heap.size + 1, 1, none⟩ (.bool b1)).setCell ⟨w.heap.size + 1, 2, none⟩ (.int .i64 i1)).setCell ⟨w.heap.size + 1, 3, none⟩ (.string s1)).setCell ⟨w.heap.size + 1, 4, none⟩ (.slice an1 ln1 cn1)).setCell ⟨w.heap.size + 1, 5, none⟩ (.slice al1 ll1 cl1)) = U1 := ⟨_, rfl⟩; obtain ⟨d1, d2, d3, d4⟩ := set6 _ _ _ _ _ _ vq hU1; have dp := (d2 w.heap.size (by omega)).trans vp; obtain ⟨vg0, vg1, vg2, vg3, vg4, vg5⟩ := six_box dp; have vgf0 := frozen_box dp 0; have vgf1 := frozen_box dp 1; have vgf2 := frozen_box dp 2; have vgf3 := frozen_box dp 3; have vgf4 := frozen_box dp 4; have vgf5 := frozen_box dp 5; obtain ⟨U2, hU2⟩ : ∃ U2, ((((((U1.setCell ⟨w.heap.size, 0, none⟩ (.int .i64 3)).setCell ⟨w.heap.size, 1, none⟩ (.bool false)).setCell ⟨w.heap.size, 2, none⟩ (.int .i64 0)).setCell ⟨w.heap.size, 3, none⟩ (.string ⟨#[]⟩)).setCell ⟨w.heap.size, 4, none⟩ (.slice none 0 0)).setCell ⟨w.heap.size, 5, none⟩ (.slice none 0 0)) = U2 := ⟨_, rfl⟩; obtain ⟨j1, j2, j3, j4⟩ := set6 _ _ _ _ _ _ dp hU2; have HV0 : Hid (Below w.heap.size w V) := bel_d HB.out hbv; have HV2 : Hid (Below w.heap.size w V2 /\ V2.heap.size ≥ w.heap.size + 3 /\ V2.heap[w.heap.size]? = some (.cells #[.int .i64 3, .bool false, .int .i64 0, .string ⟨#[]⟩, .slice none 0 0, .slice none 0 0] 26 (0, 0)) /\ V2.heap[w.heap.size + 1]? = some (.cells #[.int .i64 k1, .bool b1, .int .i64 i1, .string s1, (.slice an1 ln1 cn1), (.slice al1 ll1 cl1)] 26 (0, 0)) /\ V2.heap[w.heap.size + 2]? = some (.cells #[.int .i64 0, .bool false, .int .i64 0, .string ⟨#[]⟩, .slice none 0 0, .slice none 0 0] 26 (0, 0))) := ⟨g4 _ _ (by omega) (a4 _ _ (Nat.le_refl _) HV0.out), by rw [<- hV2, <- hV1]; simp; omega, (g2 _ (by omega)).trans a1, g1, (g2 _ (by omega)).trans ((a2 _ (by omega)).trans vr)⟩; have HU2 : Hid (Below w.heap.size w U2 /\ U2.heap.size ≥ w.heap.size + 3 /\ U2.heap[w.heap.size]? = some (.cells #[.int .i64 3, .bool false, .int .i64 0, .string ⟨#[]⟩, .slice none 0 0, .slice none 0 0] 26 (0, 0)) /\ U2.heap[w.heap.size + 1]? = some (.cells #[.int .i64 k1, .bool b1, .int .i64 i1, .string s1, (.slice an1 ln1 cn1), (.slice al1 ll1 cl1)] 26 (0, 0)) /\ U2.heap[w.heap.size + 2]? = some (.cells #[.int .i64 0, .bool false, .int .i64 0, .string ⟨#[]⟩, .slice none 0 0, .slice none 0 0] 26 (0, 0))) := ⟨j4 _ _ (Nat.le_refl _) (d4 _ _ (by omega) HV0.out), by rw [<- hU2, <- hU1]; simp; omega, j1, (j2 _ (by omega)).trans d1, (j2 _ (by omega)).trans ((d2 _ (by omega)).trans vr)⟩; clear a1 a2 a3 a4 g1 g2 g3 g4 d1 d2 d3 d4 j1 j2 j3 j4 aq dp vp vq vr hbv) | fail)
 all_goals clear vc0 vc1 vc2 vc3 vc4 vc5 vd0 vd1 vd2 vd3 vd4 vd5 ve0 ve1 ve2 ve3 ve4 ve5 vg0 vg1 vg2 vg3 vg4 vg5 vcf0 vcf1 vcf2 vcf3 vcf4 vcf5 vdf0 vdf1 vdf2 vdf3 vdf4 vdf5 vef0 vef1 vef2 vef3 vef4 vef5 vgf0 vgf1 vgf2 vgf3 vgf4 vgf5
 ·refine nm_blk ?_
  refine ex_norm ?_
  apply_assumption
  obtain ⟨hB, hgt, hp, hq, hr⟩ := HV2.out
  have cI := integers_c 3 false 0 ⟨#[]⟩ (.slice none 0 0) (.slice none 0 0) k1 b1 i1 s1 (.slice an1 ln1 cn1) (.slice al1 ll1 cl1) V2
  rw [if_pos rfl] at cI
  obtain ⟨p0, p1, p2, p3, p4, p5⟩ := six_box hp
  obtain ⟨q0, q1, q2, q3, q4, q5⟩ := six_box hq
  have HR := hid hr
  have HB := hid hB
  clear hp hq hr hB
  have hU := HU.out
  clear HU HV2 HU2
  go_wp2_with fail
  refine cI.mono ?_
  intro e W1 hA
  clear cI
  by_cases h2 : k1 = 3
  ·rw [if_pos h2] at hA hU
   obtain ⟨rfl, hb1⟩ := hA
   have cw := cW h2 W1
   have HR1 := hid ((hb1.block (w.heap.size + 2) (by omega)).trans HR.out)
   have hs1 := hb1.size
   have HB1 := hid (HB.out.trans (hb1.mono HB.out.size))
   clear hb1 HR HB h2 cW p0 p1 p2 p3 p4 p5 q0 q1 q2 q3 q4 q5
   go_wp2_with fail
   refine cw.mono ?_
   rintro e W2 ⟨rfl, rfl⟩
   clear cw
   have cK := cK W2
   unfold chkI at hU
   rw [hU] at cK
   have hU2 := hU
   clear hU
   go_wp2_with fail
   refine cK.mono ?_
   intro e W3 hA
   clear cK
   cases U with
   | error c =>
    obtain ⟨rfl, hb3⟩ := hA
    exact ⟨rfl, rfl, HB1.out.trans (hb3.mono HB1.out.size)⟩
   | ok y =>
    obtain ⟨rfl, hb3⟩ := hA
    have hr := (hb3.block (w.heap.size + 2) (by omega)).trans HR1.out
    have HB3 := hid (HB1.out.trans (hb3.mono HB1.out.size))
    clear hb3 HB1 HR1 hU2
    obtain ⟨r0, r1, r2, r3, r4, r5⟩ := six_box hr
    obtain ⟨rf0, rf1, rf2, rf3, rf4, rf5⟩ := Base.frz6 hr
    go_wp2_with fail
    obtain ⟨W9, hW9⟩ := stc6 W3 (w.heap.size + 2) (.int .i64 3) (.bool false) (.int .i64 y) (.string ⟨#[]⟩) (.slice none 0 0) (.slice none 0 0)
    rw [hW9]
    obtain ⟨q1, q2, q3, q4⟩ := set6 _ _ _ _ _ _ hr hW9
    refine bodyPost_ret (results_cell_row rfl _ W9 (w.heap.size + 2) 26 _ (0, 0) _ rfl q1 underlying26 rfl (by kernel_rfl)) rfl ?_
    exact ⟨rfl, q4 _ _ (by omega) HB3.out⟩
  ·rw [if_neg h2] at hA hU
   obtain ⟨rfl, hb1⟩ := hA
   subst hU
   exact ⟨rfl, rfl, HB.out.trans (hb1.mono HB.out.size)⟩
 ·refine nm_blk ?_
  refine ex_norm ?_
  apply_assumption
  obtain ⟨hB, hgt, hp, hq, hr⟩ := HV2.out
  have cI := integers_c 3 false 0 ⟨#[]⟩ (.slice none 0 0) (.slice none 0 0) k1 b1 i1 s1 (.slice an1 ln1 cn1) (.slice al1 ll1 cl1) V2
  rw [if_pos rfl] at cI
  obtain ⟨p0, p1, p2, p3, p4, p5⟩ := six_box hp
  obtain ⟨q0, q1, q2, q3, q4, q5⟩ := six_box hq
  have HR := hid hr
  have HB := hid hB
  clear hp hq hr hB
  have hU := HU.out
  clear HU HV2 HU2
  go_wp2_with fail
  refine cI.mono ?_
  intro e W1 hA
  clear cI
  by_cases h2 : k1 = 3
  ·rw [if_pos h2] at hA hU
   obtain ⟨rfl, hb1⟩ := hA
   have cw := cW h2 W1
   have HR1 := hid ((hb1.block (w.heap.size + 2) (by omega)).trans HR.out)
   have hs1 := hb1.size
   have HB1 := hid (HB.out.trans (hb1.mono HB.out.size))
   clear hb1 HR HB h2 cW p0 p1 p2 p3 p4 p5 q0 q1 q2 q3 q4 q5
   go_wp2_with fail
   refine cw.mono ?_
   rintro e W2 ⟨rfl, rfl⟩
   clear cw
   have cK := cK W2
   unfold chkI at hU
   rw [hU] at cK
   have hU2 := hU
   clear hU
   go_wp2_with fail
   refine cK.mono ?_
   intro e W3 hA
   clear cK
   cases U with
   | error c =>
    obtain ⟨rfl, hb3⟩ := hA
    exact ⟨rfl, rfl, HB1.out.trans (hb3.mono HB1.out.size)⟩
   | ok y =>
    obtain ⟨rfl, hb3⟩ := hA
    have hr := (hb3.block (w.heap.size + 2) (by omega)).trans HR1.out
    have HB3 := hid (HB1.out.trans (hb3.mono HB1.out.size))
    clear hb3 HB1 HR1 hU2
    obtain ⟨r0, r1, r2, r3, r4, r5⟩ := six_box hr
    obtain ⟨rf0, rf1, rf2, rf3, rf4, rf5⟩ := Base.frz6 hr
    go_wp2_with fail
    obtain ⟨W9, hW9⟩ := stc6 W3 (w.heap.size + 2) (.int .i64 3) (.bool false) (.int .i64 y) (.string ⟨#[]⟩) (.slice none 0 0) (.slice none 0 0)
    rw [hW9]
    obtain ⟨q1, q2, q3, q4⟩ := set6 _ _ _ _ _ _ hr hW9
    refine bodyPost_ret (results_cell_row rfl _ W9 (w.heap.size + 2) 26 _ (0, 0) _ rfl q1 underlying26 rfl (by kernel_rfl)) rfl ?_
    exact ⟨rfl, q4 _ _ (by omega) HB3.out⟩
  ·rw [if_neg h2] at hA hU
   obtain ⟨rfl, hb1⟩ := hA
   subst hU
   exact ⟨rfl, rfl, HB.out.trans (hb1.mono HB.out.size)⟩
end Go.Proofs.YtiijfmdfccdagaaGreatDoor.VNg
namespace Go.Proofs.YtiijfmdfccdagaaGreatDoor.Same
open Go.RowKit Base Go.Proofs.YtiijfmdfccdagaaGreatDoor.Eq
def SameIs (m : Nat) : Prop := ∀ (u v : Value) (c d : C) (w : World), In false All w m u c -> In false All w m v d ->
  Calls prog 22 #[u, v] w fun e w' => e = .returned (.bool (same c d)) /\ Below w.heap.size w w'
theorem eqF_of (m : Nat) (hm : SameIs m) (u v : Value) (L M : List C) (w : World) (hu : InL false All w m u L) (hv : InL false All w m v M) :
  Calls prog 37 #[u, v, .func (.func 22) #[] #[]] w fun e w' => e = .returned (.bool (sameL L M)) /\ Below w.heap.size w w' := by
 obtain ⟨a, cap, rfl, hlc, hcm, hlen, hnil, hN⟩ := hu.out
 obtain ⟨a', cap', rfl, hlc', hm', hlen', hnil', hN'⟩ := hv.out
 clear hu hv
 by_cases hne : L.length = M.length
 ·have HI := sameL_iff hne
  generalize sameL L M = R at *
  have hne' : ((L.length : Int) != (M.length : Int)) = false := by simp; omega
  have HH := hid HI
  have hle1 : L.length <= M.length := by omega
  have hle2 : M.length <= L.length := by omega
  clear HI hne
  go_enter func37, ntmps37
  go_wp2_with fail
  go_loopw [17] (fun i wr => ∃ q : Nat, q <= L.length /\ i = .int .i64 q /\ (∀ j (h1 : j < L.length) (h2 : j < M.length), j < q -> same L[j] M[j] = true) /\ Below w.heap.size w wr) (fun i _ => L.length - (intOf i).toNat)
  case atStart => exact ⟨0, by omega, rfl, fun j _ _ h => by omega, Below.refl _ _⟩
  case round =>
   obtain ⟨q, hq, rfl, hall, hb⟩ := hrel
   by_cases hlt : q < L.length
   ·have hlt2 : q < M.length := by omega
    obtain ⟨g, o, x, rfl, -, hx, hin⟩ := elem_at hN hlt
    obtain ⟨g', o', y, rfl, -, hy, hin'⟩ := elem_at hN' hlt2
    have hx := six_below hx hb
    have hy := six_below hy hb
    obtain ⟨x0, x1, x2, x3, x4, x5, rfl, d0, d1, d2, d3, d4, d5⟩ := hx
    obtain ⟨y0, y1, y2, y3, y4, y5, rfl, e0, e1, e2, e3, e4, e5⟩ := hy
    obtain ⟨a1, n1, c1, a2, n2, c2, rfl, rfl, rfl, rfl, rfl, rfl⟩ := hin.kinds
    obtain ⟨p1, q1, r1, p2, q2, r2, rfl, rfl, rfl, rfl, rfl, rfl⟩ := hin'.kinds
    generalize L[q].k = kk, L[q].b = bb, L[q].i = ii, L[q].s = ss, M[q].k = kk', M[q].b = bb', M[q].i = ii', M[q].s = ss' at *
    have hg' := cell_lt e0
    have hb2 : Below wr.heap.size wr ((wr.alloc (.cells #[.int .i64 kk, .bool bb, .int .i64 ii, .string ss, .slice a1 n1 c1, .slice a2 n2 c2] 26)).alloc (.cells #[.int .i64 kk', .bool bb', .int .i64 ii', .string ss', .slice p1 q1 r1, .slice p2 q2 r2] 26)) := ((Below.refl _ wr).alloc (Nat.le_refl _) _).alloc (by simp) _
    have c20 := hm _ _ L[q] M[q] _ ((hin.below hb).below hb2) ((hin'.below hb).below hb2)
    have HA := hid hall
    obtain ⟨x, hx⟩ : ∃ x, same L[q] M[q] = x := ⟨_, rfl⟩
    have HX := hid hx
    rw [hx] at c20
    clear hN hN' hall hx hin hin' hm
    go_wp2_with fail
    refine c20.mono ?_
    rintro e w1 ⟨rfl, b1⟩
    have hb3 := nx (nx hb hb2) b1
    clear hb2 b1 c20
    cases x with
    | true =>
     go_wp2_with fail
     go_roundw
     case rel =>
      refine ⟨q + 1, by omega, by go_num, fun j h1 h2 hj => ?_, hb3⟩
      by_cases e : j = q
      ·subst e
       exact HX.out
      ·exact HA.out j h1 h2 (by omega)
     case measure => simp only [intOf]; omega
    | false =>
     have hR : R = false := false_of fun h => by
      have := HH.out.1 h q hlt hlt2
      rw [HX.out] at this
      cases this
     subst hR
     go_wp2_with fail
     go_ret
     exact ⟨rfl, hb3⟩
   ·have hlt' : decide ((q : Int) < (L.length : Int)) = false := by simp; omega
    have hR : R = true := HH.out.2 fun j h1 h2 => hall j h1 h2 (by omega)
    subst hR
    clear hall
    go_wp2_with fail
    go_ret
    exact ⟨rfl, hb⟩
 ·rw [sameL_len hne]
  have hne' : ((L.length : Int) != (M.length : Int)) = true := by simp; omega
  go_enter func37, ntmps37
  go_wp2_with fail
  go_ret
  exact ⟨rfl, Below.refl _ _⟩
theorem same_of (m : Nat) (hm : ∀ (u v : Value) (L M : List C) (w : World), InL false All w m u L -> InL false All w m v M ->
   Calls prog 37 #[u, v, .func (.func 22) #[] #[]] w fun e w' => e = .returned (.bool (sameL L M)) /\ Below w.heap.size w w') : SameIs (m + 1) := by
 intro u v c d w hu hv
 obtain ⟨k, b, i, s, n, l⟩ := c
 obtain ⟨k', b', i', s', n', l'⟩ := d
 rw [in_iff] at hu hv
 obtain ⟨nv, lv, rfl, -, -, -, hn, hl⟩ := hu
 obtain ⟨nv', lv', rfl, -, -, -, hn', hl'⟩ := hv
 obtain ⟨W0, hW0⟩ : ∃ W0, (w.alloc (.cells #[.int .i64 k, .bool b, .int .i64 i, .string s, nv, lv] 26)).alloc (.cells #[.int .i64 k', .bool b', .int .i64 i', .string s', nv', lv'] 26) = W0 := ⟨_, rfl⟩
 have hb0 : Below w.heap.size w W0 := by rw [<- hW0]; exact ((Below.refl _ w).alloc (Nat.le_refl _) _).alloc (by simp) _
 have hsz0 : W0.heap.size = w.heap.size + 2 := by rw [<- hW0]; simp
 have hx0 : W0.heap[w.heap.size]? = some (.cells #[.int .i64 k, .bool b, .int .i64 i, .string s, nv, lv] 26) := by
  rw [<- hW0, Below.heap_alloc _ _ _ (by simp), heap_alloc_new]
 have hx1 : W0.heap[w.heap.size + 1]? = some (.cells #[.int .i64 k', .bool b', .int .i64 i', .string s', nv', lv'] 26) := by
  have := heap_alloc_new (w.alloc (.cells #[.int .i64 k, .bool b, .int .i64 i, .string s, nv, lv] 26)) (.cells #[.int .i64 k', .bool b', .int .i64 i', .string s', nv', lv'] 26)
  rwa [hW0, World.size_alloc] at this
 obtain ⟨d0, d1, d2, d3, d4, d5⟩ := six_box hx0
 obtain ⟨e0, e1, e2, e3, e4, e5⟩ := six_box hx1
 by_cases hk : ¬ k = k'
 ·have hk' : (k != k') = true := by simp [hk]
  have e : same (.mk k b i s n l) (.mk k' b' i' s' n' l') = false := by simp [same, hk]
  rw [e]
  clear e
  go_enter func22, ntmps22
  go_wp2_with fail
  go_ret
  exact ⟨rfl, hb0⟩
 have hk := Decidable.of_not_not hk
 subst hk
 by_cases h2 : k = 2
 ·subst h2
  have e : same (.mk 2 b i s n l) (.mk 2 b' i' s' n' l') = (b == b') := by simp [same]
  rw [e]
  clear e
  go_enter func22, ntmps22
  go_wp2_with fail
  go_ret
  exact ⟨rfl, hb0⟩
 by_cases h3 : k = 3
 ·subst h3
  have e : same (.mk 3 b i s n l) (.mk 3 b' i' s' n' l') = (i == i') := by simp [same]
  rw [e]
  clear e
  go_enter func22, ntmps22
  go_wp2_with fail
  go_ret
  exact ⟨rfl, hb0⟩
 by_cases h4 : k = 4
 ·subst h4
  have e : same (.mk 4 b i s n l) (.mk 4 b' i' s' n' l') = (s.toList == s'.toList) := by simp [same, eqB]
  rw [e]
  clear e
  go_enter func22, ntmps22
  go_wp2_with fail
  go_ret
  exact ⟨rfl, hb0⟩
 have h2' : (k == 2) = false := by simp [h2]
 have h3' : (k == 3) = false := by simp [h3]
 have h4' : (k == 4) = false := by simp [h4]
 by_cases h5 : k = 5
 ·subst h5
  have e : same (.mk 5 b i s n l) (.mk 5 b' i' s' n' l') = sameL l l' := by simp [same]
  rw [e]
  have c42 := hm lv lv' l l' W0 (hl.below hb0) (hl'.below hb0)
  generalize sameL l l' = R at *
  clear e hm hx0 hx1
  go_enter func22, ntmps22
  go_wp2_with (first | (go_at_call 37; refine c42.mono ?_; rintro e w1 ⟨rfl, b1⟩))
  go_ret
  exact ⟨rfl, nx hb0 b1⟩
 have h5' : (k == 5) = false := by simp [h5]
 by_cases h6 : k = 6
 ·subst h6
  have e : same (.mk 6 b i s n l) (.mk 6 b' i' s' n' l') = (eqN n n' && sameL l l') := by simp [same]
  rw [e]
  have c43 := eqT_c nv nv' n n' W0 (hn.below hb0) (hn'.below hb0)
  generalize eqN n n' = T at *
  have hm := fun w h1 h2 => hm lv lv' l l' w h1 h2
  generalize sameL l l' = R at *
  clear e
  go_enter func22, ntmps22
  go_wp2_with fail
  refine c43.mono ?_
  rintro e w1 ⟨rfl, b1⟩
  have k5 := (six_box ((b1.block w.heap.size (by omega)).trans hx0)).2.2.2.2.2
  have j5 := (six_box ((b1.block (w.heap.size + 1) (by omega)).trans hx1)).2.2.2.2.2
  have c42 := hm w1 ((hl.below hb0).below b1) ((hl'.below hb0).below b1)
  clear c43 hx0 hx1 hW0 hm
  cases T with
  | false =>
   go_wp2_with fail
   go_ret
   exact ⟨rfl, nx hb0 b1⟩
  | true =>
   go_wp2_with (first | (go_at_call 37; refine c42.mono ?_; rintro e w2 ⟨rfl, b2⟩))
   go_ret
   exact ⟨by simp, nx (nx hb0 b1) b2⟩
 have h6' : (k == 6) = false := by simp [h6]
 have e : same (.mk k b i s n l) (.mk k b' i' s' n' l') = true := by simp [same, h2, h3, h4, h5, h6]
 rw [e]
 clear e
 go_enter func22, ntmps22
 go_wp2_with fail
 go_ret
 exact ⟨rfl, hb0⟩
theorem sames : ∀ m, SameIs m := by
 intro m
 induction m with
 | zero => intro u v c d w h; rw [In] at h; exact h.elim
 | succ m ih => exact same_of m (eqF_of m ih)
theorem same_c {m m' : Nat} {u v : Value} {c d : C} {w : World} (hu : In false All w m u c) (hv : In false All w m' v d) :
  Calls prog 22 #[u, v] w fun e w' => e = .returned (.bool (same c d)) /\ Below w.heap.size w w' :=
 sames (max m m') u v c d w (hu.weak (fun _ h => h) false id _ (Nat.le_max_left _ _)) (hv.weak (fun _ h => h) false id _ (Nat.le_max_right _ _))
end Go.Proofs.YtiijfmdfccdagaaGreatDoor.Same
namespace Go.Proofs.YtiijfmdfccdagaaGreatDoor.VBi
open Go.RowKit Base VPure VSm VIn VEx
theorem bit_rng (o x y : Int) : -9223372036854775808 <= bit o x y /\ bit o x y <= 9223372036854775807 := by
 unfold bit
 repeat' split
 all_goals (unfold Go.bits; simp only []; rw [IntKind.wrap_i64]; omega)
theorem bits_20 (k1 : Int) (b1 : Bool) (i1 : Int) (s1 : ByteArray) (n1 l1 : Value) (k2 : Int) (b2 : Bool) (i2 : Int) (s2 : ByteArray) (n2 l2 : Value) (w : World) :
  Calls prog 130 #[.int .i64 20, vl k1 b1 i1 s1 n1 l1, vl k2 b2 i2 s2 n2 l2] w fun e w' => An w w' e (fun c : Int => v0 3 false c ⟨#[]⟩) (twX k1 k2 (bit 20 i1 i2)) := by
 obtain ⟨W0, hW0, hs0, hb0, hp, hq, hr⟩ := two3 w #[.int .i64 k1, .bool b1, .int .i64 i1, .string s1, n1, l1] #[.int .i64 k2, .bool b2, .int .i64 i2, .string s2, n2, l2]
 have HR := hid hr
 have HB := hid hb0
 obtain ⟨p0, p1, p2, p3, p4, p5⟩ := six_box hp
 obtain ⟨q0, q1, q2, q3, q4, q5⟩ := six_box hq
 have cI := integers_c k1 b1 i1 s1 n1 l1 k2 b2 i2 s2 n2 l2 W0
 have eX : Go.bits .and .i64 i1 i2 = bit 20 i1 i2 := rfl
 obtain ⟨X, hX⟩ : ∃ X, bit 20 i1 i2 = X := ⟨_, rfl⟩
 rw [hX] at eX ⊢
 have cN := number_c X
 obtain ⟨U, hU⟩ : ∃ U, twX k1 k2 X = U := ⟨_, rfl⟩
 rw [hU]
 unfold twX at hU
 clear hp hq hb0 hr hX
 go_enter func130, ntmps130
 go_wp2_with fail
 try rw [hW0]
 refine cI.mono ?_
 intro e W1 hA
 clear cI
 by_cases h1 : k1 = 3
 ·rw [if_pos h1] at hA hU
  by_cases h2 : k2 = 3
  ·rw [if_pos h2] at hA hU
   obtain ⟨rfl, hb1⟩ := hA
   have HR1 := hid ((hb1.block (w.heap.size + 2) (by omega)).trans HR.out)
   have hs1 := hb1.size
   have HB1 := hid (HB.out.trans (hb1.mono HB.out.size))
   clear hb1 HR HB p0 p1 p2 p3 p4 p5 q0 q1 q2 q3 q4 q5 h1 h2
   have HU := hid hU
   clear hU
   go_wp2_with fail
   refine (cN _).mono ?_
   rintro e W2 ⟨rfl, hb2⟩
   clear cN eX
   have hr := (hb2.block (w.heap.size + 2) (by omega)).trans HR1.out
   have HB2 := hid (HB1.out.trans (hb2.mono HB1.out.size))
   clear hb2 HB1 HR1
   obtain ⟨r0, r1, r2, r3, r4, r5⟩ := six_box hr
   obtain ⟨rf0, rf1, rf2, rf3, rf4, rf5⟩ := Base.frz6 hr
   go_wp2_with fail
   obtain ⟨W9, hW9⟩ := stc6 W2 (w.heap.size + 2) (.int .i64 3) (.bool false) (.int .i64 X) (.string ⟨#[]⟩) (.slice none 0 0) (.slice none 0 0)
   rw [hW9]
   obtain ⟨q1, q2, q3, q4⟩ := set6 _ _ _ _ _ _ hr hW9
   first | refine out_ret (results_cell_row rfl _ W9 (w.heap.size + 2) 26 _ (0, 0) _ rfl q1 underlying26 rfl (by kernel_rfl)) rfl ?_ | refine bodyPost_ret (results_cell_row rfl _ W9 (w.heap.size + 2) 26 _ (0, 0) _ rfl q1 underlying26 rfl (by kernel_rfl)) rfl ?_
   rw [<- HU.out]
   exact ⟨rfl, q4 _ _ (by omega) HB2.out⟩
  ·rw [if_neg h2] at hA hU
   obtain ⟨rfl, hb1⟩ := hA
   subst hU
   exact ⟨rfl, rfl, HB.out.trans (hb1.mono HB.out.size)⟩
 ·rw [if_neg h1] at hA hU
  obtain ⟨rfl, hb1⟩ := hA
  subst hU
  exact ⟨rfl, rfl, HB.out.trans (hb1.mono HB.out.size)⟩
theorem bits_21 (k1 : Int) (b1 : Bool) (i1 : Int) (s1 : ByteArray) (n1 l1 : Value) (k2 : Int) (b2 : Bool) (i2 : Int) (s2 : ByteArray) (n2 l2 : Value) (w : World) :
  Calls prog 130 #[.int .i64 21, vl k1 b1 i1 s1 n1 l1, vl k2 b2 i2 s2 n2 l2] w fun e w' => An w w' e (fun c : Int => v0 3 false c ⟨#[]⟩) (twX k1 k2 (bit 21 i1 i2)) := by
 obtain ⟨W0, hW0, hs0, hb0, hp, hq, hr⟩ := two3 w #[.int .i64 k1, .bool b1, .int .i64 i1, .string s1, n1, l1] #[.int .i64 k2, .bool b2, .int .i64 i2, .string s2, n2, l2]
 have HR := hid hr
 have HB := hid hb0
 obtain ⟨p0, p1, p2, p3, p4, p5⟩ := six_box hp
 obtain ⟨q0, q1, q2, q3, q4, q5⟩ := six_box hq
 have cI := integers_c k1 b1 i1 s1 n1 l1 k2 b2 i2 s2 n2 l2 W0
 have eX : Go.bits .xor .i64 i1 i2 = bit 21 i1 i2 := rfl
 obtain ⟨X, hX⟩ : ∃ X, bit 21 i1 i2 = X := ⟨_, rfl⟩
 rw [hX] at eX ⊢
 have cN := number_c X
 obtain ⟨U, hU⟩ : ∃ U, twX k1 k2 X = U := ⟨_, rfl⟩
 rw [hU]
 unfold twX at hU
 clear hp hq hb0 hr hX
 go_enter func130, ntmps130
 go_wp2_with fail
 try rw [hW0]
 refine cI.mono ?_
 intro e W1 hA
 clear cI
 by_cases h1 : k1 = 3
 ·rw [if_pos h1] at hA hU
  by_cases h2 : k2 = 3
  ·rw [if_pos h2] at hA hU
   obtain ⟨rfl, hb1⟩ := hA
   have HR1 := hid ((hb1.block (w.heap.size + 2) (by omega)).trans HR.out)
   have hs1 := hb1.size
   have HB1 := hid (HB.out.trans (hb1.mono HB.out.size))
   clear hb1 HR HB p0 p1 p2 p3 p4 p5 q0 q1 q2 q3 q4 q5 h1 h2
   have HU := hid hU
   clear hU
   go_wp2_with fail
   refine (cN _).mono ?_
   rintro e W2 ⟨rfl, hb2⟩
   clear cN eX
   have hr := (hb2.block (w.heap.size + 2) (by omega)).trans HR1.out
   have HB2 := hid (HB1.out.trans (hb2.mono HB1.out.size))
   clear hb2 HB1 HR1
   obtain ⟨r0, r1, r2, r3, r4, r5⟩ := six_box hr
   obtain ⟨rf0, rf1, rf2, rf3, rf4, rf5⟩ := Base.frz6 hr
   go_wp2_with fail
   obtain ⟨W9, hW9⟩ := stc6 W2 (w.heap.size + 2) (.int .i64 3) (.bool false) (.int .i64 X) (.string ⟨#[]⟩) (.slice none 0 0) (.slice none 0 0)
   rw [hW9]
   obtain ⟨q1, q2, q3, q4⟩ := set6 _ _ _ _ _ _ hr hW9
   first | refine out_ret (results_cell_row rfl _ W9 (w.heap.size + 2) 26 _ (0, 0) _ rfl q1 underlying26 rfl (by kernel_rfl)) rfl ?_ | refine bodyPost_ret (results_cell_row rfl _ W9 (w.heap.size + 2) 26 _ (0, 0) _ rfl q1 underlying26 rfl (by kernel_rfl)) rfl ?_
   rw [<- HU.out]
   exact ⟨rfl, q4 _ _ (by omega) HB2.out⟩
  ·rw [if_neg h2] at hA hU
   obtain ⟨rfl, hb1⟩ := hA
   subst hU
   exact ⟨rfl, rfl, HB.out.trans (hb1.mono HB.out.size)⟩
 ·rw [if_neg h1] at hA hU
  obtain ⟨rfl, hb1⟩ := hA
  subst hU
  exact ⟨rfl, rfl, HB.out.trans (hb1.mono HB.out.size)⟩
theorem bits_22 (k1 : Int) (b1 : Bool) (i1 : Int) (s1 : ByteArray) (n1 l1 : Value) (k2 : Int) (b2 : Bool) (i2 : Int) (s2 : ByteArray) (n2 l2 : Value) (w : World) :
  Calls prog 130 #[.int .i64 22, vl k1 b1 i1 s1 n1 l1, vl k2 b2 i2 s2 n2 l2] w fun e w' => An w w' e (fun c : Int => v0 3 false c ⟨#[]⟩) (twX k1 k2 (bit 22 i1 i2)) := by
 obtain ⟨W0, hW0, hs0, hb0, hp, hq, hr⟩ := two3 w #[.int .i64 k1, .bool b1, .int .i64 i1, .string s1, n1, l1] #[.int .i64 k2, .bool b2, .int .i64 i2, .string s2, n2, l2]
 have HR := hid hr
 have HB := hid hb0
 obtain ⟨p0, p1, p2, p3, p4, p5⟩ := six_box hp
 obtain ⟨q0, q1, q2, q3, q4, q5⟩ := six_box hq
 have cI := integers_c k1 b1 i1 s1 n1 l1 k2 b2 i2 s2 n2 l2 W0
 have eX : Go.bits .or .i64 i1 i2 = bit 22 i1 i2 := rfl
 obtain ⟨X, hX⟩ : ∃ X, bit 22 i1 i2 = X := ⟨_, rfl⟩
 rw [hX] at eX ⊢
 have cN := number_c X
 obtain ⟨U, hU⟩ : ∃ U, twX k1 k2 X = U := ⟨_, rfl⟩
 rw [hU]
 unfold twX at hU
 clear hp hq hb0 hr hX
 go_enter func130, ntmps130
 go_wp2_with fail
 try rw [hW0]
 refine cI.mono ?_
 intro e W1 hA
 clear cI
 by_cases h1 : k1 = 3
 ·rw [if_pos h1] at hA hU
  by_cases h2 : k2 = 3
  ·rw [if_pos h2] at hA hU
   obtain ⟨rfl, hb1⟩ := hA
   have HR1 := hid ((hb1.block (w.heap.size + 2) (by omega)).trans HR.out)
   have hs1 := hb1.size
   have HB1 := hid (HB.out.trans (hb1.mono HB.out.size))
   clear hb1 HR HB p0 p1 p2 p3 p4 p5 q0 q1 q2 q3 q4 q5 h1 h2
   have HU := hid hU
   clear hU
   go_wp2_with fail
   refine (cN _).mono ?_
   rintro e W2 ⟨rfl, hb2⟩
   clear cN eX
   have hr := (hb2.block (w.heap.size + 2) (by omega)).trans HR1.out
   have HB2 := hid (HB1.out.trans (hb2.mono HB1.out.size))
   clear hb2 HB1 HR1
   obtain ⟨r0, r1, r2, r3, r4, r5⟩ := six_box hr
   obtain ⟨rf0, rf1, rf2, rf3, rf4, rf5⟩ := Base.frz6 hr
   go_wp2_with fail
   obtain ⟨W9, hW9⟩ := stc6 W2 (w.heap.size + 2) (.int .i64 3) (.bool false) (.int .i64 X) (.string ⟨#[]⟩) (.slice none 0 0) (.slice none 0 0)
   rw [hW9]
   obtain ⟨q1, q2, q3, q4⟩ := set6 _ _ _ _ _ _ hr hW9
   first | refine out_ret (results_cell_row rfl _ W9 (w.heap.size + 2) 26 _ (0, 0) _ rfl q1 underlying26 rfl (by kernel_rfl)) rfl ?_ | refine bodyPost_ret (results_cell_row rfl _ W9 (w.heap.size + 2) 26 _ (0, 0) _ rfl q1 underlying26 rfl (by kernel_rfl)) rfl ?_
   rw [<- HU.out]
   exact ⟨rfl, q4 _ _ (by omega) HB2.out⟩
  ·rw [if_neg h2] at hA hU
   obtain ⟨rfl, hb1⟩ := hA
   subst hU
   exact ⟨rfl, rfl, HB.out.trans (hb1.mono HB.out.size)⟩
 ·rw [if_neg h1] at hA hU
  obtain ⟨rfl, hb1⟩ := hA
  subst hU
  exact ⟨rfl, rfl, HB.out.trans (hb1.mono HB.out.size)⟩
theorem pair_20 (k1 : Int) (b1 : Bool) (i1 : Int) (s1 : ByteArray) (n1 l1 : Value) (k2 : Int) (b2 : Bool) (i2 : Int) (s2 : ByteArray) (n2 l2 : Value) (w : World) :
  Calls prog 94 #[.int .i64 20, vl k1 b1 i1 s1 n1 l1, vl k2 b2 i2 s2 n2 l2] w fun e w' => An w w' e (fun c : Int => v0 3 false c ⟨#[]⟩) (twX k1 k2 (bit 20 i1 i2)) := by
 obtain ⟨W0, hW0, hs0, hb0, hp, hq, hr⟩ := two3 w #[.int .i64 k1, .bool b1, .int .i64 i1, .string s1, n1, l1] #[.int .i64 k2, .bool b2, .int .i64 i2, .string s2, n2, l2]
 have HR := hid hr
 have HB := hid hb0
 obtain ⟨p0, p1, p2, p3, p4, p5⟩ := six_box hp
 obtain ⟨q0, q1, q2, q3, q4, q5⟩ := six_box hq
 have cI := bits_20 k1 b1 i1 s1 n1 l1 k2 b2 i2 s2 n2 l2 W0
 obtain ⟨U, hU⟩ : ∃ U, twX k1 k2 (bit 20 i1 i2) = U := ⟨_, rfl⟩
 rw [hU] at cI ⊢
 clear hp hq hb0 hr hU
 go_enter func94, ntmps94
 go_upto_if 31 with fail
 refine wp_cond_true (by rfl) ?_
 refine wp_skip ?_
 refine ex_norm ?_
 apply_assumption
 go_upto_if 31 with fail
 refine wp_cond_true (by rfl) ?_
 refine wp_exit ?_
 repeat (first | (with_reducible refine ex_then ?_) | (with_reducible refine ex_skip (by decide) ?_))
 refine ex_hit ?_
 refine ex_norm ?_
 apply_assumption
 refine wp_mono (Q := Out ?outB) ?outM (out_mono ?outR ?outP)
 case outR => intro a w h; (repeat (first | (with_reducible refine rt_then ?_) | (with_reducible refine rt_blk ?_))); exact h
 case outP => intro c a w h; (repeat (first | (with_reducible refine pn_then ?_) | (with_reducible refine pn_blk ?_))); exact h
 try simp only [hW0]
 go_wp2_with fail
 try rw [hW0]
 refine cI.mono ?_
 intro e W2 hA
 clear cI
 cases U with
 | error c =>
  obtain ⟨rfl, hb1⟩ := hA
  exact ⟨rfl, rfl, HB.out.trans (hb1.mono HB.out.size)⟩
 | ok y =>
  obtain ⟨rfl, hb2⟩ := hA
  have HR1 := HR
  have HB1 := HB
  clear HR HB
  have hr := (hb2.block (w.heap.size + 2) (by omega)).trans HR1.out
  have HB2 := hid (HB1.out.trans (hb2.mono HB1.out.size))
  clear hb2 HB1 HR1
  obtain ⟨r0, r1, r2, r3, r4, r5⟩ := six_box hr
  obtain ⟨rf0, rf1, rf2, rf3, rf4, rf5⟩ := Base.frz6 hr
  go_wp2_with fail
  obtain ⟨W9, hW9⟩ := stc6 W2 (w.heap.size + 2) (.int .i64 3) (.bool false) (.int .i64 y) (.string ⟨#[]⟩) (.slice none 0 0) (.slice none 0 0)
  rw [hW9]
  obtain ⟨q1, q2, q3, q4⟩ := set6 _ _ _ _ _ _ hr hW9
  first | refine out_ret (results_cell_row rfl _ W9 (w.heap.size + 2) 26 _ (0, 0) _ rfl q1 underlying26 rfl (by kernel_rfl)) rfl ?_ | refine bodyPost_ret (results_cell_row rfl _ W9 (w.heap.size + 2) 26 _ (0, 0) _ rfl q1 underlying26 rfl (by kernel_rfl)) rfl ?_
  exact ⟨rfl, q4 _ _ (by omega) HB2.out⟩
theorem pair_21 (k1 : Int) (b1 : Bool) (i1 : Int) (s1 : ByteArray) (n1 l1 : Value) (k2 : Int) (b2 : Bool) (i2 : Int) (s2 : ByteArray) (n2 l2 : Value) (w : World) :
  Calls prog 94 #[.int .i64 21, vl k1 b1 i1 s1 n1 l1, vl k2 b2 i2 s2 n2 l2] w fun e w' => An w w' e (fun c : Int => v0 3 false c ⟨#[]⟩) (twX k1 k2 (bit 21 i1 i2)) := by
 obtain ⟨W0, hW0, hs0, hb0, hp, hq, hr⟩ := two3 w #[.int .i64 k1, .bool b1, .int .i64 i1, .string s1, n1, l1] #[.int .i64 k2, .bool b2, .int .i64 i2, .string s2, n2, l2]
 have HR := hid hr
 have HB := hid hb0
 obtain ⟨p0, p1, p2, p3, p4, p5⟩ := six_box hp
 obtain ⟨q0, q1, q2, q3, q4, q5⟩ := six_box hq
 have cI := bits_21 k1 b1 i1 s1 n1 l1 k2 b2 i2 s2 n2 l2 W0
 obtain ⟨U, hU⟩ : ∃ U, twX k1 k2 (bit 21 i1 i2) = U := ⟨_, rfl⟩
 rw [hU] at cI ⊢
 clear hp hq hb0 hr hU
 go_enter func94, ntmps94
 go_upto_if 31 with fail
 refine wp_cond_false (by rfl) ?_
 go_upto_if 31 with fail
 refine wp_cond_true (by rfl) ?_
 refine wp_skip ?_
 refine ex_norm ?_
 apply_assumption
 go_upto_if 31 with fail
 refine wp_cond_true (by rfl) ?_
 refine wp_exit ?_
 repeat (first | (with_reducible refine ex_then ?_) | (with_reducible refine ex_skip (by decide) ?_))
 refine ex_hit ?_
 refine ex_norm ?_
 apply_assumption
 refine wp_mono (Q := Out ?outB) ?outM (out_mono ?outR ?outP)
 case outR => intro a w h; (repeat (first | (with_reducible refine rt_then ?_) | (with_reducible refine rt_blk ?_))); exact h
 case outP => intro c a w h; (repeat (first | (with_reducible refine pn_then ?_) | (with_reducible refine pn_blk ?_))); exact h
 try simp only [hW0]
 go_wp2_with fail
 try rw [hW0]
 refine cI.mono ?_
 intro e W2 hA
 clear cI
 cases U with
 | error c =>
  obtain ⟨rfl, hb1⟩ := hA
  exact ⟨rfl, rfl, HB.out.trans (hb1.mono HB.out.size)⟩
 | ok y =>
  obtain ⟨rfl, hb2⟩ := hA
  have HR1 := HR
  have HB1 := HB
  clear HR HB
  have hr := (hb2.block (w.heap.size + 2) (by omega)).trans HR1.out
  have HB2 := hid (HB1.out.trans (hb2.mono HB1.out.size))
  clear hb2 HB1 HR1
  obtain ⟨r0, r1, r2, r3, r4, r5⟩ := six_box hr
  obtain ⟨rf0, rf1, rf2, rf3, rf4, rf5⟩ := Base.frz6 hr
  go_wp2_with fail
  obtain ⟨W9, hW9⟩ := stc6 W2 (w.heap.size + 2) (.int .i64 3) (.bool false) (.int .i64 y) (.string ⟨#[]⟩) (.slice none 0 0) (.slice none 0 0)
  rw [hW9]
  obtain ⟨q1, q2, q3, q4⟩ := set6 _ _ _ _ _ _ hr hW9
  first | refine out_ret (results_cell_row rfl _ W9 (w.heap.size + 2) 26 _ (0, 0) _ rfl q1 underlying26 rfl (by kernel_rfl)) rfl ?_ | refine bodyPost_ret (results_cell_row rfl _ W9 (w.heap.size + 2) 26 _ (0, 0) _ rfl q1 underlying26 rfl (by kernel_rfl)) rfl ?_
  exact ⟨rfl, q4 _ _ (by omega) HB2.out⟩
theorem pair_22 (k1 : Int) (b1 : Bool) (i1 : Int) (s1 : ByteArray) (n1 l1 : Value) (k2 : Int) (b2 : Bool) (i2 : Int) (s2 : ByteArray) (n2 l2 : Value) (w : World) :
  Calls prog 94 #[.int .i64 22, vl k1 b1 i1 s1 n1 l1, vl k2 b2 i2 s2 n2 l2] w fun e w' => An w w' e (fun c : Int => v0 3 false c ⟨#[]⟩) (twX k1 k2 (bit 22 i1 i2)) := by
 obtain ⟨W0, hW0, hs0, hb0, hp, hq, hr⟩ := two3 w #[.int .i64 k1, .bool b1, .int .i64 i1, .string s1, n1, l1] #[.int .i64 k2, .bool b2, .int .i64 i2, .string s2, n2, l2]
 have HR := hid hr
 have HB := hid hb0
 obtain ⟨p0, p1, p2, p3, p4, p5⟩ := six_box hp
 obtain ⟨q0, q1, q2, q3, q4, q5⟩ := six_box hq
 have cI := bits_22 k1 b1 i1 s1 n1 l1 k2 b2 i2 s2 n2 l2 W0
 obtain ⟨U, hU⟩ : ∃ U, twX k1 k2 (bit 22 i1 i2) = U := ⟨_, rfl⟩
 rw [hU] at cI ⊢
 clear hp hq hb0 hr hU
 go_enter func94, ntmps94
 go_upto_if 31 with fail
 refine wp_cond_false (by rfl) ?_
 go_upto_if 31 with fail
 refine wp_cond_false (by rfl) ?_
 go_upto_if 31 with fail
 refine wp_cond_true (by rfl) ?_
 refine wp_exit ?_
 repeat (first | (with_reducible refine ex_then ?_) | (with_reducible refine ex_skip (by decide) ?_))
 refine ex_hit ?_
 refine ex_norm ?_
 apply_assumption
 refine wp_mono (Q := Out ?outB) ?outM (out_mono ?outR ?outP)
 case outR => intro a w h; (repeat (first | (with_reducible refine rt_then ?_) | (with_reducible refine rt_blk ?_))); exact h
 case outP => intro c a w h; (repeat (first | (with_reducible refine pn_then ?_) | (with_reducible refine pn_blk ?_))); exact h
 try simp only [hW0]
 go_wp2_with fail
 try rw [hW0]
 refine cI.mono ?_
 intro e W2 hA
 clear cI
 cases U with
 | error c =>
  obtain ⟨rfl, hb1⟩ := hA
  exact ⟨rfl, rfl, HB.out.trans (hb1.mono HB.out.size)⟩
 | ok y =>
  obtain ⟨rfl, hb2⟩ := hA
  have HR1 := HR
  have HB1 := HB
  clear HR HB
  have hr := (hb2.block (w.heap.size + 2) (by omega)).trans HR1.out
  have HB2 := hid (HB1.out.trans (hb2.mono HB1.out.size))
  clear hb2 HB1 HR1
  obtain ⟨r0, r1, r2, r3, r4, r5⟩ := six_box hr
  obtain ⟨rf0, rf1, rf2, rf3, rf4, rf5⟩ := Base.frz6 hr
  go_wp2_with fail
  obtain ⟨W9, hW9⟩ := stc6 W2 (w.heap.size + 2) (.int .i64 3) (.bool false) (.int .i64 y) (.string ⟨#[]⟩) (.slice none 0 0) (.slice none 0 0)
  rw [hW9]
  obtain ⟨q1, q2, q3, q4⟩ := set6 _ _ _ _ _ _ hr hW9
  first | refine out_ret (results_cell_row rfl _ W9 (w.heap.size + 2) 26 _ (0, 0) _ rfl q1 underlying26 rfl (by kernel_rfl)) rfl ?_ | refine bodyPost_ret (results_cell_row rfl _ W9 (w.heap.size + 2) 26 _ (0, 0) _ rfl q1 underlying26 rfl (by kernel_rfl)) rfl ?_
  exact ⟨rfl, q4 _ _ (by omega) HB2.out⟩
theorem pair_11 (k1 : Int) (b1 : Bool) (i1 : Int) (s1 : ByteArray) (n1 l1 : Value) (k2 : Int) (b2 : Bool) (i2 : Int) (s2 : ByteArray) (n2 l2 : Value) (w : World) :
  Calls prog 94 #[.int .i64 11, vl k1 b1 i1 s1 n1 l1, vl k2 b2 i2 s2 n2 l2] w fun e w' => An w w' e (fun c : Bool => v0 2 c 0 ⟨#[]⟩) (if k1 = 2 then .ok (!b1) else .error 1101) := by
 obtain ⟨W0, hW0, hs0, hb0, hp, hq, hr⟩ := two3 w #[.int .i64 k1, .bool b1, .int .i64 i1, .string s1, n1, l1] #[.int .i64 k2, .bool b2, .int .i64 i2, .string s2, n2, l2]
 have HR := hid hr
 have HB := hid hb0
 obtain ⟨p0, p1, p2, p3, p4, p5⟩ := six_box hp
 obtain ⟨q0, q1, q2, q3, q4, q5⟩ := six_box hq
 have cI := isTrue_c k1 b1 i1 s1 n1 l1 W0
 have cT := truth_c (!b1)
 obtain ⟨B, hB⟩ : ∃ B, (!b1) = B := ⟨_, rfl⟩
 rw [hB] at cT ⊢
 obtain ⟨U, hU⟩ : ∃ U, (if k1 = 2 then (.ok B : Except Nat Bool) else .error 1101) = U := ⟨_, rfl⟩
 rw [hU]
 clear hp hq hb0 hr
 go_enter func94, ntmps94
 go_upto_if 13 with fail
 refine wp_cond_true (by rfl) ?_
 refine wp_exit ?_
 repeat (first | (with_reducible refine ex_then ?_) | (with_reducible refine ex_skip (by decide) ?_))
 refine ex_hit ?_
 refine ex_norm ?_
 apply_assumption
 refine wp_mono (Q := Out ?outB) ?outM (out_mono ?outR ?outP)
 case outR => intro a w h; (repeat (first | (with_reducible refine rt_then ?_) | (with_reducible refine rt_blk ?_))); exact h
 case outP => intro c a w h; (repeat (first | (with_reducible refine pn_then ?_) | (with_reducible refine pn_blk ?_))); exact h
 try simp only [hW0]
 go_wp2_with fail
 try rw [hW0]
 refine cI.mono ?_
 intro e W1 hA
 clear cI
 by_cases h1 : k1 = 2
 ·rw [if_pos h1] at hA hU
  obtain ⟨rfl, hb1⟩ := hA
  have HR1 := hid ((hb1.block (w.heap.size + 2) (by omega)).trans HR.out)
  have hs1 := hb1.size
  have HB1 := hid (HB.out.trans (hb1.mono HB.out.size))
  clear hb1 HR HB p0 p1 p2 p3 p4 p5 q0 q1 q2 q3 q4 q5 h1
  have HU := hid hU
  clear hU
  go_wp2_with fail
  refine (cT _).mono ?_
  rintro e W2 ⟨rfl, hb2⟩
  clear cT
  have hr := (hb2.block (w.heap.size + 2) (by omega)).trans HR1.out
  have HB2 := hid (HB1.out.trans (hb2.mono HB1.out.size))
  clear hb2 HB1 HR1
  obtain ⟨r0, r1, r2, r3, r4, r5⟩ := six_box hr
  obtain ⟨rf0, rf1, rf2, rf3, rf4, rf5⟩ := Base.frz6 hr
  go_wp2_with fail
  obtain ⟨W9, hW9⟩ := stc6 W2 (w.heap.size + 2) (.int .i64 2) (.bool B) (.int .i64 0) (.string ⟨#[]⟩) (.slice none 0 0) (.slice none 0 0)
  rw [hW9]
  obtain ⟨q1, q2, q3, q4⟩ := set6 _ _ _ _ _ _ hr hW9
  first | refine out_ret (results_cell_row rfl _ W9 (w.heap.size + 2) 26 _ (0, 0) _ rfl q1 underlying26 rfl (by kernel_rfl)) rfl ?_ | refine bodyPost_ret (results_cell_row rfl _ W9 (w.heap.size + 2) 26 _ (0, 0) _ rfl q1 underlying26 rfl (by kernel_rfl)) rfl ?_
  rw [<- HU.out]
  exact ⟨rfl, q4 _ _ (by omega) HB2.out⟩
 ·rw [if_neg h1] at hA hU
  obtain ⟨rfl, hb1⟩ := hA
  subst hU
  exact ⟨rfl, rfl, HB.out.trans (hb1.mono HB.out.size)⟩
end Go.Proofs.YtiijfmdfccdagaaGreatDoor.VBi
