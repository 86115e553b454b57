import Derived.Deep.CutRange
import Derived.Test.YthjbknncbhkinaaGreatDoorPS14
open Go.Proofs.Tryz
set_option linter.unusedVariables false
set_option maxRecDepth 20000
set_option maxHeartbeats 6400000
namespace Go.Proofs.YthjbknncbhkinaaGreatDoor.VEx
open Go.RowKit
theorem ex_then {K : Act -> World -> Prop} {Q : Exit -> Act -> World -> Prop} {n : Nat} {a : Act} {w : World} (h : Q (.exit n) a w) : Exit.then K Q (.exit n) a w := h
theorem ex_skip {m n : Nat} {Q : Exit -> Act -> World -> Prop} {a : Act} {w : World} (hn : ¬ n = m) (h : Q (.exit n) a w) : Exit.inBlock m Q (.exit n) a w := by
 show (if n = m then Q .normal a w else Q (.exit n) a w)
 rw [if_neg hn]
 exact h
theorem ex_hit {n : Nat} {Q : Exit -> Act -> World -> Prop} {a : Act} {w : World} (h : Q .normal a w) : Exit.inBlock n Q (.exit n) a w := by
 show (if n = n then Q .normal a w else Q (.exit n) a w)
 rw [if_pos rfl]
 exact h
theorem ex_norm {K : Act -> World -> Prop} {Q : Exit -> Act -> World -> Prop} {a : Act} {w : World} (h : K a w) : Exit.then K Q .normal a w := h
theorem rt_then {K : Act -> World -> Prop} {Q : Exit -> Act -> World -> Prop} {a : Act} {w : World} (h : Q .ret a w) : Exit.then K Q .ret a w := h
theorem rt_blk {m : Nat} {Q : Exit -> Act -> World -> Prop} {a : Act} {w : World} (h : Q .ret a w) : Exit.inBlock m Q .ret a w := h
theorem pn_then {K : Act -> World -> Prop} {Q : Exit -> Act -> World -> Prop} {c : List PanicEntry} {a : Act} {w : World} (h : Q (.panic c) a w) : Exit.then K Q (.panic c) a w := h
theorem pn_blk {m : Nat} {Q : Exit -> Act -> World -> Prop} {c : List PanicEntry} {a : Act} {w : World} (h : Q (.panic c) a w) : Exit.inBlock m Q (.panic c) a w := h
def Out (B : Exit -> Act -> World -> Prop) : Exit -> Act -> World -> Prop
 | .ret, a, w => B .ret a w
 | .panic c, a, w => B (.panic c) a w
 | _, _, _ => False
theorem out_mono {B Q : Exit -> Act -> World -> Prop} (hr : ∀ a w, B .ret a w -> Q .ret a w) (hp : ∀ c a w, B (.panic c) a w -> Q (.panic c) a w) : ∀ e a w, Out B e a w -> Q e a w := by
 intro e a w h
 cases e with
 | ret => exact hr a w h
 | panic c => exact hp c a w h
 | _ => exact h.elim
theorem out_ret {P : Program} {fn : Func} {R : Ending -> World -> Prop} {a : Act} {w : World} {v : Value} (hr : (results fn a.tmps).run P w = .ok v w) (hd : a.defers = []) (hR : R (.returned v) w) : Out (bodyPost P fn R) .ret a w := bodyPost_ret hr hd hR
end Go.Proofs.YthjbknncbhkinaaGreatDoor.VEx
namespace Go.Proofs.YthjbknncbhkinaaGreatDoor.VNg
open Go.RowKit Base VPure VSm VIn VEx
theorem nm_blk {m : Nat} {Q : Exit -> Act -> World -> Prop} {a : Act} {w : World} (h : Q .normal a w) : Exit.inBlock m Q .normal a w := h
theorem pair_Neg (k1 : Int) (b1 : Bool) (i1 : Int) (s1 : ByteArray) (an1 : Option Addr) (ln1 cn1 : Nat) (al1 : Option Addr) (ll1 cl1 : Nat) (k2 : Int) (b2 : Bool) (i2 : Int) (s2 : ByteArray) (an2 : Option Addr) (ln2 cn2 : Nat) (al2 : Option Addr) (ll2 cl2 : Nat) (w : World) (x e0 : Int) (cW : k1 = 3 -> ∀ W : World, Calls prog 106 #[.int .i64 0, .int .i64 i1] W fun e w' => e = .returned (.tuple #[.int .i64 x, .int .i64 e0]) /\ w' = W) :
  Calls prog 90 #[.int .i64 10, vl k1 b1 i1 s1 (.slice an1 ln1 cn1) (.slice al1 ll1 cl1), vl k2 b2 i2 s2 (.slice an2 ln2 cn2) (.slice al2 ll2 cl2)] w fun e w' => An w w' e (fun c : Int => v0 3 false c ⟨#[]⟩) (twI 3 k1 x e0) := by
 obtain ⟨W0, hW0, hs0, hb0, hp, hq, hr⟩ := two3 w #[.int .i64 k1, .bool b1, .int .i64 i1, .string s1, (.slice an1 ln1 cn1), (.slice al1 ll1 cl1)] #[.int .i64 k2, .bool b2, .int .i64 i2, .string s2, (.slice an2 ln2 cn2), (.slice al2 ll2 cl2)]
 have HR : Hid (W0.heap[w.heap.size + 2]? = some (.cells #[.int .i64 0, .bool false, .int .i64 0, .string ⟨#[]⟩, .slice none 0 0, .slice none 0 0] 46 (0, 0))) := hr
 have HB : Hid (Below w.heap.size w W0) := hb0
 have HP : Hid (W0.heap[w.heap.size]? = some (.cells #[.int .i64 k1, .bool b1, .int .i64 i1, .string s1, (.slice an1 ln1 cn1), (.slice al1 ll1 cl1)] 46 (0, 0))) := hp
 have HQ : Hid (W0.heap[w.heap.size + 1]? = some (.cells #[.int .i64 k2, .bool b2, .int .i64 i2, .string s2, (.slice an2 ln2 cn2), (.slice al2 ll2 cl2)] 46 (0, 0))) := hq
 obtain ⟨p0, p1, p2, p3, p4, p5⟩ := six_box hp
 obtain ⟨q0, q1, q2, q3, q4, q5⟩ := six_box hq
 have hsD : W0.drew.heap.size = w.heap.size + 3 := by simp [hs0]
 have cN := number_c 0
 have cK := checked_c x e0
 obtain ⟨U, hU⟩ : ∃ U, twI 3 k1 x e0 = U := ⟨_, rfl⟩
 rw [hU]
 unfold twI at hU
 rw [if_pos rfl] at hU
 have HU : Hid _ := hU
 clear hp hq hb0 hr hU
 go_enter func90, ntmps90
 go_upto_if 15 with fail
 refine wp_cond_true (by rfl) ?_
 refine wp_exit ?_
 repeat (first | (with_reducible refine ex_then ?_) | (with_reducible refine ex_skip (by decide) ?_))
 refine ex_hit ?_
 refine ex_norm ?_
 apply_assumption
 try simp only [hW0]
 go_region_with (first | (go_at_call 85; refine (cN _).mono ?_; rintro e V ⟨rfl, hbv⟩; have hvs := hbv.size; have vp := (hbv.block w.heap.size (by first | (rw [hsD]; omega) | omega)).trans HP.out; have vq := (hbv.block (w.heap.size + 1) (by first | (rw [hsD]; omega) | omega)).trans HQ.out; have vr := (hbv.block (w.heap.size + 2) (by first | (rw [hsD]; omega) | omega)).trans HR.out; obtain ⟨vc0, vc1, vc2, vc3, vc4, vc5⟩ := six_box vp; have vcf0 := frozen_box vp 0; have vcf1 := frozen_box vp 1; have vcf2 := frozen_box vp 2; have vcf3 := frozen_box vp 3; have vcf4 := frozen_box vp 4; have vcf5 := frozen_box vp 5; obtain ⟨vd0, vd1, vd2, vd3, vd4, vd5⟩ := six_box vq; have vdf0 := frozen_box vq 0; have vdf1 := frozen_box vq 1; have vdf2 := frozen_box vq 2; have vdf3 := frozen_box vq 3; have vdf4 := frozen_box vq 4; have vdf5 := frozen_box vq 5; obtain ⟨V1, hV1⟩ : ∃ V1, ((((((V.setCell ⟨w.heap.size, 0, none⟩ (.int .i64 3)).setCell ⟨w.heap.size, 1, none⟩ (.bool false)).setCell ⟨w.heap.size, 2, none⟩ (.int .i64 0)).setCell ⟨w.heap.size, 3, none⟩ (.string ⟨#[]⟩)).setCell ⟨w.heap.size, 4, none⟩ (.slice none 0 0)).setCell ⟨w.heap.size, 5, none⟩ (.slice none 0 0)) = V1 := ⟨_, rfl⟩; obtain ⟨a1, a2, a3, a4⟩ := set6 _ _ _ _ _ _ vp hV1; have aq := (a2 (w.heap.size + 1) (by omega)).trans vq; obtain ⟨ve0, ve1, ve2, ve3, ve4, ve5⟩ := six_box aq; have vef0 := frozen_box aq 0; have vef1 := frozen_box aq 1; have vef2 := frozen_box aq 2; have vef3 := frozen_box aq 3; have vef4 := frozen_box aq 4; have vef5 := frozen_box aq 5; obtain ⟨V2, hV2⟩ : ∃ V2, ((((((V1.setCell ⟨w.heap.size + 1, 0, none⟩ (.int .i64 k1)).setCell ⟨w.heap.size + 1, 1, none⟩ (.bool b1)).setCell ⟨w.heap.size + 1, 2, none⟩ (.int .i64 i1)).setCell ⟨w.heap.size + 1, 3, none⟩ (.string s1)).setCell ⟨w.heap.size + 1, 4, none⟩ (.slice an1 ln1 cn1)).setCell ⟨w.heap.size + 1, 5, none⟩ (.slice al1 ll1 cl1)) = V2 := ⟨_, rfl⟩; obtain ⟨g1, g2, g3, g4⟩ := set6 _ _ _ _ _ _ aq hV2; obtain ⟨U1, hU1⟩ : ∃ U1, ((((((V.setCell ⟨w.heap.size + 1, 0, none⟩ (.int .i64 k1)).setCell ⟨w.heap.size + 1, 1, none⟩ (.bool b1)).setCell ⟨w.heap.size + 1, 2, none⟩ (.int .i64 i1)).setCell ⟨w.heap.size + 1, 3, none⟩ (.string s1)).setCell ⟨w.heap.size + 1, 4, none⟩ (.slice an1 ln1 cn1)).setCell ⟨w.heap.size + 1, 5, none⟩ (.slice al1 ll1 cl1)) = U1 := ⟨_, rfl⟩; obtain ⟨d1, d2, d3, d4⟩ := set6 _ _ _ _ _ _ vq hU1; have dp := (d2 w.heap.size (by omega)).trans vp; obtain ⟨vg0, vg1, vg2, vg3, vg4, vg5⟩ := six_box dp; have vgf0 := frozen_box dp 0; have vgf1 := frozen_box dp 1; have vgf2 := frozen_box dp 2; have vgf3 := frozen_box dp 3; have vgf4 := frozen_box dp 4; have vgf5 := frozen_box dp 5; obtain ⟨U2, hU2⟩ : ∃ U2, ((((((U1.setCell ⟨w.heap.size, 0, none⟩ (.int .i64 3)).setCell ⟨w.heap.size, 1, none⟩ (.bool false)).setCell ⟨w.heap.size, 2, none⟩ (.int .i64 0)).setCell ⟨w.heap.size, 3, none⟩ (.string ⟨#[]⟩)).setCell ⟨w.heap.size, 4, none⟩ (.slice none 0 0)).setCell ⟨w.heap.size, 5, none⟩ (.slice none 0 0)) = U2 := ⟨_, rfl⟩; obtain ⟨j1, j2, j3, j4⟩ := set6 _ _ _ _ _ _ dp hU2; have HV0 : Hid (Below w.heap.size w V) := bel_d HB.out hbv; have HV2 : Hid (Below w.heap.size w V2 /\ V2.heap.size ≥ w.heap.size + 3 /\ V2.heap[w.heap.size]? = some (.cells #[.int .i64 3, .bool false, .int .i64 0, .string ⟨#[]⟩, .slice none 0 0, .slice none 0 0] 46 (0, 0)) /\ V2.heap[w.heap.size + 1]? = some (.cells #[.int .i64 k1, .bool b1, .int .i64 i1, .string s1, (.slice an1 ln1 cn1), (.slice al1 ll1 cl1)] 46 (0, 0)) /\ V2.heap[w.heap.size + 2]? = some (.cells #[.int .i64 0, .bool false, .int .i64 0, .string ⟨#[]⟩, .slice none 0 0, .slice none 0 0] 46 (0, 0))) := ⟨g4 _ _ (by omega) (a4 _ _ (Nat.le_refl _) HV0.out), by rw [<- hV2, <- hV1]; simp; omega, (g2 _ (by omega)).trans a1, g1, (g2 _ (by omega)).trans ((a2 _ (by omega)).trans vr)⟩; have HU2 : Hid (Below w.heap.size w U2 /\ U2.heap.size ≥ w.heap.size + 3 /\ U2.heap[w.heap.size]? = some (.cells #[.int .i64 3, .bool false, .int .i64 0, .string ⟨#[]⟩, .slice none 0 0, .slice none 0 0] 46 (0, 0)) /\ U2.heap[w.heap.size + 1]? = some (.cells #[.int .i64 k1, .bool b1, .int .i64 i1, .string s1, (.slice an1 ln1 cn1), (.slice al1 ll1 cl1)] 46 (0, 0)) /\ U2.heap[w.heap.size + 2]? = some (.cells #[.int .i64 0, .bool false, .int .i64 0, .string ⟨#[]⟩, .slice none 0 0, .slice none 0 0] 46 (0, 0))) := ⟨j4 _ _ (Nat.le_refl _) (d4 _ _ (by omega) HV0.out), by rw [<- hU2, <- hU1]; simp; omega, j1, (j2 _ (by omega)).trans d1, (j2 _ (by omega)).trans ((d2 _ (by omega)).trans vr)⟩; clear a1 a2 a3 a4 g1 g2 g3 g4 d1 d2 d3 d4 j1 j2 j3 j4 aq dp vp vq vr hbv) | fail)
 all_goals clear vc0 vc1 vc2 vc3 vc4 vc5 vd0 vd1 vd2 vd3 vd4 vd5 ve0 ve1 ve2 ve3 ve4 ve5 vg0 vg1 vg2 vg3 vg4 vg5 vcf0 vcf1 vcf2 vcf3 vcf4 vcf5 vdf0 vdf1 vdf2 vdf3 vdf4 vdf5 vef0 vef1 vef2 vef3 vef4 vef5 vgf0 vgf1 vgf2 vgf3 vgf4 vgf5
 ·refine nm_blk ?_
  refine ex_norm ?_
  apply_assumption
  obtain ⟨hB, hgt, hp, hq, hr⟩ := HV2.out
  have cI := integers_c 3 false 0 ⟨#[]⟩ (.slice none 0 0) (.slice none 0 0) k1 b1 i1 s1 (.slice an1 ln1 cn1) (.slice al1 ll1 cl1) V2
  rw [if_pos rfl] at cI
  obtain ⟨p0, p1, p2, p3, p4, p5⟩ := six_box hp
  obtain ⟨q0, q1, q2, q3, q4, q5⟩ := six_box hq
  have HR : Hid (V2.heap[w.heap.size + 2]? = some (.cells #[.int .i64 0, .bool false, .int .i64 0, .string ⟨#[]⟩, .slice none 0 0, .slice none 0 0] 46 (0, 0))) := hr
  have HB : Hid (Below w.heap.size w V2) := hB
  clear hp hq hr hB
  have hU := HU.out
  clear HU HV2 HU2
  go_wp2_with fail
  refine cI.mono ?_
  intro e W1 hA
  clear cI
  by_cases h2 : k1 = 3
  ·rw [if_pos h2] at hA hU
   obtain ⟨rfl, hb1⟩ := hA
   have cw := cW h2 W1
   have HR1 : Hid (W1.heap[w.heap.size + 2]? = some (.cells #[.int .i64 0, .bool false, .int .i64 0, .string ⟨#[]⟩, .slice none 0 0, .slice none 0 0] 46 (0, 0))) := (hb1.block (w.heap.size + 2) (by omega)).trans HR.out
   have hs1 := hb1.size
   have HB1 : Hid (Below w.heap.size w W1) := HB.out.trans (hb1.mono HB.out.size)
   clear hb1 HR HB h2 cW p0 p1 p2 p3 p4 p5 q0 q1 q2 q3 q4 q5
   go_wp2_with fail
   refine cw.mono ?_
   rintro e W2 ⟨rfl, rfl⟩
   clear cw
   have cK := cK W2
   unfold chkI at hU
   rw [hU] at cK
   have hU2 := hU
   clear hU
   go_wp2_with fail
   refine cK.mono ?_
   intro e W3 hA
   clear cK
   cases U with
   | error c =>
    obtain ⟨rfl, hb3⟩ := hA
    exact ⟨rfl, rfl, HB1.out.trans (hb3.mono HB1.out.size)⟩
   | ok y =>
    obtain ⟨rfl, hb3⟩ := hA
    have hr := (hb3.block (w.heap.size + 2) (by omega)).trans HR1.out
    have HB3 : Hid (Below w.heap.size w W3) := HB1.out.trans (hb3.mono HB1.out.size)
    clear hb3 HB1 HR1 hU2
    obtain ⟨r0, r1, r2, r3, r4, r5⟩ := six_box hr
    have rf0 := frozen_box hr 0
    have rf1 := frozen_box hr 1
    have rf2 := frozen_box hr 2
    have rf3 := frozen_box hr 3
    have rf4 := frozen_box hr 4
    have rf5 := frozen_box hr 5
    go_wp2_with fail
    obtain ⟨W9, hW9⟩ : ∃ W9, ((((((W3.setCell ⟨w.heap.size + 2, 0, none⟩ (.int .i64 3)).setCell ⟨w.heap.size + 2, 1, none⟩ (.bool false)).setCell ⟨w.heap.size + 2, 2, none⟩ (.int .i64 y)).setCell ⟨w.heap.size + 2, 3, none⟩ (.string ⟨#[]⟩)).setCell ⟨w.heap.size + 2, 4, none⟩ (.slice none 0 0)).setCell ⟨w.heap.size + 2, 5, none⟩ (.slice none 0 0)) = W9 := ⟨_, rfl⟩
    rw [hW9]
    obtain ⟨q1, q2, q3, q4⟩ := set6 _ _ _ _ _ _ hr hW9
    refine bodyPost_ret (results_cell_row rfl _ W9 (w.heap.size + 2) 46 _ (0, 0) _ rfl q1 underlying46 rfl (by kernel_rfl)) rfl ?_
    exact ⟨rfl, q4 _ _ (by omega) HB3.out⟩
  ·rw [if_neg h2] at hA hU
   obtain ⟨rfl, hb1⟩ := hA
   subst hU
   exact ⟨rfl, rfl, HB.out.trans (hb1.mono HB.out.size)⟩
 ·refine nm_blk ?_
  refine ex_norm ?_
  apply_assumption
  obtain ⟨hB, hgt, hp, hq, hr⟩ := HV2.out
  have cI := integers_c 3 false 0 ⟨#[]⟩ (.slice none 0 0) (.slice none 0 0) k1 b1 i1 s1 (.slice an1 ln1 cn1) (.slice al1 ll1 cl1) V2
  rw [if_pos rfl] at cI
  obtain ⟨p0, p1, p2, p3, p4, p5⟩ := six_box hp
  obtain ⟨q0, q1, q2, q3, q4, q5⟩ := six_box hq
  have HR : Hid (V2.heap[w.heap.size + 2]? = some (.cells #[.int .i64 0, .bool false, .int .i64 0, .string ⟨#[]⟩, .slice none 0 0, .slice none 0 0] 46 (0, 0))) := hr
  have HB : Hid (Below w.heap.size w V2) := hB
  clear hp hq hr hB
  have hU := HU.out
  clear HU HV2 HU2
  go_wp2_with fail
  refine cI.mono ?_
  intro e W1 hA
  clear cI
  by_cases h2 : k1 = 3
  ·rw [if_pos h2] at hA hU
   obtain ⟨rfl, hb1⟩ := hA
   have cw := cW h2 W1
   have HR1 : Hid (W1.heap[w.heap.size + 2]? = some (.cells #[.int .i64 0, .bool false, .int .i64 0, .string ⟨#[]⟩, .slice none 0 0, .slice none 0 0] 46 (0, 0))) := (hb1.block (w.heap.size + 2) (by omega)).trans HR.out
   have hs1 := hb1.size
   have HB1 : Hid (Below w.heap.size w W1) := HB.out.trans (hb1.mono HB.out.size)
   clear hb1 HR HB h2 cW p0 p1 p2 p3 p4 p5 q0 q1 q2 q3 q4 q5
   go_wp2_with fail
   refine cw.mono ?_
   rintro e W2 ⟨rfl, rfl⟩
   clear cw
   have cK := cK W2
   unfold chkI at hU
   rw [hU] at cK
   have hU2 := hU
   clear hU
   go_wp2_with fail
   refine cK.mono ?_
   intro e W3 hA
   clear cK
   cases U with
   | error c =>
    obtain ⟨rfl, hb3⟩ := hA
    exact ⟨rfl, rfl, HB1.out.trans (hb3.mono HB1.out.size)⟩
   | ok y =>
    obtain ⟨rfl, hb3⟩ := hA
    have hr := (hb3.block (w.heap.size + 2) (by omega)).trans HR1.out
    have HB3 : Hid (Below w.heap.size w W3) := HB1.out.trans (hb3.mono HB1.out.size)
    clear hb3 HB1 HR1 hU2
    obtain ⟨r0, r1, r2, r3, r4, r5⟩ := six_box hr
    have rf0 := frozen_box hr 0
    have rf1 := frozen_box hr 1
    have rf2 := frozen_box hr 2
    have rf3 := frozen_box hr 3
    have rf4 := frozen_box hr 4
    have rf5 := frozen_box hr 5
    go_wp2_with fail
    obtain ⟨W9, hW9⟩ : ∃ W9, ((((((W3.setCell ⟨w.heap.size + 2, 0, none⟩ (.int .i64 3)).setCell ⟨w.heap.size + 2, 1, none⟩ (.bool false)).setCell ⟨w.heap.size + 2, 2, none⟩ (.int .i64 y)).setCell ⟨w.heap.size + 2, 3, none⟩ (.string ⟨#[]⟩)).setCell ⟨w.heap.size + 2, 4, none⟩ (.slice none 0 0)).setCell ⟨w.heap.size + 2, 5, none⟩ (.slice none 0 0)) = W9 := ⟨_, rfl⟩
    rw [hW9]
    obtain ⟨q1, q2, q3, q4⟩ := set6 _ _ _ _ _ _ hr hW9
    refine bodyPost_ret (results_cell_row rfl _ W9 (w.heap.size + 2) 46 _ (0, 0) _ rfl q1 underlying46 rfl (by kernel_rfl)) rfl ?_
    exact ⟨rfl, q4 _ _ (by omega) HB3.out⟩
  ·rw [if_neg h2] at hA hU
   obtain ⟨rfl, hb1⟩ := hA
   subst hU
   exact ⟨rfl, rfl, HB.out.trans (hb1.mono HB.out.size)⟩
end Go.Proofs.YthjbknncbhkinaaGreatDoor.VNg
namespace Go.Proofs.YthjbknncbhkinaaGreatDoor.VBi
open Go.RowKit Base VPure VSm VIn VEx
theorem bit_rng (o x y : Int) : -9223372036854775808 <= bit o x y /\ bit o x y <= 9223372036854775807 := by
 unfold bit
 repeat' split
 all_goals (unfold Go.bits; simp only []; rw [IntKind.wrap_i64]; omega)
theorem bits_20 (k1 : Int) (b1 : Bool) (i1 : Int) (s1 : ByteArray) (n1 l1 : Value) (k2 : Int) (b2 : Bool) (i2 : Int) (s2 : ByteArray) (n2 l2 : Value) (w : World) :
  Calls prog 114 #[.int .i64 20, vl k1 b1 i1 s1 n1 l1, vl k2 b2 i2 s2 n2 l2] w fun e w' => An w w' e (fun c : Int => v0 3 false c ⟨#[]⟩) (twX k1 k2 (bit 20 i1 i2)) := by
 obtain ⟨W0, hW0, hs0, hb0, hp, hq, hr⟩ := two3 w #[.int .i64 k1, .bool b1, .int .i64 i1, .string s1, n1, l1] #[.int .i64 k2, .bool b2, .int .i64 i2, .string s2, n2, l2]
 have HR : Hid (W0.heap[w.heap.size + 2]? = some (.cells #[.int .i64 0, .bool false, .int .i64 0, .string ⟨#[]⟩, .slice none 0 0, .slice none 0 0] 46 (0, 0))) := hr
 have HB : Hid (Below w.heap.size w W0) := hb0
 obtain ⟨p0, p1, p2, p3, p4, p5⟩ := six_box hp
 obtain ⟨q0, q1, q2, q3, q4, q5⟩ := six_box hq
 have cI := integers_c k1 b1 i1 s1 n1 l1 k2 b2 i2 s2 n2 l2 W0
 have eX : Go.bits .and .i64 i1 i2 = bit 20 i1 i2 := rfl
 obtain ⟨X, hX⟩ : ∃ X, bit 20 i1 i2 = X := ⟨_, rfl⟩
 rw [hX] at eX ⊢
 have cN := number_c X
 obtain ⟨U, hU⟩ : ∃ U, twX k1 k2 X = U := ⟨_, rfl⟩
 rw [hU]
 unfold twX at hU
 clear hp hq hb0 hr hX
 go_enter func114, ntmps114
 go_wp2_with fail
 try rw [hW0]
 refine cI.mono ?_
 intro e W1 hA
 clear cI
 by_cases h1 : k1 = 3
 ·rw [if_pos h1] at hA hU
  by_cases h2 : k2 = 3
  ·rw [if_pos h2] at hA hU
   obtain ⟨rfl, hb1⟩ := hA
   have HR1 : Hid (W1.heap[w.heap.size + 2]? = some (.cells #[.int .i64 0, .bool false, .int .i64 0, .string ⟨#[]⟩, .slice none 0 0, .slice none 0 0] 46 (0, 0))) := (hb1.block (w.heap.size + 2) (by omega)).trans HR.out
   have hs1 := hb1.size
   have HB1 : Hid (Below w.heap.size w W1) := HB.out.trans (hb1.mono HB.out.size)
   clear hb1 HR HB p0 p1 p2 p3 p4 p5 q0 q1 q2 q3 q4 q5 h1 h2
   have HU : Hid _ := hU
   clear hU
   go_wp2_with fail
   refine (cN _).mono ?_
   rintro e W2 ⟨rfl, hb2⟩
   clear cN eX
   have hr := (hb2.block (w.heap.size + 2) (by omega)).trans HR1.out
   have HB2 : Hid (Below w.heap.size w W2) := HB1.out.trans (hb2.mono HB1.out.size)
   clear hb2 HB1 HR1
   obtain ⟨r0, r1, r2, r3, r4, r5⟩ := six_box hr
   have rf0 := frozen_box hr 0
   have rf1 := frozen_box hr 1
   have rf2 := frozen_box hr 2
   have rf3 := frozen_box hr 3
   have rf4 := frozen_box hr 4
   have rf5 := frozen_box hr 5
   go_wp2_with fail
   obtain ⟨W9, hW9⟩ : ∃ W9, ((((((W2.setCell ⟨w.heap.size + 2, 0, none⟩ (.int .i64 3)).setCell ⟨w.heap.size + 2, 1, none⟩ (.bool false)).setCell ⟨w.heap.size + 2, 2, none⟩ (.int .i64 X)).setCell ⟨w.heap.size + 2, 3, none⟩ (.string ⟨#[]⟩)).setCell ⟨w.heap.size + 2, 4, none⟩ (.slice none 0 0)).setCell ⟨w.heap.size + 2, 5, none⟩ (.slice none 0 0)) = W9 := ⟨_, rfl⟩
   rw [hW9]
   obtain ⟨q1, q2, q3, q4⟩ := set6 _ _ _ _ _ _ hr hW9
   first | refine out_ret (results_cell_row rfl _ W9 (w.heap.size + 2) 46 _ (0, 0) _ rfl q1 underlying46 rfl (by kernel_rfl)) rfl ?_ | refine bodyPost_ret (results_cell_row rfl _ W9 (w.heap.size + 2) 46 _ (0, 0) _ rfl q1 underlying46 rfl (by kernel_rfl)) rfl ?_
   rw [<- HU.out]
   exact ⟨rfl, q4 _ _ (by omega) HB2.out⟩
  ·rw [if_neg h2] at hA hU
   obtain ⟨rfl, hb1⟩ := hA
   subst hU
   exact ⟨rfl, rfl, HB.out.trans (hb1.mono HB.out.size)⟩
 ·rw [if_neg h1] at hA hU
  obtain ⟨rfl, hb1⟩ := hA
  subst hU
  exact ⟨rfl, rfl, HB.out.trans (hb1.mono HB.out.size)⟩
theorem bits_21 (k1 : Int) (b1 : Bool) (i1 : Int) (s1 : ByteArray) (n1 l1 : Value) (k2 : Int) (b2 : Bool) (i2 : Int) (s2 : ByteArray) (n2 l2 : Value) (w : World) :
  Calls prog 114 #[.int .i64 21, vl k1 b1 i1 s1 n1 l1, vl k2 b2 i2 s2 n2 l2] w fun e w' => An w w' e (fun c : Int => v0 3 false c ⟨#[]⟩) (twX k1 k2 (bit 21 i1 i2)) := by
 obtain ⟨W0, hW0, hs0, hb0, hp, hq, hr⟩ := two3 w #[.int .i64 k1, .bool b1, .int .i64 i1, .string s1, n1, l1] #[.int .i64 k2, .bool b2, .int .i64 i2, .string s2, n2, l2]
 have HR : Hid (W0.heap[w.heap.size + 2]? = some (.cells #[.int .i64 0, .bool false, .int .i64 0, .string ⟨#[]⟩, .slice none 0 0, .slice none 0 0] 46 (0, 0))) := hr
 have HB : Hid (Below w.heap.size w W0) := hb0
 obtain ⟨p0, p1, p2, p3, p4, p5⟩ := six_box hp
 obtain ⟨q0, q1, q2, q3, q4, q5⟩ := six_box hq
 have cI := integers_c k1 b1 i1 s1 n1 l1 k2 b2 i2 s2 n2 l2 W0
 have eX : Go.bits .xor .i64 i1 i2 = bit 21 i1 i2 := rfl
 obtain ⟨X, hX⟩ : ∃ X, bit 21 i1 i2 = X := ⟨_, rfl⟩
 rw [hX] at eX ⊢
 have cN := number_c X
 obtain ⟨U, hU⟩ : ∃ U, twX k1 k2 X = U := ⟨_, rfl⟩
 rw [hU]
 unfold twX at hU
 clear hp hq hb0 hr hX
 go_enter func114, ntmps114
 go_wp2_with fail
 try rw [hW0]
 refine cI.mono ?_
 intro e W1 hA
 clear cI
 by_cases h1 : k1 = 3
 ·rw [if_pos h1] at hA hU
  by_cases h2 : k2 = 3
  ·rw [if_pos h2] at hA hU
   obtain ⟨rfl, hb1⟩ := hA
   have HR1 : Hid (W1.heap[w.heap.size + 2]? = some (.cells #[.int .i64 0, .bool false, .int .i64 0, .string ⟨#[]⟩, .slice none 0 0, .slice none 0 0] 46 (0, 0))) := (hb1.block (w.heap.size + 2) (by omega)).trans HR.out
   have hs1 := hb1.size
   have HB1 : Hid (Below w.heap.size w W1) := HB.out.trans (hb1.mono HB.out.size)
   clear hb1 HR HB p0 p1 p2 p3 p4 p5 q0 q1 q2 q3 q4 q5 h1 h2
   have HU : Hid _ := hU
   clear hU
   go_wp2_with fail
   refine (cN _).mono ?_
   rintro e W2 ⟨rfl, hb2⟩
   clear cN eX
   have hr := (hb2.block (w.heap.size + 2) (by omega)).trans HR1.out
   have HB2 : Hid (Below w.heap.size w W2) := HB1.out.trans (hb2.mono HB1.out.size)
   clear hb2 HB1 HR1
   obtain ⟨r0, r1, r2, r3, r4, r5⟩ := six_box hr
   have rf0 := frozen_box hr 0
   have rf1 := frozen_box hr 1
   have rf2 := frozen_box hr 2
   have rf3 := frozen_box hr 3
   have rf4 := frozen_box hr 4
   have rf5 := frozen_box hr 5
   go_wp2_with fail
   obtain ⟨W9, hW9⟩ : ∃ W9, ((((((W2.setCell ⟨w.heap.size + 2, 0, none⟩ (.int .i64 3)).setCell ⟨w.heap.size + 2, 1, none⟩ (.bool false)).setCell ⟨w.heap.size + 2, 2, none⟩ (.int .i64 X)).setCell ⟨w.heap.size + 2, 3, none⟩ (.string ⟨#[]⟩)).setCell ⟨w.heap.size + 2, 4, none⟩ (.slice none 0 0)).setCell ⟨w.heap.size + 2, 5, none⟩ (.slice none 0 0)) = W9 := ⟨_, rfl⟩
   rw [hW9]
   obtain ⟨q1, q2, q3, q4⟩ := set6 _ _ _ _ _ _ hr hW9
   first | refine out_ret (results_cell_row rfl _ W9 (w.heap.size + 2) 46 _ (0, 0) _ rfl q1 underlying46 rfl (by kernel_rfl)) rfl ?_ | refine bodyPost_ret (results_cell_row rfl _ W9 (w.heap.size + 2) 46 _ (0, 0) _ rfl q1 underlying46 rfl (by kernel_rfl)) rfl ?_
   rw [<- HU.out]
   exact ⟨rfl, q4 _ _ (by omega) HB2.out⟩
  ·rw [if_neg h2] at hA hU
   obtain ⟨rfl, hb1⟩ := hA
   subst hU
   exact ⟨rfl, rfl, HB.out.trans (hb1.mono HB.out.size)⟩
 ·rw [if_neg h1] at hA hU
  obtain ⟨rfl, hb1⟩ := hA
  subst hU
  exact ⟨rfl, rfl, HB.out.trans (hb1.mono HB.out.size)⟩
theorem bits_22 (k1 : Int) (b1 : Bool) (i1 : Int) (s1 : ByteArray) (n1 l1 : Value) (k2 : Int) (b2 : Bool) (i2 : Int) (s2 : ByteArray) (n2 l2 : Value) (w : World) :
  Calls prog 114 #[.int .i64 22, vl k1 b1 i1 s1 n1 l1, vl k2 b2 i2 s2 n2 l2] w fun e w' => An w w' e (fun c : Int => v0 3 false c ⟨#[]⟩) (twX k1 k2 (bit 22 i1 i2)) := by
 obtain ⟨W0, hW0, hs0, hb0, hp, hq, hr⟩ := two3 w #[.int .i64 k1, .bool b1, .int .i64 i1, .string s1, n1, l1] #[.int .i64 k2, .bool b2, .int .i64 i2, .string s2, n2, l2]
 have HR : Hid (W0.heap[w.heap.size + 2]? = some (.cells #[.int .i64 0, .bool false, .int .i64 0, .string ⟨#[]⟩, .slice none 0 0, .slice none 0 0] 46 (0, 0))) := hr
 have HB : Hid (Below w.heap.size w W0) := hb0
 obtain ⟨p0, p1, p2, p3, p4, p5⟩ := six_box hp
 obtain ⟨q0, q1, q2, q3, q4, q5⟩ := six_box hq
 have cI := integers_c k1 b1 i1 s1 n1 l1 k2 b2 i2 s2 n2 l2 W0
 have eX : Go.bits .or .i64 i1 i2 = bit 22 i1 i2 := rfl
 obtain ⟨X, hX⟩ : ∃ X, bit 22 i1 i2 = X := ⟨_, rfl⟩
 rw [hX] at eX ⊢
 have cN := number_c X
 obtain ⟨U, hU⟩ : ∃ U, twX k1 k2 X = U := ⟨_, rfl⟩
 rw [hU]
 unfold twX at hU
 clear hp hq hb0 hr hX
 go_enter func114, ntmps114
 go_wp2_with fail
 try rw [hW0]
 refine cI.mono ?_
 intro e W1 hA
 clear cI
 by_cases h1 : k1 = 3
 ·rw [if_pos h1] at hA hU
  by_cases h2 : k2 = 3
  ·rw [if_pos h2] at hA hU
   obtain ⟨rfl, hb1⟩ := hA
   have HR1 : Hid (W1.heap[w.heap.size + 2]? = some (.cells #[.int .i64 0, .bool false, .int .i64 0, .string ⟨#[]⟩, .slice none 0 0, .slice none 0 0] 46 (0, 0))) := (hb1.block (w.heap.size + 2) (by omega)).trans HR.out
   have hs1 := hb1.size
   have HB1 : Hid (Below w.heap.size w W1) := HB.out.trans (hb1.mono HB.out.size)
   clear hb1 HR HB p0 p1 p2 p3 p4 p5 q0 q1 q2 q3 q4 q5 h1 h2
   have HU : Hid _ := hU
   clear hU
   go_wp2_with fail
   refine (cN _).mono ?_
   rintro e W2 ⟨rfl, hb2⟩
   clear cN eX
   have hr := (hb2.block (w.heap.size + 2) (by omega)).trans HR1.out
   have HB2 : Hid (Below w.heap.size w W2) := HB1.out.trans (hb2.mono HB1.out.size)
   clear hb2 HB1 HR1
   obtain ⟨r0, r1, r2, r3, r4, r5⟩ := six_box hr
   have rf0 := frozen_box hr 0
   have rf1 := frozen_box hr 1
   have rf2 := frozen_box hr 2
   have rf3 := frozen_box hr 3
   have rf4 := frozen_box hr 4
   have rf5 := frozen_box hr 5
   go_wp2_with fail
   obtain ⟨W9, hW9⟩ : ∃ W9, ((((((W2.setCell ⟨w.heap.size + 2, 0, none⟩ (.int .i64 3)).setCell ⟨w.heap.size + 2, 1, none⟩ (.bool false)).setCell ⟨w.heap.size + 2, 2, none⟩ (.int .i64 X)).setCell ⟨w.heap.size + 2, 3, none⟩ (.string ⟨#[]⟩)).setCell ⟨w.heap.size + 2, 4, none⟩ (.slice none 0 0)).setCell ⟨w.heap.size + 2, 5, none⟩ (.slice none 0 0)) = W9 := ⟨_, rfl⟩
   rw [hW9]
   obtain ⟨q1, q2, q3, q4⟩ := set6 _ _ _ _ _ _ hr hW9
   first | refine out_ret (results_cell_row rfl _ W9 (w.heap.size + 2) 46 _ (0, 0) _ rfl q1 underlying46 rfl (by kernel_rfl)) rfl ?_ | refine bodyPost_ret (results_cell_row rfl _ W9 (w.heap.size + 2) 46 _ (0, 0) _ rfl q1 underlying46 rfl (by kernel_rfl)) rfl ?_
   rw [<- HU.out]
   exact ⟨rfl, q4 _ _ (by omega) HB2.out⟩
  ·rw [if_neg h2] at hA hU
   obtain ⟨rfl, hb1⟩ := hA
   subst hU
   exact ⟨rfl, rfl, HB.out.trans (hb1.mono HB.out.size)⟩
 ·rw [if_neg h1] at hA hU
  obtain ⟨rfl, hb1⟩ := hA
  subst hU
  exact ⟨rfl, rfl, HB.out.trans (hb1.mono HB.out.size)⟩
theorem pair_20 (k1 : Int) (b1 : Bool) (i1 : Int) (s1 : ByteArray) (n1 l1 : Value) (k2 : Int) (b2 : Bool) (i2 : Int) (s2 : ByteArray) (n2 l2 : Value) (w : World) :
  Calls prog 90 #[.int .i64 20, vl k1 b1 i1 s1 n1 l1, vl k2 b2 i2 s2 n2 l2] w fun e w' => An w w' e (fun c : Int => v0 3 false c ⟨#[]⟩) (twX k1 k2 (bit 20 i1 i2)) := by
 obtain ⟨W0, hW0, hs0, hb0, hp, hq, hr⟩ := two3 w #[.int .i64 k1, .bool b1, .int .i64 i1, .string s1, n1, l1] #[.int .i64 k2, .bool b2, .int .i64 i2, .string s2, n2, l2]
 have HR : Hid (W0.heap[w.heap.size + 2]? = some (.cells #[.int .i64 0, .bool false, .int .i64 0, .string ⟨#[]⟩, .slice none 0 0, .slice none 0 0] 46 (0, 0))) := hr
 have HB : Hid (Below w.heap.size w W0) := hb0
 obtain ⟨p0, p1, p2, p3, p4, p5⟩ := six_box hp
 obtain ⟨q0, q1, q2, q3, q4, q5⟩ := six_box hq
 have cI := bits_20 k1 b1 i1 s1 n1 l1 k2 b2 i2 s2 n2 l2 W0
 obtain ⟨U, hU⟩ : ∃ U, twX k1 k2 (bit 20 i1 i2) = U := ⟨_, rfl⟩
 rw [hU] at cI ⊢
 clear hp hq hb0 hr hU
 go_enter func90, ntmps90
 go_upto_if 31 with fail
 refine wp_cond_true (by rfl) ?_
 refine wp_skip ?_
 refine ex_norm ?_
 apply_assumption
 go_upto_if 31 with fail
 refine wp_cond_true (by rfl) ?_
 refine wp_exit ?_
 repeat (first | (with_reducible refine ex_then ?_) | (with_reducible refine ex_skip (by decide) ?_))
 refine ex_hit ?_
 refine ex_norm ?_
 apply_assumption
 refine wp_mono (Q := Out ?outB) ?outM (out_mono ?outR ?outP)
 case outR => intro a w h; (repeat (first | (with_reducible refine rt_then ?_) | (with_reducible refine rt_blk ?_))); exact h
 case outP => intro c a w h; (repeat (first | (with_reducible refine pn_then ?_) | (with_reducible refine pn_blk ?_))); exact h
 try simp only [hW0]
 go_wp2_with fail
 try rw [hW0]
 refine cI.mono ?_
 intro e W2 hA
 clear cI
 cases U with
 | error c =>
  obtain ⟨rfl, hb1⟩ := hA
  exact ⟨rfl, rfl, HB.out.trans (hb1.mono HB.out.size)⟩
 | ok y =>
  obtain ⟨rfl, hb2⟩ := hA
  have HR1 := HR
  have HB1 := HB
  clear HR HB
  have hr := (hb2.block (w.heap.size + 2) (by omega)).trans HR1.out
  have HB2 : Hid (Below w.heap.size w W2) := HB1.out.trans (hb2.mono HB1.out.size)
  clear hb2 HB1 HR1
  obtain ⟨r0, r1, r2, r3, r4, r5⟩ := six_box hr
  have rf0 := frozen_box hr 0
  have rf1 := frozen_box hr 1
  have rf2 := frozen_box hr 2
  have rf3 := frozen_box hr 3
  have rf4 := frozen_box hr 4
  have rf5 := frozen_box hr 5
  go_wp2_with fail
  obtain ⟨W9, hW9⟩ : ∃ W9, ((((((W2.setCell ⟨w.heap.size + 2, 0, none⟩ (.int .i64 3)).setCell ⟨w.heap.size + 2, 1, none⟩ (.bool false)).setCell ⟨w.heap.size + 2, 2, none⟩ (.int .i64 y)).setCell ⟨w.heap.size + 2, 3, none⟩ (.string ⟨#[]⟩)).setCell ⟨w.heap.size + 2, 4, none⟩ (.slice none 0 0)).setCell ⟨w.heap.size + 2, 5, none⟩ (.slice none 0 0)) = W9 := ⟨_, rfl⟩
  rw [hW9]
  obtain ⟨q1, q2, q3, q4⟩ := set6 _ _ _ _ _ _ hr hW9
  first | refine out_ret (results_cell_row rfl _ W9 (w.heap.size + 2) 46 _ (0, 0) _ rfl q1 underlying46 rfl (by kernel_rfl)) rfl ?_ | refine bodyPost_ret (results_cell_row rfl _ W9 (w.heap.size + 2) 46 _ (0, 0) _ rfl q1 underlying46 rfl (by kernel_rfl)) rfl ?_
  exact ⟨rfl, q4 _ _ (by omega) HB2.out⟩
theorem pair_21 (k1 : Int) (b1 : Bool) (i1 : Int) (s1 : ByteArray) (n1 l1 : Value) (k2 : Int) (b2 : Bool) (i2 : Int) (s2 : ByteArray) (n2 l2 : Value) (w : World) :
  Calls prog 90 #[.int .i64 21, vl k1 b1 i1 s1 n1 l1, vl k2 b2 i2 s2 n2 l2] w fun e w' => An w w' e (fun c : Int => v0 3 false c ⟨#[]⟩) (twX k1 k2 (bit 21 i1 i2)) := by
 obtain ⟨W0, hW0, hs0, hb0, hp, hq, hr⟩ := two3 w #[.int .i64 k1, .bool b1, .int .i64 i1, .string s1, n1, l1] #[.int .i64 k2, .bool b2, .int .i64 i2, .string s2, n2, l2]
 have HR : Hid (W0.heap[w.heap.size + 2]? = some (.cells #[.int .i64 0, .bool false, .int .i64 0, .string ⟨#[]⟩, .slice none 0 0, .slice none 0 0] 46 (0, 0))) := hr
 have HB : Hid (Below w.heap.size w W0) := hb0
 obtain ⟨p0, p1, p2, p3, p4, p5⟩ := six_box hp
 obtain ⟨q0, q1, q2, q3, q4, q5⟩ := six_box hq
 have cI := bits_21 k1 b1 i1 s1 n1 l1 k2 b2 i2 s2 n2 l2 W0
 obtain ⟨U, hU⟩ : ∃ U, twX k1 k2 (bit 21 i1 i2) = U := ⟨_, rfl⟩
 rw [hU] at cI ⊢
 clear hp hq hb0 hr hU
 go_enter func90, ntmps90
 go_upto_if 31 with fail
 refine wp_cond_false (by rfl) ?_
 go_upto_if 31 with fail
 refine wp_cond_true (by rfl) ?_
 refine wp_skip ?_
 refine ex_norm ?_
 apply_assumption
 go_upto_if 31 with fail
 refine wp_cond_true (by rfl) ?_
 refine wp_exit ?_
 repeat (first | (with_reducible refine ex_then ?_) | (with_reducible refine ex_skip (by decide) ?_))
 refine ex_hit ?_
 refine ex_norm ?_
 apply_assumption
 refine wp_mono (Q := Out ?outB) ?outM (out_mono ?outR ?outP)
 case outR => intro a w h; (repeat (first | (with_reducible refine rt_then ?_) | (with_reducible refine rt_blk ?_))); exact h
 case outP => intro c a w h; (repeat (first | (with_reducible refine pn_then ?_) | (with_reducible refine pn_blk ?_))); exact h
 try simp only [hW0]
 go_wp2_with fail
 try rw [hW0]
 refine cI.mono ?_
 intro e W2 hA
 clear cI
 cases U with
 | error c =>
  obtain ⟨rfl, hb1⟩ := hA
  exact ⟨rfl, rfl, HB.out.trans (hb1.mono HB.out.size)⟩
 | ok y =>
  obtain ⟨rfl, hb2⟩ := hA
  have HR1 := HR
  have HB1 := HB
  clear HR HB
  have hr := (hb2.block (w.heap.size + 2) (by omega)).trans HR1.out
  have HB2 : Hid (Below w.heap.size w W2) := HB1.out.trans (hb2.mono HB1.out.size)
  clear hb2 HB1 HR1
  obtain ⟨r0, r1, r2, r3, r4, r5⟩ := six_box hr
  have rf0 := frozen_box hr 0
  have rf1 := frozen_box hr 1
  have rf2 := frozen_box hr 2
  have rf3 := frozen_box hr 3
  have rf4 := frozen_box hr 4
  have rf5 := frozen_box hr 5
  go_wp2_with fail
  obtain ⟨W9, hW9⟩ : ∃ W9, ((((((W2.setCell ⟨w.heap.size + 2, 0, none⟩ (.int .i64 3)).setCell ⟨w.heap.size + 2, 1, none⟩ (.bool false)).setCell ⟨w.heap.size + 2, 2, none⟩ (.int .i64 y)).setCell ⟨w.heap.size + 2, 3, none⟩ (.string ⟨#[]⟩)).setCell ⟨w.heap.size + 2, 4, none⟩ (.slice none 0 0)).setCell ⟨w.heap.size + 2, 5, none⟩ (.slice none 0 0)) = W9 := ⟨_, rfl⟩
  rw [hW9]
  obtain ⟨q1, q2, q3, q4⟩ := set6 _ _ _ _ _ _ hr hW9
  first | refine out_ret (results_cell_row rfl _ W9 (w.heap.size + 2) 46 _ (0, 0) _ rfl q1 underlying46 rfl (by kernel_rfl)) rfl ?_ | refine bodyPost_ret (results_cell_row rfl _ W9 (w.heap.size + 2) 46 _ (0, 0) _ rfl q1 underlying46 rfl (by kernel_rfl)) rfl ?_
  exact ⟨rfl, q4 _ _ (by omega) HB2.out⟩
theorem pair_22 (k1 : Int) (b1 : Bool) (i1 : Int) (s1 : ByteArray) (n1 l1 : Value) (k2 : Int) (b2 : Bool) (i2 : Int) (s2 : ByteArray) (n2 l2 : Value) (w : World) :
  Calls prog 90 #[.int .i64 22, vl k1 b1 i1 s1 n1 l1, vl k2 b2 i2 s2 n2 l2] w fun e w' => An w w' e (fun c : Int => v0 3 false c ⟨#[]⟩) (twX k1 k2 (bit 22 i1 i2)) := by
 obtain ⟨W0, hW0, hs0, hb0, hp, hq, hr⟩ := two3 w #[.int .i64 k1, .bool b1, .int .i64 i1, .string s1, n1, l1] #[.int .i64 k2, .bool b2, .int .i64 i2, .string s2, n2, l2]
 have HR : Hid (W0.heap[w.heap.size + 2]? = some (.cells #[.int .i64 0, .bool false, .int .i64 0, .string ⟨#[]⟩, .slice none 0 0, .slice none 0 0] 46 (0, 0))) := hr
 have HB : Hid (Below w.heap.size w W0) := hb0
 obtain ⟨p0, p1, p2, p3, p4, p5⟩ := six_box hp
 obtain ⟨q0, q1, q2, q3, q4, q5⟩ := six_box hq
 have cI := bits_22 k1 b1 i1 s1 n1 l1 k2 b2 i2 s2 n2 l2 W0
 obtain ⟨U, hU⟩ : ∃ U, twX k1 k2 (bit 22 i1 i2) = U := ⟨_, rfl⟩
 rw [hU] at cI ⊢
 clear hp hq hb0 hr hU
 go_enter func90, ntmps90
 go_upto_if 31 with fail
 refine wp_cond_false (by rfl) ?_
 go_upto_if 31 with fail
 refine wp_cond_false (by rfl) ?_
 go_upto_if 31 with fail
 refine wp_cond_true (by rfl) ?_
 refine wp_exit ?_
 repeat (first | (with_reducible refine ex_then ?_) | (with_reducible refine ex_skip (by decide) ?_))
 refine ex_hit ?_
 refine ex_norm ?_
 apply_assumption
 refine wp_mono (Q := Out ?outB) ?outM (out_mono ?outR ?outP)
 case outR => intro a w h; (repeat (first | (with_reducible refine rt_then ?_) | (with_reducible refine rt_blk ?_))); exact h
 case outP => intro c a w h; (repeat (first | (with_reducible refine pn_then ?_) | (with_reducible refine pn_blk ?_))); exact h
 try simp only [hW0]
 go_wp2_with fail
 try rw [hW0]
 refine cI.mono ?_
 intro e W2 hA
 clear cI
 cases U with
 | error c =>
  obtain ⟨rfl, hb1⟩ := hA
  exact ⟨rfl, rfl, HB.out.trans (hb1.mono HB.out.size)⟩
 | ok y =>
  obtain ⟨rfl, hb2⟩ := hA
  have HR1 := HR
  have HB1 := HB
  clear HR HB
  have hr := (hb2.block (w.heap.size + 2) (by omega)).trans HR1.out
  have HB2 : Hid (Below w.heap.size w W2) := HB1.out.trans (hb2.mono HB1.out.size)
  clear hb2 HB1 HR1
  obtain ⟨r0, r1, r2, r3, r4, r5⟩ := six_box hr
  have rf0 := frozen_box hr 0
  have rf1 := frozen_box hr 1
  have rf2 := frozen_box hr 2
  have rf3 := frozen_box hr 3
  have rf4 := frozen_box hr 4
  have rf5 := frozen_box hr 5
  go_wp2_with fail
  obtain ⟨W9, hW9⟩ : ∃ W9, ((((((W2.setCell ⟨w.heap.size + 2, 0, none⟩ (.int .i64 3)).setCell ⟨w.heap.size + 2, 1, none⟩ (.bool false)).setCell ⟨w.heap.size + 2, 2, none⟩ (.int .i64 y)).setCell ⟨w.heap.size + 2, 3, none⟩ (.string ⟨#[]⟩)).setCell ⟨w.heap.size + 2, 4, none⟩ (.slice none 0 0)).setCell ⟨w.heap.size + 2, 5, none⟩ (.slice none 0 0)) = W9 := ⟨_, rfl⟩
  rw [hW9]
  obtain ⟨q1, q2, q3, q4⟩ := set6 _ _ _ _ _ _ hr hW9
  first | refine out_ret (results_cell_row rfl _ W9 (w.heap.size + 2) 46 _ (0, 0) _ rfl q1 underlying46 rfl (by kernel_rfl)) rfl ?_ | refine bodyPost_ret (results_cell_row rfl _ W9 (w.heap.size + 2) 46 _ (0, 0) _ rfl q1 underlying46 rfl (by kernel_rfl)) rfl ?_
  exact ⟨rfl, q4 _ _ (by omega) HB2.out⟩
theorem pair_11 (k1 : Int) (b1 : Bool) (i1 : Int) (s1 : ByteArray) (n1 l1 : Value) (k2 : Int) (b2 : Bool) (i2 : Int) (s2 : ByteArray) (n2 l2 : Value) (w : World) :
  Calls prog 90 #[.int .i64 11, vl k1 b1 i1 s1 n1 l1, vl k2 b2 i2 s2 n2 l2] w fun e w' => An w w' e (fun c : Bool => v0 2 c 0 ⟨#[]⟩) (if k1 = 2 then .ok (!b1) else .error 1101) := by
 obtain ⟨W0, hW0, hs0, hb0, hp, hq, hr⟩ := two3 w #[.int .i64 k1, .bool b1, .int .i64 i1, .string s1, n1, l1] #[.int .i64 k2, .bool b2, .int .i64 i2, .string s2, n2, l2]
 have HR : Hid (W0.heap[w.heap.size + 2]? = some (.cells #[.int .i64 0, .bool false, .int .i64 0, .string ⟨#[]⟩, .slice none 0 0, .slice none 0 0] 46 (0, 0))) := hr
 have HB : Hid (Below w.heap.size w W0) := hb0
 obtain ⟨p0, p1, p2, p3, p4, p5⟩ := six_box hp
 obtain ⟨q0, q1, q2, q3, q4, q5⟩ := six_box hq
 have cI := isTrue_c k1 b1 i1 s1 n1 l1 W0
 have cT := truth_c (!b1)
 obtain ⟨B, hB⟩ : ∃ B, (!b1) = B := ⟨_, rfl⟩
 rw [hB] at cT ⊢
 obtain ⟨U, hU⟩ : ∃ U, (if k1 = 2 then (.ok B : Except Nat Bool) else .error 1101) = U := ⟨_, rfl⟩
 rw [hU]
 clear hp hq hb0 hr
 go_enter func90, ntmps90
 go_upto_if 13 with fail
 refine wp_cond_true (by rfl) ?_
 refine wp_exit ?_
 repeat (first | (with_reducible refine ex_then ?_) | (with_reducible refine ex_skip (by decide) ?_))
 refine ex_hit ?_
 refine ex_norm ?_
 apply_assumption
 refine wp_mono (Q := Out ?outB) ?outM (out_mono ?outR ?outP)
 case outR => intro a w h; (repeat (first | (with_reducible refine rt_then ?_) | (with_reducible refine rt_blk ?_))); exact h
 case outP => intro c a w h; (repeat (first | (with_reducible refine pn_then ?_) | (with_reducible refine pn_blk ?_))); exact h
 try simp only [hW0]
 go_wp2_with fail
 try rw [hW0]
 refine cI.mono ?_
 intro e W1 hA
 clear cI
 by_cases h1 : k1 = 2
 ·rw [if_pos h1] at hA hU
  obtain ⟨rfl, hb1⟩ := hA
  have HR1 : Hid (W1.heap[w.heap.size + 2]? = some (.cells #[.int .i64 0, .bool false, .int .i64 0, .string ⟨#[]⟩, .slice none 0 0, .slice none 0 0] 46 (0, 0))) := (hb1.block (w.heap.size + 2) (by omega)).trans HR.out
  have hs1 := hb1.size
  have HB1 : Hid (Below w.heap.size w W1) := HB.out.trans (hb1.mono HB.out.size)
  clear hb1 HR HB p0 p1 p2 p3 p4 p5 q0 q1 q2 q3 q4 q5 h1
  have HU : Hid _ := hU
  clear hU
  go_wp2_with fail
  refine (cT _).mono ?_
  rintro e W2 ⟨rfl, hb2⟩
  clear cT
  have hr := (hb2.block (w.heap.size + 2) (by omega)).trans HR1.out
  have HB2 : Hid (Below w.heap.size w W2) := HB1.out.trans (hb2.mono HB1.out.size)
  clear hb2 HB1 HR1
  obtain ⟨r0, r1, r2, r3, r4, r5⟩ := six_box hr
  have rf0 := frozen_box hr 0
  have rf1 := frozen_box hr 1
  have rf2 := frozen_box hr 2
  have rf3 := frozen_box hr 3
  have rf4 := frozen_box hr 4
  have rf5 := frozen_box hr 5
  go_wp2_with fail
  obtain ⟨W9, hW9⟩ : ∃ W9, ((((((W2.setCell ⟨w.heap.size + 2, 0, none⟩ (.int .i64 2)).setCell ⟨w.heap.size + 2, 1, none⟩ (.bool B)).setCell ⟨w.heap.size + 2, 2, none⟩ (.int .i64 0)).setCell ⟨w.heap.size + 2, 3, none⟩ (.string ⟨#[]⟩)).setCell ⟨w.heap.size + 2, 4, none⟩ (.slice none 0 0)).setCell ⟨w.heap.size + 2, 5, none⟩ (.slice none 0 0)) = W9 := ⟨_, rfl⟩
  rw [hW9]
  obtain ⟨q1, q2, q3, q4⟩ := set6 _ _ _ _ _ _ hr hW9
  first | refine out_ret (results_cell_row rfl _ W9 (w.heap.size + 2) 46 _ (0, 0) _ rfl q1 underlying46 rfl (by kernel_rfl)) rfl ?_ | refine bodyPost_ret (results_cell_row rfl _ W9 (w.heap.size + 2) 46 _ (0, 0) _ rfl q1 underlying46 rfl (by kernel_rfl)) rfl ?_
  rw [<- HU.out]
  exact ⟨rfl, q4 _ _ (by omega) HB2.out⟩
 ·rw [if_neg h1] at hA hU
  obtain ⟨rfl, hb1⟩ := hA
  subst hU
  exact ⟨rfl, rfl, HB.out.trans (hb1.mono HB.out.size)⟩
end Go.Proofs.YthjbknncbhkinaaGreatDoor.VBi
