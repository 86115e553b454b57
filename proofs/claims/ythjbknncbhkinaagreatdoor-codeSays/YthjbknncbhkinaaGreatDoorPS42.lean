import Derived.Deep.RegionWith
import Derived.Test.YthjbknncbhkinaaGreatDoorPS03
import Derived.Test.YthjbknncbhkinaaGreatDoorPS04
import Derived.Test.YthjbknncbhkinaaGreatDoorPS06
import Derived.Test.YthjbknncbhkinaaGreatDoorPS17
import Derived.Test.YthjbknncbhkinaaGreatDoorPS27
import Derived.Test.YthjbknncbhkinaaGreatDoorPS28
import Derived.Test.YthjbknncbhkinaaGreatDoorPS32
import Derived.Test.YthjbknncbhkinaaGreatDoorPS36
import Derived.Test.YthjbknncbhkinaaGreatDoorPS37
import Derived.Test.YthjbknncbhkinaaGreatDoorPS38
import Derived.Test.YthjbknncbhkinaaGreatDoorPS39
import Derived.Test.YthjbknncbhkinaaGreatDoorPS41
open Go.Proofs.Tryz
set_option linter.unusedVariables false
set_option maxRecDepth 20000
set_option maxHeartbeats 3200000
namespace Go.Proofs.YthjbknncbhkinaaGreatDoor.MEi
open Go.RowKit Base
def cd (c : C) : Int := (Measure.ms 0 0 (Walk.pl 1 c)).2.2
def bd (c : C) : Bool := cd c != 0
theorem none_c {m : Nat} {v : Value} {c : C} {w : World} (h : Base.In false All w m v c) :
  Calls prog 41 #[v] w fun e w' => e = .returned (.bool (bd c)) /\ Below w.heap.size w w' := by
 obtain ⟨an, ln, cn, al, ll, cl, rfl⟩ := VRs.in_shape h
 obtain ⟨W0, hW0⟩ : ∃ W0, w.alloc (.cells #[.int .i64 c.k, .bool c.b, .int .i64 c.i, .string c.s, .slice an ln cn, .slice al ll cl] 46) = W0 := ⟨_, rfl⟩
 have hb0 : Below w.heap.size w W0 := by rw [<- hW0]; exact (Below.refl _ w).alloc (Nat.le_refl _) _
 have hp : W0.heap[w.heap.size]? = some (.cells #[.int .i64 c.k, .bool c.b, .int .i64 c.i, .string c.s, .slice an ln cn, .slice al ll cl] 46 (0, 0)) := by rw [<- hW0]; exact heap_alloc_new w _
 obtain ⟨p0, p1, p2, p3, p4, p5⟩ := six_box hp
 have cC := GMw.check_all (h.below hb0)
 have HB : Hid (Below w.heap.size w W0) := hb0
 have HBD : Hid (bd c = ((Measure.ms 0 0 (Walk.pl 1 c)).2.2 != 0)) := rfl
 generalize bd c = Z at *
 generalize (Measure.ms 0 0 (Walk.pl 1 c)).2.2 = z at *
 generalize c.k = k at *
 generalize c.b = b at *
 generalize c.i = i at *
 generalize c.s = s at *
 clear h hb0 hp
 go_enter func41, ntmps41
 go_wp2_with fail
 try rw [hW0]
 refine cC.mono ?_
 rintro e W1 ⟨rfl, hb1⟩
 have HB1 : Hid (Below w.heap.size w W1) := HB.out.trans (hb1.mono HB.out.size)
 clear hb1 cC HB p0 p1 p2 p3 p4 p5 hW0
 go_wp2_with fail
 go_ret
 exact ⟨by rw [HBD.out]; rfl, HB1.out⟩
theorem any_cons (l : List C) (q : Nat) (h : q < l.length) : (l.drop q).any bd = (bd l[q] || (l.drop (q + 1)).any bd) := by
 rw [List.drop_eq_getElem_cons h, List.any_cons]
theorem index_c {m : Nat} {w : World} {v : Value} {l : List C} (hin : Base.InL false All w m v l) :
  Calls prog 62 #[v, .func (.func 41) #[] #[]] w fun e w' => ∃ z : Int, e = .returned (.int .i64 z) /\ decide (0 <= z) = l.any bd /\ Below w.heap.size w w' := by
 obtain ⟨a, cap, rfl, hlc, hcm, hlen, hnil, hL⟩ := hin
 have HL : Hid (LAt false All w m a cap l) := hL
 obtain ⟨T, hT⟩ : ∃ T, l.any bd = T := ⟨_, rfl⟩
 have HT : Hid ((l.drop 0).any bd = T) := hT
 rw [hT]
 clear hT hL
 go_enter func62, ntmps62
 go_wp2_with fail
 go_loopw [8] (fun i wr => ∃ q : Nat, q <= l.length /\ i = .int .i64 q /\ (l.drop q).any bd = T /\ Below w.heap.size w wr) (fun i _ => l.length - (intOf i).toNat)
 case atStart => exact ⟨0, by omega, rfl, HT.out, Below.refl _ _⟩
 case round =>
  clear HT
  obtain ⟨q, hq, rfl, hM, hb⟩ := hrel
  have Hb : Hid (Below w.heap.size w wr) := hb
  by_cases hlt : q < l.length
  ·have d0 : decide ((q : Int) < (l.length : Int)) = true := by simp; omega
   have i0 : (0 : Int) <= (q : Int) := by omega
   have i1 : (q : Int) < (l.length : Int) := by omega
   obtain ⟨g, o, u, rfl, -, hu, hi⟩ := elem_at HL.out hlt
   have hu := six_below hu hb
   obtain ⟨an, ln, cn, al, ll, cl, rfl⟩ := VRs.in_shape hi
   obtain ⟨v0, v1, v2, v3, v4, v5, he, k0, k1, k2, k3, k4, k5⟩ := hu
   simp only [Value.agg.injEq, Array.mk.injEq, List.cons.injEq, and_true] at he
   obtain ⟨rfl, rfl, rfl, rfl, rfl, rfl⟩ := he
   rw [any_cons l q hlt] at hM
   have cO := none_c (hi.below hb)
   obtain ⟨b, hb'⟩ : ∃ b, bd l[q] = b := ⟨_, rfl⟩
   rw [hb'] at cO hM
   have HM : Hid ((b || (l.drop (q + 1)).any bd) = T) := hM
   generalize l[q].k = kk at *
   generalize l[q].b = bb at *
   generalize l[q].i = ii at *
   generalize l[q].s = ss at *
   clear hi hb' hM hb
   go_wp2_with fail
   refine cO.mono ?_
   rintro e W1 ⟨rfl, b1⟩
   have HB1 : Hid (Below w.heap.size w W1) := Hb.out.trans (b1.mono Hb.out.size)
   clear cO b1 k0 k1 k2 k3 k4 k5
   cases b with
   | true =>
    have hT : true = T := by have := HM.out; rw [Bool.true_or] at this; exact this
    subst hT
    go_wp2_with fail
    go_ret
    exact ⟨_, rfl, by simp, HB1.out⟩
   | false =>
    go_wp2_with fail
    go_roundw
    case rel => exact ⟨q + 1, by omega, by go_num, by have := HM.out; rw [Bool.false_or] at this; exact this, HB1.out⟩
    case measure => simp only [intOf]; omega
  ·have d0 : decide ((q : Int) < (l.length : Int)) = false := by simp; omega
   have hT : false = T := by
    rw [List.drop_eq_nil_of_le (by omega)] at hM
    exact hM
   subst hT
   clear hM
   go_wp2_with fail
   go_ret
   exact ⟨_, rfl, by simp, Hb.out⟩
theorem contains_c {m : Nat} {w : World} {v : Value} {l : List C} (hin : Base.InL false All w m v l) :
  Calls prog 40 #[v, .func (.func 41) #[] #[]] w fun e w' => e = .returned (.bool (l.any bd)) /\ Below w.heap.size w w' := by
 have cI := index_c hin
 obtain ⟨T, hT⟩ : ∃ T, l.any bd = T := ⟨_, rfl⟩
 rw [hT] at cI ⊢
 obtain ⟨a, cap, rfl, -⟩ := hin
 clear hT
 go_enter func40, ntmps40
 go_wp2_with fail
 refine cI.mono ?_
 rintro e W1 ⟨z, rfl, hz, hb⟩
 have HB : Hid (Below w.heap.size w W1) := hb
 have HZ : Hid (decide (0 <= z) = T) := hz
 clear hb cI hz
 go_wp2_with fail
 have hT := HZ.out
 subst hT
 go_ret
 exact ⟨rfl, HB.out⟩
end Go.Proofs.YthjbknncbhkinaaGreatDoor.MEi
namespace Go.Proofs.YthjbknncbhkinaaGreatDoor.MRu
open Go.RowKit Base VSm VRs MSe
open CPu (Ins ck)
open CBx (Cx)
theorem in_all {S : Nat -> Prop} {w : World} {m : Nat} {v : Value} {c : C} (h : Base.In false S w m v c) : Base.In false All w m v c := h.weak (fun _ _ => trivial) false id m (Nat.le_refl _)
theorem run_ok {K m : Nat} {w : World} {cv tv sv : Value} {L : List Ins} {T : List ByteArray} {S : List C} {k i : Int} {b : Bool} {s : ByteArray} (hL : Cx K w cv L) (hT : Tz K w tv T) (hS : Base.InL false All w (m + 1) sv S) (hK : K <= w.heap.size) (h1 : (T.any fun s => !STx.tg s) = false) (h2 : ck L T.length S.length = 0) (h3 : S.any MEi.bd = false)
  (cC : ∀ W, Below w.heap.size w W -> Calls prog 42 #[cv, tv, sv] W fun e w' => ∃ u, e = .returned (.tuple #[u, .int .i64 0]) /\ Base.In false (fun b => b < W.heap.size) w' (m + 1) u (.mk k b i s [] []) /\ Below W.heap.size W w') :
  Calls prog 22 #[cv, tv, sv] w fun e w' => ∃ u, e = .returned (.tuple #[u, .int .i64 0]) /\ Base.In false All w' (m + 1) u (.mk k b i s [] []) /\ Below w.heap.size w w' := by
 obtain ⟨W0, hW0⟩ : ∃ W0, w.alloc (.cells #[.int .i64 0, .bool false, .int .i64 0, .string ⟨#[]⟩, .slice none 0 0, .slice none 0 0] 46) = W0 := ⟨_, rfl⟩
 have b0 : Below w.heap.size w W0 := by rw [<- hW0]; exact (Below.refl _ w).alloc (Nat.le_refl _) _
 have s0 : W0.heap.size = w.heap.size + 1 := by rw [<- hW0]; simp
 have x0 : W0.heap[w.heap.size]? = some (.cells #[.int .i64 0, .bool false, .int .i64 0, .string ⟨#[]⟩, .slice none 0 0, .slice none 0 0] 46 (0, 0)) := by rw [<- hW0]; exact heap_alloc_new w _
 have cT := METx.contains_c (hT.below (b0.mono hK)) (by omega)
 rw [h1] at cT
 have HL : Hid (Cx K w cv L) := hL
 have HS : Hid (Base.InL false All w (m + 1) sv S) := hS
 have HCC : Hid _ := cC
 have HB0 : Hid _ := b0
 have HX0 : Hid _ := x0
 obtain ⟨a1, c1, rfl, hl1, hl2, -⟩ := hL
 obtain ⟨a2, c2, rfl, ht1, ht2, -⟩ := hT
 obtain ⟨a3, c3, rfl, hs1, hs2, -⟩ := hS
 have HCK : Hid (ck L T.length S.length = 0) := h2
 have HAN : Hid (S.any MEi.bd = false) := h3
 clear b0 x0 cC h1 h2 h3
 go_enter func22, ntmps22
 go_wp2_with fail
 try rw [hW0]
 refine cT.mono ?_
 rintro e W1 ⟨rfl, b1⟩
 have hb1 : Below w.heap.size w W1 := HB0.out.trans (b1.mono (by omega))
 have cK := CCk.check_c (HL.out.below (hb1.mono hK)) (by have := hb1.size; omega) (T.length : Int) (S.length : Int)
 rw [HCK.out] at cK
 have HB1 : Hid _ := hb1
 have HX1 : Hid _ := (b1.block w.heap.size (by omega)).trans HX0.out
 have hz1 := b1.size
 clear cT b1 hb1
 go_wp2_with fail
 refine cK.mono ?_
 rintro e W2 ⟨rfl, b2⟩
 have hz2 := b2.size
 have hb2 : Below w.heap.size w W2 := HB1.out.trans (b2.mono (by omega))
 have cS := MEi.contains_c (HS.out.below hb2)
 rw [HAN.out] at cS
 have HB2 : Hid _ := hb2
 have HX2 : Hid _ := (b2.block w.heap.size (by omega)).trans HX1.out
 clear cK b2 hb2
 go_wp2_with fail
 refine cS.mono ?_
 rintro e W3 ⟨rfl, b3⟩
 have hz3 := b3.size
 have hb3 : Below w.heap.size w W3 := HB2.out.trans (b3.mono (by omega))
 have cD := HCC.out W3 hb3
 have HB3 : Hid _ := hb3
 have HX3 : Hid _ := (b3.block w.heap.size (by omega)).trans HX2.out
 clear cS b3 hb3
 go_wp2_with fail
 refine cD.mono ?_
 rintro e W4 ⟨u, rfl, hin, b4⟩
 obtain ⟨an, ln, cn, al, ll, cl, rfl⟩ : ∃ an ln cn al ll cl, u = vl k b i s (.slice an ln cn) (.slice al ll cl) := in_shape hin
 have hz4 := b4.size
 obtain ⟨W5, hW5⟩ : ∃ W5, W4.alloc (.cells #[.int .i64 k, .bool b, .int .i64 i, .string s, .slice an ln cn, .slice al ll cl] 46) = W5 := ⟨_, rfl⟩
 have b5 : Below W4.heap.size W4 W5 := by rw [<- hW5]; exact (Below.refl _ W4).alloc (Nat.le_refl _) _
 have x5 : W5.heap[W4.heap.size]? = some (.cells #[.int .i64 k, .bool b, .int .i64 i, .string s, .slice an ln cn, .slice al ll cl] 46 (0, 0)) := by rw [<- hW5]; exact heap_alloc_new W4 _
 obtain ⟨z0, z1, z2, z3, z4, z5⟩ := six_box x5
 have hz5 := b5.size
 have cF := GCf.flat_c W5 _ (in_all (hin.below b5))
 have HB5 : Hid (Below w.heap.size w W5) := (HB3.out.trans (b4.mono (by omega))).trans (b5.mono (by omega))
 have HX5 : Hid (W5.heap[w.heap.size]? = _) := (b5.block w.heap.size (by omega)).trans ((b4.block w.heap.size (by omega)).trans HX3.out)
 have HW5 : Hid (_ = W5) := hW5
 clear cD b4 b5 x5 hin hW5
 go_wp2_with fail
 rw [HW5.out]
 refine cF.mono ?_
 rintro e W6 ⟨u6, rfl, hin6, b6⟩
 obtain ⟨an6, ln6, cn6, al6, ll6, cl6, rfl⟩ : ∃ an ln cn al ll cl, u6 = vl k b i s (.slice an ln cn) (.slice al ll cl) := in_shape hin6
 have y1 := (b6.block w.heap.size (by omega)).trans HX5.out
 obtain ⟨W9, hW9⟩ : ∃ W9, (((((W6.setCell ⟨w.heap.size, 0, none⟩ (.int .i64 k)).setCell ⟨w.heap.size, 1, none⟩ (.bool b)).setCell ⟨w.heap.size, 2, none⟩ (.int .i64 i)).setCell ⟨w.heap.size, 3, none⟩ (.string s)).setCell ⟨w.heap.size, 4, none⟩ (.slice an6 ln6 cn6)).setCell ⟨w.heap.size, 5, none⟩ (.slice al6 ll6 cl6) = W9 := ⟨_, rfl⟩
 obtain ⟨q1, q2, q3, q4⟩ := set6 _ _ _ _ _ _ y1 hW9
 have HE : Hid (Base.In false All W9 (m + 1) (vl k b i s (.slice an6 ln6 cn6) (.slice al6 ll6 cl6)) (.mk k b i s [] []) /\ Below w.heap.size w W9) := ⟨in_all (hin6.keep fun c hc _ => q2 c (by have : W5.heap.size <= c := hc; omega)), q4 _ _ (by omega) (HB5.out.trans (b6.mono (by omega)))⟩
 have HQ1 : Hid _ := q1
 obtain ⟨v0', v1', v2', v3', v4', v5'⟩ := six_box y1
 have g0 := frozen_box y1 0
 have g1 := frozen_box y1 1
 have g2 := frozen_box y1 2
 have g3 := frozen_box y1 3
 have g4 := frozen_box y1 4
 have g5 := frozen_box y1 5
 clear hin6 b6 y1 q1 q2 q3 q4 cF
 go_wp2_with fail
 try rw [hW9]
 refine bodyPost_ret (Part.res_row_tmp rfl _ W9 w.heap.size 46 _ (0, 0) _ rfl HQ1.out underlying46 rfl (by kernel_rfl)) rfl ?_
 exact ⟨_, rfl, HE.out⟩
end Go.Proofs.YthjbknncbhkinaaGreatDoor.MRu
namespace Go.Proofs.YthjbknncbhkinaaGreatDoor.CAp
open Go.RowKit Base VPk
open VPure
open CPu (Ins ck)
abbrev aT : ByteArray := ⟨#[97]⟩
def recC : C := .mk 6 false 0 ⟨#[]⟩ [aT] [intC 2]
def aL : List Ins := [(6, 0), (7, 0), (4, 1), (15, 0)]
def aP : Nat -> List C
 | 0 => []
 | 1 => [recC]
 | 2 => [intC 2]
 | 3 => [intC 2, intC 1]
 | _ => [intC 3]
theorem ck1 : ck aL 1 1 = 0 := by decide +kernel
theorem ck0 : ck aL 0 1 = 2003 := by decide +kernel
theorem pr7 : pr2 7 recC (strC aT) = .ok (intC 2) := by kernel_rfl
theorem pr15 : pr2 15 (intC 2) (intC 1) = .ok (intC 3) := by rfl
theorem wfR : wf recC := ⟨fun _ => by simp [recC, C.n, C.l], by show wfL [intC 2]; rw [wfL_cons]; exact ⟨wf_one (by decide), by rw [wfL]; trivial⟩⟩
theorem wf2 : wf (intC 2) := wf_one (by decide)
theorem pair7 : PairOk 7 := by
 intro K m w va vb a b hK hT hva hvb hwf
 exact VPt.pair7 hK hva hvb hwf.1
theorem verA : UBase.verr aT = 0 := by decide +kernel
theorem tgA : STx.tg aT = true := by unfold STx.tg; rw [verA]; decide
theorem texA : ([aT].any fun s => !STx.tg s) = false := by simp [tgA]
theorem fmR : Fault.fm recC = true := by decide +kernel
theorem fm2 : Fault.fm (intC 2) = true := by decide +kernel
theorem plR : Walk.pl 1 recC = [(1, recC), (2, intC 2)] := by
 unfold recC
 rw [Walk.pl, Walk.plL_cons, Walk.plL_nil]
 unfold intC
 rw [Walk.pl, Walk.plL_nil]
 rfl
theorem bdR : MEi.bd recC = false := by
 have f1 : Fault.ft recC 1 1 = 0 := by unfold Fault.ft; rw [fmR]; decide
 have f2 : Fault.ft (intC 2) 2 2 = 0 := by unfold Fault.ft; rw [fm2]; decide
 unfold MEi.bd MEi.cd
 rw [plR]
 simp [Measure.ms, f1, f2]
theorem anyR : [recC].any MEi.bd = false := by simp [bdR]
end Go.Proofs.YthjbknncbhkinaaGreatDoor.CAp
namespace Go.Proofs.YthjbknncbhkinaaGreatDoor.CAr
open Go.RowKit Base VJn VPk MSe MDo CAp
open VPure
open CPu (Ins ck)
open CBx (Cx)
theorem arun {K : Nat} {w : World} {cv tv sv : Value} (hK : K <= w.heap.size) (hL : Cx K w cv aL) (hT : Tz K w tv [aT]) (hS : Base.InL false (fun b => b < K) w 2 sv [recC]) (hTb : Tb w) :
  Calls prog 22 #[cv, tv, sv] w fun e w' => ∃ u, e = .returned (.tuple #[u, .int .i64 0]) /\ Base.In false All w' 2 u (intC 3) /\ Below w.heap.size w w' := by
 have hSA : Base.InL false All w 2 sv [recC] := hS.weak (fun _ _ => trivial) false id 2 (Nat.le_refl _)
 refine MRu.run_ok (m := 1) hL hT hSA hK texA ck1 anyR fun W hW => ?_
 have hz := hW.size
 have hL1 := (hL.below (hW.mono hK)).mono (K' := W.heap.size) (by omega)
 have hT1 : Tz W.heap.size W tv [aT] := by
  obtain ⟨a, cap, h1, h2, h3, h4⟩ := hT.below (hW.mono hK)
  refine ⟨a, cap, h1, h2, h3, h4.imp id fun ⟨g, o, ha, hg, hc⟩ => ⟨g, o, ha, by omega, hc⟩⟩
 have hS1 : Base.InL false (fun b => b < W.heap.size) W 2 sv [recC] := (hS.keep (w' := W) fun b hb hl => hW.block b hl).weak (fun b hb => by show b < W.heap.size; have : b < K := hb; omega) false id 2 (Nat.le_refl _)
 have hTK : TK W.heap.size W := hTb.below hW
 have hL0 := hL1
 have hT0 := hT1
 have hS0 := hS1
 obtain ⟨a1, c1, rfl, -⟩ := hL0
 obtain ⟨a2, c2, rfl, -⟩ := hT0
 obtain ⟨a3, c3, rfl, -⟩ := hS0
 refine MCo.code_ok (m := 2) (r := intC 3) fun W2 b2 m2 => ?_
 refine MRn.line_c (P := aP) (r := intC 3) (hL1.below b2) m2 (by decide) (fun q hq => ?_) (fun q hq W3 pv b3 m3 => ?_) rfl
 ·have : q = 0 \/ q = 1 \/ q = 2 \/ q = 3 := by simp [aL] at hq; omega
  rcases this with rfl | rfl | rfl | rfl
  ·show (6 : Int) < 30; decide
  ·show (7 : Int) < 30; decide
  ·show (4 : Int) < 30; decide
  ·show (15 : Int) < 30; decide
 ·have b3' : Below W.heap.size W W3 := b2.trans (b3.mono (by omega))
  have hT3 := hT1.below b3'
  have hS3 : Base.InL false (fun b => b < W.heap.size) W3 2 _ [recC] := hS1.keep (w' := W3) fun b hb hl => b3'.block b hb
  have hq4 : q = 0 \/ q = 1 \/ q = 2 \/ q = 3 := by simp [aL] at hq; omega
  rcases hq4 with rfl | rfl | rfl | rfl
  ·exact do_var (k := 0) m3 (by decide) hS3 (by decide)
  ·exact MDp.pair_ok (o := 7) (a := 0) (q := []) (x := recC) (y := strC aT) m3 (by decide) (hTK.below b3') pair7 (by decide) wfR pr7 fun W4 b4 => second_text (m := 1) (k := 0) (m3.below b4) (hT3.below (b4.mono (by have := b3'.size; omega))) (by decide)
  ·exact do_int (m := 1) (a := 1) m3 (by decide) (by decide)
  ·exact MDp.pair_ok (o := 15) (a := 0) (q := []) (x := intC 2) (y := intC 1) m3 (by decide) (hTK.below b3') VPk.pair15 (by decide) wf2 pr15 fun W4 b4 => second_take (o := 15) (a := 0) (p := [intC 2]) (m3.below b4) (by decide) (by decide)
end Go.Proofs.YthjbknncbhkinaaGreatDoor.CAr
namespace Go.Proofs.YthjbknncbhkinaaGreatDoor.CAw
open Go.RowKit Base VSm VJn VRs MSe CAp CAr
open VPure
open CBx (Cx)
theorem num_c (x : Int) (w : World) : Calls prog 10 #[.int .i64 x] w fun e w' => e = .returned (.int .i64 x) /\ w = w' := by
 go_enter func10, ntmps10
 go_wp2_with fail
 go_ret
 exact ⟨rfl, rfl⟩
abbrev cA : Array Value := #[.int .i64 6, .int .i64 0, .int .i64 7, .int .i64 0, .int .i64 4, .int .i64 1, .int .i64 15, .int .i64 0]
abbrev cI : Array Value := #[.int .i64 3, .bool false, .int .i64 2, .string ⟨#[]⟩, .slice none 0 0, .slice none 0 0]
abbrev cR (n : Nat) : Array Value := #[.int .i64 6, .bool false, .int .i64 0, .string ⟨#[]⟩, .slice (some ⟨n + 1, 0, none⟩) 1 1, .slice (some ⟨n + 1 + 1, 0, none⟩) 1 1]
theorem mem (w : World) : ∃ W, (((((w.alloc (.cells cA 57)).alloc (.cells #[.string ⟨#[97]⟩] 9)).alloc (.cells cI 46)).alloc (.cells (cR w.heap.size) 46)).alloc (.cells #[.string ⟨#[97]⟩] 9)).alloc (.cells (cR w.heap.size) 46) = W /\ Below w.heap.size w W /\ W.heap.size = w.heap.size + 6 /\ W.heap[w.heap.size]? = some (.cells cA 57 (0, 0)) /\ W.heap[w.heap.size + 1]? = some (.cells #[.string ⟨#[97]⟩] 9 (0, 0)) /\ W.heap[w.heap.size + 2]? = some (.cells cI 46 (0, 0)) /\ W.heap[w.heap.size + 4]? = some (.cells #[.string ⟨#[97]⟩] 9 (0, 0)) /\ W.heap[w.heap.size + 5]? = some (.cells (cR w.heap.size) 46 (0, 0)) := by
 refine ⟨_, rfl, ?_, by simp, ?_, ?_, ?_, ?_, ?_⟩
 ·exact ((((((Below.refl _ w).alloc (Nat.le_refl _) _).alloc (by simp) _).alloc (by simp <;> omega) _).alloc (by simp <;> omega) _).alloc (by simp <;> omega) _).alloc (by simp <;> omega) _
 all_goals
  show ((((((w.heap.push _).push _).push _).push _).push _).push _)[_]? = _
  simp only [Array.getElem?_push, Array.size_push]
  repeat (first | rw [if_pos trivial] | rw [if_pos (by omega)] | rw [if_neg (by omega)])
  try rfl
theorem cells8 {W : World} {g : Nat} (h : W.heap[g]? = some (.cells cA 57 (0, 0))) {K : Nat} (hg : g < K) : Cx K W (.slice (some ⟨g, 0, none⟩) 4 4) aL := by
 refine ⟨_, 4, rfl, by decide, by decide, (fun h => by cases h), .inr ⟨g, 0, rfl, hg, fun j hj => ?_⟩⟩
 have : j = 0 \/ j = 1 \/ j = 2 \/ j = 3 := by simp [aL] at hj; omega
 rcases this with rfl | rfl | rfl | rfl <;> constructor <;> (simp [World.cell?, h]; rfl)
theorem text1 {W : World} {g : Nat} (h : W.heap[g]? = some (.cells #[.string ⟨#[97]⟩] 9 (0, 0))) {K : Nat} (hg : g < K) : Tz K W (.slice (some ⟨g, 0, none⟩) 1 1) [aT] := by
 refine ⟨_, 1, rfl, by decide, by decide, .inr ⟨g, 0, rfl, hg, fun j hj => ?_⟩⟩
 obtain rfl : j = 0 := by simpa using hj
 exact ⟨by simp [World.cell?, h], by show (1 : Nat) <= 140737488351232; decide⟩
theorem stack1 {W : World} {n : Nat} (h1 : W.heap[n + 1]? = some (.cells #[.string ⟨#[97]⟩] 9 (0, 0))) (h2 : W.heap[n + 2]? = some (.cells cI 46 (0, 0))) (h5 : W.heap[n + 5]? = some (.cells (cR n) 46 (0, 0))) {K : Nat} (hg : n + 5 < K) : Base.InL false (fun b => b < K) W 2 (.slice (some ⟨n + 5, 0, none⟩) 1 1) [recC] := by
 refine ⟨_, 1, rfl, by decide, by decide, by decide, (fun h => by cases h), .inr ⟨n + 5, 0, rfl, hg, fun j hj => ?_, (fun h => by cases h)⟩⟩
 obtain rfl : j = 0 := by simpa using hj
 obtain ⟨k0, k1, k2, k3, k4, k5⟩ := six_box h5
 refine ⟨_, ⟨_, _, _, _, _, _, rfl, k0, k1, k2, k3, k4, k5⟩, ?_⟩
 show Base.In false _ W 2 _ (.mk 6 false 0 ⟨#[]⟩ [aT] [intC 2])
 rw [in_iff]
 refine ⟨_, _, rfl, by decide, by decide, by decide, ⟨_, 1, rfl, by decide, by decide, by decide, by simp; decide, (fun h => by cases h), .inr ⟨n + 1, 0, rfl, by show n + 1 < K; omega, fun j hj => ?_, (fun h => by cases h)⟩⟩, ⟨_, 1, rfl, by decide, by decide, by decide, (fun h => by cases h), .inr ⟨n + 2, 0, rfl, by show n + 2 < K; omega, fun j hj => ?_, (fun h => by cases h)⟩⟩⟩
 ·obtain rfl : j = 0 := by simpa using hj
  simp [World.cell?, h1]
 ·obtain rfl : j = 0 := by simpa using hj
  obtain ⟨y0, y1, y2, y3, y4, y5⟩ := six_box h2
  exact ⟨_, ⟨_, _, _, _, _, _, rfl, y0, y1, y2, y3, y4, y5⟩, in_v0 _ W 0 false (by decide) (by decide) (by decide)⟩
theorem awake_c (w : World) (ht : Tb w) : Calls prog 14 #[] w fun e w' => e = .returned (.bool true) /\ Below w.heap.size w w' := by
 obtain ⟨W, hW, bW, sW, z0, z1, z2, z4, z5⟩ := mem w
 have cRun := arun (K := W.heap.size) (Nat.le_refl _) (cells8 z0 (by omega)) (text1 z4 (by omega)) (stack1 z1 z2 z5 (by omega)) (ht.below bW)
 have HW : Hid (_ = W) := hW
 have HB : Hid _ := bW
 have HC : Hid (∀ W', Below W.heap.size W W' -> Cx W.heap.size W' (.slice (some ⟨w.heap.size, 0, none⟩) 4 4) aL) := fun W' hb => (cells8 z0 (by omega)).below hb
 clear hW bW z0 z1 z2 z4 z5 ht
 go_enter func14, ntmps14
 go_wp2_with fail
 rw [HW.out]
 refine cRun.mono ?_
 rintro e W1 ⟨u, rfl, hin, b1⟩
 obtain ⟨an, ln, cn, al, ll, cl, rfl⟩ : ∃ an ln cn al ll cl, u = vl 3 false 3 ⟨#[]⟩ (.slice an ln cn) (.slice al ll cl) := in_shape hin
 obtain ⟨W2, hW2⟩ : ∃ W2, W1.alloc (.cells #[.int .i64 3, .bool false, .int .i64 3, .string ⟨#[]⟩, .slice an ln cn, .slice al ll cl] 46) = W2 := ⟨_, rfl⟩
 have b2 : Below W1.heap.size W1 W2 := by rw [<- hW2]; exact (Below.refl _ W1).alloc (Nat.le_refl _) _
 have x2 : W2.heap[W1.heap.size]? = some (.cells #[.int .i64 3, .bool false, .int .i64 3, .string ⟨#[]⟩, .slice an ln cn, .slice al ll cl] 46 (0, 0)) := by rw [<- hW2]; exact heap_alloc_new W1 _
 have hb2 : Below W.heap.size W W2 := b1.trans (b2.mono b1.size)
 have hz1 := b1.size
 have hz2 := b2.size
 have cK := CCk.check_c (HC.out W2 hb2) (by omega) 1 1
 rw [ck1] at cK
 have HB2 : Hid _ := hb2
 have HX2 : Hid _ := x2
 have HW2 : Hid (_ = W2) := hW2
 have hl2 : W1.heap.size < W2.heap.size := by rw [<- hW2]; simp
 clear cRun hin b1 b2 x2 hb2 hW2
 go_wp2_with fail
 rw [HW2.out]
 refine cK.mono ?_
 rintro e W3 ⟨rfl, b3⟩
 have hz3 := b3.size
 have hb3 : Below W.heap.size W W3 := HB2.out.trans (b3.mono (by omega))
 have cK2 := CCk.check_c (HC.out W3 hb3) (by omega) 0 1
 rw [ck0] at cK2
 have HX3 : Hid _ := (b3.block W1.heap.size hl2).trans HX2.out
 have HB3 : Hid _ := hb3
 clear cK b3 hb3
 go_wp2_with fail
 refine cK2.mono ?_
 rintro e W4 ⟨rfl, b4⟩
 have x4 := (b4.block W1.heap.size (by omega)).trans HX3.out
 obtain ⟨k0, -, k2, -, -, -⟩ := six_box x4
 have HB4 : Hid (Below w.heap.size w W4) := (HB.out.trans (HB3.out.mono (by omega))).trans (b4.mono (by omega))
 have cN : ∀ (x : Int) (W : World), Calls prog 10 #[.int .i64 x] W fun e w' => e = .returned (.int .i64 x) /\ W = w' := num_c
 clear cK2 b4 x4
 go_wp2_with fail
 refine (cN _ _).mono ?_
 rintro e w9 ⟨rfl, h9⟩
 obtain rfl := h9
 go_wp2_with fail
 refine (cN _ _).mono ?_
 rintro e w9 ⟨rfl, h9⟩
 obtain rfl := h9
 go_wp2_with fail
 refine (cN _ _).mono ?_
 rintro e w9 ⟨rfl, h9⟩
 obtain rfl := h9
 go_wp2_with fail
 go_ret
 exact ⟨rfl, HB4.out⟩
end Go.Proofs.YthjbknncbhkinaaGreatDoor.CAw
namespace Go.Proofs.YthjbknncbhkinaaGreatDoor.WMk
open Go.RowKit EPure NWr NFr NMk
open Base (nx)
open VJn (Tb)
open CPu (Ins ck)
open CBx (Cx)
open CIn (Oc OkL)
open NGe (gen sz Dp)
open KSh (rsv rlf)
open XBase (four_box frozen_box In InL LAt Rg)
theorem later {W W' : World} {B : Nat} {o : Obj} (hx : W.heap[B]? = some o) (h : Below W.heap.size W W') : W'.heap[B]? = some o := (h.block B (Array.getElem?_eq_some_iff.1 hx).1).trans hx
theorem own_below {w w' : World} {B : Nat} {e : TypeId} {s n : Nat} {v : Value} {xs : List Value} (h : w.ownsRow B e s v n xs) (hb : Below w.heap.size w w') : w'.ownsRow B e s v n xs := own_keep h fun g hg => hb.block g (World.ownsRow.lt h g hg).2
theorem wf64 {x : Int} (h : i64 x) : (Lit.int .i64 x).wf = true := by
 have h1 : IntKind.i64.min = -9223372036854775808 := by rfl
 have h2 : IntKind.i64.max = 9223372036854775807 := by rfl
 simp only [Lit.wf, h1, h2, Bool.and_eq_true, decide_eq_true_eq]
 exact h
theorem ok_of {C : List Ins} {T : List ByteArray} (h : Rn (C, T)) (hl : C.length + 2 <= 8796093022208) : OkL C := by
 refine ⟨fun x hx => ?_, hl⟩
 have := h.1 x hx
 exact ⟨wf64 this.1, wf64 this.2⟩
theorem facts {m : Nat} {x : Ex} (hd : Dp m x) (hz : Sz m x) (h : mkO x = true) : ∃ C T, gen m x 0 0 = (C, T) /\ C.length <= 8192 /\ 1 <= C.length /\ OkL C /\ (∀ s ∈ T, s.size <= 140737488351232) /\ lw [x] = false /\ ∀ d : Int, dm [x] <= d -> ck C (T.length : Int) d = 0 := by
 obtain ⟨hok, hsz⟩ := mk_ok hd h
 have hl := NGe.gen_len rlf m x 0 0 hok
 have hr := gen_rn rlf m x 0 0 hok hz (by omega) (by omega)
 have hlw : lw [x] = false := by
  unfold mkO at h
  rw [Bool.and_eq_true] at h
  have := h.2
  rw [hs_lw (x := x) _ [x] m (Nat.le_refl _) (by simp; exact ⟨hz, hd⟩)] at this
  simpa using this
 refine ⟨(gen m x 0 0).1, (gen m x 0 0).2, rfl, by omega, hl.1, ok_of (T := (gen m x 0 0).2) hr (by omega), hr.2, hlw, fun d hdm => ?_⟩
 exact NCk.ck_gen rlf hok (NGe.hs_pl d m x (hs_dm d _ [x] (Nat.le_refl _) hlw hdm)) (by omega)
end Go.Proofs.YthjbknncbhkinaaGreatDoor.WMk
namespace Go.Proofs.YthjbknncbhkinaaGreatDoor.MRv
open Go.RowKit Base VSm VRs MSe MPl MRu
open CPu (Ins ck)
open CBx (Cx)
theorem copied_new {m : Nat} {c : C} (W : World) (v : Value) (h : Base.In false All W m v c) : Calls prog 43 #[v] W fun e w' => ∃ u, e = .returned u /\ Base.In false (fun b => W.heap.size <= b) w' m u c /\ Below W.heap.size W w' := by
 refine (Copied.copied_c h).mono ?_
 rintro e w' ⟨u, rfl, hf, b⟩
 exact ⟨u, rfl, hf.in.weak (fun b hb => hb.1) false id _ (Nat.le_refl _), b⟩
def rn (L : List Ins) (T : List ByteArray) (S : List C) : Except Int C :=
 if (T.any fun s => !STx.tg s) = true then .error 2000
 else if ck L T.length S.length ≠ 0 then .error (ck L T.length S.length)
 else if S.any MEi.bd = true then .error 1108
 else match mrun L T S L.length 0 [] with
  | .ok r => .ok r
  | .error n => .error (n : Nat)
theorem good_c {K m : Nat} {w : World} {cv tv sv : Value} {L : List Ins} {T : List ByteArray} {S : List C} {r : C} {z : Int} (hL : Cx K w cv L) (hT : Tz K w tv T) (hS : Base.InL false All w (m + 1) sv S) (hK : K <= w.heap.size) (h1 : (T.any fun s => !STx.tg s) = false) (h2 : ck L T.length S.length = 0) (h3 : S.any MEi.bd = false)
  (cC : ∀ W, Below w.heap.size w W -> Calls prog 42 #[cv, tv, sv] W fun e w' => ∃ u, e = .returned (.tuple #[u, .int .i64 z]) /\ Base.In false (fun b => b < W.heap.size) w' (m + 1) u r /\ Below W.heap.size W w') :
  Calls prog 22 #[cv, tv, sv] w fun e w' => ∃ u, e = .returned (.tuple #[u, .int .i64 z]) /\ Base.In false All w' (m + 1) u r /\ Below w.heap.size w w' := by
 obtain ⟨W0, hW0⟩ : ∃ W0, w.alloc (.cells #[.int .i64 0, .bool false, .int .i64 0, .string ⟨#[]⟩, .slice none 0 0, .slice none 0 0] 46) = W0 := ⟨_, rfl⟩
 have b0 : Below w.heap.size w W0 := by rw [<- hW0]; exact (Below.refl _ w).alloc (Nat.le_refl _) _
 have s0 : W0.heap.size = w.heap.size + 1 := by rw [<- hW0]; simp
 have x0 : W0.heap[w.heap.size]? = some (.cells #[.int .i64 0, .bool false, .int .i64 0, .string ⟨#[]⟩, .slice none 0 0, .slice none 0 0] 46 (0, 0)) := by rw [<- hW0]; exact heap_alloc_new w _
 have cT := METx.contains_c (hT.below (b0.mono hK)) (by omega)
 rw [h1] at cT
 have HL : Hid (Cx K w cv L) := hL
 have HS : Hid (Base.InL false All w (m + 1) sv S) := hS
 have HCC : Hid _ := cC
 have HB0 : Hid _ := b0
 have HX0 : Hid _ := x0
 obtain ⟨a1, c1, rfl, hl1, hl2, -⟩ := hL
 obtain ⟨a2, c2, rfl, ht1, ht2, -⟩ := hT
 obtain ⟨a3, c3, rfl, hs1, hs2, -⟩ := hS
 have HCK : Hid (ck L T.length S.length = 0) := h2
 have HAN : Hid (S.any MEi.bd = false) := h3
 clear b0 x0 cC h1 h2 h3
 go_enter func22, ntmps22
 go_wp2_with fail
 try rw [hW0]
 refine cT.mono ?_
 rintro e W1 ⟨rfl, b1⟩
 have hb1 : Below w.heap.size w W1 := HB0.out.trans (b1.mono (by omega))
 have cK := CCk.check_c (HL.out.below (hb1.mono hK)) (by have := hb1.size; omega) (T.length : Int) (S.length : Int)
 rw [HCK.out] at cK
 have HB1 : Hid _ := hb1
 have HX1 : Hid _ := (b1.block w.heap.size (by omega)).trans HX0.out
 have hz1 := b1.size
 clear cT b1 hb1
 go_wp2_with fail
 refine cK.mono ?_
 rintro e W2 ⟨rfl, b2⟩
 have hz2 := b2.size
 have hb2 : Below w.heap.size w W2 := HB1.out.trans (b2.mono (by omega))
 have cS := MEi.contains_c (HS.out.below hb2)
 rw [HAN.out] at cS
 have HB2 : Hid _ := hb2
 have HX2 : Hid _ := (b2.block w.heap.size (by omega)).trans HX1.out
 clear cK b2 hb2
 go_wp2_with fail
 refine cS.mono ?_
 rintro e W3 ⟨rfl, b3⟩
 have hz3 := b3.size
 have hb3 : Below w.heap.size w W3 := HB2.out.trans (b3.mono (by omega))
 have cD := HCC.out W3 hb3
 have HB3 : Hid _ := hb3
 have HX3 : Hid _ := (b3.block w.heap.size (by omega)).trans HX2.out
 clear cS b3 hb3
 go_wp2_with fail
 refine cD.mono ?_
 rintro e W4 ⟨u, rfl, hin, b4⟩
 obtain ⟨an, ln, cn, al, ll, cl, rfl⟩ : ∃ an ln cn al ll cl, u = vl r.k r.b r.i r.s (.slice an ln cn) (.slice al ll cl) := in_shape hin
 have hz4 := b4.size
 obtain ⟨W5, hW5⟩ : ∃ W5, W4.alloc (.cells #[.int .i64 r.k, .bool r.b, .int .i64 r.i, .string r.s, .slice an ln cn, .slice al ll cl] 46) = W5 := ⟨_, rfl⟩
 have b5 : Below W4.heap.size W4 W5 := by rw [<- hW5]; exact (Below.refl _ W4).alloc (Nat.le_refl _) _
 have x5 : W5.heap[W4.heap.size]? = some (.cells #[.int .i64 r.k, .bool r.b, .int .i64 r.i, .string r.s, .slice an ln cn, .slice al ll cl] 46 (0, 0)) := by rw [<- hW5]; exact heap_alloc_new W4 _
 obtain ⟨z0, z1, z2, z3, z4, z5⟩ := six_box x5
 have hz5 := b5.size
 have cF := copied_new W5 _ (in_all (hin.below b5))
 have HB5 : Hid (Below w.heap.size w W5) := (HB3.out.trans (b4.mono (by omega))).trans (b5.mono (by omega))
 have HX5 : Hid (W5.heap[w.heap.size]? = _) := (b5.block w.heap.size (by omega)).trans ((b4.block w.heap.size (by omega)).trans HX3.out)
 have HW5 : Hid (_ = W5) := hW5
 clear cD b4 b5 x5 hin hW5
 go_wp2_with fail
 rw [HW5.out]
 refine cF.mono ?_
 rintro e W6 ⟨u6, rfl, hin6, b6⟩
 obtain ⟨an6, ln6, cn6, al6, ll6, cl6, rfl⟩ : ∃ an ln cn al ll cl, u6 = vl r.k r.b r.i r.s (.slice an ln cn) (.slice al ll cl) := in_shape hin6
 have y1 := (b6.block w.heap.size (by omega)).trans HX5.out
 obtain ⟨W9, hW9⟩ : ∃ W9, (((((W6.setCell ⟨w.heap.size, 0, none⟩ (.int .i64 r.k)).setCell ⟨w.heap.size, 1, none⟩ (.bool r.b)).setCell ⟨w.heap.size, 2, none⟩ (.int .i64 r.i)).setCell ⟨w.heap.size, 3, none⟩ (.string r.s)).setCell ⟨w.heap.size, 4, none⟩ (.slice an6 ln6 cn6)).setCell ⟨w.heap.size, 5, none⟩ (.slice al6 ll6 cl6) = W9 := ⟨_, rfl⟩
 obtain ⟨q1, q2, q3, q4⟩ := set6 _ _ _ _ _ _ y1 hW9
 have HE : Hid (Base.In false All W9 (m + 1) (vl r.k r.b r.i r.s (.slice an6 ln6 cn6) (.slice al6 ll6 cl6)) r /\ Below w.heap.size w W9) := ⟨in_all (hin6.keep fun c hc _ => q2 c (by have : W5.heap.size <= c := hc; omega)), q4 _ _ (by omega) (HB5.out.trans (b6.mono (by omega)))⟩
 have HQ1 : Hid _ := q1
 obtain ⟨v0', v1', v2', v3', v4', v5'⟩ := six_box y1
 have g0 := frozen_box y1 0
 have g1 := frozen_box y1 1
 have g2 := frozen_box y1 2
 have g3 := frozen_box y1 3
 have g4 := frozen_box y1 4
 have g5 := frozen_box y1 5
 clear hin6 b6 y1 q1 q2 q3 q4 cF
 go_wp2_with fail
 try rw [hW9]
 refine bodyPost_ret (Part.res_row_tmp rfl _ W9 w.heap.size 46 _ (0, 0) _ rfl HQ1.out underlying46 rfl (by kernel_rfl)) rfl ?_
 exact ⟨_, rfl, HE.out⟩
end Go.Proofs.YthjbknncbhkinaaGreatDoor.MRv
