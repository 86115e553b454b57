import Derived.Deep.CutBlock
import Derived.Deep.CutRange
import Derived.Deep.RegionHeld3
import Derived.Laws.Cover1
import Derived.Test.YtaiackmmmlhgbaaGreatPV03
import Derived.Test.YtaiackmmmlhgbaaGreatPV20
import Derived.Test.YtaiackmmmlhgbaaGreatPV22
import Derived.Test.YtaiackmmmlhgbaaGreatPV23
import Derived.Test.YtaiackmmmlhgbaaGreatPV25
import Derived.Test.YtaiackmmmlhgbaaGreatPV28
import Derived.Test.YtaiackmmmlhgbaaGreatPV29
import Derived.Test.YtaiackmmmlhgbaaGreatPV30
open Go.Proofs.Tryz
set_option linter.unusedVariables false
set_option maxRecDepth 20000
set_option maxHeartbeats 12800000
namespace Go.Proofs.YtaiackmmmlhgbaaGreat.BQt
open Go.RowKit BPl YRr YRs BBx BQb BQs
open YPl (Oq Bk Pg)
open BSf (hid)
open CPu (Ins)
open TBase (T Keep heap_alloc_new)
def LiE (X : Nat) (tv cv sv bv iv : Value) (bk pl a0 d0 : Int) (lv nv : Value) (x : Pg) (w w' : World) : Prop := Lw w' X tv cv sv bv iv bk (if (shf x).2 = 0 then pl else (shf x).1) (shf x).2 a0 d0 lv nv /\ BHm.Xb X w w'
theorem lists_c {R : Nat -> Prop} {w : World} {X nc cc ns sc bn bc tn tc m : Nat} {ta ca sa ba : Option Addr} {iv : Value} {bk pl a0 d0 : Int} {lv nv : Value} {x : Pg}
  (h : Lw w X (.slice ta tn tc) (.slice ca nc cc) (.slice sa ns sc) (.slice ba bn bc) iv bk pl 0 a0 d0 lv nv)
  (ht : RrS 1 LyS R w (.slice ta tn tc) x.t) (hc : RrS 1 (LyCs R) R w (.slice ca nc cc) x.c) (hs : TBase.InL false R w m (.slice sa ns sc) x.s) (hR : ∀ g, R g -> g < w.heap.size) (hRX : ¬ R X) :
  Calls prog 47 #[.pointer (some ⟨X, 0, none⟩)] w fun e w' => (∃ v, e = .returned v) /\ LiE X (.slice ta tn tc) (.slice ca nc cc) (.slice sa ns sc) (.slice ba bn bc) iv bk pl a0 d0 lv nv x w w' := by
 have hXl : X < w.heap.size := (Array.getElem?_eq_some_iff.1 h).1
 have htn : x.t.length = tn := by obtain ⟨_, _, e, -⟩ := ht; cases e; rfl
 have hcn : x.c.length = nc := by obtain ⟨_, _, e, -⟩ := hc; cases e; rfl
 have hsn : x.s.length = ns := by obtain ⟨_, _, e, -⟩ := hs; cases e; rfl
 have t47 : tn <= 140737488351232 := by obtain ⟨_, _, e, _, _, h47, _⟩ := ht; cases e; exact h47
 have c47 : nc <= 140737488351232 := by obtain ⟨_, _, e, _, _, h47, _⟩ := hc; cases e; exact h47
 have s47 : ns <= 140737488351232 := by obtain ⟨_, _, e, _, _, h47, _⟩ := hs; cases e; omega
 obtain ⟨W, hW⟩ : ∃ W, w.alloc (.cells #[.slice ta tn tc, .slice ca nc cc, .slice sa ns sc, .slice ba bn bc] 29) = W := ⟨_, rfl⟩
 have bW : Below w.heap.size w W := by rw [<- hW]; exact (Below.refl _ w).alloc (Nat.le_refl _) _
 have xW : W.heap[w.heap.size]? = some (.cells #[.slice ta tn tc, .slice ca nc cc, .slice sa ns sc, .slice ba bn bc] 29 (0, 0)) := by rw [<- hW]; exact heap_alloc_new w _
 obtain ⟨c0, c1, c2, c3, -⟩ := h.cell
 have H := hid h
 have HT := hid ht
 have HC := hid hc
 have HSS := hid hs
 have HR := hid hR
 have HTN := hid htn
 have HCN := hid hcn
 have HSN := hid hsn
 have BW := hid bW
 have XW := hid xW
 clear h ht hc hs hR htn hcn hsn bW xW
 go_enter func47, ntmps47
 go_wp2_with fail
 go_loopw [3] (fun i wr => ∃ q : Nat, q <= tn /\ i = .int .i64 q /\ Hid (r1t x = fw2 16384 STx.tg q (x.t.drop q)) /\ Below w.heap.size w wr /\ w.heap.size < wr.heap.size /\ wr.heap[w.heap.size]? = some (.cells #[.slice ta tn tc, .slice ca nc cc, .slice sa ns sc, .slice ba bn bc] 29 (0, 0))) (fun i _ => tn - (intOf i).toNat)
 case atStart => exact ⟨0, by omega, rfl, rfl, BW.out, by rw [<- hW, World.size_alloc]; omega, XW.out⟩
 case round =>
  obtain ⟨q, hq, rfl, HQ, hwr, hsr, hxr⟩ := hrel
  have HWR := hid hwr
  have HXR := hid hxr
  have HLr := hid ((hwr.block X hXl).trans H.out : Lw wr X (.slice ta tn tc) (.slice ca nc cc) (.slice sa ns sc) (.slice ba bn bc) iv bk pl 0 a0 d0 lv nv)
  have XR := hid (BHm.Xb.of hwr (Nat.le_of_lt hXl) : BHm.Xb X w wr)
  have y0 := cell_of hxr 0 _ rfl
  have y1 := cell_of hxr 1 _ rfl
  have y2 := cell_of hxr 2 _ rfl
  by_cases hlt : q < tn
  ·have t0 : decide ((q : Int) < (tn : Int)) = true := by simp; omega
   have i0 : (0 : Int) <= (q : Int) := by omega
   have i1 : (q : Int) < (tn : Int) := by omega
   have hql : q < x.t.length := by rw [HTN.out]; exact hlt
   have hfw := fw2_drop 16384 STx.tg hql
   obtain ⟨g, o, cp, hsl, -, -, hg, ⟨k0, hks⟩⟩ := RrS.at HT.out hql
   rw [HTN.out] at hsl
   cases hsl
   rw [Nat.mul_one] at k0
   have k0 := IBase.below_cell k0 hwr
   have cG := TPure.good_c x.t[q] hks wr
   obtain ⟨s, hs⟩ : ∃ s, x.t[q] = s := ⟨_, rfl⟩
   rw [hs] at k0 cG hfw
   obtain ⟨G, hG⟩ : ∃ G, TPure.tg s = G := ⟨_, rfl⟩
   have hG2 : STx.tg s = G := hG
   rw [hG] at cG
   rw [hG2] at hfw
   by_cases hlim : 16384 <= q
   ·have HRQ : Hid (r1t x = (q : Int)) := by show _ = _; rw [HQ.out, hfw, if_pos (.inl hlim)]
    have l1 : decide ((16384 : Int) <= (q : Int)) = true := by simp; omega
    have l2 : decide (16384 <= q) = true := by simp; omega
    have HSF : Hid (shf x = ((q : Int), 2200)) := by
     show shf x = _
     rw [shf_eq, HRQ.out, if_pos (by omega)]
    have cF := fail_c HLr.out 2200 (q : Int)
    rw [if_pos rfl, if_pos rfl] at cF
    clear hlim hfw
    go_wp2_with fail
    refine cF.mono ?_
    rintro e w5 ⟨⟨v, rfl⟩, hb5, x5⟩
    have HB5 := hid (And.intro hb5 (BHm.Xb.trans XR.out x5))
    clear hb5 x5
    go_wp2_with fail
    first | go_end0 | ((try simp only [Exit.inBlock, Exit.then]); refine bodyPost_ret (results_none rfl _ _ _) rfl ?_)
    refine ⟨⟨_, rfl⟩, ?_⟩
    unfold LiE
    rw [HSF.out]
    exact HB5.out
   have l1 : decide ((16384 : Int) <= (q : Int)) = false := by simp; omega
   have l2 : decide (16384 <= q) = false := by simp; omega
   cases G with
   | true =>
    have HN2 : Hid (r1t x = fw2 16384 STx.tg (q + 1) (x.t.drop (q + 1))) := by show _ = _; rw [HQ.out, hfw, if_neg (by rintro (h | h); omega; cases h)]
    clear hfw hlim hs hG hG2
    go_wp2_with (first | (go_at_call 67; refine cG.mono ?_; rintro e w4 ⟨rfl, h4⟩; obtain rfl := h4))
    go_roundw
    case rel => exact ⟨q + 1, by omega, by go_num, HN2.out, HWR.out, hsr, HXR.out⟩
    case measure => simp only [intOf]; omega
   | false =>
    have HRQ : Hid (r1t x = (q : Int)) := by show _ = _; rw [HQ.out, hfw, if_pos (.inr rfl)]
    have HSF : Hid (shf x = ((q : Int), 2200)) := by
     show shf x = _
     rw [shf_eq, HRQ.out, if_pos (by omega)]
    have cF := fail_c HLr.out 2200 (q : Int)
    rw [if_pos rfl, if_pos rfl] at cF
    clear hfw hlim hs hG hG2
    go_wp2_with (first | (go_at_call 67; refine cG.mono ?_; rintro e w4 ⟨rfl, h4⟩; obtain rfl := h4))
    refine cF.mono ?_
    rintro e w5 ⟨⟨v, rfl⟩, hb5, x5⟩
    have HB5 := hid (And.intro hb5 (BHm.Xb.trans XR.out x5))
    clear hb5 x5
    go_wp2_with fail
    first | go_end0 | ((try simp only [Exit.inBlock, Exit.then]); refine bodyPost_ret (results_none rfl _ _ _) rfl ?_)
    refine ⟨⟨_, rfl⟩, ?_⟩
    unfold LiE
    rw [HSF.out]
    exact HB5.out
  ·have hqe : tn = q := by omega
   subst hqe
   have t0 : decide ((tn : Int) < (tn : Int)) = false := by simp
   have HZ1 : Hid (r1t x < 0) := by show _ < _; rw [HQ.out, List.drop_eq_nil_of_le (by rw [HTN.out]; omega), fw2]; omega
   clear hlt hq HQ hxr
   go_wp2_with fail
   clear y0 y1 y2
   go_loopw [4] (fun i wr => ∃ q : Nat, q <= nc /\ i = .int .i64 q /\ Hid (r1c x = fw2 8192 (fun L => decide (CPu.ck L (x.t.length : Int) 64 = 0)) q (x.c.drop q)) /\ Below w.heap.size w wr /\ w.heap.size < wr.heap.size /\ wr.heap[w.heap.size]? = some (.cells #[.slice ta tn tc, .slice ca nc cc, .slice sa ns sc, .slice ba bn bc] 29 (0, 0))) (fun i _ => nc - (intOf i).toNat)
   case atStart => exact ⟨0, by omega, rfl, rfl, HWR.out, hsr, HXR.out⟩
   case round =>
    obtain ⟨q, hq, rfl, HQ, hwr, hsr, hxr⟩ := hrel
    have HWR := hid hwr
    have HXR := hid hxr
    have HLr := hid ((hwr.block X hXl).trans H.out : Lw wr X (.slice ta tn tc) (.slice ca nc cc) (.slice sa ns sc) (.slice ba bn bc) iv bk pl 0 a0 d0 lv nv)
    have XR := hid (BHm.Xb.of hwr (Nat.le_of_lt hXl) : BHm.Xb X w wr)
    have y0 := cell_of hxr 0 _ rfl
    have y1 := cell_of hxr 1 _ rfl
    have y2 := cell_of hxr 2 _ rfl
    by_cases hlt : q < nc
    ·have t0 : decide ((q : Int) < (nc : Int)) = true := by simp; omega
     have i0 : (0 : Int) <= (q : Int) := by omega
     have i1 : (q : Int) < (nc : Int) := by omega
     have hql : q < x.c.length := by rw [HCN.out]; exact hlt
     have hfw := fw2_drop 8192 (fun L => decide (CPu.ck L (x.t.length : Int) 64 = 0)) hql
     obtain ⟨g, o, cp, hsl, -, -, hg, ⟨cv, k0, hcr⟩⟩ := RrS.at HC.out hql
     rw [HCN.out] at hsl
     cases hsl
     rw [Nat.mul_one] at k0
     have k0 := IBase.below_cell k0 hwr
     have hd : Below w.heap.size w wr.drew := hwr.drew
     have hr4 := hcr.keep (Ly' := LyN) (S' := R) (w' := wr.drew) (fun _ h => h) fun g o x _ hg h => kN (S := R) (w := w) (w' := wr.drew) (fun b hb hl => hd.block b (HR.out b hb)) hg h
     have cK := CRc.rcheck_c (BFx.cx_of hr4 (fun g hg => by have := HR.out g hg; have := hd.size; omega)) (Nat.le_refl _) (tn : Int) 64
     obtain ⟨la3, lc3, rfl, -⟩ : ∃ a c, cv = .slice a x.c[q].length c /\ True := by obtain ⟨a, c, e, -⟩ := hcr; exact ⟨a, c, e, trivial⟩
     rw [HTN.out] at hfw
     obtain ⟨zz, hzz⟩ : ∃ zz, CPu.ck x.c[q] (tn : Int) 64 = zz := ⟨_, rfl⟩
     rw [hzz] at cK hfw
     obtain ⟨nl, hnl⟩ : ∃ nl, x.c[q].length = nl := ⟨_, rfl⟩
     rw [hnl] at cK k0
     by_cases hlim : 8192 <= q
     ·have HRQ : Hid (r1c x = (q : Int)) := by show _ = _; rw [HQ.out, HTN.out, hfw, if_pos (.inl hlim)]
      have l1 : decide ((8192 : Int) <= (q : Int)) = true := by simp; omega
      have l2 : decide (8192 <= q) = true := by simp; omega
      have HSF : Hid (shf x = ((q : Int), 2201)) := by
       show shf x = _
       rw [shf_eq, if_neg (by have := HZ1.out; omega), HRQ.out, if_pos (by omega)]
      have cF := fail_c HLr.out 2201 (q : Int)
      rw [if_pos rfl, if_pos rfl] at cF
      clear hlim hfw
      go_wp2_with fail
      go_quiet (fail)
      go_wp2_with fail
      refine (fail_c (((IBase.below_drewN HWR.out).block X hXl).trans H.out) 2201 (q : Int)).mono ?_
      rintro e w5 ⟨⟨v, rfl⟩, hb5, x5⟩
      rw [if_pos rfl, if_pos rfl] at hb5
      have HB5 := hid (And.intro hb5 (BHm.Xb.trans (BHm.Xb.of (IBase.below_drewN HWR.out) (Nat.le_of_lt hXl)) x5))
      clear hb5 x5
      go_wp2_with fail
      first | go_end0 | ((try simp only [Exit.inBlock, Exit.then]); refine bodyPost_ret (results_none rfl _ _ _) rfl ?_)
      refine ⟨⟨_, rfl⟩, ?_⟩
      unfold LiE
      rw [HSF.out]
      exact HB5.out
     have l1 : decide ((8192 : Int) <= (q : Int)) = false := by simp; omega
     have l2 : decide (8192 <= q) = false := by simp; omega
     by_cases hz0 : zz = 0
     ·have dz : (zz != 0) = false := by simp [hz0]
      have HN2 : Hid (r1c x = fw2 8192 (fun L => decide (CPu.ck L (x.t.length : Int) 64 = 0)) (q + 1) (x.c.drop (q + 1))) := by show _ = _; rw [HQ.out, HTN.out, hfw, if_neg (by rintro (h | h); omega; simp [hz0] at h)]
      clear hfw hlim hz0 hnl hr4 hcr hzz
      go_wp2_with fail
      go_region_held3 (fun w' => w'.cell? ⟨w.heap.size, 0, none⟩ = some (.slice ta tn tc) /\ w'.cell? ⟨w.heap.size, 1, none⟩ = some (.slice (some ⟨g, o, none⟩) nc cc) /\ w'.cell? ⟨g, o + q, none⟩ = some (.slice la3 nl lc3)) (go_keep) (first
       | (go_at_call 95; refine cK.mono ?_; rintro e w4 ⟨rfl, b4⟩; have HB4 := hid ((Below.refl _ wr).drew.trans b4); have q0 := IBase.below_cell y0 HB4.out; have q1 := IBase.below_cell y1 HB4.out; have q2 := IBase.below_cell k0 HB4.out; clear b4)
       | fail)
      rename_i hHeld
      clear hHeld
      go_wp2_with fail
      go_roundw
      case rel => exact ⟨q + 1, by omega, by go_num, HN2.out, HWR.out.trans (HB4.out.mono (Nat.le_of_lt hsr)), by have := HB4.out.size; omega, (HB4.out.block _ hsr).trans HXR.out⟩
      case measure => simp only [intOf]; omega
     ·have dz : (zz != 0) = true := by simp [hz0]
      have HRQ : Hid (r1c x = (q : Int)) := by show _ = _; rw [HQ.out, HTN.out, hfw, if_pos (.inr (by simp [hz0]))]
      have HSF : Hid (shf x = ((q : Int), 2201)) := by
       show shf x = _
       rw [shf_eq, if_neg (by have := HZ1.out; omega), HRQ.out, if_pos (by omega)]
      have cF := fail_c HLr.out 2201 (q : Int)
      rw [if_pos rfl, if_pos rfl] at cF
      clear hfw hlim hz0 hnl hr4 hcr hzz cF
      go_wp2_with fail
      go_region_held3 (fun w' => w'.cell? ⟨w.heap.size, 0, none⟩ = some (.slice ta tn tc) /\ w'.cell? ⟨w.heap.size, 1, none⟩ = some (.slice (some ⟨g, o, none⟩) nc cc) /\ w'.cell? ⟨g, o + q, none⟩ = some (.slice la3 nl lc3)) (go_keep) (first
       | (go_at_call 95; refine cK.mono ?_; rintro e w4 ⟨rfl, b4⟩; have HB4 := hid ((Below.refl _ wr).drew.trans b4); have q0 := IBase.below_cell y0 HB4.out; have q1 := IBase.below_cell y1 HB4.out; have q2 := IBase.below_cell k0 HB4.out; clear b4)
       | fail)
      rename_i hHeld
      clear hHeld
      have HW4 := hid (HWR.out.trans (HB4.out.mono (Nat.le_of_lt hsr)) : Below w.heap.size w w4)
      have cF := fail_c ((HW4.out.block X hXl).trans H.out) 2201 (q : Int)
      rw [if_pos rfl, if_pos rfl] at cF
      go_wp2_with fail
      refine cF.mono ?_
      rintro e w5 ⟨⟨v, rfl⟩, hb5, x5⟩
      have HB5 := hid (And.intro hb5 (BHm.Xb.trans (BHm.Xb.of HW4.out (Nat.le_of_lt hXl)) x5))
      clear hb5 x5
      go_wp2_with fail
      first | go_end0 | ((try simp only [Exit.inBlock, Exit.then]); refine bodyPost_ret (results_none rfl _ _ _) rfl ?_)
      refine ⟨⟨_, rfl⟩, ?_⟩
      unfold LiE
      rw [HSF.out]
      exact HB5.out
    ·have hqe : nc = q := by omega
     subst hqe
     have t0 : decide ((nc : Int) < (nc : Int)) = false := by simp
     have HZ2 : Hid (r1c x < 0) := by show _ < _; rw [HQ.out, List.drop_eq_nil_of_le (by rw [HCN.out]; omega), fw2]; omega
     clear hlt hq HQ hxr
     go_wp2_with fail
     clear y0 y1 y2
     go_loopw [5] (fun i wr => ∃ q : Nat, q <= ns /\ i = .int .i64 q /\ Hid (r1s x = fw2 4096 elm q (x.s.drop q)) /\ Below w.heap.size w wr /\ w.heap.size < wr.heap.size /\ wr.heap[w.heap.size]? = some (.cells #[.slice ta tn tc, .slice ca nc cc, .slice sa ns sc, .slice ba bn bc] 29 (0, 0))) (fun i _ => ns - (intOf i).toNat)
     case atStart => exact ⟨0, by omega, rfl, rfl, HWR.out, hsr, HXR.out⟩
     case round =>
      obtain ⟨q, hq, rfl, HQ, hwr, hsr, hxr⟩ := hrel
      have HWR := hid hwr
      have HXR := hid hxr
      have HLr := hid ((hwr.block X hXl).trans H.out : Lw wr X (.slice ta tn tc) (.slice ca nc cc) (.slice sa ns sc) (.slice ba bn bc) iv bk pl 0 a0 d0 lv nv)
      have XR := hid (BHm.Xb.of hwr (Nat.le_of_lt hXl) : BHm.Xb X w wr)
      have y0 := cell_of hxr 0 _ rfl
      have y1 := cell_of hxr 1 _ rfl
      have y2 := cell_of hxr 2 _ rfl
      by_cases hlt : q < ns
      ·have t0 : decide ((q : Int) < (ns : Int)) = true := by simp; omega
       have i0 : (0 : Int) <= (q : Int) := by omega
       have i1 : (q : Int) < (ns : Int) := by omega
       have hql : q < x.s.length := by rw [HSN.out]; exact hlt
       have hfw := fw2_drop 4096 elm hql
       obtain ⟨g, o, rfl, -, hn2, hn3, hin⟩ := BQi.inl_one HSS.out hql
       obtain ⟨u, hu, hi⟩ : ∃ u, TBase.Four w g (o + q * 4) u /\ TBase.In false TBase.All w m u x.s[q] := by
        obtain ⟨a', cap', e, -, -, -, -, h5⟩ := HSS.out
        cases e
        rcases h5 with ⟨e, -⟩ | ⟨g', o', e, -, hc, -⟩
        ·rw [e] at hql; simp at hql
        ·cases e
         obtain ⟨u, hu, hi⟩ := hc q hql
         exact ⟨u, hu, hi.plain⟩
       obtain ⟨v0, v1, v2, v3, rfl, -⟩ := hi.four
       obtain ⟨m', a1, e1, a2, e2, -, rfl, rfl, rfl, rfl, -⟩ := hi.kinds
       obtain ⟨_, _, _, _, E, k0, -⟩ := hu
       cases E
       have k0 := IBase.below_cell k0 hwr
       have cK := RLook.rcheck_c m _ _ wr (hin.below hwr)
       have en := @BFx.elm_no x.s[q]
       have eg := @BFx.elm_go x.s[q]
       obtain ⟨ck, hck⟩ : ∃ ck, TMeas.ck [x.s[q]] = ck := ⟨_, rfl⟩
       rw [hck] at cK eg
       obtain ⟨el, hel⟩ : ∃ el, elm x.s[q] = el := ⟨_, rfl⟩
       rw [hel] at en eg hfw
       obtain ⟨tg, htg⟩ : ∃ tg, x.s[q].g = tg := ⟨_, rfl⟩
       rw [htg] at k0 en eg
       obtain ⟨q1, hq1⟩ : ∃ q1 : Nat, q + 1 = q1 := ⟨_, rfl⟩
       have hw3 : IntKind.i64.wrap ((q : Int) + 1) = (q1 : Int) := by rw [IntKind.wrap_i64]; omega
       have j2 : (q1 : Int) <= (sc : Int) := by omega
       have j3 : (q : Int) <= (q1 : Int) := by omega
       have j4 : (0 : Int) <= (q1 : Int) := by omega
       have j5 : q1 - q = 1 := by omega
       have hsq : ¬ sc = q := by omega
       have HQ1 := hid hq1
       clear hin hi hck htg hn3 hq1
       by_cases hlim : 4096 <= q
       ·have HRQ : Hid (r1s x = (q : Int)) := by show _ = _; rw [HQ.out, hfw, if_pos (.inl hlim)]
        have l1 : decide ((4096 : Int) <= (q : Int)) = true := by simp; omega
        have l2 : decide (4096 <= q) = true := by simp; omega
        have HSF : Hid (shf x = ((q : Int), 2202)) := by
         show shf x = _
         rw [shf_eq, if_neg (by have := HZ1.out; omega), if_neg (by have := HZ2.out; omega), HRQ.out, if_pos (by omega)]
        have cF := fail_c HLr.out 2202 (q : Int)
        rw [if_pos rfl, if_pos rfl] at cF
        clear hlim hfw en eg hn2
        go_wp2_with fail
        refine cF.mono ?_
        rintro e w5 ⟨⟨v, rfl⟩, hb5, x5⟩
        have HB5 := hid (And.intro hb5 (BHm.Xb.trans XR.out x5))
        clear hb5 x5
        go_wp2_with fail
        first | go_end0 | ((try simp only [Exit.inBlock, Exit.then]); refine bodyPost_ret (results_none rfl _ _ _) rfl ?_)
        refine ⟨⟨_, rfl⟩, ?_⟩
        unfold LiE
        rw [HSF.out]
        exact HB5.out
       have l1 : decide ((4096 : Int) <= (q : Int)) = false := by simp; omega
       have l2 : decide (4096 <= q) = false := by simp; omega
       cases hg : tg.toList.isEmpty with
       | true =>
        have hz := en hg
        have HRQ : Hid (r1s x = (q : Int)) := by show _ = _; rw [HQ.out, hfw, if_pos (.inr hz)]
        have HSF : Hid (shf x = ((q : Int), 2202)) := by
         show shf x = _
         rw [shf_eq, if_neg (by have := HZ1.out; omega), if_neg (by have := HZ2.out; omega), HRQ.out, if_pos (by omega)]
        have cF := fail_c HLr.out 2202 (q : Int)
        rw [if_pos rfl, if_pos rfl] at cF
        clear hfw hlim en eg hz cK
        go_wp2_with fail
        refine cF.mono ?_
        rintro e w5 ⟨⟨v, rfl⟩, hb5, x5⟩
        have HB5 := hid (And.intro hb5 (BHm.Xb.trans XR.out x5))
        clear hb5 x5
        go_wp2_with fail
        first | go_end0 | ((try simp only [Exit.inBlock, Exit.then]); refine bodyPost_ret (results_none rfl _ _ _) rfl ?_)
        refine ⟨⟨_, rfl⟩, ?_⟩
        unfold LiE
        rw [HSF.out]
        exact HB5.out
       | false =>
       have hz := eg hg
       by_cases hc0 : ck = 0
       ·have dz : (((ck : Nat) : Int) != 0) = false := by simp [hc0]
        have dz2 : (ck != 0) = false := by simp [hc0]
        have HN2 : Hid (r1s x = fw2 4096 elm (q + 1) (x.s.drop (q + 1))) := by show _ = _; rw [HQ.out, hfw, if_neg (by rintro (h | h); omega; rw [hz, decide_eq_true hc0] at h; cases h)]
        clear hfw hlim en eg hz hc0 hel
        go_wp2_with (first | (go_at_call 96; refine cK.mono ?_; rintro e w4 ⟨rfl, b4⟩; have HB4 := hid b4; clear b4))
        go_roundw
        case rel => exact ⟨q + 1, by omega, by have := HQ1.out; subst this; go_num, HN2.out, HWR.out.trans (HB4.out.mono (Nat.le_of_lt hsr)), by have := HB4.out.size; omega, (HB4.out.block _ hsr).trans HXR.out⟩
        case measure => have := HQ1.out; simp only [intOf]; omega
       ·have dz : (((ck : Nat) : Int) != 0) = true := by simp [hc0]
        have dz2 : (ck != 0) = true := by simp [hc0]
        have HRQ : Hid (r1s x = (q : Int)) := by show _ = _; rw [HQ.out, hfw, if_pos (.inr (by rw [hz, decide_eq_false hc0]))]
        have HSF : Hid (shf x = ((q : Int), 2202)) := by
         show shf x = _
         rw [shf_eq, if_neg (by have := HZ1.out; omega), if_neg (by have := HZ2.out; omega), HRQ.out, if_pos (by omega)]
        have cF := fail_c HLr.out 2202 (q : Int)
        rw [if_pos rfl, if_pos rfl] at cF
        clear hfw hlim en eg hz hc0 hel cF
        go_wp2_with (first | (go_at_call 96; refine cK.mono ?_; rintro e w4 ⟨rfl, b4⟩; have HB4 := hid b4; clear b4; have HW4 := hid (HWR.out.trans (HB4.out.mono (Nat.le_of_lt hsr)) : Below w.heap.size w w4); have cF := fail_c ((HW4.out.block X hXl).trans H.out) 2202 (q : Int); rw [if_pos rfl, if_pos rfl] at cF))
        refine cF.mono ?_
        rintro e w5 ⟨⟨v, rfl⟩, hb5, x5⟩
        have HB5 := hid (And.intro hb5 (BHm.Xb.trans (BHm.Xb.of HW4.out (Nat.le_of_lt hXl)) x5))
        clear hb5 x5
        go_wp2_with fail
        first | go_end0 | ((try simp only [Exit.inBlock, Exit.then]); refine bodyPost_ret (results_none rfl _ _ _) rfl ?_)
        refine ⟨⟨_, rfl⟩, ?_⟩
        unfold LiE
        rw [HSF.out]
        exact HB5.out
      ·have hqe : ns = q := by omega
       subst hqe
       have t0 : decide ((ns : Int) < (ns : Int)) = false := by simp
       have HZ3 : Hid (r1s x < 0) := by show _ < _; rw [HQ.out, List.drop_eq_nil_of_le (by rw [HSN.out]; omega), fw2]; omega
       have HSF : Hid (shf x = (0, 0)) := by
        show shf x = _
        rw [shf_eq, if_neg (by have := HZ1.out; omega), if_neg (by have := HZ2.out; omega), if_neg (by have := HZ3.out; omega)]
       clear hlt hq HQ hxr
       go_wp2_with fail
       go_end0
       refine ⟨⟨_, rfl⟩, ?_⟩
       unfold LiE
       rw [HSF.out, if_pos rfl]
       exact ⟨HLr.out, XR.out⟩
end Go.Proofs.YtaiackmmmlhgbaaGreat.BQt
namespace Go.Proofs.YtaiackmmmlhgbaaGreat.BQw
open Go.RowKit BPl BGd BTr BQg BRh BPs
open YPl (Oq Bk Pg)
open TBase (T)
theorem gos_ghl {S : Sh} {nb : Nat} {ops : List Oq} : ∀ (l : List Oq) (i : Nat) (b : Bd) (H : List Ar) (be : Bd) (He : List Ar), gos S nb ops i l b H = .ok (be, He) -> Gb b -> Gh H -> Gh He /\ He.length = H.length
 | [], i, b, H, be, He, h, hg, hH => by rw [gos] at h; cases h; exact ⟨hH, rfl⟩
 | o :: r, i, b, H, be, He, h, hg, hH => by
  rw [gos] at h
  cases e : opf S nb ops b H i o with
  | error c => rw [e] at h; cases h
  | ok H' =>
   rw [e] at h
   obtain ⟨h1, h2⟩ := opf_gh e hg hH
   obtain ⟨h3, h4⟩ := gos_ghl r _ _ _ _ _ h (gb_pass e hg) h1
   exact ⟨h3, h4.trans h2⟩
theorem rone_ok {S : Sh} {nb : Nat} {k : Bk} {H He : List Ar} (hG : Gh H) (h : rone S nb k H = .ok He) : blf S nb k H = .ok He /\ Gh He /\ He.length = H.length := by
 rw [rone_eq hG] at h
 obtain ⟨h1, -, be, h3⟩ := blf_ok h
 have hga : Ga (H.getD nb ar0) := by
  rw [List.getD_eq_getElem?_getD] at h1 ⊢
  cases e : H[nb]? with
  | none => rw [e] at h1; cases h1
  | some A => rw [e] at h1; exact hG A (List.mem_of_getElem? e) h1
 exact ⟨h, gos_ghl _ _ _ _ _ _ h3 ⟨hga, Int.le_refl 0, (by simp), by simpa using hga.1, by simpa using hga.2.2.1⟩ hG⟩
theorem rone_er {S : Sh} {nb : Nat} {k : Bk} {H : List Ar} {q : Int × Int} (hG : Gh H) (h : rone S nb k H = .error q) : blf S nb k H = .error q /\ q.2 ≠ 0 := by
 rw [rone_eq hG] at h
 exact ⟨h, blf_ne h⟩
theorem dep_one {l : List T} {q : Nat} (h : TShallow.depL l <= q) : ∀ t ∈ l, TShallow.depL [t] <= q := fun t ht => by
 obtain ⟨j, hj, rfl⟩ := List.getElem_of_mem ht
 have := TShallow.depL_le.1 h j hj
 rw [TShallow.depL_cons, TShallow.depL]
 omega
theorem infoQ : (prog.info? 109).map (fun i => (i.zero, i.size, i.bytes)) = some (some (.agg #[.int .i64 0, .int .i64 0, .int .i64 0, .bool false, .bool false]), 5, 32) := by kernel_rfl
def mkq (n : Nat) : Array Value := madeCells (Value.agg #[.int .i64 0, .int .i64 0, .int .i64 0, .bool false, .bool false]).cells (n * 5)
theorem mkq_eq (n : Nat) : mkq n = (hds (List.replicate n ar0)).toArray := by
 apply Array.ext_getElem?
 intro i
 by_cases hi : i < n * 5
 ·have hq : i / 5 < (List.replicate n ar0).length := by rw [List.length_replicate]; omega
  have e := hds_at (List.replicate n ar0) (i / 5) (i % 5) hq (by omega)
  have ei : i / 5 * 5 + i % 5 = i := by omega
  rw [ei, List.getElem_replicate] at e
  have e2 : (hds (List.replicate n ar0)).toArray[i]? = (hd ar0)[i % 5]? := by simpa using e
  rw [e2]
  unfold mkq madeCells
  rw [Array.getElem?_map, Array.getElem?_range]
  simp only [hi, if_true, Option.map_some]
  rw [show (Value.agg #[.int .i64 0, .int .i64 0, .int .i64 0, .bool false, .bool false]).cells.size = 5 from rfl]
  have h5 : i % 5 < 5 := by omega
  match i % 5, h5 with
  | 0, _ | 1, _ | 2, _ | 3, _ | 4, _ => rfl
 ·have h1 : (mkq n).size = n * 5 := size_madeCells _ _
  have h2 : (hds (List.replicate n ar0)).toArray.size = n * 5 := by simp [hds_len]
  rw [Array.getElem?_eq_none (by omega), Array.getElem?_eq_none (by omega)]
theorem make_q {n : Nat} (h2 : n <= 8192) (w : World) : (Instr.makeSlice 104 (.int .i64 n) (.int .i64 n)).run prog w = .ok (.slice (some ⟨w.heap.size, 0, none⟩) n n) (w.alloc (.cells (mkq n) 109)) := by
 obtain ⟨i0, hi, hz0, hz1, hz2⟩ := info_parts infoQ
 have := run_makeSlice (P := prog) w 104 109 i0 _ underlying104 hi hz0 .i64 .i64 n n (by omega) (by omega) (by rw [hz1, Int.toNat_natCast]; omega) (by rw [hz2]; omega) (by omega)
 rw [Int.toNat_natCast, hz1] at this
 exact this
end Go.Proofs.YtaiackmmmlhgbaaGreat.BQw
