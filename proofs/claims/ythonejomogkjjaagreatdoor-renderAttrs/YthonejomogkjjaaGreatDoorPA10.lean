import Derived.Test.YthonejomogkjjaaGreatDoorPA03
import Derived.Test.YthonejomogkjjaaGreatDoorPA08
import Derived.Test.YthonejomogkjjaaGreatDoorPA09
set_option linter.unusedVariables false
set_option maxRecDepth 20000
set_option maxHeartbeats 3200000
namespace Go.Proofs.YthonejomogkjjaaGreatDoor.VRs
open Go.RowKit Base EPure VPure VSm VIn VJn Sums
def VR (K m : Nat) (w : World) (a : Ans) (e : Ending) (w' : World) : Prop := Below w.heap.size w w' ∧ match a with
 | .ok c => ∃ u, e = .returned u ∧ Base.In false (fun b => b < K) w' m u c
 | .error n => e = .panicked (pkE n)
theorem in_low {K m : Nat} {w w' : World} {u : Value} {c : C} (h : Base.In false (fun b => b < K) w m u c) (hb : Below K w w') : Base.In false (fun b => b < K) w' m u c := h.keep fun b hb' _ => hb.block b hb'
theorem in_v0 (S : Nat → Prop) (w : World) (m : Nat) {k i : Int} (b : Bool) {s : ByteArray} (hk : -9223372036854775808 ≤ k ∧ k ≤ 9223372036854775807) (hi : -9223372036854775808 ≤ i ∧ i ≤ 9223372036854775807) (hs : s.size ≤ 140737488351232) :
  Base.In false S w (m + 1) (v0 k b i s) (.mk k b i s [] []) := by
 rw [Base.in_iff]
 refine ⟨_, _, rfl, hk, hi, hs, ⟨none, 0, rfl, Nat.le_refl _, Nat.zero_le _, by simp, by simp, fun _ => rfl, .inl ⟨rfl, rfl⟩⟩, none, 0, rfl, Nat.le_refl _, Nat.zero_le _, by simp, fun _ => rfl, .inl ⟨rfl, rfl⟩⟩
theorem in_int (S : Nat → Prop) (w : World) (m : Nat) {i : Int} (hi : -9223372036854775808 ≤ i ∧ i ≤ 9223372036854775807) : Base.In false S w (m + 1) (v0 3 false i ⟨#[]⟩) (intC i) := in_v0 S w m false (by omega) hi (by decide)
theorem in_boo (S : Nat → Prop) (w : World) (m : Nat) (b : Bool) : Base.In false S w (m + 1) (v0 2 b 0 ⟨#[]⟩) (booC b) := in_v0 S w m b (by omega) (by omega) (by decide)
theorem in_str (S : Nat → Prop) (w : World) (m : Nat) {s : ByteArray} (hs : s.size ≤ 140737488351232) : Base.In false S w (m + 1) (v0 4 false 0 s) (strC s) := in_v0 S w m false (by omega) (by omega) hs
theorem in_nul (S : Nat → Prop) (w : World) (m : Nat) : Base.In false S w (m + 1) (v0 1 false 0 ⟨#[]⟩) nulC := in_v0 S w m false (by omega) (by omega) (by decide)
theorem in_zer (S : Nat → Prop) (w : World) (m : Nat) : Base.In false S w (m + 1) (v0 0 false 0 ⟨#[]⟩) zerC := in_v0 S w m false (by omega) (by omega) (by decide)
theorem wh_rng {o x y : Int} (hx : -9223372036854775808 ≤ x ∧ x ≤ 9223372036854775807) : -9223372036854775808 ≤ (wh o x y).1 ∧ (wh o x y).1 ≤ 9223372036854775807 := by
 unfold wh
 have hn : ∀ z : Int, -9223372036854775808 ≤ num z ∧ num z ≤ 9223372036854775807 := fun z => ⟨num_ge z, num_le z⟩
 repeat' split
 all_goals first
  | exact hn _
  | (unfold WhA.dnum; split; (omega); exact hn _)
  | (unfold WhA.mnum; split; (omega); exact WhA.tmod_range _ hx.1 hx.2)
  | exact WhA.div_range hx.1 hx.2 (Int.pow_pos (by omega))
  | (exact ⟨by omega, by omega⟩)
theorem an_vr {K m : Nat} {w w' : World} {e : Ending} {a : Except Nat Int} (hr : ∀ c, a = .ok c → -9223372036854775808 ≤ c ∧ c ≤ 9223372036854775807) (h : An w w' e (fun c : Int => v0 3 false c ⟨#[]⟩) a) : VR K (m + 1) w (mapI a) e w' := by
 cases a with
 | error n => exact ⟨h.2, h.1⟩
 | ok c => exact ⟨h.2, _, h.1, in_int _ w' m (hr c rfl)⟩
theorem tw_ok {k1 k2 x e0 c : Int} (h : twI k1 k2 x e0 = .ok c) : c = x := by
 unfold twI chkI at h
 repeat' split at h
 all_goals first | (injection h with h; exact h.symm) | (cases h)
theorem in_shape {S : Nat → Prop} {w : World} {m : Nat} {u : Value} {c : C} (h : Base.In false S w m u c) : ∃ an ln cn al ll cl, u = vl c.k c.b c.i c.s (.slice an ln cn) (.slice al ll cl) := by
 obtain ⟨m', nv, lv, -, hu, -, -, -, hn, hl⟩ := h.shape
 obtain ⟨an, cn, rfl, -⟩ := hn
 obtain ⟨al, cl, rfl, -⟩ := hl
 exact ⟨an, _, cn, al, _, cl, hu⟩
theorem in_rng {S : Nat → Prop} {w : World} {m : Nat} {u : Value} {c : C} (h : Base.In false S w m u c) : -9223372036854775808 ≤ c.i ∧ c.i ≤ 9223372036854775807 := by
 obtain ⟨m', nv, lv, -, hu, -, hi, -, -, -⟩ := h.shape
 exact hi
end Go.Proofs.YthonejomogkjjaaGreatDoor.VRs
namespace Go.Proofs.YthonejomogkjjaaGreatDoor.VPk
open Go.RowKit Base EPure VPure VSm VIn VEx VJn VRs Sums
def PairOk (o : Int) : Prop := ∀ (K m : Nat) (w : World) (va vb : Value) (a b : C), K ≤ w.heap.size → Tb w → Base.In false (fun b => b < K) w (m + 1) va a → Base.In false (fun b => b < K) w (m + 1) vb b → wf a → Calls Tryz.prog 151 #[.int .i64 o, va, vb] w fun e w' => VR K (m + 1) w (pr2 o a b) e w'
theorem pair15 : PairOk 15 := by
 intro K m w va vb a b hK hT hva hvb hwf
 obtain ⟨an, ln, cn, al, ll, cl, rfl⟩ := in_shape hva
 obtain ⟨bn, mn, dn, bl, ml, dl, rfl⟩ := in_shape hvb
 have ha := in_rng hva
 have hb := in_rng hvb
 refine (VPn.pair_Add _ _ _ _ _ _ _ _ _ _ _ _ w (wh 15 a.i b.i).1 (wh 15 a.i b.i).2 (fun _ _ W => ?_)).mono ?_
 ·exact WhA.add a.i b.i ha.1 ha.2 hb.1 hb.2 W
 ·intro e w' h
  exact an_vr (fun c hc => by rw [tw_ok hc]; exact wh_rng ha) h
theorem pair16 : PairOk 16 := by
 intro K m w va vb a b hK hT hva hvb hwf
 obtain ⟨an, ln, cn, al, ll, cl, rfl⟩ := in_shape hva
 obtain ⟨bn, mn, dn, bl, ml, dl, rfl⟩ := in_shape hvb
 have ha := in_rng hva
 have hb := in_rng hvb
 refine (VPn.pair_Sub _ _ _ _ _ _ _ _ _ _ _ _ w (wh 16 a.i b.i).1 (wh 16 a.i b.i).2 (fun _ _ W => ?_)).mono ?_
 ·exact WhA.sub a.i b.i ha.1 ha.2 hb.1 hb.2 W
 ·intro e w' h
  exact an_vr (fun c hc => by rw [tw_ok hc]; exact wh_rng ha) h
theorem pair12 : PairOk 12 := by
 intro K m w va vb a b hK hT hva hvb hwf
 obtain ⟨an, ln, cn, al, ll, cl, rfl⟩ := in_shape hva
 obtain ⟨bn, mn, dn, bl, ml, dl, rfl⟩ := in_shape hvb
 have ha := in_rng hva
 have hb := in_rng hvb
 refine (VPn.pair_Mul _ _ _ _ _ _ _ _ _ _ _ _ w (wh 12 a.i b.i).1 (wh 12 a.i b.i).2 (fun _ _ W => ?_)).mono ?_
 ·exact WhA.mul a.i b.i ha.1 ha.2 hb.1 hb.2 W
 ·intro e w' h
  exact an_vr (fun c hc => by rw [tw_ok hc]; exact wh_rng ha) h
theorem pair13 : PairOk 13 := by
 intro K m w va vb a b hK hT hva hvb hwf
 obtain ⟨an, ln, cn, al, ll, cl, rfl⟩ := in_shape hva
 obtain ⟨bn, mn, dn, bl, ml, dl, rfl⟩ := in_shape hvb
 have ha := in_rng hva
 have hb := in_rng hvb
 refine (VPn.pair_Div _ _ _ _ _ _ _ _ _ _ _ _ w (wh 13 a.i b.i).1 (wh 13 a.i b.i).2 (fun _ _ W => ?_)).mono ?_
 ·exact WhA.div a.i b.i ha.1 ha.2 W
 ·intro e w' h
  exact an_vr (fun c hc => by rw [tw_ok hc]; exact wh_rng ha) h
theorem pair14 : PairOk 14 := by
 intro K m w va vb a b hK hT hva hvb hwf
 obtain ⟨an, ln, cn, al, ll, cl, rfl⟩ := in_shape hva
 obtain ⟨bn, mn, dn, bl, ml, dl, rfl⟩ := in_shape hvb
 have ha := in_rng hva
 have hb := in_rng hvb
 refine (VPn.pair_Mod _ _ _ _ _ _ _ _ _ _ _ _ w (wh 14 a.i b.i).1 (wh 14 a.i b.i).2 (fun _ _ W => ?_)).mono ?_
 ·exact WhA.mod a.i b.i W
 ·intro e w' h
  exact an_vr (fun c hc => by rw [tw_ok hc]; exact wh_rng ha) h
theorem pair18 : PairOk 18 := by
 intro K m w va vb a b hK hT hva hvb hwf
 obtain ⟨an, ln, cn, al, ll, cl, rfl⟩ := in_shape hva
 obtain ⟨bn, mn, dn, bl, ml, dl, rfl⟩ := in_shape hvb
 have ha := in_rng hva
 have hb := in_rng hvb
 refine (VPn.pair_Shl _ _ _ _ _ _ _ _ _ _ _ _ w (wh 18 a.i b.i).1 (wh 18 a.i b.i).2 (fun _ _ W => ?_)).mono ?_
 ·by_cases h : 0 ≤ b.i ∧ b.i ≤ 63
  ·have e : wh 18 a.i b.i = (num (a.i * 2 ^ b.i.toNat), err (a.i * 2 ^ b.i.toNat)) := if_pos h
   rw [e]
   exact WhA.shl a.i b.i h.1 h.2 W
  ·have e : wh 18 a.i b.i = (0, 102) := if_neg h
   rw [e]
   exact WhA.shl_bad a.i b.i (by omega) W
 ·intro e w' h
  exact an_vr (fun c hc => by rw [tw_ok hc]; exact wh_rng ha) h
theorem pair19 : PairOk 19 := by
 intro K m w va vb a b hK hT hva hvb hwf
 obtain ⟨an, ln, cn, al, ll, cl, rfl⟩ := in_shape hva
 obtain ⟨bn, mn, dn, bl, ml, dl, rfl⟩ := in_shape hvb
 have ha := in_rng hva
 have hb := in_rng hvb
 refine (VPn.pair_Shr _ _ _ _ _ _ _ _ _ _ _ _ w (wh 19 a.i b.i).1 (wh 19 a.i b.i).2 (fun _ _ W => ?_)).mono ?_
 ·by_cases h : 0 ≤ b.i ∧ b.i ≤ 63
  ·have e : wh 19 a.i b.i = (a.i / 2 ^ b.i.toNat, 0) := if_pos h
   rw [e]
   exact WhA.shr a.i b.i h.1 h.2 W
  ·have e : wh 19 a.i b.i = (0, 102) := if_neg h
   rw [e]
   exact WhA.shr_bad a.i b.i (by omega) W
 ·intro e w' h
  exact an_vr (fun c hc => by rw [tw_ok hc]; exact wh_rng ha) h
theorem pair_cat {m1 m2 : Nat} {c1 c2 : C} (k1 : Int) (b1 : Bool) (i1 : Int) (s1 : ByteArray) (n1 l1 : Value) (k2 : Int) (b2 : Bool) (i2 : Int) (s2 : ByteArray) (n2 l2 : Value) {w : World} (hi1 : Base.In false All w m1 (vl k1 b1 i1 s1 n1 l1) c1) (hi2 : Base.In false All w m2 (vl k2 b2 i2 s2 n2 l2) c2) (ht : Tb w) : Calls Tryz.prog 151 #[.int .i64 17, vl k1 b1 i1 s1 n1 l1, vl k2 b2 i2 s2 n2 l2] w fun e w' => An w w' e (fun s : ByteArray => v0 4 false 0 s) (bnd (txt c1) fun x => bnd (txt c2) fun y => if 4096 < x.size + y.size then .error 1107 else .ok (x ++ y)) := by
 obtain ⟨W0, hW0, hs0, hb0, hp, hq, hr⟩ := two3 w #[.int .i64 k1, .bool b1, .int .i64 i1, .string s1, n1, l1] #[.int .i64 k2, .bool b2, .int .i64 i2, .string s2, n2, l2]
 have HR : Hid (W0.heap[w.heap.size + 2]? = some (.cells #[.int .i64 0, .bool false, .int .i64 0, .string ⟨#[]⟩, .slice none 0 0, .slice none 0 0] 26 (0, 0))) := hr
 have HB : Hid (Below w.heap.size w W0) := hb0
 obtain ⟨p0, p1, p2, p3, p4, p5⟩ := six_box hp
 obtain ⟨q0, q1, q2, q3, q4, q5⟩ := six_box hq
 have cJ := join_c k1 b1 i1 s1 n1 l1 k2 b2 i2 s2 n2 l2 (hi1.below hb0) (hi2.below hb0) (ht.below hb0)
 generalize (bnd (txt c1) fun x => bnd (txt c2) fun y => if 4096 < x.size + y.size then (.error 1107 : Except Nat ByteArray) else .ok (x ++ y)) = U at *
 clear hp hq hb0 hr hi1 hi2 ht
 go_enter Tryz.func151, Tryz.ntmps151
 go_upto_if 35 with fail
 refine wp_cond_true (by rfl) ?_
 refine wp_exit ?_
 repeat (first | (with_reducible refine ex_then ?_) | (with_reducible refine ex_skip (by decide) ?_))
 refine ex_hit ?_
 refine ex_norm ?_
 apply_assumption
 refine wp_mono (Q := Out ?outB) ?outM (out_mono ?outR ?outP)
 case outR => intro a w h; (repeat (first | (with_reducible refine rt_then ?_) | (with_reducible refine rt_blk ?_))); exact h
 case outP => intro c a w h; (repeat (first | (with_reducible refine pn_then ?_) | (with_reducible refine pn_blk ?_))); exact h
 try simp only [hW0]
 go_wp2_with fail
 try rw [hW0]
 refine cJ.mono ?_
 intro e W1 hA
 clear cJ
 cases U with
 | error c =>
  obtain ⟨rfl, hb1⟩ := hA
  exact ⟨rfl, rfl, HB.out.trans (hb1.mono HB.out.size)⟩
 | ok y =>
  obtain ⟨rfl, hb1⟩ := hA
  have hr := (hb1.block (w.heap.size + 2) (by omega)).trans HR.out
  have HB3 : Hid (Below w.heap.size w W1) := HB.out.trans (hb1.mono HB.out.size)
  clear hb1 HB HR p0 p1 p2 p3 p4 p5 q0 q1 q2 q3 q4 q5
  obtain ⟨r0, r1, r2, r3, r4, r5⟩ := six_box hr
  have rf0 := frozen_box hr 0
  have rf1 := frozen_box hr 1
  have rf2 := frozen_box hr 2
  have rf3 := frozen_box hr 3
  have rf4 := frozen_box hr 4
  have rf5 := frozen_box hr 5
  go_wp2_with fail
  obtain ⟨W9, hW9⟩ : ∃ W9, ((((((W1.setCell ⟨w.heap.size + 2, 0, none⟩ (.int .i64 4)).setCell ⟨w.heap.size + 2, 1, none⟩ (.bool false)).setCell ⟨w.heap.size + 2, 2, none⟩ (.int .i64 0)).setCell ⟨w.heap.size + 2, 3, none⟩ (.string y)).setCell ⟨w.heap.size + 2, 4, none⟩ (.slice none 0 0)).setCell ⟨w.heap.size + 2, 5, none⟩ (.slice none 0 0)) = W9 := ⟨_, rfl⟩
  rw [hW9]
  obtain ⟨q1, q2, q3, q4⟩ := set6 _ _ _ _ _ _ hr hW9
  refine out_ret (results_cell_row rfl _ W9 (w.heap.size + 2) 26 _ (0, 0) _ rfl q1 Tryz.underlying26 rfl (by kernel_rfl)) rfl ?_
  exact ⟨rfl, q4 _ _ (by omega) HB3.out⟩
theorem pair17 : PairOk 17 := by
 intro K m w va vb a b hK hT hva hvb hwf
 have hz1 := fun x => @txt_le _ _ _ _ hva.plain x
 have hz2 := fun x => @txt_le _ _ _ _ hvb.plain x
 have h1 := hva.plain
 have h2 := hvb.plain
 obtain ⟨an, ln, cn, al, ll, cl, rfl⟩ := in_shape hva
 obtain ⟨bn, mn, dn, bl, ml, dl, rfl⟩ := in_shape hvb
 refine (pair_cat _ _ _ _ _ _ _ _ _ _ _ _ h1 h2 hT).mono ?_
 intro e w' h
 have e1 : pr2 17 a b = cat a b := rfl
 rw [e1]
 unfold cat
 generalize txt a = T1 at *
 generalize txt b = T2 at *
 cases T1 with
 | error n => exact ⟨h.2, h.1⟩
 | ok x =>
  cases T2 with
  | error n => exact ⟨h.2, h.1⟩
  | ok y =>
   have hx := hz1 x rfl
   have hy := hz2 y rfl
   by_cases hl : 4096 < x.size + y.size
   ·have e2 : (bnd (.ok x : Except Nat ByteArray) fun x => bnd (.ok y : Except Nat ByteArray) fun y => if 4096 < x.size + y.size then (.error 1107 : Except Nat ByteArray) else .ok (x ++ y)) = .error 1107 := if_pos hl
    have e3 : (bnd (.ok x : Except Nat ByteArray) fun x => bnd (.ok y : Except Nat ByteArray) fun y => if 4096 < x.size + y.size then (.error 1107 : Ans) else .ok (strC (x ++ y))) = .error 1107 := if_pos hl
    rw [e2] at h
    rw [e3]
    exact ⟨h.2, h.1⟩
   ·have e2 : (bnd (.ok x : Except Nat ByteArray) fun x => bnd (.ok y : Except Nat ByteArray) fun y => if 4096 < x.size + y.size then (.error 1107 : Except Nat ByteArray) else .ok (x ++ y)) = .ok (x ++ y) := if_neg hl
    have e3 : (bnd (.ok x : Except Nat ByteArray) fun x => bnd (.ok y : Except Nat ByteArray) fun y => if 4096 < x.size + y.size then (.error 1107 : Ans) else .ok (strC (x ++ y))) = .ok (strC (x ++ y)) := if_neg hl
    rw [e2] at h
    rw [e3]
    exact ⟨h.2, _, h.1, in_str _ w' m (by rw [ByteArray.size_append]; omega)⟩
end Go.Proofs.YthonejomogkjjaaGreatDoor.VPk
namespace Go.Proofs.YthonejomogkjjaaGreatDoor.VPo
open Go.RowKit Base EPure VPure VSm VIn VEx VOr
theorem pair_Less (k1 : Int) (b1 : Bool) (i1 : Int) (s1 : ByteArray) (n1 l1 : Value) (k2 : Int) (b2 : Bool) (i2 : Int) (s2 : ByteArray) (n2 l2 : Value) (w : World) :
  Calls Tryz.prog 151 #[.int .i64 23, vl k1 b1 i1 s1 n1 l1, vl k2 b2 i2 s2 n2 l2] w fun e w' => An w w' e (fun c : Bool => v0 2 c 0 ⟨#[]⟩) (bnd (ord k1 i1 s1 k2 i2 s2) fun c => .ok (decide (c < 0))) := by
 obtain ⟨W0, hW0, hs0, hb0, hp, hq, hr⟩ := two3 w #[.int .i64 k1, .bool b1, .int .i64 i1, .string s1, n1, l1] #[.int .i64 k2, .bool b2, .int .i64 i2, .string s2, n2, l2]
 have HR : Hid (W0.heap[w.heap.size + 2]? = some (.cells #[.int .i64 0, .bool false, .int .i64 0, .string ⟨#[]⟩, .slice none 0 0, .slice none 0 0] 26 (0, 0))) := hr
 have HB : Hid (Below w.heap.size w W0) := hb0
 obtain ⟨p0, p1, p2, p3, p4, p5⟩ := six_box hp
 obtain ⟨q0, q1, q2, q3, q4, q5⟩ := six_box hq
 have cI := order_c k1 b1 i1 s1 n1 l1 k2 b2 i2 s2 n2 l2 W0
 obtain ⟨U, hU⟩ : ∃ U, ord k1 i1 s1 k2 i2 s2 = U := ⟨_, rfl⟩
 rw [hU] at cI ⊢
 clear hp hq hb0 hr hU
 go_enter Tryz.func151, Tryz.ntmps151
 go_upto_if 39 with fail
 refine wp_cond_true (by rfl) ?_
 refine wp_exit ?_
 repeat (first | (with_reducible refine ex_then ?_) | (with_reducible refine ex_skip (by decide) ?_))
 refine ex_hit ?_
 refine ex_norm ?_
 apply_assumption
 refine wp_mono (Q := Out ?outB) ?outM (out_mono ?outR ?outP)
 case outR => intro a w h; (repeat (first | (with_reducible refine rt_then ?_) | (with_reducible refine rt_blk ?_))); exact h
 case outP => intro c a w h; (repeat (first | (with_reducible refine pn_then ?_) | (with_reducible refine pn_blk ?_))); exact h
 try simp only [hW0]
 go_wp2_with fail
 try rw [hW0]
 refine cI.mono ?_
 intro e W1 hA
 clear cI
 cases U with
 | error c =>
  obtain ⟨rfl, hb1⟩ := hA
  exact ⟨rfl, rfl, HB.out.trans (hb1.mono HB.out.size)⟩
 | ok c =>
  obtain ⟨rfl, hb1⟩ := hA
  have HR1 : Hid (W1.heap[w.heap.size + 2]? = some (.cells #[.int .i64 0, .bool false, .int .i64 0, .string ⟨#[]⟩, .slice none 0 0, .slice none 0 0] 26 (0, 0))) := (hb1.block (w.heap.size + 2) (by omega)).trans HR.out
  have hs1 := hb1.size
  have HB1 : Hid (Below w.heap.size w W1) := HB.out.trans (hb1.mono HB.out.size)
  clear hb1 HR HB p0 p1 p2 p3 p4 p5 q0 q1 q2 q3 q4 q5
  obtain ⟨B, hB⟩ : ∃ B, decide (c < 0) = B := ⟨_, rfl⟩
  have cT := truth_c B
  go_wp2_with fail
  refine (cT _).mono ?_
  rintro e W2 ⟨rfl, hb2⟩
  clear cT
  have hr := (hb2.block (w.heap.size + 2) (by omega)).trans HR1.out
  have HB2 : Hid (Below w.heap.size w W2) := HB1.out.trans (hb2.mono HB1.out.size)
  clear hb2 HB1 HR1
  obtain ⟨r0, r1, r2, r3, r4, r5⟩ := six_box hr
  have rf0 := frozen_box hr 0
  have rf1 := frozen_box hr 1
  have rf2 := frozen_box hr 2
  have rf3 := frozen_box hr 3
  have rf4 := frozen_box hr 4
  have rf5 := frozen_box hr 5
  go_wp2_with fail
  obtain ⟨W9, hW9⟩ : ∃ W9, ((((((W2.setCell ⟨w.heap.size + 2, 0, none⟩ (.int .i64 2)).setCell ⟨w.heap.size + 2, 1, none⟩ (.bool B)).setCell ⟨w.heap.size + 2, 2, none⟩ (.int .i64 0)).setCell ⟨w.heap.size + 2, 3, none⟩ (.string ⟨#[]⟩)).setCell ⟨w.heap.size + 2, 4, none⟩ (.slice none 0 0)).setCell ⟨w.heap.size + 2, 5, none⟩ (.slice none 0 0)) = W9 := ⟨_, rfl⟩
  rw [hW9]
  obtain ⟨q1, q2, q3, q4⟩ := set6 _ _ _ _ _ _ hr hW9
  first | refine out_ret (results_cell_row rfl _ W9 (w.heap.size + 2) 26 _ (0, 0) _ rfl q1 Tryz.underlying26 rfl (by kernel_rfl)) rfl ?_ | refine bodyPost_ret (results_cell_row rfl _ W9 (w.heap.size + 2) 26 _ (0, 0) _ rfl q1 Tryz.underlying26 rfl (by kernel_rfl)) rfl ?_
  try subst hB
  exact ⟨rfl, q4 _ _ (by omega) HB2.out⟩
theorem pair_Most (k1 : Int) (b1 : Bool) (i1 : Int) (s1 : ByteArray) (n1 l1 : Value) (k2 : Int) (b2 : Bool) (i2 : Int) (s2 : ByteArray) (n2 l2 : Value) (w : World) :
  Calls Tryz.prog 151 #[.int .i64 24, vl k1 b1 i1 s1 n1 l1, vl k2 b2 i2 s2 n2 l2] w fun e w' => An w w' e (fun c : Bool => v0 2 c 0 ⟨#[]⟩) (bnd (ord k1 i1 s1 k2 i2 s2) fun c => .ok (decide (c ≤ 0))) := by
 obtain ⟨W0, hW0, hs0, hb0, hp, hq, hr⟩ := two3 w #[.int .i64 k1, .bool b1, .int .i64 i1, .string s1, n1, l1] #[.int .i64 k2, .bool b2, .int .i64 i2, .string s2, n2, l2]
 have HR : Hid (W0.heap[w.heap.size + 2]? = some (.cells #[.int .i64 0, .bool false, .int .i64 0, .string ⟨#[]⟩, .slice none 0 0, .slice none 0 0] 26 (0, 0))) := hr
 have HB : Hid (Below w.heap.size w W0) := hb0
 obtain ⟨p0, p1, p2, p3, p4, p5⟩ := six_box hp
 obtain ⟨q0, q1, q2, q3, q4, q5⟩ := six_box hq
 have cI := order_c k1 b1 i1 s1 n1 l1 k2 b2 i2 s2 n2 l2 W0
 obtain ⟨U, hU⟩ : ∃ U, ord k1 i1 s1 k2 i2 s2 = U := ⟨_, rfl⟩
 rw [hU] at cI ⊢
 clear hp hq hb0 hr hU
 go_enter Tryz.func151, Tryz.ntmps151
 go_upto_if 43 with fail
 refine wp_cond_true (by rfl) ?_
 refine wp_exit ?_
 repeat (first | (with_reducible refine ex_then ?_) | (with_reducible refine ex_skip (by decide) ?_))
 refine ex_hit ?_
 refine ex_norm ?_
 apply_assumption
 refine wp_mono (Q := Out ?outB) ?outM (out_mono ?outR ?outP)
 case outR => intro a w h; (repeat (first | (with_reducible refine rt_then ?_) | (with_reducible refine rt_blk ?_))); exact h
 case outP => intro c a w h; (repeat (first | (with_reducible refine pn_then ?_) | (with_reducible refine pn_blk ?_))); exact h
 try simp only [hW0]
 go_wp2_with fail
 try rw [hW0]
 refine cI.mono ?_
 intro e W1 hA
 clear cI
 cases U with
 | error c =>
  obtain ⟨rfl, hb1⟩ := hA
  exact ⟨rfl, rfl, HB.out.trans (hb1.mono HB.out.size)⟩
 | ok c =>
  obtain ⟨rfl, hb1⟩ := hA
  have HR1 : Hid (W1.heap[w.heap.size + 2]? = some (.cells #[.int .i64 0, .bool false, .int .i64 0, .string ⟨#[]⟩, .slice none 0 0, .slice none 0 0] 26 (0, 0))) := (hb1.block (w.heap.size + 2) (by omega)).trans HR.out
  have hs1 := hb1.size
  have HB1 : Hid (Below w.heap.size w W1) := HB.out.trans (hb1.mono HB.out.size)
  clear hb1 HR HB p0 p1 p2 p3 p4 p5 q0 q1 q2 q3 q4 q5
  obtain ⟨B, hB⟩ : ∃ B, decide (c ≤ 0) = B := ⟨_, rfl⟩
  have cT := truth_c B
  go_wp2_with fail
  refine (cT _).mono ?_
  rintro e W2 ⟨rfl, hb2⟩
  clear cT
  have hr := (hb2.block (w.heap.size + 2) (by omega)).trans HR1.out
  have HB2 : Hid (Below w.heap.size w W2) := HB1.out.trans (hb2.mono HB1.out.size)
  clear hb2 HB1 HR1
  obtain ⟨r0, r1, r2, r3, r4, r5⟩ := six_box hr
  have rf0 := frozen_box hr 0
  have rf1 := frozen_box hr 1
  have rf2 := frozen_box hr 2
  have rf3 := frozen_box hr 3
  have rf4 := frozen_box hr 4
  have rf5 := frozen_box hr 5
  go_wp2_with fail
  obtain ⟨W9, hW9⟩ : ∃ W9, ((((((W2.setCell ⟨w.heap.size + 2, 0, none⟩ (.int .i64 2)).setCell ⟨w.heap.size + 2, 1, none⟩ (.bool B)).setCell ⟨w.heap.size + 2, 2, none⟩ (.int .i64 0)).setCell ⟨w.heap.size + 2, 3, none⟩ (.string ⟨#[]⟩)).setCell ⟨w.heap.size + 2, 4, none⟩ (.slice none 0 0)).setCell ⟨w.heap.size + 2, 5, none⟩ (.slice none 0 0)) = W9 := ⟨_, rfl⟩
  rw [hW9]
  obtain ⟨q1, q2, q3, q4⟩ := set6 _ _ _ _ _ _ hr hW9
  first | refine out_ret (results_cell_row rfl _ W9 (w.heap.size + 2) 26 _ (0, 0) _ rfl q1 Tryz.underlying26 rfl (by kernel_rfl)) rfl ?_ | refine bodyPost_ret (results_cell_row rfl _ W9 (w.heap.size + 2) 26 _ (0, 0) _ rfl q1 Tryz.underlying26 rfl (by kernel_rfl)) rfl ?_
  try subst hB
  exact ⟨rfl, q4 _ _ (by omega) HB2.out⟩
end Go.Proofs.YthonejomogkjjaaGreatDoor.VPo
namespace Go.Proofs.YthonejomogkjjaaGreatDoor.VPq
open Go.RowKit Base EPure VPure VSm VIn VEx VOr
theorem pair_More (k1 : Int) (b1 : Bool) (i1 : Int) (s1 : ByteArray) (an1 : Option Addr) (ln1 cn1 : Nat) (al1 : Option Addr) (ll1 cl1 : Nat) (k2 : Int) (b2 : Bool) (i2 : Int) (s2 : ByteArray) (an2 : Option Addr) (ln2 cn2 : Nat) (al2 : Option Addr) (ll2 cl2 : Nat) (w : World) :
  Calls Tryz.prog 151 #[.int .i64 25, vl k1 b1 i1 s1 (.slice an1 ln1 cn1) (.slice al1 ll1 cl1), vl k2 b2 i2 s2 (.slice an2 ln2 cn2) (.slice al2 ll2 cl2)] w fun e w' => An w w' e (fun c : Bool => v0 2 c 0 ⟨#[]⟩) (bnd (ord k2 i2 s2 k1 i1 s1) fun c => .ok (decide (c < 0))) := by
 obtain ⟨W0, hW0, hs0, hb0, hp, hq, hr⟩ := two3 w #[.int .i64 k1, .bool b1, .int .i64 i1, .string s1, (.slice an1 ln1 cn1), (.slice al1 ll1 cl1)] #[.int .i64 k2, .bool b2, .int .i64 i2, .string s2, (.slice an2 ln2 cn2), (.slice al2 ll2 cl2)]
 have HR : Hid (W0.heap[w.heap.size + 2]? = some (.cells #[.int .i64 0, .bool false, .int .i64 0, .string ⟨#[]⟩, .slice none 0 0, .slice none 0 0] 26 (0, 0))) := hr
 have HB : Hid (Below w.heap.size w W0) := hb0
 obtain ⟨p0, p1, p2, p3, p4, p5⟩ := six_box hp
 obtain ⟨q0, q1, q2, q3, q4, q5⟩ := six_box hq
 have pf0 := frozen_box hp 0
 have pf1 := frozen_box hp 1
 have pf2 := frozen_box hp 2
 have pf3 := frozen_box hp 3
 have pf4 := frozen_box hp 4
 have pf5 := frozen_box hp 5
 obtain ⟨V1, hV1⟩ : ∃ V1, ((((((W0.setCell ⟨w.heap.size, 0, none⟩ (.int .i64 k2)).setCell ⟨w.heap.size, 1, none⟩ (.bool b2)).setCell ⟨w.heap.size, 2, none⟩ (.int .i64 i2)).setCell ⟨w.heap.size, 3, none⟩ (.string s2)).setCell ⟨w.heap.size, 4, none⟩ (.slice an2 ln2 cn2)).setCell ⟨w.heap.size, 5, none⟩ (.slice al2 ll2 cl2)) = V1 := ⟨_, rfl⟩
 obtain ⟨a1, a2, a3, a4⟩ := set6 _ _ _ _ _ _ hp hV1
 have hq1 := (a2 (w.heap.size + 1) (by omega)).trans hq
 have qf0 := frozen_box hq1 0
 have qf1 := frozen_box hq1 1
 have qf2 := frozen_box hq1 2
 have qf3 := frozen_box hq1 3
 have qf4 := frozen_box hq1 4
 have qf5 := frozen_box hq1 5
 obtain ⟨y0, y1, y2, y3, y4, y5⟩ := six_box hq1
 obtain ⟨V2, hV2⟩ : ∃ V2, ((((((V1.setCell ⟨w.heap.size + 1, 0, none⟩ (.int .i64 k1)).setCell ⟨w.heap.size + 1, 1, none⟩ (.bool b1)).setCell ⟨w.heap.size + 1, 2, none⟩ (.int .i64 i1)).setCell ⟨w.heap.size + 1, 3, none⟩ (.string s1)).setCell ⟨w.heap.size + 1, 4, none⟩ (.slice an1 ln1 cn1)).setCell ⟨w.heap.size + 1, 5, none⟩ (.slice al1 ll1 cl1)) = V2 := ⟨_, rfl⟩
 obtain ⟨c1, c2, c3, c4⟩ := set6 _ _ _ _ _ _ hq1 hV2
 have hp2 := (c2 w.heap.size (by omega)).trans a1
 obtain ⟨x0, x1, x2, x3, x4, x5⟩ := six_box hp2
 obtain ⟨z0, z1, z2, z3, z4, z5⟩ := six_box c1
 have HR2 : Hid (V2.heap[w.heap.size + 2]? = some (.cells #[.int .i64 0, .bool false, .int .i64 0, .string ⟨#[]⟩, .slice none 0 0, .slice none 0 0] 26 (0, 0))) := (c2 _ (by omega)).trans ((a2 _ (by omega)).trans hr)
 have hbv : Below w.heap.size w V2 := c4 _ _ (by omega) (a4 _ _ (Nat.le_refl _) hb0)
 have HBV : Hid (Below w.heap.size w V2) := hbv
 have hsv : V2.heap.size = w.heap.size + 3 := by rw [← hV2, ← hV1]; simp [hs0]
 clear a1 a2 a3 a4 c1 c2 c3 c4 hq1 hp2 hbv HR HB
 have HR := HR2
 have HB := HBV
 clear HR2 HBV
 have cI := order_c k2 b2 i2 s2 (.slice an2 ln2 cn2) (.slice al2 ll2 cl2) k1 b1 i1 s1 (.slice an1 ln1 cn1) (.slice al1 ll1 cl1) V2
 obtain ⟨U, hU⟩ : ∃ U, ord k2 i2 s2 k1 i1 s1 = U := ⟨_, rfl⟩
 rw [hU] at cI ⊢
 clear hp hq hb0 hr hU
 go_enter Tryz.func151, Tryz.ntmps151
 go_upto_if 37 with fail
 refine wp_cond_true (by rfl) ?_
 refine wp_exit ?_
 repeat (first | (with_reducible refine ex_then ?_) | (with_reducible refine ex_skip (by decide) ?_))
 refine ex_hit ?_
 refine ex_norm ?_
 apply_assumption
 try simp only [hW0]
 go_upto_region 36 with fail
 go_wp2_with fail
 try rw [hW0]
 try rw [hV1]
 try rw [hV2]
 refine cI.mono ?_
 intro e W1 hA
 clear cI
 cases U with
 | error c =>
  obtain ⟨rfl, hb1⟩ := hA
  exact ⟨rfl, rfl, HB.out.trans (hb1.mono HB.out.size)⟩
 | ok c =>
  obtain ⟨rfl, hb1⟩ := hA
  have HR1 : Hid (W1.heap[w.heap.size + 2]? = some (.cells #[.int .i64 0, .bool false, .int .i64 0, .string ⟨#[]⟩, .slice none 0 0, .slice none 0 0] 26 (0, 0))) := (hb1.block (w.heap.size + 2) (by omega)).trans HR.out
  have hs1 := hb1.size
  have HB1 : Hid (Below w.heap.size w W1) := HB.out.trans (hb1.mono HB.out.size)
  clear hb1 HR HB p0 p1 p2 p3 p4 p5 q0 q1 q2 q3 q4 q5 x0 x1 x2 x3 x4 x5 y0 y1 y2 y3 y4 y5 z0 z1 z2 z3 z4 z5 pf0 pf1 pf2 pf3 pf4 pf5 qf0 qf1 qf2 qf3 qf4 qf5
  obtain ⟨B, hB⟩ : ∃ B, decide (c < 0) = B := ⟨_, rfl⟩
  have cT := truth_c B
  go_wp2_with fail
  refine (cT _).mono ?_
  rintro e W2 ⟨rfl, hb2⟩
  clear cT
  have hr := (hb2.block (w.heap.size + 2) (by omega)).trans HR1.out
  have HB2 : Hid (Below w.heap.size w W2) := HB1.out.trans (hb2.mono HB1.out.size)
  clear hb2 HB1 HR1
  obtain ⟨r0, r1, r2, r3, r4, r5⟩ := six_box hr
  have rf0 := frozen_box hr 0
  have rf1 := frozen_box hr 1
  have rf2 := frozen_box hr 2
  have rf3 := frozen_box hr 3
  have rf4 := frozen_box hr 4
  have rf5 := frozen_box hr 5
  go_wp2_with fail
  obtain ⟨W9, hW9⟩ : ∃ W9, ((((((W2.setCell ⟨w.heap.size + 2, 0, none⟩ (.int .i64 2)).setCell ⟨w.heap.size + 2, 1, none⟩ (.bool B)).setCell ⟨w.heap.size + 2, 2, none⟩ (.int .i64 0)).setCell ⟨w.heap.size + 2, 3, none⟩ (.string ⟨#[]⟩)).setCell ⟨w.heap.size + 2, 4, none⟩ (.slice none 0 0)).setCell ⟨w.heap.size + 2, 5, none⟩ (.slice none 0 0)) = W9 := ⟨_, rfl⟩
  rw [hW9]
  obtain ⟨q1, q2, q3, q4⟩ := set6 _ _ _ _ _ _ hr hW9
  first | refine out_ret (results_cell_row rfl _ W9 (w.heap.size + 2) 26 _ (0, 0) _ rfl q1 Tryz.underlying26 rfl (by kernel_rfl)) rfl ?_ | refine bodyPost_ret (results_cell_row rfl _ W9 (w.heap.size + 2) 26 _ (0, 0) _ rfl q1 Tryz.underlying26 rfl (by kernel_rfl)) rfl ?_
  try subst hB
  exact ⟨rfl, q4 _ _ (by omega) HB2.out⟩
theorem pair_Least (k1 : Int) (b1 : Bool) (i1 : Int) (s1 : ByteArray) (an1 : Option Addr) (ln1 cn1 : Nat) (al1 : Option Addr) (ll1 cl1 : Nat) (k2 : Int) (b2 : Bool) (i2 : Int) (s2 : ByteArray) (an2 : Option Addr) (ln2 cn2 : Nat) (al2 : Option Addr) (ll2 cl2 : Nat) (w : World) :
  Calls Tryz.prog 151 #[.int .i64 26, vl k1 b1 i1 s1 (.slice an1 ln1 cn1) (.slice al1 ll1 cl1), vl k2 b2 i2 s2 (.slice an2 ln2 cn2) (.slice al2 ll2 cl2)] w fun e w' => An w w' e (fun c : Bool => v0 2 c 0 ⟨#[]⟩) (bnd (ord k2 i2 s2 k1 i1 s1) fun c => .ok (decide (c ≤ 0))) := by
 obtain ⟨W0, hW0, hs0, hb0, hp, hq, hr⟩ := two3 w #[.int .i64 k1, .bool b1, .int .i64 i1, .string s1, (.slice an1 ln1 cn1), (.slice al1 ll1 cl1)] #[.int .i64 k2, .bool b2, .int .i64 i2, .string s2, (.slice an2 ln2 cn2), (.slice al2 ll2 cl2)]
 have HR : Hid (W0.heap[w.heap.size + 2]? = some (.cells #[.int .i64 0, .bool false, .int .i64 0, .string ⟨#[]⟩, .slice none 0 0, .slice none 0 0] 26 (0, 0))) := hr
 have HB : Hid (Below w.heap.size w W0) := hb0
 obtain ⟨p0, p1, p2, p3, p4, p5⟩ := six_box hp
 obtain ⟨q0, q1, q2, q3, q4, q5⟩ := six_box hq
 have pf0 := frozen_box hp 0
 have pf1 := frozen_box hp 1
 have pf2 := frozen_box hp 2
 have pf3 := frozen_box hp 3
 have pf4 := frozen_box hp 4
 have pf5 := frozen_box hp 5
 obtain ⟨V1, hV1⟩ : ∃ V1, ((((((W0.setCell ⟨w.heap.size, 0, none⟩ (.int .i64 k2)).setCell ⟨w.heap.size, 1, none⟩ (.bool b2)).setCell ⟨w.heap.size, 2, none⟩ (.int .i64 i2)).setCell ⟨w.heap.size, 3, none⟩ (.string s2)).setCell ⟨w.heap.size, 4, none⟩ (.slice an2 ln2 cn2)).setCell ⟨w.heap.size, 5, none⟩ (.slice al2 ll2 cl2)) = V1 := ⟨_, rfl⟩
 obtain ⟨a1, a2, a3, a4⟩ := set6 _ _ _ _ _ _ hp hV1
 have hq1 := (a2 (w.heap.size + 1) (by omega)).trans hq
 have qf0 := frozen_box hq1 0
 have qf1 := frozen_box hq1 1
 have qf2 := frozen_box hq1 2
 have qf3 := frozen_box hq1 3
 have qf4 := frozen_box hq1 4
 have qf5 := frozen_box hq1 5
 obtain ⟨y0, y1, y2, y3, y4, y5⟩ := six_box hq1
 obtain ⟨V2, hV2⟩ : ∃ V2, ((((((V1.setCell ⟨w.heap.size + 1, 0, none⟩ (.int .i64 k1)).setCell ⟨w.heap.size + 1, 1, none⟩ (.bool b1)).setCell ⟨w.heap.size + 1, 2, none⟩ (.int .i64 i1)).setCell ⟨w.heap.size + 1, 3, none⟩ (.string s1)).setCell ⟨w.heap.size + 1, 4, none⟩ (.slice an1 ln1 cn1)).setCell ⟨w.heap.size + 1, 5, none⟩ (.slice al1 ll1 cl1)) = V2 := ⟨_, rfl⟩
 obtain ⟨c1, c2, c3, c4⟩ := set6 _ _ _ _ _ _ hq1 hV2
 have hp2 := (c2 w.heap.size (by omega)).trans a1
 obtain ⟨x0, x1, x2, x3, x4, x5⟩ := six_box hp2
 obtain ⟨z0, z1, z2, z3, z4, z5⟩ := six_box c1
 have HR2 : Hid (V2.heap[w.heap.size + 2]? = some (.cells #[.int .i64 0, .bool false, .int .i64 0, .string ⟨#[]⟩, .slice none 0 0, .slice none 0 0] 26 (0, 0))) := (c2 _ (by omega)).trans ((a2 _ (by omega)).trans hr)
 have hbv : Below w.heap.size w V2 := c4 _ _ (by omega) (a4 _ _ (Nat.le_refl _) hb0)
 have HBV : Hid (Below w.heap.size w V2) := hbv
 have hsv : V2.heap.size = w.heap.size + 3 := by rw [← hV2, ← hV1]; simp [hs0]
 clear a1 a2 a3 a4 c1 c2 c3 c4 hq1 hp2 hbv HR HB
 have HR := HR2
 have HB := HBV
 clear HR2 HBV
 have cI := order_c k2 b2 i2 s2 (.slice an2 ln2 cn2) (.slice al2 ll2 cl2) k1 b1 i1 s1 (.slice an1 ln1 cn1) (.slice al1 ll1 cl1) V2
 obtain ⟨U, hU⟩ : ∃ U, ord k2 i2 s2 k1 i1 s1 = U := ⟨_, rfl⟩
 rw [hU] at cI ⊢
 clear hp hq hb0 hr hU
 go_enter Tryz.func151, Tryz.ntmps151
 go_upto_if 41 with fail
 refine wp_cond_true (by rfl) ?_
 refine wp_exit ?_
 repeat (first | (with_reducible refine ex_then ?_) | (with_reducible refine ex_skip (by decide) ?_))
 refine ex_hit ?_
 refine ex_norm ?_
 apply_assumption
 try simp only [hW0]
 go_upto_region 38 with fail
 go_wp2_with fail
 try rw [hW0]
 try rw [hV1]
 try rw [hV2]
 refine cI.mono ?_
 intro e W1 hA
 clear cI
 cases U with
 | error c =>
  obtain ⟨rfl, hb1⟩ := hA
  exact ⟨rfl, rfl, HB.out.trans (hb1.mono HB.out.size)⟩
 | ok c =>
  obtain ⟨rfl, hb1⟩ := hA
  have HR1 : Hid (W1.heap[w.heap.size + 2]? = some (.cells #[.int .i64 0, .bool false, .int .i64 0, .string ⟨#[]⟩, .slice none 0 0, .slice none 0 0] 26 (0, 0))) := (hb1.block (w.heap.size + 2) (by omega)).trans HR.out
  have hs1 := hb1.size
  have HB1 : Hid (Below w.heap.size w W1) := HB.out.trans (hb1.mono HB.out.size)
  clear hb1 HR HB p0 p1 p2 p3 p4 p5 q0 q1 q2 q3 q4 q5 x0 x1 x2 x3 x4 x5 y0 y1 y2 y3 y4 y5 z0 z1 z2 z3 z4 z5 pf0 pf1 pf2 pf3 pf4 pf5 qf0 qf1 qf2 qf3 qf4 qf5
  obtain ⟨B, hB⟩ : ∃ B, decide (c ≤ 0) = B := ⟨_, rfl⟩
  have cT := truth_c B
  go_wp2_with fail
  refine (cT _).mono ?_
  rintro e W2 ⟨rfl, hb2⟩
  clear cT
  have hr := (hb2.block (w.heap.size + 2) (by omega)).trans HR1.out
  have HB2 : Hid (Below w.heap.size w W2) := HB1.out.trans (hb2.mono HB1.out.size)
  clear hb2 HB1 HR1
  obtain ⟨r0, r1, r2, r3, r4, r5⟩ := six_box hr
  have rf0 := frozen_box hr 0
  have rf1 := frozen_box hr 1
  have rf2 := frozen_box hr 2
  have rf3 := frozen_box hr 3
  have rf4 := frozen_box hr 4
  have rf5 := frozen_box hr 5
  go_wp2_with fail
  obtain ⟨W9, hW9⟩ : ∃ W9, ((((((W2.setCell ⟨w.heap.size + 2, 0, none⟩ (.int .i64 2)).setCell ⟨w.heap.size + 2, 1, none⟩ (.bool B)).setCell ⟨w.heap.size + 2, 2, none⟩ (.int .i64 0)).setCell ⟨w.heap.size + 2, 3, none⟩ (.string ⟨#[]⟩)).setCell ⟨w.heap.size + 2, 4, none⟩ (.slice none 0 0)).setCell ⟨w.heap.size + 2, 5, none⟩ (.slice none 0 0)) = W9 := ⟨_, rfl⟩
  rw [hW9]
  obtain ⟨q1, q2, q3, q4⟩ := set6 _ _ _ _ _ _ hr hW9
  first | refine out_ret (results_cell_row rfl _ W9 (w.heap.size + 2) 26 _ (0, 0) _ rfl q1 Tryz.underlying26 rfl (by kernel_rfl)) rfl ?_ | refine bodyPost_ret (results_cell_row rfl _ W9 (w.heap.size + 2) 26 _ (0, 0) _ rfl q1 Tryz.underlying26 rfl (by kernel_rfl)) rfl ?_
  try subst hB
  exact ⟨rfl, q4 _ _ (by omega) HB2.out⟩
end Go.Proofs.YthonejomogkjjaaGreatDoor.VPq
namespace Go.Proofs.YthonejomogkjjaaGreatDoor.VPs
open Go.RowKit Base EPure VPure VSm VIn VEx VOr
theorem pair_Same (k1 : Int) (b1 : Bool) (i1 : Int) (s1 : ByteArray) (n1 l1 : Value) (k2 : Int) (b2 : Bool) (i2 : Int) (s2 : ByteArray) (n2 l2 : Value) (w : World) (S : Bool) (cS : ∀ W : World, Below w.heap.size w W → Calls Tryz.prog 40 #[vl k1 b1 i1 s1 n1 l1, vl k2 b2 i2 s2 n2 l2] W fun e w' => e = .returned (.bool S) ∧ Below W.heap.size W w') :
  Calls Tryz.prog 151 #[.int .i64 27, vl k1 b1 i1 s1 n1 l1, vl k2 b2 i2 s2 n2 l2] w fun e w' => e = .returned (v0 2 (S) 0 ⟨#[]⟩) ∧ Below w.heap.size w w' := by
 obtain ⟨W0, hW0, hs0, hb0, hp, hq, hr⟩ := two3 w #[.int .i64 k1, .bool b1, .int .i64 i1, .string s1, n1, l1] #[.int .i64 k2, .bool b2, .int .i64 i2, .string s2, n2, l2]
 have HR : Hid (W0.heap[w.heap.size + 2]? = some (.cells #[.int .i64 0, .bool false, .int .i64 0, .string ⟨#[]⟩, .slice none 0 0, .slice none 0 0] 26 (0, 0))) := hr
 have HB : Hid (Below w.heap.size w W0) := hb0
 obtain ⟨p0, p1, p2, p3, p4, p5⟩ := six_box hp
 obtain ⟨q0, q1, q2, q3, q4, q5⟩ := six_box hq
 have cI := cS W0 hb0
 clear hp hq hb0 hr cS
 have cT := truth_c
 cases S with
 | false =>
  go_enter Tryz.func151, Tryz.ntmps151
  go_upto_if 43 with fail
  refine wp_cond_false (by rfl) ?_
  refine wp_skip ?_
  refine ex_norm ?_
  apply_assumption
  refine wp_exit ?_
  repeat (first | (with_reducible refine ex_then ?_) | (with_reducible refine ex_skip (by decide) ?_))
  refine ex_hit ?_
  try (refine ex_norm ?_)
  apply_assumption
  try simp only [hW0]
  go_wp2_with fail
  try rw [hW0]
  refine cI.mono ?_
  rintro e W1 ⟨rfl, hb1⟩
  clear cI
  have HR1 : Hid (W1.heap[w.heap.size + 2]? = some (.cells #[.int .i64 0, .bool false, .int .i64 0, .string ⟨#[]⟩, .slice none 0 0, .slice none 0 0] 26 (0, 0))) := (hb1.block (w.heap.size + 2) (by omega)).trans HR.out
  have hs1 := hb1.size
  have HB1 : Hid (Below w.heap.size w W1) := HB.out.trans (hb1.mono HB.out.size)
  clear hb1 HR HB p0 p1 p2 p3 p4 p5 q0 q1 q2 q3 q4 q5
  go_wp2_with fail
  refine (cT _ _).mono ?_
  rintro e W2 ⟨rfl, hb2⟩
  clear cT
  have hr := (hb2.block (w.heap.size + 2) (by omega)).trans HR1.out
  have HB2 : Hid (Below w.heap.size w W2) := HB1.out.trans (hb2.mono HB1.out.size)
  clear hb2 HB1 HR1
  obtain ⟨r0, r1, r2, r3, r4, r5⟩ := six_box hr
  have rf0 := frozen_box hr 0
  have rf1 := frozen_box hr 1
  have rf2 := frozen_box hr 2
  have rf3 := frozen_box hr 3
  have rf4 := frozen_box hr 4
  have rf5 := frozen_box hr 5
  go_wp2_with fail
  obtain ⟨W9, hW9⟩ : ∃ W9, ((((((W2.setCell ⟨w.heap.size + 2, 0, none⟩ (.int .i64 2)).setCell ⟨w.heap.size + 2, 1, none⟩ (.bool false)).setCell ⟨w.heap.size + 2, 2, none⟩ (.int .i64 0)).setCell ⟨w.heap.size + 2, 3, none⟩ (.string ⟨#[]⟩)).setCell ⟨w.heap.size + 2, 4, none⟩ (.slice none 0 0)).setCell ⟨w.heap.size + 2, 5, none⟩ (.slice none 0 0)) = W9 := ⟨_, rfl⟩
  rw [hW9]
  obtain ⟨q1, q2, q3, q4⟩ := set6 _ _ _ _ _ _ hr hW9
  refine bodyPost_ret (results_cell_row rfl _ W9 (w.heap.size + 2) 26 _ (0, 0) _ rfl q1 Tryz.underlying26 rfl (by kernel_rfl)) rfl ?_
  try subst hB
  exact ⟨rfl, q4 _ _ (by omega) HB2.out⟩
 | true =>
  go_enter Tryz.func151, Tryz.ntmps151
  go_upto_if 43 with fail
  refine wp_cond_false (by rfl) ?_
  refine wp_skip ?_
  refine ex_norm ?_
  apply_assumption
  refine wp_exit ?_
  repeat (first | (with_reducible refine ex_then ?_) | (with_reducible refine ex_skip (by decide) ?_))
  refine ex_hit ?_
  try (refine ex_norm ?_)
  apply_assumption
  try simp only [hW0]
  go_wp2_with fail
  try rw [hW0]
  refine cI.mono ?_
  rintro e W1 ⟨rfl, hb1⟩
  clear cI
  have HR1 : Hid (W1.heap[w.heap.size + 2]? = some (.cells #[.int .i64 0, .bool false, .int .i64 0, .string ⟨#[]⟩, .slice none 0 0, .slice none 0 0] 26 (0, 0))) := (hb1.block (w.heap.size + 2) (by omega)).trans HR.out
  have hs1 := hb1.size
  have HB1 : Hid (Below w.heap.size w W1) := HB.out.trans (hb1.mono HB.out.size)
  clear hb1 HR HB p0 p1 p2 p3 p4 p5 q0 q1 q2 q3 q4 q5
  go_wp2_with fail
  refine (cT _ _).mono ?_
  rintro e W2 ⟨rfl, hb2⟩
  clear cT
  have hr := (hb2.block (w.heap.size + 2) (by omega)).trans HR1.out
  have HB2 : Hid (Below w.heap.size w W2) := HB1.out.trans (hb2.mono HB1.out.size)
  clear hb2 HB1 HR1
  obtain ⟨r0, r1, r2, r3, r4, r5⟩ := six_box hr
  have rf0 := frozen_box hr 0
  have rf1 := frozen_box hr 1
  have rf2 := frozen_box hr 2
  have rf3 := frozen_box hr 3
  have rf4 := frozen_box hr 4
  have rf5 := frozen_box hr 5
  go_wp2_with fail
  obtain ⟨W9, hW9⟩ : ∃ W9, ((((((W2.setCell ⟨w.heap.size + 2, 0, none⟩ (.int .i64 2)).setCell ⟨w.heap.size + 2, 1, none⟩ (.bool true)).setCell ⟨w.heap.size + 2, 2, none⟩ (.int .i64 0)).setCell ⟨w.heap.size + 2, 3, none⟩ (.string ⟨#[]⟩)).setCell ⟨w.heap.size + 2, 4, none⟩ (.slice none 0 0)).setCell ⟨w.heap.size + 2, 5, none⟩ (.slice none 0 0)) = W9 := ⟨_, rfl⟩
  rw [hW9]
  obtain ⟨q1, q2, q3, q4⟩ := set6 _ _ _ _ _ _ hr hW9
  refine bodyPost_ret (results_cell_row rfl _ W9 (w.heap.size + 2) 26 _ (0, 0) _ rfl q1 Tryz.underlying26 rfl (by kernel_rfl)) rfl ?_
  try subst hB
  exact ⟨rfl, q4 _ _ (by omega) HB2.out⟩
theorem pair_Other (k1 : Int) (b1 : Bool) (i1 : Int) (s1 : ByteArray) (n1 l1 : Value) (k2 : Int) (b2 : Bool) (i2 : Int) (s2 : ByteArray) (n2 l2 : Value) (w : World) (S : Bool) (cS : ∀ W : World, Below w.heap.size w W → Calls Tryz.prog 40 #[vl k1 b1 i1 s1 n1 l1, vl k2 b2 i2 s2 n2 l2] W fun e w' => e = .returned (.bool S) ∧ Below W.heap.size W w') :
  Calls Tryz.prog 151 #[.int .i64 28, vl k1 b1 i1 s1 n1 l1, vl k2 b2 i2 s2 n2 l2] w fun e w' => e = .returned (v0 2 (!S) 0 ⟨#[]⟩) ∧ Below w.heap.size w w' := by
 obtain ⟨W0, hW0, hs0, hb0, hp, hq, hr⟩ := two3 w #[.int .i64 k1, .bool b1, .int .i64 i1, .string s1, n1, l1] #[.int .i64 k2, .bool b2, .int .i64 i2, .string s2, n2, l2]
 have HR : Hid (W0.heap[w.heap.size + 2]? = some (.cells #[.int .i64 0, .bool false, .int .i64 0, .string ⟨#[]⟩, .slice none 0 0, .slice none 0 0] 26 (0, 0))) := hr
 have HB : Hid (Below w.heap.size w W0) := hb0
 obtain ⟨p0, p1, p2, p3, p4, p5⟩ := six_box hp
 obtain ⟨q0, q1, q2, q3, q4, q5⟩ := six_box hq
 have cI := cS W0 hb0
 clear hp hq hb0 hr cS
 have cT := truth_c
 cases S with
 | false =>
  go_enter Tryz.func151, Tryz.ntmps151
  go_upto_if 43 with fail
  refine wp_cond_false (by rfl) ?_
  refine wp_skip ?_
  refine ex_norm ?_
  apply_assumption
  refine wp_exit ?_
  repeat (first | (with_reducible refine ex_then ?_) | (with_reducible refine ex_skip (by decide) ?_))
  refine ex_hit ?_
  try (refine ex_norm ?_)
  apply_assumption
  try simp only [hW0]
  go_wp2_with fail
  try rw [hW0]
  refine cI.mono ?_
  rintro e W1 ⟨rfl, hb1⟩
  clear cI
  have HR1 : Hid (W1.heap[w.heap.size + 2]? = some (.cells #[.int .i64 0, .bool false, .int .i64 0, .string ⟨#[]⟩, .slice none 0 0, .slice none 0 0] 26 (0, 0))) := (hb1.block (w.heap.size + 2) (by omega)).trans HR.out
  have hs1 := hb1.size
  have HB1 : Hid (Below w.heap.size w W1) := HB.out.trans (hb1.mono HB.out.size)
  clear hb1 HR HB p0 p1 p2 p3 p4 p5 q0 q1 q2 q3 q4 q5
  go_wp2_with fail
  refine (cT _ _).mono ?_
  rintro e W2 ⟨rfl, hb2⟩
  clear cT
  have hr := (hb2.block (w.heap.size + 2) (by omega)).trans HR1.out
  have HB2 : Hid (Below w.heap.size w W2) := HB1.out.trans (hb2.mono HB1.out.size)
  clear hb2 HB1 HR1
  obtain ⟨r0, r1, r2, r3, r4, r5⟩ := six_box hr
  have rf0 := frozen_box hr 0
  have rf1 := frozen_box hr 1
  have rf2 := frozen_box hr 2
  have rf3 := frozen_box hr 3
  have rf4 := frozen_box hr 4
  have rf5 := frozen_box hr 5
  go_wp2_with fail
  obtain ⟨W9, hW9⟩ : ∃ W9, ((((((W2.setCell ⟨w.heap.size + 2, 0, none⟩ (.int .i64 2)).setCell ⟨w.heap.size + 2, 1, none⟩ (.bool true)).setCell ⟨w.heap.size + 2, 2, none⟩ (.int .i64 0)).setCell ⟨w.heap.size + 2, 3, none⟩ (.string ⟨#[]⟩)).setCell ⟨w.heap.size + 2, 4, none⟩ (.slice none 0 0)).setCell ⟨w.heap.size + 2, 5, none⟩ (.slice none 0 0)) = W9 := ⟨_, rfl⟩
  rw [hW9]
  obtain ⟨q1, q2, q3, q4⟩ := set6 _ _ _ _ _ _ hr hW9
  refine bodyPost_ret (results_cell_row rfl _ W9 (w.heap.size + 2) 26 _ (0, 0) _ rfl q1 Tryz.underlying26 rfl (by kernel_rfl)) rfl ?_
  try subst hB
  exact ⟨rfl, q4 _ _ (by omega) HB2.out⟩
 | true =>
  go_enter Tryz.func151, Tryz.ntmps151
  go_upto_if 43 with fail
  refine wp_cond_false (by rfl) ?_
  refine wp_skip ?_
  refine ex_norm ?_
  apply_assumption
  refine wp_exit ?_
  repeat (first | (with_reducible refine ex_then ?_) | (with_reducible refine ex_skip (by decide) ?_))
  refine ex_hit ?_
  try (refine ex_norm ?_)
  apply_assumption
  try simp only [hW0]
  go_wp2_with fail
  try rw [hW0]
  refine cI.mono ?_
  rintro e W1 ⟨rfl, hb1⟩
  clear cI
  have HR1 : Hid (W1.heap[w.heap.size + 2]? = some (.cells #[.int .i64 0, .bool false, .int .i64 0, .string ⟨#[]⟩, .slice none 0 0, .slice none 0 0] 26 (0, 0))) := (hb1.block (w.heap.size + 2) (by omega)).trans HR.out
  have hs1 := hb1.size
  have HB1 : Hid (Below w.heap.size w W1) := HB.out.trans (hb1.mono HB.out.size)
  clear hb1 HR HB p0 p1 p2 p3 p4 p5 q0 q1 q2 q3 q4 q5
  go_wp2_with fail
  refine (cT _ _).mono ?_
  rintro e W2 ⟨rfl, hb2⟩
  clear cT
  have hr := (hb2.block (w.heap.size + 2) (by omega)).trans HR1.out
  have HB2 : Hid (Below w.heap.size w W2) := HB1.out.trans (hb2.mono HB1.out.size)
  clear hb2 HB1 HR1
  obtain ⟨r0, r1, r2, r3, r4, r5⟩ := six_box hr
  have rf0 := frozen_box hr 0
  have rf1 := frozen_box hr 1
  have rf2 := frozen_box hr 2
  have rf3 := frozen_box hr 3
  have rf4 := frozen_box hr 4
  have rf5 := frozen_box hr 5
  go_wp2_with fail
  obtain ⟨W9, hW9⟩ : ∃ W9, ((((((W2.setCell ⟨w.heap.size + 2, 0, none⟩ (.int .i64 2)).setCell ⟨w.heap.size + 2, 1, none⟩ (.bool false)).setCell ⟨w.heap.size + 2, 2, none⟩ (.int .i64 0)).setCell ⟨w.heap.size + 2, 3, none⟩ (.string ⟨#[]⟩)).setCell ⟨w.heap.size + 2, 4, none⟩ (.slice none 0 0)).setCell ⟨w.heap.size + 2, 5, none⟩ (.slice none 0 0)) = W9 := ⟨_, rfl⟩
  rw [hW9]
  obtain ⟨q1, q2, q3, q4⟩ := set6 _ _ _ _ _ _ hr hW9
  refine bodyPost_ret (results_cell_row rfl _ W9 (w.heap.size + 2) 26 _ (0, 0) _ rfl q1 Tryz.underlying26 rfl (by kernel_rfl)) rfl ?_
  try subst hB
  exact ⟨rfl, q4 _ _ (by omega) HB2.out⟩
end Go.Proofs.YthonejomogkjjaaGreatDoor.VPs
