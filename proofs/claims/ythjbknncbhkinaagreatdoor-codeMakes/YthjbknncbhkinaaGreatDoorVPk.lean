/- Expressions reckoned: pair, at values that lie in memory. -/
import Derived.Test.YthjbknncbhkinaaGreatDoorVRs
namespace Go.Proofs.YthjbknncbhkinaaGreatDoor.VPk
open Go.RowKit Go.Proofs.YthjbknncbhkinaaGreatDoor.Base Go.Proofs.YthjbknncbhkinaaGreatDoor.EPure Go.Proofs.YthjbknncbhkinaaGreatDoor.VPure Go.Proofs.YthjbknncbhkinaaGreatDoor.VSm Go.Proofs.YthjbknncbhkinaaGreatDoor.VIn Go.Proofs.YthjbknncbhkinaaGreatDoor.VEx Go.Proofs.YthjbknncbhkinaaGreatDoor.VJn Go.Proofs.YthjbknncbhkinaaGreatDoor.VRs Go.Proofs.YthjbknncbhkinaaGreatDoor.Sums
set_option linter.unusedVariables false

/-- What pair answers at an Op. -/
def PairOk (o : Int) : Prop := ∀ (K m : Nat) (w : World) (va vb : Value) (a b : C), K ≤ w.heap.size → Tb w → Base.In false (fun b => b < K) w (m + 1) va a → Base.In false (fun b => b < K) w (m + 1) vb b → wf a → Calls Tryz.prog 90 #[.int .i64 o, va, vb] w fun e w' => VR K (m + 1) w (pr2 o a b) e w'
theorem pair15 : PairOk 15 := by
  intro K m w va vb a b hK hT hva hvb hwf
  obtain ⟨an, ln, cn, al, ll, cl, rfl⟩ := in_shape hva
  obtain ⟨bn, mn, dn, bl, ml, dl, rfl⟩ := in_shape hvb
  have ha := in_rng hva
  have hb := in_rng hvb
  refine (VPn.pair_Add _ _ _ _ _ _ _ _ _ _ _ _ w (wh 15 a.i b.i).1 (wh 15 a.i b.i).2 (fun _ _ W => ?_)).mono ?_
  · exact WhA.add a.i b.i ha.1 ha.2 hb.1 hb.2 W
  · intro e w' h
    exact an_vr (fun c hc => by rw [tw_ok hc]; exact wh_rng ha) h
theorem pair16 : PairOk 16 := by
  intro K m w va vb a b hK hT hva hvb hwf
  obtain ⟨an, ln, cn, al, ll, cl, rfl⟩ := in_shape hva
  obtain ⟨bn, mn, dn, bl, ml, dl, rfl⟩ := in_shape hvb
  have ha := in_rng hva
  have hb := in_rng hvb
  refine (VPn.pair_Sub _ _ _ _ _ _ _ _ _ _ _ _ w (wh 16 a.i b.i).1 (wh 16 a.i b.i).2 (fun _ _ W => ?_)).mono ?_
  · exact WhA.sub a.i b.i ha.1 ha.2 hb.1 hb.2 W
  · intro e w' h
    exact an_vr (fun c hc => by rw [tw_ok hc]; exact wh_rng ha) h
theorem pair12 : PairOk 12 := by
  intro K m w va vb a b hK hT hva hvb hwf
  obtain ⟨an, ln, cn, al, ll, cl, rfl⟩ := in_shape hva
  obtain ⟨bn, mn, dn, bl, ml, dl, rfl⟩ := in_shape hvb
  have ha := in_rng hva
  have hb := in_rng hvb
  refine (VPn.pair_Mul _ _ _ _ _ _ _ _ _ _ _ _ w (wh 12 a.i b.i).1 (wh 12 a.i b.i).2 (fun _ _ W => ?_)).mono ?_
  · exact WhA.mul a.i b.i ha.1 ha.2 hb.1 hb.2 W
  · intro e w' h
    exact an_vr (fun c hc => by rw [tw_ok hc]; exact wh_rng ha) h
theorem pair13 : PairOk 13 := by
  intro K m w va vb a b hK hT hva hvb hwf
  obtain ⟨an, ln, cn, al, ll, cl, rfl⟩ := in_shape hva
  obtain ⟨bn, mn, dn, bl, ml, dl, rfl⟩ := in_shape hvb
  have ha := in_rng hva
  have hb := in_rng hvb
  refine (VPn.pair_Div _ _ _ _ _ _ _ _ _ _ _ _ w (wh 13 a.i b.i).1 (wh 13 a.i b.i).2 (fun _ _ W => ?_)).mono ?_
  · exact WhA.div a.i b.i ha.1 ha.2 W
  · intro e w' h
    exact an_vr (fun c hc => by rw [tw_ok hc]; exact wh_rng ha) h
theorem pair14 : PairOk 14 := by
  intro K m w va vb a b hK hT hva hvb hwf
  obtain ⟨an, ln, cn, al, ll, cl, rfl⟩ := in_shape hva
  obtain ⟨bn, mn, dn, bl, ml, dl, rfl⟩ := in_shape hvb
  have ha := in_rng hva
  have hb := in_rng hvb
  refine (VPn.pair_Mod _ _ _ _ _ _ _ _ _ _ _ _ w (wh 14 a.i b.i).1 (wh 14 a.i b.i).2 (fun _ _ W => ?_)).mono ?_
  · exact WhA.mod a.i b.i W
  · intro e w' h
    exact an_vr (fun c hc => by rw [tw_ok hc]; exact wh_rng ha) h
theorem pair18 : PairOk 18 := by
  intro K m w va vb a b hK hT hva hvb hwf
  obtain ⟨an, ln, cn, al, ll, cl, rfl⟩ := in_shape hva
  obtain ⟨bn, mn, dn, bl, ml, dl, rfl⟩ := in_shape hvb
  have ha := in_rng hva
  have hb := in_rng hvb
  refine (VPn.pair_Shl _ _ _ _ _ _ _ _ _ _ _ _ w (wh 18 a.i b.i).1 (wh 18 a.i b.i).2 (fun _ _ W => ?_)).mono ?_
  · by_cases h : 0 ≤ b.i ∧ b.i ≤ 63
    · have e : wh 18 a.i b.i = (num (a.i * 2 ^ b.i.toNat), err (a.i * 2 ^ b.i.toNat)) := if_pos h
      rw [e]
      exact WhA.shl a.i b.i h.1 h.2 W
    · have e : wh 18 a.i b.i = (0, 102) := if_neg h
      rw [e]
      exact WhA.shl_bad a.i b.i (by omega) W
  · intro e w' h
    exact an_vr (fun c hc => by rw [tw_ok hc]; exact wh_rng ha) h
theorem pair19 : PairOk 19 := by
  intro K m w va vb a b hK hT hva hvb hwf
  obtain ⟨an, ln, cn, al, ll, cl, rfl⟩ := in_shape hva
  obtain ⟨bn, mn, dn, bl, ml, dl, rfl⟩ := in_shape hvb
  have ha := in_rng hva
  have hb := in_rng hvb
  refine (VPn.pair_Shr _ _ _ _ _ _ _ _ _ _ _ _ w (wh 19 a.i b.i).1 (wh 19 a.i b.i).2 (fun _ _ W => ?_)).mono ?_
  · by_cases h : 0 ≤ b.i ∧ b.i ≤ 63
    · have e : wh 19 a.i b.i = (a.i / 2 ^ b.i.toNat, 0) := if_pos h
      rw [e]
      exact WhA.shr a.i b.i h.1 h.2 W
    · have e : wh 19 a.i b.i = (0, 102) := if_neg h
      rw [e]
      exact WhA.shr_bad a.i b.i (by omega) W
  · intro e w' h
    exact an_vr (fun c hc => by rw [tw_ok hc]; exact wh_rng ha) h
set_option maxRecDepth 20000 in
set_option maxHeartbeats 1600000 in
theorem pair_cat {m1 m2 : Nat} {c1 c2 : C} (k1 : Int) (b1 : Bool) (i1 : Int) (s1 : ByteArray) (n1 l1 : Value) (k2 : Int) (b2 : Bool) (i2 : Int) (s2 : ByteArray) (n2 l2 : Value) {w : World} (hi1 : Base.In false All w m1 (vl k1 b1 i1 s1 n1 l1) c1) (hi2 : Base.In false All w m2 (vl k2 b2 i2 s2 n2 l2) c2) (ht : Tb w) : Calls Tryz.prog 90 #[.int .i64 17, vl k1 b1 i1 s1 n1 l1, vl k2 b2 i2 s2 n2 l2] w fun e w' => An w w' e (fun s : ByteArray => v0 4 false 0 s) (bnd (txt c1) fun x => bnd (txt c2) fun y => if 4096 < x.size + y.size then .error 1107 else .ok (x ++ y)) := by
  obtain ⟨W0, hW0, hs0, hb0, hp, hq, hr⟩ := two3 w #[.int .i64 k1, .bool b1, .int .i64 i1, .string s1, n1, l1] #[.int .i64 k2, .bool b2, .int .i64 i2, .string s2, n2, l2]
  have HR : Hid (W0.heap[w.heap.size + 2]? = some (.cells #[.int .i64 0, .bool false, .int .i64 0, .string ⟨#[]⟩, .slice none 0 0, .slice none 0 0] 46 (0, 0))) := hr
  have HB : Hid (Below w.heap.size w W0) := hb0
  obtain ⟨p0, p1, p2, p3, p4, p5⟩ := six_box hp
  obtain ⟨q0, q1, q2, q3, q4, q5⟩ := six_box hq
  have cJ := join_c k1 b1 i1 s1 n1 l1 k2 b2 i2 s2 n2 l2 (hi1.below hb0) (hi2.below hb0) (ht.below hb0)
  generalize (bnd (txt c1) fun x => bnd (txt c2) fun y => if 4096 < x.size + y.size then (.error 1107 : Except Nat ByteArray) else .ok (x ++ y)) = U at *
  clear hp hq hb0 hr hi1 hi2 ht
  go_enter Tryz.func90, Tryz.ntmps90
  go_upto_if 35 with fail
  refine wp_cond_true (by rfl) ?_
  refine wp_exit ?_
  repeat (first | (with_reducible refine ex_then ?_) | (with_reducible refine ex_skip (by decide) ?_))
  refine ex_hit ?_
  refine ex_norm ?_
  apply_assumption
  refine wp_mono (Q := Out ?outB) ?outM (out_mono ?outR ?outP)
  case outR => intro a w h; (repeat (first | (with_reducible refine rt_then ?_) | (with_reducible refine rt_blk ?_))); exact h
  case outP => intro c a w h; (repeat (first | (with_reducible refine pn_then ?_) | (with_reducible refine pn_blk ?_))); exact h
  try simp only [hW0]
  go_wp2_with fail
  try rw [hW0]
  refine cJ.mono ?_
  intro e W1 hA
  clear cJ
  cases U with
  | error c =>
    obtain ⟨rfl, hb1⟩ := hA
    exact ⟨rfl, rfl, HB.out.trans (hb1.mono HB.out.size)⟩
  | ok y =>
    obtain ⟨rfl, hb1⟩ := hA
    have hr := (hb1.block (w.heap.size + 2) (by omega)).trans HR.out
    have HB3 : Hid (Below w.heap.size w W1) := HB.out.trans (hb1.mono HB.out.size)
    clear hb1 HB HR p0 p1 p2 p3 p4 p5 q0 q1 q2 q3 q4 q5
    obtain ⟨r0, r1, r2, r3, r4, r5⟩ := six_box hr
    have rf0 := frozen_box hr 0
    have rf1 := frozen_box hr 1
    have rf2 := frozen_box hr 2
    have rf3 := frozen_box hr 3
    have rf4 := frozen_box hr 4
    have rf5 := frozen_box hr 5
    go_wp2_with fail
    obtain ⟨W9, hW9⟩ : ∃ W9, ((((((W1.setCell ⟨w.heap.size + 2, 0, none⟩ (.int .i64 4)).setCell ⟨w.heap.size + 2, 1, none⟩ (.bool false)).setCell ⟨w.heap.size + 2, 2, none⟩ (.int .i64 0)).setCell ⟨w.heap.size + 2, 3, none⟩ (.string y)).setCell ⟨w.heap.size + 2, 4, none⟩ (.slice none 0 0)).setCell ⟨w.heap.size + 2, 5, none⟩ (.slice none 0 0)) = W9 := ⟨_, rfl⟩
    rw [hW9]
    obtain ⟨q1, q2, q3, q4⟩ := set6 _ _ _ _ _ _ hr hW9
    refine out_ret (results_cell_row rfl _ W9 (w.heap.size + 2) 46 _ (0, 0) _ rfl q1 Tryz.underlying46 rfl (by kernel_rfl)) rfl ?_
    exact ⟨rfl, q4 _ _ (by omega) HB3.out⟩
theorem pair17 : PairOk 17 := by
  intro K m w va vb a b hK hT hva hvb hwf
  have hz1 := fun x => @txt_le _ _ _ _ hva.plain x
  have hz2 := fun x => @txt_le _ _ _ _ hvb.plain x
  have h1 := hva.plain
  have h2 := hvb.plain
  obtain ⟨an, ln, cn, al, ll, cl, rfl⟩ := in_shape hva
  obtain ⟨bn, mn, dn, bl, ml, dl, rfl⟩ := in_shape hvb
  refine (pair_cat _ _ _ _ _ _ _ _ _ _ _ _ h1 h2 hT).mono ?_
  intro e w' h
  have e1 : pr2 17 a b = cat a b := rfl
  rw [e1]
  unfold cat
  generalize txt a = T1 at *
  generalize txt b = T2 at *
  cases T1 with
  | error n => exact ⟨h.2, h.1⟩
  | ok x =>
    cases T2 with
    | error n => exact ⟨h.2, h.1⟩
    | ok y =>
      have hx := hz1 x rfl
      have hy := hz2 y rfl
      by_cases hl : 4096 < x.size + y.size
      · have e2 : (bnd (.ok x : Except Nat ByteArray) fun x => bnd (.ok y : Except Nat ByteArray) fun y => if 4096 < x.size + y.size then (.error 1107 : Except Nat ByteArray) else .ok (x ++ y)) = .error 1107 := if_pos hl
        have e3 : (bnd (.ok x : Except Nat ByteArray) fun x => bnd (.ok y : Except Nat ByteArray) fun y => if 4096 < x.size + y.size then (.error 1107 : Ans) else .ok (strC (x ++ y))) = .error 1107 := if_pos hl
        rw [e2] at h
        rw [e3]
        exact ⟨h.2, h.1⟩
      · have e2 : (bnd (.ok x : Except Nat ByteArray) fun x => bnd (.ok y : Except Nat ByteArray) fun y => if 4096 < x.size + y.size then (.error 1107 : Except Nat ByteArray) else .ok (x ++ y)) = .ok (x ++ y) := if_neg hl
        have e3 : (bnd (.ok x : Except Nat ByteArray) fun x => bnd (.ok y : Except Nat ByteArray) fun y => if 4096 < x.size + y.size then (.error 1107 : Ans) else .ok (strC (x ++ y))) = .ok (strC (x ++ y)) := if_neg hl
        rw [e2] at h
        rw [e3]
        exact ⟨h.2, _, h.1, in_str _ w' m (by rw [ByteArray.size_append]; omega)⟩
end Go.Proofs.YthjbknncbhkinaaGreatDoor.VPk
