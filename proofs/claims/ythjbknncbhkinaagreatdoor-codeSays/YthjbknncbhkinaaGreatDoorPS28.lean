import Derived.Test.YthjbknncbhkinaaGreatDoorPS06
import Derived.Test.YthjbknncbhkinaaGreatDoorPS18
import Derived.Test.YthjbknncbhkinaaGreatDoorPS19
open Go.Proofs.Tryz
set_option linter.unusedVariables false
set_option maxRecDepth 20000
set_option maxHeartbeats 3200000
namespace Go.Proofs.YthjbknncbhkinaaGreatDoor.VPt
open Go.RowKit Base VPure VSm VEx VRs
theorem part_c {K m : Nat} {w : World} {va vb : Value} {a b : C} (hK : K <= w.heap.size) (hva : Base.In false (fun b => b < K) w (m + 1) va a) (hvb : Base.In false (fun b => b < K) w (m + 1) vb b) (hw : a.k = 6 -> a.n.length <= a.l.length) :
  Calls prog 103 #[va, vb] w fun e w' => VR K (m + 1) w (VPure.prt a b) e w' := by
 unfold VPure.prt
 obtain ⟨U, hU⟩ : ∃ U, prtR a.k a.n a.l b.k b.i b.s = U := ⟨_, rfl⟩
 rw [hU]
 obtain ⟨m', nv, lv, hm, rfl, hk1, hi1, hs1, hn1, hl1⟩ := hva.shape
 obtain rfl : m' = m := by omega
 obtain ⟨an, cn, rfl, hn2, hn3, hn4, hn5, hn6, hN⟩ := hn1.out
 obtain ⟨al, cl, rfl, hl2, hl3, hl4, hl5, hL⟩ := hl1.out
 obtain ⟨bn, mn, dn, bl, ml, dl, rfl⟩ := in_shape hvb
 have HN1 : Hid (Tx false (fun b => b < K) w (.slice an a.n.length cn) a.n) := hn1
 have HLL : Hid (LAt false (fun b => b < K) w m' al cl a.l) := hL
 have hkb := in_rng hvb
 obtain ⟨k1, b1, i1, s1, n, l⟩ := a
 obtain ⟨k2, b2, i2, s2, n2, l2⟩ := b
 simp only [C.k, C.b, C.i, C.s, C.n, C.l] at *
 unfold prtR at hU
 obtain ⟨ln, hln⟩ : ∃ ln, n.length = ln := ⟨_, rfl⟩
 obtain ⟨ll, hll⟩ : ∃ ll, l.length = ll := ⟨_, rfl⟩
 rw [hln] at HN1 hn2 hn4 hw
 rw [hll] at hl2 hl4 hw
 rw [hln, hll]
 obtain ⟨W0, hW0, hs0, hb0, hp, hq, hr⟩ := two3 w #[.int .i64 k1, .bool b1, .int .i64 i1, .string s1, .slice an ln cn, .slice al ll cl] #[.int .i64 k2, .bool b2, .int .i64 i2, .string s2, .slice bn mn dn, .slice bl ml dl]
 have HR : Hid (W0.heap[w.heap.size + 2]? = some (.cells #[.int .i64 0, .bool false, .int .i64 0, .string ⟨#[]⟩, .slice none 0 0, .slice none 0 0] 46 (0, 0))) := hr
 have HB : Hid (Below w.heap.size w W0) := hb0
 have HQ : Hid (W0.heap[w.heap.size + 1]? = some (.cells #[.int .i64 k2, .bool b2, .int .i64 i2, .string s2, .slice bn mn dn, .slice bl ml dl] 46 (0, 0))) := hq
 have HP : Hid (W0.heap[w.heap.size]? = some (.cells #[.int .i64 k1, .bool b1, .int .i64 i1, .string s1, .slice an ln cn, .slice al ll cl] 46 (0, 0))) := hp
 obtain ⟨p0, p1, p2, p3, p4, p5⟩ := six_box hp
 obtain ⟨q0, q1, q2, q3, q4, q5⟩ := six_box hq
 obtain ⟨r0, r1, r2, r3, r4, r5⟩ := six_box hr
 have rf0 := frozen_box hr 0
 have rf1 := frozen_box hr 1
 have rf2 := frozen_box hr 2
 have rf3 := frozen_box hr 3
 have rf4 := frozen_box hr 4
 have rf5 := frozen_box hr 5
 have HLN : Hid (n.length = ln /\ l.length = ll) := ⟨hln, hll⟩
 have HW : Hid (k1 = 6 -> ln <= ll) := hw
 clear hva hvb hn1 hl1 hN hL hp hq hb0 hr hln hll hw
 by_cases h5 : k1 = 5
 ·rw [if_pos h5] at hU
  subst h5
  have cI := integer_c k2 b2 i2 s2 (.slice bn mn dn) (.slice bl ml dl) W0
  by_cases h3 : k2 = 3
  ·rw [if_pos h3] at cI hU
   clear h3
   by_cases hneg : i2 < 0
   ·rw [if_pos (.inl hneg)] at hU
    subst hU
    have d0 : decide (i2 < 0) = true := decide_eq_true hneg
    clear hneg
    go_enter func103, ntmps103
    go_wp2_with fail
    try rw [hW0]
    refine cI.mono ?_
    rintro e W1 ⟨rfl, hb1⟩
    have hs1' := hb1.size
    have HB1 : Hid (Below w.heap.size w W1) := HB.out.trans (hb1.mono HB.out.size)
    obtain ⟨p0, p1, p2, p3, p4, p5⟩ := six_box ((hb1.block w.heap.size (by omega)).trans HP.out)
    have HR1 : Hid (W1.heap[w.heap.size + 2]? = some (.cells #[.int .i64 0, .bool false, .int .i64 0, .string ⟨#[]⟩, .slice none 0 0, .slice none 0 0] 46 (0, 0))) := (hb1.block (w.heap.size + 2) (by omega)).trans HR.out
    have hr := HR1.out
    obtain ⟨r0, r1, r2, r3, r4, r5⟩ := six_box hr
    have rf0 := frozen_box hr 0
    have rf1 := frozen_box hr 1
    have rf2 := frozen_box hr 2
    have rf3 := frozen_box hr 3
    have rf4 := frozen_box hr 4
    have rf5 := frozen_box hr 5
    clear hb1 cI hr
    go_wp2_with fail
    exact ⟨rfl, HB1.out, rfl⟩
   by_cases hbig : (ll : Int) <= i2
   ·rw [if_pos (.inr (by rw [HLN.out.2]; exact hbig))] at hU
    subst hU
    have d0 : decide (i2 < 0) = false := decide_eq_false hneg
    have d1 : decide ((ll : Int) <= i2) = true := decide_eq_true hbig
    clear hbig hneg
    go_enter func103, ntmps103
    go_wp2_with fail
    try rw [hW0]
    refine cI.mono ?_
    rintro e W1 ⟨rfl, hb1⟩
    have hs1' := hb1.size
    have HB1 : Hid (Below w.heap.size w W1) := HB.out.trans (hb1.mono HB.out.size)
    obtain ⟨p0, p1, p2, p3, p4, p5⟩ := six_box ((hb1.block w.heap.size (by omega)).trans HP.out)
    have HR1 : Hid (W1.heap[w.heap.size + 2]? = some (.cells #[.int .i64 0, .bool false, .int .i64 0, .string ⟨#[]⟩, .slice none 0 0, .slice none 0 0] 46 (0, 0))) := (hb1.block (w.heap.size + 2) (by omega)).trans HR.out
    have hr := HR1.out
    obtain ⟨r0, r1, r2, r3, r4, r5⟩ := six_box hr
    have rf0 := frozen_box hr 0
    have rf1 := frozen_box hr 1
    have rf2 := frozen_box hr 2
    have rf3 := frozen_box hr 3
    have rf4 := frozen_box hr 4
    have rf5 := frozen_box hr 5
    clear hb1 cI hr
    go_wp2_with fail
    exact ⟨rfl, HB1.out, rfl⟩
   skip
   rw [if_neg (by rw [HLN.out.2]; omega)] at hU
   obtain ⟨q, rfl⟩ : ∃ q : Nat, i2 = q := ⟨i2.toNat, by omega⟩
   have hq : q < ll := by omega
   have d0' : decide ((q : Int) < 0) = false := decide_eq_false (by omega)
   have d1' : decide ((ll : Int) <= (q : Int)) = false := decide_eq_false (by omega)
   clear hbig hneg
   go_enter func103, ntmps103
   go_wp2_with fail
   try rw [hW0]
   refine cI.mono ?_
   rintro e W1 ⟨rfl, hb1⟩
   have hs1' := hb1.size
   have HB1 : Hid (Below w.heap.size w W1) := HB.out.trans (hb1.mono HB.out.size)
   obtain ⟨p0, p1, p2, p3, p4, p5⟩ := six_box ((hb1.block w.heap.size (by omega)).trans HP.out)
   have HR1 : Hid (W1.heap[w.heap.size + 2]? = some (.cells #[.int .i64 0, .bool false, .int .i64 0, .string ⟨#[]⟩, .slice none 0 0, .slice none 0 0] 46 (0, 0))) := (hb1.block (w.heap.size + 2) (by omega)).trans HR.out
   have hr := HR1.out
   obtain ⟨r0, r1, r2, r3, r4, r5⟩ := six_box hr
   have rf0 := frozen_box hr 0
   have rf1 := frozen_box hr 1
   have rf2 := frozen_box hr 2
   have rf3 := frozen_box hr 3
   have rf4 := frozen_box hr 4
   have rf5 := frozen_box hr 5
   clear hb1 cI hr
   obtain ⟨g, oo, u, rfl, hSg, hSix, hIn⟩ := Base.elem_at HLL.out (q := q) (by rw [HLN.out.2]; omega)
   have hSix := (Base.Keep.of_below (S := All) (HB1.out)).six trivial hSix
   obtain ⟨e, he⟩ : ∃ e, l[q]'(by rw [HLN.out.2]; omega) = e := ⟨_, rfl⟩
   rw [he] at hIn
   obtain ⟨x0, x1, x2, x3, x4, x5, rfl, d0, d1, d2, d3, d4, d5⟩ := hSix
   obtain ⟨en, eln, ecn, el, ell, ecl, hu⟩ := in_shape hIn
   injection hu with hu
   simp only [Array.mk.injEq, List.cons.injEq, and_true] at hu
   obtain ⟨rfl, rfl, rfl, rfl, rfl, rfl⟩ := hu
   have hge : l.getD q zerC = e := by rw [List.getD_eq_getElem?_getD, List.getElem?_eq_getElem (by rw [HLN.out.2]; omega), he]; rfl
   have HI : Hid (Base.In false (fun b => b < K) w m' (vl e.k e.b e.i e.s (.slice en eln ecn) (.slice el ell ecl)) e) := hIn
   clear hIn he
   rw [Int.toNat_natCast, hge] at hU
   subst hU
   clear hge
   have hcl : ll <= cl := hl2
   skip
   generalize e.k = ek at *
   generalize e.b = eb at *
   generalize e.i = ei at *
   generalize e.s = es at *
   go_wp2_with fail
   obtain ⟨W9, hW9⟩ : ∃ W9, ((((((W1.setCell ⟨w.heap.size + 2, 0, none⟩ (.int .i64 ek)).setCell ⟨w.heap.size + 2, 1, none⟩ (.bool eb)).setCell ⟨w.heap.size + 2, 2, none⟩ (.int .i64 ei)).setCell ⟨w.heap.size + 2, 3, none⟩ (.string es)).setCell ⟨w.heap.size + 2, 4, none⟩ (.slice en eln ecn)).setCell ⟨w.heap.size + 2, 5, none⟩ (.slice el ell ecl)) = W9 := ⟨_, rfl⟩
   rw [hW9]
   obtain ⟨q1, q2, q3, q4⟩ := set6 _ _ _ _ _ _ HR1.out hW9
   refine bodyPost_ret (results_cell_row rfl _ W9 (w.heap.size + 2) 46 _ (0, 0) _ rfl q1 underlying46 rfl (by kernel_rfl)) rfl ?_
   skip
   exact ⟨q4 _ _ (by omega) HB1.out, _, rfl, (in_low HI.out ((q4 _ _ (by omega) HB1.out).mono hK)).weak (fun _ h => h) false id _ (by omega)⟩
  ·rw [if_neg h3] at cI hU
   subst hU
   clear h3
   go_enter func103, ntmps103
   go_wp2_with fail
   try rw [hW0]
   refine cI.mono ?_
   rintro e W1 ⟨rfl, hb1⟩
   exact ⟨rfl, HB.out.trans (hb1.mono HB.out.size), rfl⟩
 rw [if_neg h5] at hU
 have e5 : (k1 == 5) = false := by simp [h5]
 by_cases h64 : k1 = 6 /\ k2 = 4
 ·rw [if_pos h64] at hU
  obtain ⟨rfl, rfl⟩ := h64
  have hwn := HW.out rfl
  have cT := must_t W0
  have hx : Tx false All W0 (.slice an ln cn) n := (HN1.out.weak (S' := All) (fun _ _ => trivial) false id).below HB.out
  have cX := Part.index_c (.slice an ln cn) n s2 W0 hx
  unfold Part.fiI at cX
  clear h5 e5 hx
  cases hfi : Part.fi n s2 with
  | none =>
   rw [hfi] at cX hU
   simp only at cX hU
   subst hU
   clear hfi
   go_enter func103, ntmps103
   go_wp2_with fail
   try rw [hW0]
   refine cT.mono ?_
   rintro e W0 ⟨⟨v, rfl⟩, rfl⟩
   go_wp2_with fail
   refine cX.mono ?_
   rintro e W1 ⟨rfl, hb1⟩
   have hs1' := hb1.size
   have HB1 : Hid (Below w.heap.size w W1) := HB.out.trans (hb1.mono HB.out.size)
   obtain ⟨p0, p1, p2, p3, p4, p5⟩ := six_box ((hb1.block w.heap.size (by omega)).trans HP.out)
   have HR1 : Hid (W1.heap[w.heap.size + 2]? = some (.cells #[.int .i64 0, .bool false, .int .i64 0, .string ⟨#[]⟩, .slice none 0 0, .slice none 0 0] 46 (0, 0))) := (hb1.block (w.heap.size + 2) (by omega)).trans HR.out
   have hr := HR1.out
   obtain ⟨r0, r1, r2, r3, r4, r5⟩ := six_box hr
   have rf0 := frozen_box hr 0
   have rf1 := frozen_box hr 1
   have rf2 := frozen_box hr 2
   have rf3 := frozen_box hr 3
   have rf4 := frozen_box hr 4
   have rf5 := frozen_box hr 5
   clear hb1 cX cT hr
   go_wp2_with fail
   exact ⟨rfl, HB1.out, rfl⟩
  | some q =>
   have hq := Part.fi_lt hfi
   rw [HLN.out.1] at hq
   rw [hfi] at cX hU
   simp only at cX hU
   clear hfi
   have hq2 : q < ll := by omega
   have d0' : decide ((q : Int) < 0) = false := decide_eq_false (by omega)
   have hcl : ll <= cl := hl2
   go_enter func103, ntmps103
   go_wp2_with fail
   try rw [hW0]
   refine cT.mono ?_
   rintro e W0 ⟨⟨v, rfl⟩, rfl⟩
   go_wp2_with fail
   refine cX.mono ?_
   rintro e W1 ⟨rfl, hb1⟩
   have hs1' := hb1.size
   have HB1 : Hid (Below w.heap.size w W1) := HB.out.trans (hb1.mono HB.out.size)
   obtain ⟨p0, p1, p2, p3, p4, p5⟩ := six_box ((hb1.block w.heap.size (by omega)).trans HP.out)
   have HR1 : Hid (W1.heap[w.heap.size + 2]? = some (.cells #[.int .i64 0, .bool false, .int .i64 0, .string ⟨#[]⟩, .slice none 0 0, .slice none 0 0] 46 (0, 0))) := (hb1.block (w.heap.size + 2) (by omega)).trans HR.out
   have hr := HR1.out
   obtain ⟨r0, r1, r2, r3, r4, r5⟩ := six_box hr
   have rf0 := frozen_box hr 0
   have rf1 := frozen_box hr 1
   have rf2 := frozen_box hr 2
   have rf3 := frozen_box hr 3
   have rf4 := frozen_box hr 4
   have rf5 := frozen_box hr 5
   clear hb1 cX cT hr
   obtain ⟨g, oo, u, rfl, hSg, hSix, hIn⟩ := Base.elem_at HLL.out (q := q) (by rw [HLN.out.2]; omega)
   have hSix := (Base.Keep.of_below (S := All) (HB1.out)).six trivial hSix
   obtain ⟨e, he⟩ : ∃ e, l[q]'(by rw [HLN.out.2]; omega) = e := ⟨_, rfl⟩
   rw [he] at hIn
   obtain ⟨x0, x1, x2, x3, x4, x5, rfl, d0, d1, d2, d3, d4, d5⟩ := hSix
   obtain ⟨en, eln, ecn, el, ell, ecl, hu⟩ := in_shape hIn
   injection hu with hu
   simp only [Array.mk.injEq, List.cons.injEq, and_true] at hu
   obtain ⟨rfl, rfl, rfl, rfl, rfl, rfl⟩ := hu
   have hge : l.getD q zerC = e := by rw [List.getD_eq_getElem?_getD, List.getElem?_eq_getElem (by rw [HLN.out.2]; omega), he]; rfl
   have HI : Hid (Base.In false (fun b => b < K) w m' (vl e.k e.b e.i e.s (.slice en eln ecn) (.slice el ell ecl)) e) := hIn
   clear hIn he
   rw [hge] at hU
   subst hU
   clear hge
   generalize e.k = ek at *
   generalize e.b = eb at *
   generalize e.i = ei at *
   generalize e.s = es at *
   go_wp2_with fail
   obtain ⟨W9, hW9⟩ : ∃ W9, ((((((W1.setCell ⟨w.heap.size + 2, 0, none⟩ (.int .i64 ek)).setCell ⟨w.heap.size + 2, 1, none⟩ (.bool eb)).setCell ⟨w.heap.size + 2, 2, none⟩ (.int .i64 ei)).setCell ⟨w.heap.size + 2, 3, none⟩ (.string es)).setCell ⟨w.heap.size + 2, 4, none⟩ (.slice en eln ecn)).setCell ⟨w.heap.size + 2, 5, none⟩ (.slice el ell ecl)) = W9 := ⟨_, rfl⟩
   rw [hW9]
   obtain ⟨q1, q2, q3, q4⟩ := set6 _ _ _ _ _ _ HR1.out hW9
   refine bodyPost_ret (results_cell_row rfl _ W9 (w.heap.size + 2) 46 _ (0, 0) _ rfl q1 underlying46 rfl (by kernel_rfl)) rfl ?_
   skip
   exact ⟨q4 _ _ (by omega) HB1.out, _, rfl, (in_low HI.out ((q4 _ _ (by omega) HB1.out).mono hK)).weak (fun _ h => h) false id _ (by omega)⟩
 ·rw [if_neg h64] at hU
  subst hU
  by_cases g6 : k1 = 6
  ·have e6 : (k1 == 6) = true := by simp [g6]
   have e4 : (k2 == 4) = false := by simp; omega
   clear h5 h64 g6
   have cF := must_f W0
   go_enter func103, ntmps103
   go_wp2_with fail
   try rw [hW0]
   refine cF.mono ?_
   rintro e W1 ⟨rfl, rfl⟩
   exact ⟨rfl, HB.out, rfl⟩
  ·have e6 : (k1 == 6) = false := by simp [g6]
   clear h5 h64 g6
   have cF := must_f W0
   go_enter func103, ntmps103
   go_wp2_with fail
   try rw [hW0]
   refine cF.mono ?_
   rintro e W1 ⟨rfl, rfl⟩
   exact ⟨rfl, HB.out, rfl⟩
theorem pair7 {K m : Nat} {w : World} {va vb : Value} {a b : C} (hK : K <= w.heap.size) (hva : Base.In false (fun b => b < K) w (m + 1) va a) (hvb : Base.In false (fun b => b < K) w (m + 1) vb b) (hw : a.k = 6 -> a.n.length <= a.l.length) :
  Calls prog 90 #[.int .i64 7, va, vb] w fun e w' => VR K (m + 1) w (VPure.prt a b) e w' := by
 obtain ⟨U, hU⟩ : ∃ U, VPure.prt a b = U := ⟨_, rfl⟩
 have cI := fun W (hW : Below w.heap.size w W) => part_c (w := W) (Nat.le_trans hK hW.size) (in_low hva (hW.mono hK)) (in_low hvb (hW.mono hK)) hw
 rw [hU] at cI ⊢
 obtain ⟨an, ln, cn, al, ll, cl, rfl⟩ := in_shape hva
 obtain ⟨bn, mn, dn, bl, ml, dl, rfl⟩ := in_shape hvb
 clear hU hva hvb hw
 generalize a.k = k1 at *
 generalize a.b = b1 at *
 generalize a.i = i1 at *
 generalize a.s = s1 at *
 generalize b.k = k2 at *
 generalize b.b = b2 at *
 generalize b.i = i2 at *
 generalize b.s = s2 at *
 obtain ⟨W0, hW0, hs0, hb0, hp, hq, hr⟩ := two3 w #[.int .i64 k1, .bool b1, .int .i64 i1, .string s1, .slice an ln cn, .slice al ll cl] #[.int .i64 k2, .bool b2, .int .i64 i2, .string s2, .slice bn mn dn, .slice bl ml dl]
 have HR : Hid (W0.heap[w.heap.size + 2]? = some (.cells #[.int .i64 0, .bool false, .int .i64 0, .string ⟨#[]⟩, .slice none 0 0, .slice none 0 0] 46 (0, 0))) := hr
 have HB : Hid (Below w.heap.size w W0) := hb0
 obtain ⟨p0, p1, p2, p3, p4, p5⟩ := six_box hp
 obtain ⟨q0, q1, q2, q3, q4, q5⟩ := six_box hq
 have cI := cI W0 hb0
 clear hp hq hb0 hr
 go_enter func90, ntmps90
 go_upto_if 8 with fail
 refine wp_cond_true (by rfl) ?_
 refine wp_skip ?_
 refine ex_norm ?_
 apply_assumption
 go_upto_if 8 with fail
 refine wp_cond_true (by rfl) ?_
 refine wp_exit ?_
 repeat (first | (with_reducible refine ex_then ?_) | (with_reducible refine ex_skip (by decide) ?_))
 refine ex_hit ?_
 refine ex_norm ?_
 apply_assumption
 refine wp_mono (Q := Out ?outB) ?outM (out_mono ?outR ?outP)
 case outR => intro a w h; (repeat (first | (with_reducible refine rt_then ?_) | (with_reducible refine rt_blk ?_))); exact h
 case outP => intro c a w h; (repeat (first | (with_reducible refine pn_then ?_) | (with_reducible refine pn_blk ?_))); exact h
 try simp only [hW0]
 go_wp2_with fail
 try rw [hW0]
 refine cI.mono ?_
 rintro e W1 ⟨hb1, hA⟩
 clear cI
 have hs1 := hb1.size
 have HB1 : Hid (Below w.heap.size w W1) := HB.out.trans (hb1.mono HB.out.size)
 have HR1 : Hid (W1.heap[w.heap.size + 2]? = some (.cells #[.int .i64 0, .bool false, .int .i64 0, .string ⟨#[]⟩, .slice none 0 0, .slice none 0 0] 46 (0, 0))) := (hb1.block (w.heap.size + 2) (by omega)).trans HR.out
 clear hb1
 cases U with
 | error c =>
  obtain rfl := hA
  exact ⟨rfl, HB1.out, rfl⟩
 | ok e =>
  obtain ⟨u, rfl, hin⟩ := hA
  obtain ⟨en, eln, ecn, el, ell, ecl, rfl⟩ := in_shape hin
  have HI : Hid (Base.In false (fun b => b < K) W1 (m + 1) (vl e.k e.b e.i e.s (.slice en eln ecn) (.slice el ell ecl)) e) := hin
  have hr := HR1.out
  obtain ⟨r0, r1, r2, r3, r4, r5⟩ := six_box hr
  have rf0 := frozen_box hr 0
  have rf1 := frozen_box hr 1
  have rf2 := frozen_box hr 2
  have rf3 := frozen_box hr 3
  have rf4 := frozen_box hr 4
  have rf5 := frozen_box hr 5
  clear hin hr
  generalize e.k = ek at *
  generalize e.b = eb at *
  generalize e.i = ei at *
  generalize e.s = es at *
  go_wp2_with fail
  obtain ⟨W9, hW9⟩ : ∃ W9, ((((((W1.setCell ⟨w.heap.size + 2, 0, none⟩ (.int .i64 ek)).setCell ⟨w.heap.size + 2, 1, none⟩ (.bool eb)).setCell ⟨w.heap.size + 2, 2, none⟩ (.int .i64 ei)).setCell ⟨w.heap.size + 2, 3, none⟩ (.string es)).setCell ⟨w.heap.size + 2, 4, none⟩ (.slice en eln ecn)).setCell ⟨w.heap.size + 2, 5, none⟩ (.slice el ell ecl)) = W9 := ⟨_, rfl⟩
  rw [hW9]
  obtain ⟨q1, q2, q3, q4⟩ := set6 _ _ _ _ _ _ HR1.out hW9
  first | refine out_ret (results_cell_row rfl _ W9 (w.heap.size + 2) 46 _ (0, 0) _ rfl q1 underlying46 rfl (by kernel_rfl)) rfl ?_ | refine bodyPost_ret (results_cell_row rfl _ W9 (w.heap.size + 2) 46 _ (0, 0) _ rfl q1 underlying46 rfl (by kernel_rfl)) rfl ?_
  exact ⟨q4 _ _ (by omega) HB1.out, _, rfl, in_low HI.out (q4 _ _ (by omega) (Below.refl _ _))⟩
theorem pair8 {K m : Nat} {w : World} {va vb : Value} {a b : C} (hK : K <= w.heap.size) (hva : Base.In false (fun b => b < K) w (m + 1) va a) (hvb : Base.In false (fun b => b < K) w (m + 1) vb b) (hw : a.k = 6 -> a.n.length <= a.l.length) :
  Calls prog 90 #[.int .i64 8, va, vb] w fun e w' => VR K (m + 1) w (VPure.prt a b) e w' := by
 obtain ⟨U, hU⟩ : ∃ U, VPure.prt a b = U := ⟨_, rfl⟩
 have cI := fun W (hW : Below w.heap.size w W) => part_c (w := W) (Nat.le_trans hK hW.size) (in_low hva (hW.mono hK)) (in_low hvb (hW.mono hK)) hw
 rw [hU] at cI ⊢
 obtain ⟨an, ln, cn, al, ll, cl, rfl⟩ := in_shape hva
 obtain ⟨bn, mn, dn, bl, ml, dl, rfl⟩ := in_shape hvb
 clear hU hva hvb hw
 generalize a.k = k1 at *
 generalize a.b = b1 at *
 generalize a.i = i1 at *
 generalize a.s = s1 at *
 generalize b.k = k2 at *
 generalize b.b = b2 at *
 generalize b.i = i2 at *
 generalize b.s = s2 at *
 obtain ⟨W0, hW0, hs0, hb0, hp, hq, hr⟩ := two3 w #[.int .i64 k1, .bool b1, .int .i64 i1, .string s1, .slice an ln cn, .slice al ll cl] #[.int .i64 k2, .bool b2, .int .i64 i2, .string s2, .slice bn mn dn, .slice bl ml dl]
 have HR : Hid (W0.heap[w.heap.size + 2]? = some (.cells #[.int .i64 0, .bool false, .int .i64 0, .string ⟨#[]⟩, .slice none 0 0, .slice none 0 0] 46 (0, 0))) := hr
 have HB : Hid (Below w.heap.size w W0) := hb0
 obtain ⟨p0, p1, p2, p3, p4, p5⟩ := six_box hp
 obtain ⟨q0, q1, q2, q3, q4, q5⟩ := six_box hq
 have cI := cI W0 hb0
 clear hp hq hb0 hr
 go_enter func90, ntmps90
 go_upto_if 8 with fail
 refine wp_cond_false (by rfl) ?_
 go_upto_if 8 with fail
 refine wp_cond_true (by rfl) ?_
 refine wp_exit ?_
 repeat (first | (with_reducible refine ex_then ?_) | (with_reducible refine ex_skip (by decide) ?_))
 refine ex_hit ?_
 refine ex_norm ?_
 apply_assumption
 refine wp_mono (Q := Out ?outB) ?outM (out_mono ?outR ?outP)
 case outR => intro a w h; (repeat (first | (with_reducible refine rt_then ?_) | (with_reducible refine rt_blk ?_))); exact h
 case outP => intro c a w h; (repeat (first | (with_reducible refine pn_then ?_) | (with_reducible refine pn_blk ?_))); exact h
 try simp only [hW0]
 go_wp2_with fail
 try rw [hW0]
 refine cI.mono ?_
 rintro e W1 ⟨hb1, hA⟩
 clear cI
 have hs1 := hb1.size
 have HB1 : Hid (Below w.heap.size w W1) := HB.out.trans (hb1.mono HB.out.size)
 have HR1 : Hid (W1.heap[w.heap.size + 2]? = some (.cells #[.int .i64 0, .bool false, .int .i64 0, .string ⟨#[]⟩, .slice none 0 0, .slice none 0 0] 46 (0, 0))) := (hb1.block (w.heap.size + 2) (by omega)).trans HR.out
 clear hb1
 cases U with
 | error c =>
  obtain rfl := hA
  exact ⟨rfl, HB1.out, rfl⟩
 | ok e =>
  obtain ⟨u, rfl, hin⟩ := hA
  obtain ⟨en, eln, ecn, el, ell, ecl, rfl⟩ := in_shape hin
  have HI : Hid (Base.In false (fun b => b < K) W1 (m + 1) (vl e.k e.b e.i e.s (.slice en eln ecn) (.slice el ell ecl)) e) := hin
  have hr := HR1.out
  obtain ⟨r0, r1, r2, r3, r4, r5⟩ := six_box hr
  have rf0 := frozen_box hr 0
  have rf1 := frozen_box hr 1
  have rf2 := frozen_box hr 2
  have rf3 := frozen_box hr 3
  have rf4 := frozen_box hr 4
  have rf5 := frozen_box hr 5
  clear hin hr
  generalize e.k = ek at *
  generalize e.b = eb at *
  generalize e.i = ei at *
  generalize e.s = es at *
  go_wp2_with fail
  obtain ⟨W9, hW9⟩ : ∃ W9, ((((((W1.setCell ⟨w.heap.size + 2, 0, none⟩ (.int .i64 ek)).setCell ⟨w.heap.size + 2, 1, none⟩ (.bool eb)).setCell ⟨w.heap.size + 2, 2, none⟩ (.int .i64 ei)).setCell ⟨w.heap.size + 2, 3, none⟩ (.string es)).setCell ⟨w.heap.size + 2, 4, none⟩ (.slice en eln ecn)).setCell ⟨w.heap.size + 2, 5, none⟩ (.slice el ell ecl)) = W9 := ⟨_, rfl⟩
  rw [hW9]
  obtain ⟨q1, q2, q3, q4⟩ := set6 _ _ _ _ _ _ HR1.out hW9
  first | refine out_ret (results_cell_row rfl _ W9 (w.heap.size + 2) 46 _ (0, 0) _ rfl q1 underlying46 rfl (by kernel_rfl)) rfl ?_ | refine bodyPost_ret (results_cell_row rfl _ W9 (w.heap.size + 2) 46 _ (0, 0) _ rfl q1 underlying46 rfl (by kernel_rfl)) rfl ?_
  exact ⟨q4 _ _ (by omega) HB1.out, _, rfl, in_low HI.out (q4 _ _ (by omega) (Below.refl _ _))⟩
end Go.Proofs.YthjbknncbhkinaaGreatDoor.VPt
namespace Go.Proofs.YthjbknncbhkinaaGreatDoor.MDq
open Go.RowKit Base VSm VRs MBx MPu MSe MDo
open VPure
theorem do_null {K m : Nat} {w : World} {M : Nat} {tv sv pv : Value} {p : List C} (h : Mc K (m + 1) w M tv sv pv p) (hp : p.length <= 65536) {a : Int} :
  Calls prog 82 #[ptr M, .agg #[.int .i64 1, .int .i64 a]] w fun e w' => DR K (m + 1) M tv sv pv w (.ok (p ++ [nulC])) e w' := by
 obtain ⟨W0, hW0, b0, s0, x0⟩ := box1 w (.int .i64 1) (.int .i64 a)
 obtain ⟨i0, i1⟩ := two_box x0
 have hiv : Base.In false (fun b => b < K) W0 (m + 1) (v0 1 false 0 ⟨#[]⟩) nulC := in_v0 _ W0 m false (by decide) (by decide) (by decide)
 have cP : Calls prog 101 #[ptr M, v0 1 false 0 ⟨#[]⟩] W0 fun e w' => (∃ v, e = .returned v) /\ ∃ pv', Mc K (m + 1) w' M tv sv pv' (p ++ [nulC]) /\ Km M pv W0 w' /\ (pv'.ownBlock = pv.ownBlock \/ ∃ g, pv'.ownBlock = some g /\ W0.heap.size <= g) := put_c (c := nulC) (h.below b0) hp hiv
 have HH : Hid _ := h
 have HB0 : Hid _ := b0
 clear h b0 x0 hiv
 go_enter func82, ntmps82
 go_wp2_with fail
 try rw [hW0]
 refine cP.mono ?_
 rintro e W2 ⟨⟨v, rfl⟩, pv', m2, k2, e2⟩
 have HE : Hid _ := put_on (Nat.le_of_lt HH.out.lt) HB0.out m2 k2 e2
 clear cP m2 k2 e2
 go_wp2_with fail
 go_end0
 exact ⟨⟨_, rfl⟩, HE.out⟩
theorem do_truth {K m : Nat} {w : World} {M : Nat} {tv sv pv : Value} {p : List C} (h : Mc K (m + 1) w M tv sv pv p) (hp : p.length <= 65536) {o a : Int} (ho : o = 2 \/ o = 3) :
  Calls prog 82 #[ptr M, .agg #[.int .i64 o, .int .i64 a]] w fun e w' => DR K (m + 1) M tv sv pv w (.ok (p ++ [booC (decide (o = 3))])) e w' := by
 obtain ⟨W0, hW0, b0, s0, x0⟩ := box1 w (.int .i64 o) (.int .i64 a)
 obtain ⟨i0, i1⟩ := two_box x0
 have cN := fun b => truth_c b W0
 have hiv : ∀ b W, Base.In false (fun b => b < K) W (m + 1) (v0 2 b 0 ⟨#[]⟩) (booC b) := fun b W => in_v0 _ W m b (by decide) (by decide) (by decide)
 have HIV : Hid _ := hiv
 have HH : Hid _ := h
 have HB0 : Hid _ := b0
 clear h b0 x0 hiv
 rcases ho with rfl | rfl
 all_goals
  go_enter func82, ntmps82
  go_wp2_with fail
  try rw [hW0]
  refine (cN _).mono ?_
  rintro e W1 ⟨rfl, b1⟩
  have hb1 : Below w.heap.size w W1 := HB0.out.trans (b1.mono (by omega))
  have HB1 : Hid _ := hb1
  have cP := fun b => put_c (c := booC b) (HH.out.below hb1) hp (HIV.out b W1)
  clear cN b1 hb1
  go_wp2_with fail
  refine (cP _).mono ?_
  rintro e W2 ⟨⟨v, rfl⟩, pv', m2, k2, e2⟩
  have HE : Hid _ := put_on (Nat.le_of_lt HH.out.lt) HB1.out m2 k2 e2
  clear cP m2 k2 e2
  go_wp2_with fail
  go_end0
  exact ⟨⟨_, rfl⟩, HE.out⟩
theorem do_text {K m : Nat} {w : World} {M : Nat} {tv sv pv : Value} {p : List C} (h : Mc K (m + 1) w M tv sv pv p) (hp : p.length <= 65536) {T : List ByteArray} (hT : Tz K w tv T) {k : Nat} (hk : k < T.length) :
  Calls prog 82 #[ptr M, .agg #[.int .i64 5, .int .i64 (k : Nat)]] w fun e w' => DR K (m + 1) M tv sv pv w (.ok (p ++ [strC T[k]])) e w' := by
 obtain ⟨W0, hW0, b0, s0, x0⟩ := box1 w (.int .i64 5) (.int .i64 (k : Nat))
 obtain ⟨i0, i1⟩ := two_box x0
 obtain ⟨a, cap, rfl, h1, h2, hL⟩ := hT
 obtain ⟨g, o, rfl, hg, hc⟩ : ∃ g o, a = some ⟨g, o, none⟩ /\ g < K /\ ∀ j (h : j < T.length), w.cell? ⟨g, o + j, none⟩ = some (.string T[j]) /\ T[j].size <= 140737488351232 := by
  rcases hL with rfl | hL
  ·simp at hk
  ·exact hL
 obtain ⟨c0, hsz⟩ := hc k hk
 have hlt := h.lt
 have hlow := h.low
 have kM : W0.cell? ⟨M, 0, none⟩ = some (.slice (some ⟨g, o, none⟩) T.length cap) := by
  have := (b0.block M hlt).trans h.box
  simp [World.cell?, this]
 have c0 := below_cell c0 b0
 have hi1 : (0 : Int) <= (k : Int) := by omega
 have hi2 : (k : Int) < (T.length : Int) := by omega
 obtain ⟨s, hs⟩ : ∃ s, T[k] = s := ⟨_, rfl⟩
 rw [hs] at c0 hsz ⊢
 have hiv : ∀ W, Base.In false (fun b => b < K) W (m + 1) (v0 4 false 0 s) (strC s) := fun W => in_v0 _ W m false (by decide) (by decide) hsz
 have HIV : Hid _ := hiv
 have HH : Hid _ := h
 have HB0 : Hid _ := b0
 have HX0 : Hid _ := x0
 have HLT : Hid (M < w.heap.size /\ K <= M) := ⟨hlt, hlow⟩
 have hpn : some w.heap.size ≠ pv.ownBlock := fun e => by have := HH.out.own_ne e.symm; omega
 have HPN : Hid _ := hpn
 have HS : Hid (∀ W, Below W0.heap.size W0 W -> W.cell? ⟨M, 0, none⟩ = some (.slice (some ⟨g, o, none⟩) T.length cap) /\ W.cell? ⟨w.heap.size, 1, none⟩ = some (.int .i64 (k : Nat)) /\ W.cell? ⟨g, o + k, none⟩ = some (.string s)) := fun W hW => ⟨below_cell kM hW, below_cell i1 hW, below_cell c0 hW⟩
 have HG : Hid (g < K) := hg
 clear h b0 x0 hL hc hs hiv hg hpn hlt hlow
 go_enter func82, ntmps82
 go_wp2_with fail
 try rw [hW0]
 go_region_held3 (fun w' => w'.cell? ⟨M, 0, none⟩ = some (.slice (some ⟨g, o, none⟩) T.length cap) /\ w'.cell? ⟨w.heap.size, 1, none⟩ = some (.int .i64 (k : Nat)) /\ w'.cell? ⟨g, o + k, none⟩ = some (.string s)) (go_keep) (first
  | (go_at_call 86; refine (text_c s _).mono ?_; rintro e W1 ⟨rfl, b1⟩; have b1 : Below W0.heap.size W0 W1 := (((Below.refl _ W0).drew).trans b1); obtain ⟨n0, n1, n2⟩ := HS.out W1 b1; have hb1 : Below w.heap.size w W1 := HB0.out.trans (b1.mono (by omega)); have cP := put_c (c := strC s) (HH.out.below hb1) hp (HIV.out W1))
  | (go_at_call 101; refine cP.mono ?_; rintro e W2 ⟨⟨v, rfl⟩, pv', m2, k2, e2⟩; have n1 : W2.cell? ⟨M, 0, none⟩ = some (.slice (some ⟨g, o, none⟩) T.length cap) := (by simp [World.cell?, m2.box]); obtain ⟨-, n2⟩ := two_box ((k2.other w.heap.size (by have := b1.size; omega) (by have := HLT.out; omega) HPN.out).trans ((b1.block w.heap.size (by omega)).trans HX0.out)); have n3 : W2.cell? ⟨g, o + k, none⟩ = some (.string s) := ((World.cell?_of_block (w := W1) (k2.below.block g (by have := HG.out; have := HLT.out; omega))).trans (HS.out W1 b1).2.2)))
 have HE : Hid _ := put_on (Nat.le_of_lt HH.out.lt) hb1 m2 k2 e2
 clear cP m2 k2 e2 b1 hb1
 go_wp2_with fail
 go_end0
 exact ⟨⟨_, rfl⟩, HE.out⟩
theorem do_bool {K m : Nat} {w : World} {M : Nat} {tv sv pv : Value} {q : List C} {c : C} (h : Mc K m w M tv sv pv (q ++ [c])) (hq : q.length <= 65536) {a : Int} :
  Calls prog 82 #[ptr M, .agg #[.int .i64 29, .int .i64 a]] w fun e w' => DR K m M tv sv pv w (if c.k = 2 then .ok (q ++ [c]) else .error 1101) e w' := by
 obtain ⟨W0, hW0, b0, s0, x0⟩ := box1 w (.int .i64 29) (.int .i64 a)
 obtain ⟨i0, i1⟩ := two_box x0
 have cT := top_c (h.below b0) hq
 have HH : Hid _ := h
 have HB0 : Hid _ := b0
 obtain ⟨X, hX⟩ : ∃ X, (if c.k = 2 then Except.ok (q ++ [c]) else Except.error 1101) = X := ⟨_, rfl⟩
 rw [hX]
 have HX : Hid ((if c.k = 2 then Except.ok (q ++ [c]) else Except.error 1101) = X) := hX
 clear h b0 x0 hX
 go_enter func82, ntmps82
 go_wp2_with fail
 try rw [hW0]
 refine cT.mono ?_
 rintro e W1 ⟨u, rfl, hin, b1⟩
 obtain ⟨an, ln, cn, al, ll, cl, rfl⟩ := in_shape hin
 have hb1 : Below w.heap.size w W1 := HB0.out.trans (b1.mono (by omega))
 have cI := isTrue_c c.k c.b c.i c.s (.slice an ln cn) (.slice al ll cl) W1
 have HB1 : Hid _ := hb1
 clear cT b1 hb1 hin
 by_cases hk : c.k = 2
 ·rw [if_pos hk] at cI
  have hX := HX.out
  rw [if_pos hk] at hX
  subst hX
  clear hk
  go_wp2_with fail
  refine cI.mono ?_
  rintro e W2 ⟨rfl, b2⟩
  have hb2 : Below w.heap.size w W2 := HB1.out.trans (b2.mono HB1.out.size)
  have HE : Hid (∃ pv', Mc K m W2 M tv sv pv' (q ++ [c]) /\ Km M pv w W2 /\ (pv'.ownBlock = pv.ownBlock \/ ∃ g, pv'.ownBlock = some g /\ w.heap.size <= g)) := ⟨pv, HH.out.below hb2, Km.of_below hb2 (Nat.le_of_lt HH.out.lt), .inl rfl⟩
  clear cI b2 hb2
  go_wp2_with fail
  go_end0
  exact ⟨⟨_, rfl⟩, HE.out⟩
 ·rw [if_neg hk] at cI
  have hX := HX.out
  rw [if_neg hk] at hX
  subst hX
  clear hk
  go_wp2_with fail
  refine cI.mono ?_
  rintro e W2 ⟨rfl, b2⟩
  exact ⟨rfl, rfl, Km.of_below (HB1.out.trans (b2.mono HB1.out.size)) (Nat.le_of_lt HH.out.lt)⟩
end Go.Proofs.YthjbknncbhkinaaGreatDoor.MDq
