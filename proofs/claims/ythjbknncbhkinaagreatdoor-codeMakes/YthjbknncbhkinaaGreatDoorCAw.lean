/- What every program answers that is one (awake of layer 20's laws). -/
import Derived.Test.YthjbknncbhkinaaGreatDoorVPk
import Derived.Test.YthjbknncbhkinaaGreatDoorPart0
import Derived.Test.YthjbknncbhkinaaGreatDoorMRu
namespace Go.Proofs.YthjbknncbhkinaaGreatDoor.VPt
open Go.RowKit Go.Proofs.YthjbknncbhkinaaGreatDoor.Base Go.Proofs.YthjbknncbhkinaaGreatDoor.EPure Go.Proofs.YthjbknncbhkinaaGreatDoor.VPure Go.Proofs.YthjbknncbhkinaaGreatDoor.VSm Go.Proofs.YthjbknncbhkinaaGreatDoor.VIn Go.Proofs.YthjbknncbhkinaaGreatDoor.VEx Go.Proofs.YthjbknncbhkinaaGreatDoor.VJn Go.Proofs.YthjbknncbhkinaaGreatDoor.VRs Go.Proofs.YthjbknncbhkinaaGreatDoor.VPk
set_option linter.unusedVariables false

set_option maxRecDepth 20000 in
set_option maxHeartbeats 3200000 in
theorem part_c {K m : Nat} {w : World} {va vb : Value} {a b : C} (hK : K ≤ w.heap.size) (hva : Base.In false (fun b => b < K) w (m + 1) va a) (hvb : Base.In false (fun b => b < K) w (m + 1) vb b) (hw : a.k = 6 → a.n.length ≤ a.l.length) :
    Calls Tryz.prog 103 #[va, vb] w fun e w' => VR K (m + 1) w (VPure.prt a b) e w' := by
  unfold VPure.prt
  obtain ⟨U, hU⟩ : ∃ U, prtR a.k a.n a.l b.k b.i b.s = U := ⟨_, rfl⟩
  rw [hU]
  obtain ⟨m', nv, lv, hm, rfl, hk1, hi1, hs1, hn1, hl1⟩ := hva.shape
  obtain rfl : m' = m := by omega
  obtain ⟨an, cn, rfl, hn2, hn3, hn4, hn5, hn6, hN⟩ := hn1.out
  obtain ⟨al, cl, rfl, hl2, hl3, hl4, hl5, hL⟩ := hl1.out
  obtain ⟨bn, mn, dn, bl, ml, dl, rfl⟩ := in_shape hvb
  have HN1 : Hid (Tx false (fun b => b < K) w (.slice an a.n.length cn) a.n) := hn1
  have HLL : Hid (LAt false (fun b => b < K) w m' al cl a.l) := hL
  have hkb := in_rng hvb
  obtain ⟨k1, b1, i1, s1, n, l⟩ := a
  obtain ⟨k2, b2, i2, s2, n2, l2⟩ := b
  simp only [C.k, C.b, C.i, C.s, C.n, C.l] at *
  unfold prtR at hU
  obtain ⟨ln, hln⟩ : ∃ ln, n.length = ln := ⟨_, rfl⟩
  obtain ⟨ll, hll⟩ : ∃ ll, l.length = ll := ⟨_, rfl⟩
  rw [hln] at HN1 hn2 hn4 hw
  rw [hll] at hl2 hl4 hw
  rw [hln, hll]
  obtain ⟨W0, hW0, hs0, hb0, hp, hq, hr⟩ := two3 w #[.int .i64 k1, .bool b1, .int .i64 i1, .string s1, .slice an ln cn, .slice al ll cl] #[.int .i64 k2, .bool b2, .int .i64 i2, .string s2, .slice bn mn dn, .slice bl ml dl]
  have HR : Hid (W0.heap[w.heap.size + 2]? = some (.cells #[.int .i64 0, .bool false, .int .i64 0, .string ⟨#[]⟩, .slice none 0 0, .slice none 0 0] 46 (0, 0))) := hr
  have HB : Hid (Below w.heap.size w W0) := hb0
  have HQ : Hid (W0.heap[w.heap.size + 1]? = some (.cells #[.int .i64 k2, .bool b2, .int .i64 i2, .string s2, .slice bn mn dn, .slice bl ml dl] 46 (0, 0))) := hq
  have HP : Hid (W0.heap[w.heap.size]? = some (.cells #[.int .i64 k1, .bool b1, .int .i64 i1, .string s1, .slice an ln cn, .slice al ll cl] 46 (0, 0))) := hp
  obtain ⟨p0, p1, p2, p3, p4, p5⟩ := six_box hp
  obtain ⟨q0, q1, q2, q3, q4, q5⟩ := six_box hq
  obtain ⟨r0, r1, r2, r3, r4, r5⟩ := six_box hr
  have rf0 := frozen_box hr 0
  have rf1 := frozen_box hr 1
  have rf2 := frozen_box hr 2
  have rf3 := frozen_box hr 3
  have rf4 := frozen_box hr 4
  have rf5 := frozen_box hr 5
  have HLN : Hid (n.length = ln ∧ l.length = ll) := ⟨hln, hll⟩
  have HW : Hid (k1 = 6 → ln ≤ ll) := hw
  clear hva hvb hn1 hl1 hN hL hp hq hb0 hr hln hll hw
  by_cases h5 : k1 = 5
  · rw [if_pos h5] at hU
    subst h5
    have cI := integer_c k2 b2 i2 s2 (.slice bn mn dn) (.slice bl ml dl) W0
    by_cases h3 : k2 = 3
    · rw [if_pos h3] at cI hU
      clear h3
      by_cases hneg : i2 < 0
      · rw [if_pos (.inl hneg)] at hU
        subst hU
        have d0 : decide (i2 < 0) = true := decide_eq_true hneg
        clear hneg
        go_enter Tryz.func103, Tryz.ntmps103
        go_wp2_with fail
        try rw [hW0]
        refine cI.mono ?_
        rintro e W1 ⟨rfl, hb1⟩
        have hs1' := hb1.size
        have HB1 : Hid (Below w.heap.size w W1) := HB.out.trans (hb1.mono HB.out.size)
        obtain ⟨p0, p1, p2, p3, p4, p5⟩ := six_box ((hb1.block w.heap.size (by omega)).trans HP.out)
        have HR1 : Hid (W1.heap[w.heap.size + 2]? = some (.cells #[.int .i64 0, .bool false, .int .i64 0, .string ⟨#[]⟩, .slice none 0 0, .slice none 0 0] 46 (0, 0))) := (hb1.block (w.heap.size + 2) (by omega)).trans HR.out
        have hr := HR1.out
        obtain ⟨r0, r1, r2, r3, r4, r5⟩ := six_box hr
        have rf0 := frozen_box hr 0
        have rf1 := frozen_box hr 1
        have rf2 := frozen_box hr 2
        have rf3 := frozen_box hr 3
        have rf4 := frozen_box hr 4
        have rf5 := frozen_box hr 5
        clear hb1 cI hr
        go_wp2_with fail
        exact ⟨rfl, HB1.out, rfl⟩
      by_cases hbig : (ll : Int) ≤ i2
      · rw [if_pos (.inr (by rw [HLN.out.2]; exact hbig))] at hU
        subst hU
        have d0 : decide (i2 < 0) = false := decide_eq_false hneg
        have d1 : decide ((ll : Int) ≤ i2) = true := decide_eq_true hbig
        clear hbig hneg
        go_enter Tryz.func103, Tryz.ntmps103
        go_wp2_with fail
        try rw [hW0]
        refine cI.mono ?_
        rintro e W1 ⟨rfl, hb1⟩
        have hs1' := hb1.size
        have HB1 : Hid (Below w.heap.size w W1) := HB.out.trans (hb1.mono HB.out.size)
        obtain ⟨p0, p1, p2, p3, p4, p5⟩ := six_box ((hb1.block w.heap.size (by omega)).trans HP.out)
        have HR1 : Hid (W1.heap[w.heap.size + 2]? = some (.cells #[.int .i64 0, .bool false, .int .i64 0, .string ⟨#[]⟩, .slice none 0 0, .slice none 0 0] 46 (0, 0))) := (hb1.block (w.heap.size + 2) (by omega)).trans HR.out
        have hr := HR1.out
        obtain ⟨r0, r1, r2, r3, r4, r5⟩ := six_box hr
        have rf0 := frozen_box hr 0
        have rf1 := frozen_box hr 1
        have rf2 := frozen_box hr 2
        have rf3 := frozen_box hr 3
        have rf4 := frozen_box hr 4
        have rf5 := frozen_box hr 5
        clear hb1 cI hr
        go_wp2_with fail
        exact ⟨rfl, HB1.out, rfl⟩
      skip
      rw [if_neg (by rw [HLN.out.2]; omega)] at hU
      obtain ⟨q, rfl⟩ : ∃ q : Nat, i2 = q := ⟨i2.toNat, by omega⟩
      have hq : q < ll := by omega
      have d0' : decide ((q : Int) < 0) = false := decide_eq_false (by omega)
      have d1' : decide ((ll : Int) ≤ (q : Int)) = false := decide_eq_false (by omega)
      clear hbig hneg
      go_enter Tryz.func103, Tryz.ntmps103
      go_wp2_with fail
      try rw [hW0]
      refine cI.mono ?_
      rintro e W1 ⟨rfl, hb1⟩
      have hs1' := hb1.size
      have HB1 : Hid (Below w.heap.size w W1) := HB.out.trans (hb1.mono HB.out.size)
      obtain ⟨p0, p1, p2, p3, p4, p5⟩ := six_box ((hb1.block w.heap.size (by omega)).trans HP.out)
      have HR1 : Hid (W1.heap[w.heap.size + 2]? = some (.cells #[.int .i64 0, .bool false, .int .i64 0, .string ⟨#[]⟩, .slice none 0 0, .slice none 0 0] 46 (0, 0))) := (hb1.block (w.heap.size + 2) (by omega)).trans HR.out
      have hr := HR1.out
      obtain ⟨r0, r1, r2, r3, r4, r5⟩ := six_box hr
      have rf0 := frozen_box hr 0
      have rf1 := frozen_box hr 1
      have rf2 := frozen_box hr 2
      have rf3 := frozen_box hr 3
      have rf4 := frozen_box hr 4
      have rf5 := frozen_box hr 5
      clear hb1 cI hr
      obtain ⟨g, oo, u, rfl, hSg, hSix, hIn⟩ := Base.elem_at HLL.out (q := q) (by rw [HLN.out.2]; omega)
      have hSix := (Base.Keep.of_below (S := All) (HB1.out)).six trivial hSix
      obtain ⟨e, he⟩ : ∃ e, l[q]'(by rw [HLN.out.2]; omega) = e := ⟨_, rfl⟩
      rw [he] at hIn
      obtain ⟨x0, x1, x2, x3, x4, x5, rfl, d0, d1, d2, d3, d4, d5⟩ := hSix
      obtain ⟨en, eln, ecn, el, ell, ecl, hu⟩ := in_shape hIn
      injection hu with hu
      simp only [Array.mk.injEq, List.cons.injEq, and_true] at hu
      obtain ⟨rfl, rfl, rfl, rfl, rfl, rfl⟩ := hu
      have hge : l.getD q zerC = e := by rw [List.getD_eq_getElem?_getD, List.getElem?_eq_getElem (by rw [HLN.out.2]; omega), he]; rfl
      have HI : Hid (Base.In false (fun b => b < K) w m' (vl e.k e.b e.i e.s (.slice en eln ecn) (.slice el ell ecl)) e) := hIn
      clear hIn he
      rw [Int.toNat_natCast, hge] at hU
      subst hU
      clear hge
      have hcl : ll ≤ cl := hl2
      skip
      generalize e.k = ek at *
      generalize e.b = eb at *
      generalize e.i = ei at *
      generalize e.s = es at *
      go_wp2_with fail
      obtain ⟨W9, hW9⟩ : ∃ W9, ((((((W1.setCell ⟨w.heap.size + 2, 0, none⟩ (.int .i64 ek)).setCell ⟨w.heap.size + 2, 1, none⟩ (.bool eb)).setCell ⟨w.heap.size + 2, 2, none⟩ (.int .i64 ei)).setCell ⟨w.heap.size + 2, 3, none⟩ (.string es)).setCell ⟨w.heap.size + 2, 4, none⟩ (.slice en eln ecn)).setCell ⟨w.heap.size + 2, 5, none⟩ (.slice el ell ecl)) = W9 := ⟨_, rfl⟩
      rw [hW9]
      obtain ⟨q1, q2, q3, q4⟩ := set6 _ _ _ _ _ _ HR1.out hW9
      refine bodyPost_ret (results_cell_row rfl _ W9 (w.heap.size + 2) 46 _ (0, 0) _ rfl q1 Tryz.underlying46 rfl (by kernel_rfl)) rfl ?_
      skip
      exact ⟨q4 _ _ (by omega) HB1.out, _, rfl, (in_low HI.out ((q4 _ _ (by omega) HB1.out).mono hK)).weak (fun _ h => h) false id _ (by omega)⟩
    · rw [if_neg h3] at cI hU
      subst hU
      clear h3
      go_enter Tryz.func103, Tryz.ntmps103
      go_wp2_with fail
      try rw [hW0]
      refine cI.mono ?_
      rintro e W1 ⟨rfl, hb1⟩
      exact ⟨rfl, HB.out.trans (hb1.mono HB.out.size), rfl⟩
  rw [if_neg h5] at hU
  have e5 : (k1 == 5) = false := by simp [h5]
  by_cases h64 : k1 = 6 ∧ k2 = 4
  · rw [if_pos h64] at hU
    obtain ⟨rfl, rfl⟩ := h64
    have hwn := HW.out rfl
    have cT := must_t W0
    have hx : Tx false All W0 (.slice an ln cn) n := (HN1.out.weak (S' := All) (fun _ _ => trivial) false id).below HB.out
    have cX := Part.index_c (.slice an ln cn) n s2 W0 hx
    unfold Part.fiI at cX
    clear h5 e5 hx
    cases hfi : Part.fi n s2 with
    | none =>
      rw [hfi] at cX hU
      simp only at cX hU
      subst hU
      clear hfi
      go_enter Tryz.func103, Tryz.ntmps103
      go_wp2_with fail
      try rw [hW0]
      refine cT.mono ?_
      rintro e W0 ⟨⟨v, rfl⟩, rfl⟩
      go_wp2_with fail
      refine cX.mono ?_
      rintro e W1 ⟨rfl, hb1⟩
      have hs1' := hb1.size
      have HB1 : Hid (Below w.heap.size w W1) := HB.out.trans (hb1.mono HB.out.size)
      obtain ⟨p0, p1, p2, p3, p4, p5⟩ := six_box ((hb1.block w.heap.size (by omega)).trans HP.out)
      have HR1 : Hid (W1.heap[w.heap.size + 2]? = some (.cells #[.int .i64 0, .bool false, .int .i64 0, .string ⟨#[]⟩, .slice none 0 0, .slice none 0 0] 46 (0, 0))) := (hb1.block (w.heap.size + 2) (by omega)).trans HR.out
      have hr := HR1.out
      obtain ⟨r0, r1, r2, r3, r4, r5⟩ := six_box hr
      have rf0 := frozen_box hr 0
      have rf1 := frozen_box hr 1
      have rf2 := frozen_box hr 2
      have rf3 := frozen_box hr 3
      have rf4 := frozen_box hr 4
      have rf5 := frozen_box hr 5
      clear hb1 cX cT hr
      go_wp2_with fail
      exact ⟨rfl, HB1.out, rfl⟩
    | some q =>
      have hq := Part.fi_lt hfi
      rw [HLN.out.1] at hq
      rw [hfi] at cX hU
      simp only at cX hU
      clear hfi
      have hq2 : q < ll := by omega
      have d0' : decide ((q : Int) < 0) = false := decide_eq_false (by omega)
      have hcl : ll ≤ cl := hl2
      go_enter Tryz.func103, Tryz.ntmps103
      go_wp2_with fail
      try rw [hW0]
      refine cT.mono ?_
      rintro e W0 ⟨⟨v, rfl⟩, rfl⟩
      go_wp2_with fail
      refine cX.mono ?_
      rintro e W1 ⟨rfl, hb1⟩
      have hs1' := hb1.size
      have HB1 : Hid (Below w.heap.size w W1) := HB.out.trans (hb1.mono HB.out.size)
      obtain ⟨p0, p1, p2, p3, p4, p5⟩ := six_box ((hb1.block w.heap.size (by omega)).trans HP.out)
      have HR1 : Hid (W1.heap[w.heap.size + 2]? = some (.cells #[.int .i64 0, .bool false, .int .i64 0, .string ⟨#[]⟩, .slice none 0 0, .slice none 0 0] 46 (0, 0))) := (hb1.block (w.heap.size + 2) (by omega)).trans HR.out
      have hr := HR1.out
      obtain ⟨r0, r1, r2, r3, r4, r5⟩ := six_box hr
      have rf0 := frozen_box hr 0
      have rf1 := frozen_box hr 1
      have rf2 := frozen_box hr 2
      have rf3 := frozen_box hr 3
      have rf4 := frozen_box hr 4
      have rf5 := frozen_box hr 5
      clear hb1 cX cT hr
      obtain ⟨g, oo, u, rfl, hSg, hSix, hIn⟩ := Base.elem_at HLL.out (q := q) (by rw [HLN.out.2]; omega)
      have hSix := (Base.Keep.of_below (S := All) (HB1.out)).six trivial hSix
      obtain ⟨e, he⟩ : ∃ e, l[q]'(by rw [HLN.out.2]; omega) = e := ⟨_, rfl⟩
      rw [he] at hIn
      obtain ⟨x0, x1, x2, x3, x4, x5, rfl, d0, d1, d2, d3, d4, d5⟩ := hSix
      obtain ⟨en, eln, ecn, el, ell, ecl, hu⟩ := in_shape hIn
      injection hu with hu
      simp only [Array.mk.injEq, List.cons.injEq, and_true] at hu
      obtain ⟨rfl, rfl, rfl, rfl, rfl, rfl⟩ := hu
      have hge : l.getD q zerC = e := by rw [List.getD_eq_getElem?_getD, List.getElem?_eq_getElem (by rw [HLN.out.2]; omega), he]; rfl
      have HI : Hid (Base.In false (fun b => b < K) w m' (vl e.k e.b e.i e.s (.slice en eln ecn) (.slice el ell ecl)) e) := hIn
      clear hIn he
      rw [hge] at hU
      subst hU
      clear hge
      generalize e.k = ek at *
      generalize e.b = eb at *
      generalize e.i = ei at *
      generalize e.s = es at *
      go_wp2_with fail
      obtain ⟨W9, hW9⟩ : ∃ W9, ((((((W1.setCell ⟨w.heap.size + 2, 0, none⟩ (.int .i64 ek)).setCell ⟨w.heap.size + 2, 1, none⟩ (.bool eb)).setCell ⟨w.heap.size + 2, 2, none⟩ (.int .i64 ei)).setCell ⟨w.heap.size + 2, 3, none⟩ (.string es)).setCell ⟨w.heap.size + 2, 4, none⟩ (.slice en eln ecn)).setCell ⟨w.heap.size + 2, 5, none⟩ (.slice el ell ecl)) = W9 := ⟨_, rfl⟩
      rw [hW9]
      obtain ⟨q1, q2, q3, q4⟩ := set6 _ _ _ _ _ _ HR1.out hW9
      refine bodyPost_ret (results_cell_row rfl _ W9 (w.heap.size + 2) 46 _ (0, 0) _ rfl q1 Tryz.underlying46 rfl (by kernel_rfl)) rfl ?_
      skip
      exact ⟨q4 _ _ (by omega) HB1.out, _, rfl, (in_low HI.out ((q4 _ _ (by omega) HB1.out).mono hK)).weak (fun _ h => h) false id _ (by omega)⟩
  · rw [if_neg h64] at hU
    subst hU
    by_cases g6 : k1 = 6
    · have e6 : (k1 == 6) = true := by simp [g6]
      have e4 : (k2 == 4) = false := by simp; omega
      clear h5 h64 g6
      have cF := must_f W0
      go_enter Tryz.func103, Tryz.ntmps103
      go_wp2_with fail
      try rw [hW0]
      refine cF.mono ?_
      rintro e W1 ⟨rfl, rfl⟩
      exact ⟨rfl, HB.out, rfl⟩
    · have e6 : (k1 == 6) = false := by simp [g6]
      clear h5 h64 g6
      have cF := must_f W0
      go_enter Tryz.func103, Tryz.ntmps103
      go_wp2_with fail
      try rw [hW0]
      refine cF.mono ?_
      rintro e W1 ⟨rfl, rfl⟩
      exact ⟨rfl, HB.out, rfl⟩
set_option maxRecDepth 20000 in
set_option maxHeartbeats 3200000 in
theorem pair7 {K m : Nat} {w : World} {va vb : Value} {a b : C} (hK : K ≤ w.heap.size) (hva : Base.In false (fun b => b < K) w (m + 1) va a) (hvb : Base.In false (fun b => b < K) w (m + 1) vb b) (hw : a.k = 6 → a.n.length ≤ a.l.length) :
    Calls Tryz.prog 90 #[.int .i64 7, va, vb] w fun e w' => VR K (m + 1) w (VPure.prt a b) e w' := by
  obtain ⟨U, hU⟩ : ∃ U, VPure.prt a b = U := ⟨_, rfl⟩
  have cI := fun W (hW : Below w.heap.size w W) => part_c (w := W) (Nat.le_trans hK hW.size) (in_low hva (hW.mono hK)) (in_low hvb (hW.mono hK)) hw
  rw [hU] at cI ⊢
  obtain ⟨an, ln, cn, al, ll, cl, rfl⟩ := in_shape hva
  obtain ⟨bn, mn, dn, bl, ml, dl, rfl⟩ := in_shape hvb
  clear hU hva hvb hw
  generalize a.k = k1 at *
  generalize a.b = b1 at *
  generalize a.i = i1 at *
  generalize a.s = s1 at *
  generalize b.k = k2 at *
  generalize b.b = b2 at *
  generalize b.i = i2 at *
  generalize b.s = s2 at *
  obtain ⟨W0, hW0, hs0, hb0, hp, hq, hr⟩ := two3 w #[.int .i64 k1, .bool b1, .int .i64 i1, .string s1, .slice an ln cn, .slice al ll cl] #[.int .i64 k2, .bool b2, .int .i64 i2, .string s2, .slice bn mn dn, .slice bl ml dl]
  have HR : Hid (W0.heap[w.heap.size + 2]? = some (.cells #[.int .i64 0, .bool false, .int .i64 0, .string ⟨#[]⟩, .slice none 0 0, .slice none 0 0] 46 (0, 0))) := hr
  have HB : Hid (Below w.heap.size w W0) := hb0
  obtain ⟨p0, p1, p2, p3, p4, p5⟩ := six_box hp
  obtain ⟨q0, q1, q2, q3, q4, q5⟩ := six_box hq
  have cI := cI W0 hb0
  clear hp hq hb0 hr
  go_enter Tryz.func90, Tryz.ntmps90
  go_upto_if 8 with fail
  refine wp_cond_true (by rfl) ?_
  refine wp_skip ?_
  refine ex_norm ?_
  apply_assumption
  go_upto_if 8 with fail
  refine wp_cond_true (by rfl) ?_
  refine wp_exit ?_
  repeat (first | (with_reducible refine ex_then ?_) | (with_reducible refine ex_skip (by decide) ?_))
  refine ex_hit ?_
  refine ex_norm ?_
  apply_assumption
  refine wp_mono (Q := Out ?outB) ?outM (out_mono ?outR ?outP)
  case outR => intro a w h; (repeat (first | (with_reducible refine rt_then ?_) | (with_reducible refine rt_blk ?_))); exact h
  case outP => intro c a w h; (repeat (first | (with_reducible refine pn_then ?_) | (with_reducible refine pn_blk ?_))); exact h
  try simp only [hW0]
  go_wp2_with fail
  try rw [hW0]
  refine cI.mono ?_
  rintro e W1 ⟨hb1, hA⟩
  clear cI
  have hs1 := hb1.size
  have HB1 : Hid (Below w.heap.size w W1) := HB.out.trans (hb1.mono HB.out.size)
  have HR1 : Hid (W1.heap[w.heap.size + 2]? = some (.cells #[.int .i64 0, .bool false, .int .i64 0, .string ⟨#[]⟩, .slice none 0 0, .slice none 0 0] 46 (0, 0))) := (hb1.block (w.heap.size + 2) (by omega)).trans HR.out
  clear hb1
  cases U with
  | error c =>
    obtain rfl := hA
    exact ⟨rfl, HB1.out, rfl⟩
  | ok e =>
    obtain ⟨u, rfl, hin⟩ := hA
    obtain ⟨en, eln, ecn, el, ell, ecl, rfl⟩ := in_shape hin
    have HI : Hid (Base.In false (fun b => b < K) W1 (m + 1) (vl e.k e.b e.i e.s (.slice en eln ecn) (.slice el ell ecl)) e) := hin
    have hr := HR1.out
    obtain ⟨r0, r1, r2, r3, r4, r5⟩ := six_box hr
    have rf0 := frozen_box hr 0
    have rf1 := frozen_box hr 1
    have rf2 := frozen_box hr 2
    have rf3 := frozen_box hr 3
    have rf4 := frozen_box hr 4
    have rf5 := frozen_box hr 5
    clear hin hr
    generalize e.k = ek at *
    generalize e.b = eb at *
    generalize e.i = ei at *
    generalize e.s = es at *
    go_wp2_with fail
    obtain ⟨W9, hW9⟩ : ∃ W9, ((((((W1.setCell ⟨w.heap.size + 2, 0, none⟩ (.int .i64 ek)).setCell ⟨w.heap.size + 2, 1, none⟩ (.bool eb)).setCell ⟨w.heap.size + 2, 2, none⟩ (.int .i64 ei)).setCell ⟨w.heap.size + 2, 3, none⟩ (.string es)).setCell ⟨w.heap.size + 2, 4, none⟩ (.slice en eln ecn)).setCell ⟨w.heap.size + 2, 5, none⟩ (.slice el ell ecl)) = W9 := ⟨_, rfl⟩
    rw [hW9]
    obtain ⟨q1, q2, q3, q4⟩ := set6 _ _ _ _ _ _ HR1.out hW9
    first | refine out_ret (results_cell_row rfl _ W9 (w.heap.size + 2) 46 _ (0, 0) _ rfl q1 Tryz.underlying46 rfl (by kernel_rfl)) rfl ?_ | refine bodyPost_ret (results_cell_row rfl _ W9 (w.heap.size + 2) 46 _ (0, 0) _ rfl q1 Tryz.underlying46 rfl (by kernel_rfl)) rfl ?_
    exact ⟨q4 _ _ (by omega) HB1.out, _, rfl, in_low HI.out (q4 _ _ (by omega) (Below.refl _ _))⟩
set_option maxRecDepth 20000 in
set_option maxHeartbeats 3200000 in
theorem pair8 {K m : Nat} {w : World} {va vb : Value} {a b : C} (hK : K ≤ w.heap.size) (hva : Base.In false (fun b => b < K) w (m + 1) va a) (hvb : Base.In false (fun b => b < K) w (m + 1) vb b) (hw : a.k = 6 → a.n.length ≤ a.l.length) :
    Calls Tryz.prog 90 #[.int .i64 8, va, vb] w fun e w' => VR K (m + 1) w (VPure.prt a b) e w' := by
  obtain ⟨U, hU⟩ : ∃ U, VPure.prt a b = U := ⟨_, rfl⟩
  have cI := fun W (hW : Below w.heap.size w W) => part_c (w := W) (Nat.le_trans hK hW.size) (in_low hva (hW.mono hK)) (in_low hvb (hW.mono hK)) hw
  rw [hU] at cI ⊢
  obtain ⟨an, ln, cn, al, ll, cl, rfl⟩ := in_shape hva
  obtain ⟨bn, mn, dn, bl, ml, dl, rfl⟩ := in_shape hvb
  clear hU hva hvb hw
  generalize a.k = k1 at *
  generalize a.b = b1 at *
  generalize a.i = i1 at *
  generalize a.s = s1 at *
  generalize b.k = k2 at *
  generalize b.b = b2 at *
  generalize b.i = i2 at *
  generalize b.s = s2 at *
  obtain ⟨W0, hW0, hs0, hb0, hp, hq, hr⟩ := two3 w #[.int .i64 k1, .bool b1, .int .i64 i1, .string s1, .slice an ln cn, .slice al ll cl] #[.int .i64 k2, .bool b2, .int .i64 i2, .string s2, .slice bn mn dn, .slice bl ml dl]
  have HR : Hid (W0.heap[w.heap.size + 2]? = some (.cells #[.int .i64 0, .bool false, .int .i64 0, .string ⟨#[]⟩, .slice none 0 0, .slice none 0 0] 46 (0, 0))) := hr
  have HB : Hid (Below w.heap.size w W0) := hb0
  obtain ⟨p0, p1, p2, p3, p4, p5⟩ := six_box hp
  obtain ⟨q0, q1, q2, q3, q4, q5⟩ := six_box hq
  have cI := cI W0 hb0
  clear hp hq hb0 hr
  go_enter Tryz.func90, Tryz.ntmps90
  go_upto_if 8 with fail
  refine wp_cond_false (by rfl) ?_
  go_upto_if 8 with fail
  refine wp_cond_true (by rfl) ?_
  refine wp_exit ?_
  repeat (first | (with_reducible refine ex_then ?_) | (with_reducible refine ex_skip (by decide) ?_))
  refine ex_hit ?_
  refine ex_norm ?_
  apply_assumption
  refine wp_mono (Q := Out ?outB) ?outM (out_mono ?outR ?outP)
  case outR => intro a w h; (repeat (first | (with_reducible refine rt_then ?_) | (with_reducible refine rt_blk ?_))); exact h
  case outP => intro c a w h; (repeat (first | (with_reducible refine pn_then ?_) | (with_reducible refine pn_blk ?_))); exact h
  try simp only [hW0]
  go_wp2_with fail
  try rw [hW0]
  refine cI.mono ?_
  rintro e W1 ⟨hb1, hA⟩
  clear cI
  have hs1 := hb1.size
  have HB1 : Hid (Below w.heap.size w W1) := HB.out.trans (hb1.mono HB.out.size)
  have HR1 : Hid (W1.heap[w.heap.size + 2]? = some (.cells #[.int .i64 0, .bool false, .int .i64 0, .string ⟨#[]⟩, .slice none 0 0, .slice none 0 0] 46 (0, 0))) := (hb1.block (w.heap.size + 2) (by omega)).trans HR.out
  clear hb1
  cases U with
  | error c =>
    obtain rfl := hA
    exact ⟨rfl, HB1.out, rfl⟩
  | ok e =>
    obtain ⟨u, rfl, hin⟩ := hA
    obtain ⟨en, eln, ecn, el, ell, ecl, rfl⟩ := in_shape hin
    have HI : Hid (Base.In false (fun b => b < K) W1 (m + 1) (vl e.k e.b e.i e.s (.slice en eln ecn) (.slice el ell ecl)) e) := hin
    have hr := HR1.out
    obtain ⟨r0, r1, r2, r3, r4, r5⟩ := six_box hr
    have rf0 := frozen_box hr 0
    have rf1 := frozen_box hr 1
    have rf2 := frozen_box hr 2
    have rf3 := frozen_box hr 3
    have rf4 := frozen_box hr 4
    have rf5 := frozen_box hr 5
    clear hin hr
    generalize e.k = ek at *
    generalize e.b = eb at *
    generalize e.i = ei at *
    generalize e.s = es at *
    go_wp2_with fail
    obtain ⟨W9, hW9⟩ : ∃ W9, ((((((W1.setCell ⟨w.heap.size + 2, 0, none⟩ (.int .i64 ek)).setCell ⟨w.heap.size + 2, 1, none⟩ (.bool eb)).setCell ⟨w.heap.size + 2, 2, none⟩ (.int .i64 ei)).setCell ⟨w.heap.size + 2, 3, none⟩ (.string es)).setCell ⟨w.heap.size + 2, 4, none⟩ (.slice en eln ecn)).setCell ⟨w.heap.size + 2, 5, none⟩ (.slice el ell ecl)) = W9 := ⟨_, rfl⟩
    rw [hW9]
    obtain ⟨q1, q2, q3, q4⟩ := set6 _ _ _ _ _ _ HR1.out hW9
    first | refine out_ret (results_cell_row rfl _ W9 (w.heap.size + 2) 46 _ (0, 0) _ rfl q1 Tryz.underlying46 rfl (by kernel_rfl)) rfl ?_ | refine bodyPost_ret (results_cell_row rfl _ W9 (w.heap.size + 2) 46 _ (0, 0) _ rfl q1 Tryz.underlying46 rfl (by kernel_rfl)) rfl ?_
    exact ⟨q4 _ _ (by omega) HB1.out, _, rfl, in_low HI.out (q4 _ _ (by omega) (Below.refl _ _))⟩
end Go.Proofs.YthjbknncbhkinaaGreatDoor.VPt

namespace Go.Proofs.YthjbknncbhkinaaGreatDoor.CAp
open Go.RowKit Go.Proofs.YthjbknncbhkinaaGreatDoor.Base Go.Proofs.YthjbknncbhkinaaGreatDoor.VSm Go.Proofs.YthjbknncbhkinaaGreatDoor.VPk
open Go.Proofs.YthjbknncbhkinaaGreatDoor.VPure
open Go.Proofs.YthjbknncbhkinaaGreatDoor.CPu (Ins ck)
set_option linter.unusedVariables false

abbrev aT : ByteArray := ⟨#[97]⟩
def recC : C := .mk 6 false 0 ⟨#[]⟩ [aT] [intC 2]
def aL : List Ins := [(6, 0), (7, 0), (4, 1), (15, 0)]
def aP : Nat → List C
  | 0 => []
  | 1 => [recC]
  | 2 => [intC 2]
  | 3 => [intC 2, intC 1]
  | _ => [intC 3]
theorem ck1 : ck aL 1 1 = 0 := by decide +kernel
theorem ck0 : ck aL 0 1 = 2003 := by decide +kernel
theorem pr7 : pr2 7 recC (strC aT) = .ok (intC 2) := by kernel_rfl
theorem pr15 : pr2 15 (intC 2) (intC 1) = .ok (intC 3) := by rfl
theorem wfR : wf recC := ⟨fun _ => by simp [recC, C.n, C.l], by show wfL [intC 2]; rw [wfL_cons]; exact ⟨wf_one (by decide), by rw [wfL]; trivial⟩⟩
theorem wf2 : wf (intC 2) := wf_one (by decide)
theorem pair7 : PairOk 7 := by
  intro K m w va vb a b hK hT hva hvb hwf
  exact VPt.pair7 hK hva hvb hwf.1
theorem verA : UBase.verr aT = 0 := by decide +kernel
theorem tgA : STx.tg aT = true := by unfold STx.tg; rw [verA]; decide
theorem texA : ([aT].any fun s => !STx.tg s) = false := by simp [tgA]
theorem fmR : Fault.fm recC = true := by decide +kernel
theorem fm2 : Fault.fm (intC 2) = true := by decide +kernel
theorem plR : Walk.pl 1 recC = [(1, recC), (2, intC 2)] := by
  unfold recC
  rw [Walk.pl, Walk.plL_cons, Walk.plL_nil]
  unfold intC
  rw [Walk.pl, Walk.plL_nil]
  rfl
theorem bdR : MEi.bd recC = false := by
  have f1 : Fault.ft recC 1 1 = 0 := by unfold Fault.ft; rw [fmR]; decide
  have f2 : Fault.ft (intC 2) 2 2 = 0 := by unfold Fault.ft; rw [fm2]; decide
  unfold MEi.bd MEi.cd
  rw [plR]
  simp [Measure.ms, f1, f2]
theorem anyR : [recC].any MEi.bd = false := by simp [bdR]
end Go.Proofs.YthjbknncbhkinaaGreatDoor.CAp

namespace Go.Proofs.YthjbknncbhkinaaGreatDoor.CAr
open Go.RowKit Go.Proofs.YthjbknncbhkinaaGreatDoor.Base Go.Proofs.YthjbknncbhkinaaGreatDoor.VSm Go.Proofs.YthjbknncbhkinaaGreatDoor.VJn Go.Proofs.YthjbknncbhkinaaGreatDoor.VRs Go.Proofs.YthjbknncbhkinaaGreatDoor.VPk Go.Proofs.YthjbknncbhkinaaGreatDoor.MBx Go.Proofs.YthjbknncbhkinaaGreatDoor.MSe Go.Proofs.YthjbknncbhkinaaGreatDoor.MDo Go.Proofs.YthjbknncbhkinaaGreatDoor.MCd Go.Proofs.YthjbknncbhkinaaGreatDoor.CAp
open Go.Proofs.YthjbknncbhkinaaGreatDoor.VPure
open Go.Proofs.YthjbknncbhkinaaGreatDoor.CPu (Ins ck)
open Go.Proofs.YthjbknncbhkinaaGreatDoor.CBx (Cx)
set_option linter.unusedVariables false

set_option maxHeartbeats 1600000 in
theorem arun {K : Nat} {w : World} {cv tv sv : Value} (hK : K ≤ w.heap.size) (hL : Cx K w cv aL) (hT : Tz K w tv [aT]) (hS : Base.InL false (fun b => b < K) w 2 sv [recC]) (hTb : Tb w) :
    Calls Tryz.prog 22 #[cv, tv, sv] w fun e w' => ∃ u, e = .returned (.tuple #[u, .int .i64 0]) ∧ Base.In false All w' 2 u (intC 3) ∧ Below w.heap.size w w' := by
  have hSA : Base.InL false All w 2 sv [recC] := hS.weak (fun _ _ => trivial) false id 2 (Nat.le_refl _)
  refine MRu.run_ok (m := 1) hL hT hSA hK texA ck1 anyR fun W hW => ?_
  have hz := hW.size
  have hL1 := (hL.below (hW.mono hK)).mono (K' := W.heap.size) (by omega)
  have hT1 : Tz W.heap.size W tv [aT] := by
    obtain ⟨a, cap, h1, h2, h3, h4⟩ := hT.below (hW.mono hK)
    refine ⟨a, cap, h1, h2, h3, h4.imp id fun ⟨g, o, ha, hg, hc⟩ => ⟨g, o, ha, by omega, hc⟩⟩
  have hS1 : Base.InL false (fun b => b < W.heap.size) W 2 sv [recC] := (hS.keep (w' := W) fun b hb hl => hW.block b hl).weak (fun b hb => by show b < W.heap.size; have : b < K := hb; omega) false id 2 (Nat.le_refl _)
  have hTK : TK W.heap.size W := hTb.below hW
  have hL0 := hL1
  have hT0 := hT1
  have hS0 := hS1
  obtain ⟨a1, c1, rfl, -⟩ := hL0
  obtain ⟨a2, c2, rfl, -⟩ := hT0
  obtain ⟨a3, c3, rfl, -⟩ := hS0
  refine MCo.code_ok (m := 2) (r := intC 3) fun W2 b2 m2 => ?_
  refine MRn.line_c (P := aP) (r := intC 3) (hL1.below b2) m2 (by decide) (fun q hq => ?_) (fun q hq W3 pv b3 m3 => ?_) rfl
  · have : q = 0 ∨ q = 1 ∨ q = 2 ∨ q = 3 := by simp [aL] at hq; omega
    rcases this with rfl | rfl | rfl | rfl
    · show (6 : Int) < 30; decide
    · show (7 : Int) < 30; decide
    · show (4 : Int) < 30; decide
    · show (15 : Int) < 30; decide
  · have b3' : Below W.heap.size W W3 := b2.trans (b3.mono (by omega))
    have hT3 := hT1.below b3'
    have hS3 : Base.InL false (fun b => b < W.heap.size) W3 2 _ [recC] := hS1.keep (w' := W3) fun b hb hl => b3'.block b hb
    have hq4 : q = 0 ∨ q = 1 ∨ q = 2 ∨ q = 3 := by simp [aL] at hq; omega
    rcases hq4 with rfl | rfl | rfl | rfl
    · exact do_var (k := 0) m3 (by decide) hS3 (by decide)
    · exact MDp.pair_ok (o := 7) (a := 0) (q := []) (x := recC) (y := strC aT) m3 (by decide) (hTK.below b3') pair7 (by decide) wfR pr7 fun W4 b4 => second_text (m := 1) (k := 0) (m3.below b4) (hT3.below (b4.mono (by have := b3'.size; omega))) (by decide)
    · exact do_int (m := 1) (a := 1) m3 (by decide) (by decide)
    · exact MDp.pair_ok (o := 15) (a := 0) (q := []) (x := intC 2) (y := intC 1) m3 (by decide) (hTK.below b3') VPk.pair15 (by decide) wf2 pr15 fun W4 b4 => second_take (o := 15) (a := 0) (p := [intC 2]) (m3.below b4) (by decide) (by decide)
end Go.Proofs.YthjbknncbhkinaaGreatDoor.CAr

namespace Go.Proofs.YthjbknncbhkinaaGreatDoor.CAw
open Go.RowKit Go.Proofs.YthjbknncbhkinaaGreatDoor.Base Go.Proofs.YthjbknncbhkinaaGreatDoor.VSm Go.Proofs.YthjbknncbhkinaaGreatDoor.VJn Go.Proofs.YthjbknncbhkinaaGreatDoor.VRs Go.Proofs.YthjbknncbhkinaaGreatDoor.MBx Go.Proofs.YthjbknncbhkinaaGreatDoor.MSe Go.Proofs.YthjbknncbhkinaaGreatDoor.CAp Go.Proofs.YthjbknncbhkinaaGreatDoor.CAr
open Go.Proofs.YthjbknncbhkinaaGreatDoor.VPure
open Go.Proofs.YthjbknncbhkinaaGreatDoor.CBx (Cx)
set_option linter.unusedVariables false

theorem num_c (x : Int) (w : World) : Calls Tryz.prog 10 #[.int .i64 x] w fun e w' => e = .returned (.int .i64 x) ∧ w = w' := by
  go_enter Tryz.func10, Tryz.ntmps10
  go_wp2_with fail
  go_ret
  exact ⟨rfl, rfl⟩
/-- The memory of awake, ahead of its call of Run. -/
abbrev cA : Array Value := #[.int .i64 6, .int .i64 0, .int .i64 7, .int .i64 0, .int .i64 4, .int .i64 1, .int .i64 15, .int .i64 0]
abbrev cI : Array Value := #[.int .i64 3, .bool false, .int .i64 2, .string ⟨#[]⟩, .slice none 0 0, .slice none 0 0]
abbrev cR (n : Nat) : Array Value := #[.int .i64 6, .bool false, .int .i64 0, .string ⟨#[]⟩, .slice (some ⟨n + 1, 0, none⟩) 1 1, .slice (some ⟨n + 1 + 1, 0, none⟩) 1 1]
theorem mem (w : World) : ∃ W, (((((w.alloc (.cells cA 57)).alloc (.cells #[.string ⟨#[97]⟩] 9)).alloc (.cells cI 46)).alloc (.cells (cR w.heap.size) 46)).alloc (.cells #[.string ⟨#[97]⟩] 9)).alloc (.cells (cR w.heap.size) 46) = W ∧ Below w.heap.size w W ∧ W.heap.size = w.heap.size + 6 ∧ W.heap[w.heap.size]? = some (.cells cA 57 (0, 0)) ∧ W.heap[w.heap.size + 1]? = some (.cells #[.string ⟨#[97]⟩] 9 (0, 0)) ∧ W.heap[w.heap.size + 2]? = some (.cells cI 46 (0, 0)) ∧ W.heap[w.heap.size + 4]? = some (.cells #[.string ⟨#[97]⟩] 9 (0, 0)) ∧ W.heap[w.heap.size + 5]? = some (.cells (cR w.heap.size) 46 (0, 0)) := by
  refine ⟨_, rfl, ?_, by simp, ?_, ?_, ?_, ?_, ?_⟩
  · exact ((((((Below.refl _ w).alloc (Nat.le_refl _) _).alloc (by simp) _).alloc (by simp <;> omega) _).alloc (by simp <;> omega) _).alloc (by simp <;> omega) _).alloc (by simp <;> omega) _
  all_goals
    show ((((((w.heap.push _).push _).push _).push _).push _).push _)[_]? = _
    simp only [Array.getElem?_push, Array.size_push]
    repeat (first | rw [if_pos trivial] | rw [if_pos (by omega)] | rw [if_neg (by omega)])
    try rfl
theorem cells8 {W : World} {g : Nat} (h : W.heap[g]? = some (.cells cA 57 (0, 0))) {K : Nat} (hg : g < K) : Cx K W (.slice (some ⟨g, 0, none⟩) 4 4) aL := by
  refine ⟨_, 4, rfl, by decide, by decide, (fun h => by cases h), .inr ⟨g, 0, rfl, hg, fun j hj => ?_⟩⟩
  have : j = 0 ∨ j = 1 ∨ j = 2 ∨ j = 3 := by simp [aL] at hj; omega
  rcases this with rfl | rfl | rfl | rfl <;> constructor <;> (simp [World.cell?, h]; rfl)
theorem text1 {W : World} {g : Nat} (h : W.heap[g]? = some (.cells #[.string ⟨#[97]⟩] 9 (0, 0))) {K : Nat} (hg : g < K) : Tz K W (.slice (some ⟨g, 0, none⟩) 1 1) [aT] := by
  refine ⟨_, 1, rfl, by decide, by decide, .inr ⟨g, 0, rfl, hg, fun j hj => ?_⟩⟩
  obtain rfl : j = 0 := by simpa using hj
  exact ⟨by simp [World.cell?, h], by show (1 : Nat) ≤ 140737488351232; decide⟩
theorem stack1 {W : World} {n : Nat} (h1 : W.heap[n + 1]? = some (.cells #[.string ⟨#[97]⟩] 9 (0, 0))) (h2 : W.heap[n + 2]? = some (.cells cI 46 (0, 0))) (h5 : W.heap[n + 5]? = some (.cells (cR n) 46 (0, 0))) {K : Nat} (hg : n + 5 < K) : Base.InL false (fun b => b < K) W 2 (.slice (some ⟨n + 5, 0, none⟩) 1 1) [recC] := by
  refine ⟨_, 1, rfl, by decide, by decide, by decide, (fun h => by cases h), .inr ⟨n + 5, 0, rfl, hg, fun j hj => ?_, (fun h => by cases h)⟩⟩
  obtain rfl : j = 0 := by simpa using hj
  obtain ⟨k0, k1, k2, k3, k4, k5⟩ := six_box h5
  refine ⟨_, ⟨_, _, _, _, _, _, rfl, k0, k1, k2, k3, k4, k5⟩, ?_⟩
  show Base.In false _ W 2 _ (.mk 6 false 0 ⟨#[]⟩ [aT] [intC 2])
  rw [in_iff]
  refine ⟨_, _, rfl, by decide, by decide, by decide, ⟨_, 1, rfl, by decide, by decide, by decide, by simp; decide, (fun h => by cases h), .inr ⟨n + 1, 0, rfl, by show n + 1 < K; omega, fun j hj => ?_, (fun h => by cases h)⟩⟩, ⟨_, 1, rfl, by decide, by decide, by decide, (fun h => by cases h), .inr ⟨n + 2, 0, rfl, by show n + 2 < K; omega, fun j hj => ?_, (fun h => by cases h)⟩⟩⟩
  · obtain rfl : j = 0 := by simpa using hj
    simp [World.cell?, h1]
  · obtain rfl : j = 0 := by simpa using hj
    obtain ⟨y0, y1, y2, y3, y4, y5⟩ := six_box h2
    exact ⟨_, ⟨_, _, _, _, _, _, rfl, y0, y1, y2, y3, y4, y5⟩, in_v0 _ W 0 false (by decide) (by decide) (by decide)⟩
set_option maxRecDepth 20000 in
set_option maxHeartbeats 3200000 in
theorem awake_c (w : World) (ht : Tb w) : Calls Tryz.prog 14 #[] w fun e w' => e = .returned (.bool true) ∧ Below w.heap.size w w' := by
  obtain ⟨W, hW, bW, sW, z0, z1, z2, z4, z5⟩ := mem w
  have cRun := arun (K := W.heap.size) (Nat.le_refl _) (cells8 z0 (by omega)) (text1 z4 (by omega)) (stack1 z1 z2 z5 (by omega)) (ht.below bW)
  have HW : Hid (_ = W) := hW
  have HB : Hid _ := bW
  have HC : Hid (∀ W', Below W.heap.size W W' → Cx W.heap.size W' (.slice (some ⟨w.heap.size, 0, none⟩) 4 4) aL) := fun W' hb => (cells8 z0 (by omega)).below hb
  clear hW bW z0 z1 z2 z4 z5 ht
  go_enter Tryz.func14, Tryz.ntmps14
  go_wp2_with fail
  rw [HW.out]
  refine cRun.mono ?_
  rintro e W1 ⟨u, rfl, hin, b1⟩
  obtain ⟨an, ln, cn, al, ll, cl, rfl⟩ : ∃ an ln cn al ll cl, u = vl 3 false 3 ⟨#[]⟩ (.slice an ln cn) (.slice al ll cl) := in_shape hin
  obtain ⟨W2, hW2⟩ : ∃ W2, W1.alloc (.cells #[.int .i64 3, .bool false, .int .i64 3, .string ⟨#[]⟩, .slice an ln cn, .slice al ll cl] 46) = W2 := ⟨_, rfl⟩
  have b2 : Below W1.heap.size W1 W2 := by rw [← hW2]; exact (Below.refl _ W1).alloc (Nat.le_refl _) _
  have x2 : W2.heap[W1.heap.size]? = some (.cells #[.int .i64 3, .bool false, .int .i64 3, .string ⟨#[]⟩, .slice an ln cn, .slice al ll cl] 46 (0, 0)) := by rw [← hW2]; exact heap_alloc_new W1 _
  have hb2 : Below W.heap.size W W2 := b1.trans (b2.mono b1.size)
  have hz1 := b1.size
  have hz2 := b2.size
  have cK := CCk.check_c (HC.out W2 hb2) (by omega) 1 1
  rw [ck1] at cK
  have HB2 : Hid _ := hb2
  have HX2 : Hid _ := x2
  have HW2 : Hid (_ = W2) := hW2
  have hl2 : W1.heap.size < W2.heap.size := by rw [← hW2]; simp
  clear cRun hin b1 b2 x2 hb2 hW2
  go_wp2_with fail
  rw [HW2.out]
  refine cK.mono ?_
  rintro e W3 ⟨rfl, b3⟩
  have hz3 := b3.size
  have hb3 : Below W.heap.size W W3 := HB2.out.trans (b3.mono (by omega))
  have cK2 := CCk.check_c (HC.out W3 hb3) (by omega) 0 1
  rw [ck0] at cK2
  have HX3 : Hid _ := (b3.block W1.heap.size hl2).trans HX2.out
  have HB3 : Hid _ := hb3
  clear cK b3 hb3
  go_wp2_with fail
  refine cK2.mono ?_
  rintro e W4 ⟨rfl, b4⟩
  have x4 := (b4.block W1.heap.size (by omega)).trans HX3.out
  obtain ⟨k0, -, k2, -, -, -⟩ := six_box x4
  have HB4 : Hid (Below w.heap.size w W4) := (HB.out.trans (HB3.out.mono (by omega))).trans (b4.mono (by omega))
  have cN : ∀ (x : Int) (W : World), Calls Tryz.prog 10 #[.int .i64 x] W fun e w' => e = .returned (.int .i64 x) ∧ W = w' := num_c
  clear cK2 b4 x4
  go_wp2_with fail
  refine (cN _ _).mono ?_
  rintro e w9 ⟨rfl, h9⟩
  obtain rfl := h9
  go_wp2_with fail
  refine (cN _ _).mono ?_
  rintro e w9 ⟨rfl, h9⟩
  obtain rfl := h9
  go_wp2_with fail
  refine (cN _ _).mono ?_
  rintro e w9 ⟨rfl, h9⟩
  obtain rfl := h9
  go_wp2_with fail
  go_ret
  exact ⟨rfl, HB4.out⟩
end Go.Proofs.YthjbknncbhkinaaGreatDoor.CAw
