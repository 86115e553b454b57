/- The machine that runs code: every instruction behind which the next one follows. -/
import Derived.Test.YtpaigpijaifeoaaGreatDoorMDp
import Derived.Test.YtpaigpijaifeoaaGreatDoorMDo
import Derived.Test.YtpaigpijaifeoaaGreatDoorMSe
import Derived.Test.YtpaigpijaifeoaaGreatDoorMPl
import Derived.Test.YtpaigpijaifeoaaGreatDoorVPm
namespace Go.Proofs.YtpaigpijaifeoaaGreatDoor.MDq
open Go.RowKit Go.Proofs.YtpaigpijaifeoaaGreatDoor.Base Go.Proofs.YtpaigpijaifeoaaGreatDoor.VSm Go.Proofs.YtpaigpijaifeoaaGreatDoor.VJn Go.Proofs.YtpaigpijaifeoaaGreatDoor.VRs Go.Proofs.YtpaigpijaifeoaaGreatDoor.VPk Go.Proofs.YtpaigpijaifeoaaGreatDoor.MBx Go.Proofs.YtpaigpijaifeoaaGreatDoor.MPu Go.Proofs.YtpaigpijaifeoaaGreatDoor.MSe Go.Proofs.YtpaigpijaifeoaaGreatDoor.MDo
open Go.Proofs.YtpaigpijaifeoaaGreatDoor.VPure
set_option linter.unusedVariables false

set_option maxRecDepth 20000 in
set_option maxHeartbeats 1600000 in
theorem do_null {K m : Nat} {w : World} {M : Nat} {tv sv pv : Value} {p : List C} (h : Mc K (m + 1) w M tv sv pv p) (hp : p.length ≤ 65536) {a : Int} :
    Calls Tryz.prog 101 #[ptr M, .agg #[.int .i64 1, .int .i64 a]] w fun e w' => DR K (m + 1) M tv sv pv w (.ok (p ++ [nulC])) e w' := by
  obtain ⟨W0, hW0, b0, s0, x0⟩ := box1 w (.int .i64 1) (.int .i64 a)
  obtain ⟨i0, i1⟩ := two_box x0
  have hiv : Base.In false (fun b => b < K) W0 (m + 1) (v0 1 false 0 ⟨#[]⟩) nulC := in_v0 _ W0 m false (by decide) (by decide) (by decide)
  have cP : Calls Tryz.prog 130 #[ptr M, v0 1 false 0 ⟨#[]⟩] W0 fun e w' => (∃ v, e = .returned v) ∧ ∃ pv', Mc K (m + 1) w' M tv sv pv' (p ++ [nulC]) ∧ Km M pv W0 w' ∧ (pv'.ownBlock = pv.ownBlock ∨ ∃ g, pv'.ownBlock = some g ∧ W0.heap.size ≤ g) := put_c (c := nulC) (h.below b0) hp hiv
  have HH : Hid _ := h
  have HB0 : Hid _ := b0
  clear h b0 x0 hiv
  go_enter Tryz.func101, Tryz.ntmps101
  go_wp2_with fail
  try rw [hW0]
  refine cP.mono ?_
  rintro e W2 ⟨⟨v, rfl⟩, pv', m2, k2, e2⟩
  have HE : Hid _ := put_on (Nat.le_of_lt HH.out.lt) HB0.out m2 k2 e2
  clear cP m2 k2 e2
  go_wp2_with fail
  go_end0
  exact ⟨⟨_, rfl⟩, HE.out⟩
set_option maxRecDepth 20000 in
set_option maxHeartbeats 1600000 in
theorem do_truth {K m : Nat} {w : World} {M : Nat} {tv sv pv : Value} {p : List C} (h : Mc K (m + 1) w M tv sv pv p) (hp : p.length ≤ 65536) {o a : Int} (ho : o = 2 ∨ o = 3) :
    Calls Tryz.prog 101 #[ptr M, .agg #[.int .i64 o, .int .i64 a]] w fun e w' => DR K (m + 1) M tv sv pv w (.ok (p ++ [booC (decide (o = 3))])) e w' := by
  obtain ⟨W0, hW0, b0, s0, x0⟩ := box1 w (.int .i64 o) (.int .i64 a)
  obtain ⟨i0, i1⟩ := two_box x0
  have cN := fun b => truth_c b W0
  have hiv : ∀ b W, Base.In false (fun b => b < K) W (m + 1) (v0 2 b 0 ⟨#[]⟩) (booC b) := fun b W => in_v0 _ W m b (by decide) (by decide) (by decide)
  have HIV : Hid _ := hiv
  have HH : Hid _ := h
  have HB0 : Hid _ := b0
  clear h b0 x0 hiv
  rcases ho with rfl | rfl
  all_goals
    go_enter Tryz.func101, Tryz.ntmps101
    go_wp2_with fail
    try rw [hW0]
    refine (cN _).mono ?_
    rintro e W1 ⟨rfl, b1⟩
    have hb1 : Below w.heap.size w W1 := HB0.out.trans (b1.mono (by omega))
    have HB1 : Hid _ := hb1
    have cP := fun b => put_c (c := booC b) (HH.out.below hb1) hp (HIV.out b W1)
    clear cN b1 hb1
    go_wp2_with fail
    refine (cP _).mono ?_
    rintro e W2 ⟨⟨v, rfl⟩, pv', m2, k2, e2⟩
    have HE : Hid _ := put_on (Nat.le_of_lt HH.out.lt) HB1.out m2 k2 e2
    clear cP m2 k2 e2
    go_wp2_with fail
    go_end0
    exact ⟨⟨_, rfl⟩, HE.out⟩
set_option maxRecDepth 20000 in
set_option maxHeartbeats 3200000 in
theorem do_text {K m : Nat} {w : World} {M : Nat} {tv sv pv : Value} {p : List C} (h : Mc K (m + 1) w M tv sv pv p) (hp : p.length ≤ 65536) {T : List ByteArray} (hT : Tz K w tv T) {k : Nat} (hk : k < T.length) :
    Calls Tryz.prog 101 #[ptr M, .agg #[.int .i64 5, .int .i64 (k : Nat)]] w fun e w' => DR K (m + 1) M tv sv pv w (.ok (p ++ [strC T[k]])) e w' := by
  obtain ⟨W0, hW0, b0, s0, x0⟩ := box1 w (.int .i64 5) (.int .i64 (k : Nat))
  obtain ⟨i0, i1⟩ := two_box x0
  obtain ⟨a, cap, rfl, h1, h2, hL⟩ := hT
  obtain ⟨g, o, rfl, hg, hc⟩ : ∃ g o, a = some ⟨g, o, none⟩ ∧ g < K ∧ ∀ j (h : j < T.length), w.cell? ⟨g, o + j, none⟩ = some (.string T[j]) ∧ T[j].size ≤ 140737488351232 := by
    rcases hL with rfl | hL
    · simp at hk
    · exact hL
  obtain ⟨c0, hsz⟩ := hc k hk
  have hlt := h.lt
  have hlow := h.low
  have kM : W0.cell? ⟨M, 0, none⟩ = some (.slice (some ⟨g, o, none⟩) T.length cap) := by
    have := (b0.block M hlt).trans h.box
    simp [World.cell?, this]
  have c0 := below_cell c0 b0
  have hi1 : (0 : Int) ≤ (k : Int) := by omega
  have hi2 : (k : Int) < (T.length : Int) := by omega
  obtain ⟨s, hs⟩ : ∃ s, T[k] = s := ⟨_, rfl⟩
  rw [hs] at c0 hsz ⊢
  have hiv : ∀ W, Base.In false (fun b => b < K) W (m + 1) (v0 4 false 0 s) (strC s) := fun W => in_v0 _ W m false (by decide) (by decide) hsz
  have HIV : Hid _ := hiv
  have HH : Hid _ := h
  have HB0 : Hid _ := b0
  have HX0 : Hid _ := x0
  have HLT : Hid (M < w.heap.size ∧ K ≤ M) := ⟨hlt, hlow⟩
  have hpn : some w.heap.size ≠ pv.ownBlock := fun e => by have := HH.out.own_ne e.symm; omega
  have HPN : Hid _ := hpn
  have HS : Hid (∀ W, Below W0.heap.size W0 W → W.cell? ⟨M, 0, none⟩ = some (.slice (some ⟨g, o, none⟩) T.length cap) ∧ W.cell? ⟨w.heap.size, 1, none⟩ = some (.int .i64 (k : Nat)) ∧ W.cell? ⟨g, o + k, none⟩ = some (.string s)) := fun W hW => ⟨below_cell kM hW, below_cell i1 hW, below_cell c0 hW⟩
  have HG : Hid (g < K) := hg
  clear h b0 x0 hL hc hs hiv hg hpn hlt hlow
  go_enter Tryz.func101, Tryz.ntmps101
  go_wp2_with fail
  try rw [hW0]
  go_region_held3 (fun w' => w'.cell? ⟨M, 0, none⟩ = some (.slice (some ⟨g, o, none⟩) T.length cap) ∧ w'.cell? ⟨w.heap.size, 1, none⟩ = some (.int .i64 (k : Nat)) ∧ w'.cell? ⟨g, o + k, none⟩ = some (.string s)) (go_keep) (first
    | (go_at_call 105; refine (text_c s _).mono ?_; rintro e W1 ⟨rfl, b1⟩; have b1 : Below W0.heap.size W0 W1 := (((Below.refl _ W0).drew).trans b1); obtain ⟨n0, n1, n2⟩ := HS.out W1 b1; have hb1 : Below w.heap.size w W1 := HB0.out.trans (b1.mono (by omega)); have cP := put_c (c := strC s) (HH.out.below hb1) hp (HIV.out W1))
    | (go_at_call 130; refine cP.mono ?_; rintro e W2 ⟨⟨v, rfl⟩, pv', m2, k2, e2⟩; have n1 : W2.cell? ⟨M, 0, none⟩ = some (.slice (some ⟨g, o, none⟩) T.length cap) := (by simp [World.cell?, m2.box]); obtain ⟨-, n2⟩ := two_box ((k2.other w.heap.size (by have := b1.size; omega) (by have := HLT.out; omega) HPN.out).trans ((b1.block w.heap.size (by omega)).trans HX0.out)); have n3 : W2.cell? ⟨g, o + k, none⟩ = some (.string s) := ((World.cell?_of_block (w := W1) (k2.below.block g (by have := HG.out; have := HLT.out; omega))).trans (HS.out W1 b1).2.2)))
  have HE : Hid _ := put_on (Nat.le_of_lt HH.out.lt) hb1 m2 k2 e2
  clear cP m2 k2 e2 b1 hb1
  go_wp2_with fail
  go_end0
  exact ⟨⟨_, rfl⟩, HE.out⟩
set_option maxRecDepth 20000 in
set_option maxHeartbeats 1600000 in
theorem do_bool {K m : Nat} {w : World} {M : Nat} {tv sv pv : Value} {q : List C} {c : C} (h : Mc K m w M tv sv pv (q ++ [c])) (hq : q.length ≤ 65536) {a : Int} :
    Calls Tryz.prog 101 #[ptr M, .agg #[.int .i64 29, .int .i64 a]] w fun e w' => DR K m M tv sv pv w (if c.k = 2 then .ok (q ++ [c]) else .error 1101) e w' := by
  obtain ⟨W0, hW0, b0, s0, x0⟩ := box1 w (.int .i64 29) (.int .i64 a)
  obtain ⟨i0, i1⟩ := two_box x0
  have cT := top_c (h.below b0) hq
  have HH : Hid _ := h
  have HB0 : Hid _ := b0
  obtain ⟨X, hX⟩ : ∃ X, (if c.k = 2 then Except.ok (q ++ [c]) else Except.error 1101) = X := ⟨_, rfl⟩
  rw [hX]
  have HX : Hid ((if c.k = 2 then Except.ok (q ++ [c]) else Except.error 1101) = X) := hX
  clear h b0 x0 hX
  go_enter Tryz.func101, Tryz.ntmps101
  go_wp2_with fail
  try rw [hW0]
  refine cT.mono ?_
  rintro e W1 ⟨u, rfl, hin, b1⟩
  obtain ⟨an, ln, cn, al, ll, cl, rfl⟩ := in_shape hin
  have hb1 : Below w.heap.size w W1 := HB0.out.trans (b1.mono (by omega))
  have cI := isTrue_c c.k c.b c.i c.s (.slice an ln cn) (.slice al ll cl) W1
  have HB1 : Hid _ := hb1
  clear cT b1 hb1 hin
  by_cases hk : c.k = 2
  · rw [if_pos hk] at cI
    have hX := HX.out
    rw [if_pos hk] at hX
    subst hX
    clear hk
    go_wp2_with fail
    refine cI.mono ?_
    rintro e W2 ⟨rfl, b2⟩
    have hb2 : Below w.heap.size w W2 := HB1.out.trans (b2.mono HB1.out.size)
    have HE : Hid (∃ pv', Mc K m W2 M tv sv pv' (q ++ [c]) ∧ Km M pv w W2 ∧ (pv'.ownBlock = pv.ownBlock ∨ ∃ g, pv'.ownBlock = some g ∧ w.heap.size ≤ g)) := ⟨pv, HH.out.below hb2, Km.of_below hb2 (Nat.le_of_lt HH.out.lt), .inl rfl⟩
    clear cI b2 hb2
    go_wp2_with fail
    go_end0
    exact ⟨⟨_, rfl⟩, HE.out⟩
  · rw [if_neg hk] at cI
    have hX := HX.out
    rw [if_neg hk] at hX
    subst hX
    clear hk
    go_wp2_with fail
    refine cI.mono ?_
    rintro e W2 ⟨rfl, b2⟩
    exact ⟨rfl, rfl, Km.of_below (HB1.out.trans (b2.mono HB1.out.size)) (Nat.le_of_lt HH.out.lt)⟩
end Go.Proofs.YtpaigpijaifeoaaGreatDoor.MDq

namespace Go.Proofs.YtpaigpijaifeoaaGreatDoor.MDr
open Go.Proofs.YtpaigpijaifeoaaGreatDoor.Tak
open Go.RowKit Go.Proofs.YtpaigpijaifeoaaGreatDoor.Base Go.Proofs.YtpaigpijaifeoaaGreatDoor.VSm Go.Proofs.YtpaigpijaifeoaaGreatDoor.VJn Go.Proofs.YtpaigpijaifeoaaGreatDoor.VRs Go.Proofs.YtpaigpijaifeoaaGreatDoor.VPk Go.Proofs.YtpaigpijaifeoaaGreatDoor.MBx Go.Proofs.YtpaigpijaifeoaaGreatDoor.MPu Go.Proofs.YtpaigpijaifeoaaGreatDoor.MSe Go.Proofs.YtpaigpijaifeoaaGreatDoor.MDo
open Go.Proofs.YtpaigpijaifeoaaGreatDoor.VPure
set_option linter.unusedVariables false

set_option maxRecDepth 20000 in
set_option maxHeartbeats 6400000 in
theorem pair_err {K m : Nat} {w : World} {M : Nat} {tv sv pv : Value} {p q : List C} {x y : C} {n : Nat} {o a : Int} (h : Mc K (m + 1) w M tv sv pv p) (hq : q.length ≤ 65536) (hT : TK K w) (hP : PairOk o) (hd : o ≠ 1 ∧ o ≠ 2 ∧ o ≠ 3 ∧ o ≠ 4 ∧ o ≠ 5 ∧ o ≠ 6 ∧ o ≠ 29) (hwf : wf x) (hX : pr2 o x y = .error n)
    (cS : ∀ W, Below w.heap.size w W → Calls Tryz.prog 131 #[ptr M, .agg #[.int .i64 o, .int .i64 a]] W fun e w' => SR K (m + 1) M tv sv pv W y (q ++ [x]) e w') :
    Calls Tryz.prog 101 #[ptr M, .agg #[.int .i64 o, .int .i64 a]] w fun e w' => DR K (m + 1) M tv sv pv w (.error n) e w' := by
  obtain ⟨W0, hW0, b0, s0, x0⟩ := box1 w (.int .i64 o) (.int .i64 a)
  obtain ⟨i0, i1⟩ := two_box x0
  have c2 := cS W0 b0
  have HH : Hid _ := h
  have HB0 : Hid _ := b0
  have HX0 : Hid _ := x0
  have HT : Hid (TK K w) := hT
  have HP : Hid (PairOk o) := hP
  have HWF : Hid (wf x) := hwf
  have HXX : Hid (pr2 o x y = .error n) := hX
  have hlt := h.lt
  have hlow := h.low
  obtain ⟨e1, e2, e3, e4, e5, e6, e29⟩ := hd
  have d1 : (o == 1) = false := by simp [e1]
  have d2 : (o == 2) = false := by simp [e2]
  have d3 : (o == 3) = false := by simp [e3]
  have d4 : (o == 4) = false := by simp [e4]
  have d5 : (o == 5) = false := by simp [e5]
  have d6 : (o == 6) = false := by simp [e6]
  have d29 : (o == 29) = false := by simp [e29]
  clear h b0 x0 hT hP hwf hX cS e1 e2 e3 e4 e5 e6 e29
  go_enter Tryz.func101, Tryz.ntmps101
  go_wp2_with fail
  try rw [hW0]
  refine c2.mono ?_
  rintro e W1 ⟨u, pv1, rfl, hin1, m1, k1, e1⟩
  obtain ⟨an, ln, cn, al, ll, cl, rfl⟩ := in_shape hin1
  have hs1 := k1.below.size
  have hn0 : some w.heap.size ≠ pv.ownBlock := fun e => by have := HH.out.own_ne e.symm; omega
  have x1 := (k1.other w.heap.size (by omega) (by omega) hn0).trans HX0.out
  obtain ⟨W2, hW2⟩ : ∃ W2, W1.alloc (.cells #[.int .i64 y.k, .bool y.b, .int .i64 y.i, .string y.s, .slice an ln cn, .slice al ll cl] 26) = W2 := ⟨_, rfl⟩
  have b2 : Below W1.heap.size W1 W2 := by rw [← hW2]; exact (Below.refl _ W1).alloc (Nat.le_refl _) _
  have s2 : W2.heap.size = W1.heap.size + 1 := by rw [← hW2]; simp
  have y2 : W2.heap[W1.heap.size]? = some (.cells #[.int .i64 y.k, .bool y.b, .int .i64 y.i, .string y.s, .slice an ln cn, .slice al ll cl] 26 (0, 0)) := by rw [← hW2]; exact heap_alloc_new W1 _
  have x2 := (b2.block _ (by omega)).trans x1
  obtain ⟨j0, j1⟩ := two_box x2
  obtain ⟨z0, z1, z2, z3, z4, z5⟩ := six_box y2
  have b2d : Below W1.heap.size W1 W2.drew := ⟨b2.os, b2.tape, b2.output, b2.size, b2.block⟩
  have m2 : Mc K (m + 1) W2.drew M tv sv pv1 (q ++ [x]) := m1.below b2d
  have cT := take_c m2 hq
  have hn1 : some W1.heap.size ≠ pv1.ownBlock := fun e => by have := m1.own_ne e.symm; omega
  have HS : Hid (∀ W, Km M pv1 W2.drew W → W.cell? ⟨w.heap.size, 0, none⟩ = some (.int .i64 o) ∧ (W.cell? ⟨W1.heap.size, 0, none⟩ = some (.int .i64 y.k) ∧ W.cell? ⟨W1.heap.size, 1, none⟩ = some (.bool y.b) ∧ W.cell? ⟨W1.heap.size, 2, none⟩ = some (.int .i64 y.i) ∧ W.cell? ⟨W1.heap.size, 3, none⟩ = some (.string y.s) ∧ W.cell? ⟨W1.heap.size, 4, none⟩ = some (.slice an ln cn) ∧ W.cell? ⟨W1.heap.size, 5, none⟩ = some (.slice al ll cl))) := fun W hW =>
    ⟨(two_box ((hW.other w.heap.size (by show w.heap.size < W2.heap.size; omega) (by omega) (by rw [e1]; exact hn0)).trans x2)).1, six_box ((hW.other W1.heap.size (by show W1.heap.size < W2.heap.size; omega) (by omega) hn1).trans y2)⟩
  have HB1 : Hid (Below M w W2.drew) := ((HB0.out.mono (by omega)).trans k1.below).trans (b2d.mono (by omega))
  have HK1 : Hid (Km M pv w W2.drew) := ((Km.of_below HB0.out (by omega)).trans k1 (.inl rfl)).trans (Km.of_below b2d (by omega)) (.inl rfl)
  have HI1 : Hid (Base.In false (fun b => b < K) W2.drew (m + 1) (vl y.k y.b y.i y.s (.slice an ln cn) (.slice al ll cl)) y) := hin1.below b2d
  have HE1 : Hid (pv1.ownBlock = pv.ownBlock) := e1
  have hs2d : W2.drew.heap.size = W1.heap.size + 1 := s2
  clear c2 hin1 m1 k1 x1 b2 x2 y2 b2d m2 e1 hn0 hn1
  go_wp2_with fail
  try rw [hW2]
  refine wp_region_held_drew (S := fun w' => w'.cell? ⟨w.heap.size, 0, none⟩ = some (.int .i64 o) ∧ (w'.cell? ⟨W1.heap.size, 0, none⟩ = some (.int .i64 y.k) ∧ w'.cell? ⟨W1.heap.size, 1, none⟩ = some (.bool y.b) ∧ w'.cell? ⟨W1.heap.size, 2, none⟩ = some (.int .i64 y.i) ∧ w'.cell? ⟨W1.heap.size, 3, none⟩ = some (.string y.s) ∧ w'.cell? ⟨W1.heap.size, 4, none⟩ = some (.slice an ln cn) ∧ w'.cell? ⟨W1.heap.size, 5, none⟩ = some (.slice al ll cl))) (by kernel_rfl) (HS.out W2.drew (Km.of_below (Below.refl _ _) (by omega))) (fun hHeld => ?_)
  refine tkH 0 rfl ?_; try simp only [ptH]
  refine tkH 1 rfl ?_; try simp only [ptH]
  refine tkH 2 rfl ?_; try simp only [ptH]
  refine tkH 3 rfl ?_; try simp only [ptH]
  refine tkH 5 rfl ?_; try simp only [ptH]
  refine rdH [4] ?_
  refine alH rfl fun K0 hK => ?_
  go_simp
  refine cT.mono ?_
  rintro e W3 ⟨u3, pv3, rfl, hin3, m3, k3, e3⟩
  obtain ⟨ax, lx, cx, bx, mx, dx, rfl⟩ := in_shape hin3
  have hb3 : Below K W2.drew W3 := k3.below.mono hlow
  have cP := HP.out K m W3 _ _ x y (by have := k3.below.size; omega) (HT.out.tb ((HB1.out.mono hlow).trans hb3) (by have := k3.below.size; omega)) hin3 (in_low HI1.out hb3) HWF.out
  have HK3 : Hid (Km M pv1 W2.drew W3) := k3
  clear cT m3 k3 e3 hin3 hb3
  go_wp2_with fail
  refine hK.out _ _ (HS.out W3 HK3.out) (fun hHeld => ?_)
  clear hK K0
  try simp only [ptH]
  refine rdH [6] ?_
  refine alH rfl fun K0 hK => ?_
  go_simp
  refine cP.mono ?_
  rintro e W4 ⟨b4, hA⟩
  rw [HXX.out] at hA
  obtain rfl := hA
  exact ⟨rfl, rfl, (HK1.out.trans HK3.out (.inl HE1.out)).trans (Km.of_below (pv := pv) b4 (by have := HK3.out.below.size; omega)) (.inl rfl)⟩
end Go.Proofs.YtpaigpijaifeoaaGreatDoor.MDr

namespace Go.Proofs.YtpaigpijaifeoaaGreatDoor.MSf
open Go.RowKit Go.Proofs.YtpaigpijaifeoaaGreatDoor.Base Go.Proofs.YtpaigpijaifeoaaGreatDoor.VSm Go.Proofs.YtpaigpijaifeoaaGreatDoor.VRs Go.Proofs.YtpaigpijaifeoaaGreatDoor.MBx Go.Proofs.YtpaigpijaifeoaaGreatDoor.MSe
open Go.Proofs.YtpaigpijaifeoaaGreatDoor.VPure
set_option linter.unusedVariables false

set_option maxRecDepth 20000 in
set_option maxHeartbeats 3200000 in
theorem second_num {K m : Nat} {w : World} {M : Nat} {tv sv pv : Value} {p : List C} (h : Mc K (m + 1) w M tv sv pv p) {a : Int} (ha : -9223372036854775808 ≤ a ∧ a ≤ 9223372036854775807) :
    Calls Tryz.prog 131 #[ptr M, .agg #[.int .i64 9, .int .i64 a]] w fun e w' => SR K (m + 1) M tv sv pv w (intC a) p e w' := by
  obtain ⟨W0, hW0, s0, b0, x0, y0⟩ := boxes w (.int .i64 9) (.int .i64 a)
  obtain ⟨i0, i1⟩ := two_box x0
  have cN := number_c a W0
  have hin0 : ∀ W, Base.In false (fun b => b < K) W (m + 1) (v0 3 false a ⟨#[]⟩) (intC a) := fun W => in_v0 _ W m false (by decide) ha (by decide)
  have HIN : Hid _ := hin0
  have HLT : Hid (M < w.heap.size ∧ K ≤ M) := ⟨h.lt, h.low⟩
  have HH : Hid _ := h
  have HB0 : Hid _ := b0
  have HY0 : Hid _ := y0
  clear h b0 x0 y0 hin0
  go_enter Tryz.func131, Tryz.ntmps131
  go_wp2_with fail
  try rw [hW0]
  refine cN.mono ?_
  rintro e W1 ⟨rfl, b1⟩
  have y1 := (b1.block (w.heap.size + 1) (by omega)).trans HY0.out
  obtain ⟨W9, hW9⟩ : ∃ W9, (((((W1.setCell ⟨w.heap.size + 1, 0, none⟩ (.int .i64 3)).setCell ⟨w.heap.size + 1, 1, none⟩ (.bool false)).setCell ⟨w.heap.size + 1, 2, none⟩ (.int .i64 a)).setCell ⟨w.heap.size + 1, 3, none⟩ (.string ⟨#[]⟩)).setCell ⟨w.heap.size + 1, 4, none⟩ (.slice none 0 0)).setCell ⟨w.heap.size + 1, 5, none⟩ (.slice none 0 0) = W9 := ⟨_, rfl⟩
  obtain ⟨q1, q2, q3, q4⟩ := set6 _ _ _ _ _ _ y1 hW9
  have HE : Hid (SR K (m + 1) M tv sv pv w (intC a) p (.returned (v0 3 false a ⟨#[]⟩)) W9) := by
    have hlt := HLT.out
    have hb : Below w.heap.size w W1 := HB0.out.trans (b1.mono (by omega))
    refine ⟨_, pv, rfl, HIN.out W9, (HH.out.below hb).keep fun c hc hc2 => q2 c ?_, ⟨q4 _ _ (by omega) (hb.mono (by omega)), fun c hc h1 h2 => ?_⟩, rfl⟩
    · rcases hc2 with hc2 | hc2 | hc2
      · omega
      · omega
      · have := HH.out.own_ne hc2; omega
    · rw [q2 c (by omega), hb.block c hc]
  have HQ1 : Hid _ := q1
  have HW9 : Hid (_ = W9) := hW9
  obtain ⟨v0', v1', v2', v3', v4', v5'⟩ := six_box y1
  have g0 := frozen_box y1 0
  have g1 := frozen_box y1 1
  have g2 := frozen_box y1 2
  have g3 := frozen_box y1 3
  have g4 := frozen_box y1 4
  have g5 := frozen_box y1 5
  clear q1 q2 q3 q4 b1 y1 cN hW9
  go_wp2_with fail
  rw [HW9.out]
  refine bodyPost_ret (results_cell_row rfl _ W9 (w.heap.size + 1) 26 _ (0, 0) _ rfl HQ1.out Tryz.underlying26 rfl (by kernel_rfl)) rfl ?_
  exact HE.out
set_option maxRecDepth 20000 in
set_option maxHeartbeats 3200000 in
theorem second_zero {K m : Nat} {w : World} {M : Nat} {tv sv pv : Value} {p : List C} (h : Mc K (m + 1) w M tv sv pv p) {o a : Int} (ho : o = 10 ∨ o = 11) :
    Calls Tryz.prog 131 #[ptr M, .agg #[.int .i64 o, .int .i64 a]] w fun e w' => SR K (m + 1) M tv sv pv w zerC p e w' := by
  obtain ⟨W0, hW0, s0, b0, x0, y0⟩ := boxes w (.int .i64 o) (.int .i64 a)
  obtain ⟨i0, i1⟩ := two_box x0
  obtain ⟨W9, hW9⟩ : ∃ W9, (((((W0.setCell ⟨w.heap.size + 1, 0, none⟩ (.int .i64 0)).setCell ⟨w.heap.size + 1, 1, none⟩ (.bool false)).setCell ⟨w.heap.size + 1, 2, none⟩ (.int .i64 0)).setCell ⟨w.heap.size + 1, 3, none⟩ (.string ⟨#[]⟩)).setCell ⟨w.heap.size + 1, 4, none⟩ (.slice none 0 0)).setCell ⟨w.heap.size + 1, 5, none⟩ (.slice none 0 0) = W9 := ⟨_, rfl⟩
  obtain ⟨q1, q2, q3, q4⟩ := set6 _ _ _ _ _ _ y0 hW9
  have HE : Hid (SR K (m + 1) M tv sv pv w zerC p (.returned (v0 0 false 0 ⟨#[]⟩)) W9) := by
    have hlt := h.lt
    have hlow := h.low
    refine ⟨_, pv, rfl, in_v0 _ W9 m false (by decide) (by decide) (by decide), (h.below b0).keep fun c hc hc2 => q2 c ?_, ⟨q4 _ _ (by omega) (b0.mono (by omega)), fun c hc h1 h2 => ?_⟩, rfl⟩
    · rcases hc2 with hc2 | hc2 | hc2
      · omega
      · omega
      · have := h.own_ne hc2; omega
    · rw [q2 c (by omega), b0.block c hc]
  have HQ1 : Hid _ := q1
  have HW0 : Hid (_ = W0) := hW0
  have HW9 : Hid (_ = W9) := hW9
  obtain ⟨v0', v1', v2', v3', v4', v5'⟩ := six_box y0
  have g0 := frozen_box y0 0
  have g1 := frozen_box y0 1
  have g2 := frozen_box y0 2
  have g3 := frozen_box y0 3
  have g4 := frozen_box y0 4
  have g5 := frozen_box y0 5
  have d7 : (o == 7) = false := by rcases ho with rfl | rfl <;> decide
  have d9 : (o == 9) = false := by rcases ho with rfl | rfl <;> decide
  clear q1 q2 q3 q4 h b0 x0 y0 hW9
  rcases ho with rfl | rfl
  all_goals
    go_enter Tryz.func131, Tryz.ntmps131
    go_wp2_with fail
    try rw [HW0.out]
    rw [HW9.out]
    refine bodyPost_ret (results_cell_row rfl _ W9 (w.heap.size + 1) 26 _ (0, 0) _ rfl HQ1.out Tryz.underlying26 rfl (by kernel_rfl)) rfl ?_
    exact HE.out
end Go.Proofs.YtpaigpijaifeoaaGreatDoor.MSf

namespace Go.Proofs.YtpaigpijaifeoaaGreatDoor.MDa
open Go.RowKit Go.Proofs.YtpaigpijaifeoaaGreatDoor.Base Go.Proofs.YtpaigpijaifeoaaGreatDoor.VSm Go.Proofs.YtpaigpijaifeoaaGreatDoor.VJn Go.Proofs.YtpaigpijaifeoaaGreatDoor.VRs Go.Proofs.YtpaigpijaifeoaaGreatDoor.VPk Go.Proofs.YtpaigpijaifeoaaGreatDoor.MBx Go.Proofs.YtpaigpijaifeoaaGreatDoor.MSe Go.Proofs.YtpaigpijaifeoaaGreatDoor.MSf Go.Proofs.YtpaigpijaifeoaaGreatDoor.MDo Go.Proofs.YtpaigpijaifeoaaGreatDoor.MDq Go.Proofs.YtpaigpijaifeoaaGreatDoor.MPl
open Go.Proofs.YtpaigpijaifeoaaGreatDoor.VPure
open Go.Proofs.YtpaigpijaifeoaaGreatDoor.CPu (Ins nd hnm)
set_option linter.unusedVariables false

theorem pairs {o : Int} (h1 : 7 ≤ o) (h2 : o ≤ 28) : PairOk o := by
  have hc : o = 7 ∨ o = 8 ∨ o = 9 ∨ o = 10 ∨ o = 11 ∨ o = 12 ∨ o = 13 ∨ o = 14 ∨ o = 15 ∨ o = 16 ∨ o = 17 ∨ o = 18 ∨ o = 19 ∨ o = 20 ∨ o = 21 ∨ o = 22 ∨ o = 23 ∨ o = 24 ∨ o = 25 ∨ o = 26 ∨ o = 27 ∨ o = 28 := by omega
  rcases hc with rfl | rfl | rfl | rfl | rfl | rfl | rfl | rfl | rfl | rfl | rfl | rfl | rfl | rfl | rfl | rfl | rfl | rfl | rfl | rfl | rfl | rfl
  · exact VPm.pair7
  · exact VPm.pair8
  · exact VPm.pair9
  · exact VPm.pair10
  · exact VPm.pair11
  · exact VPk.pair12
  · exact VPk.pair13
  · exact VPk.pair14
  · exact VPk.pair15
  · exact VPk.pair16
  · exact VPk.pair17
  · exact VPk.pair18
  · exact VPk.pair19
  · exact VPm.pair20
  · exact VPm.pair21
  · exact VPm.pair22
  · exact VPm.pair23
  · exact VPm.pair24
  · exact VPm.pair25
  · exact VPm.pair26
  · exact VPm.pair27
  · exact VPm.pair28
/-- An instruction of two operands, by what second does. -/
theorem two_c {K m : Nat} {w : World} {M : Nat} {tv sv pv : Value} {p q : List C} {x y : C} {o a : Int} (h : Mc K (m + 1) w M tv sv pv p) (hq : q.length ≤ 65536) (hT : TK K w) (h7 : 7 ≤ o) (h28 : o ≤ 28) (hwf : wf x)
    (cS : ∀ W, Below w.heap.size w W → Calls Tryz.prog 131 #[ptr M, .agg #[.int .i64 o, .int .i64 a]] W fun e w' => SR K (m + 1) M tv sv pv W y (q ++ [x]) e w') :
    Calls Tryz.prog 101 #[ptr M, .agg #[.int .i64 o, .int .i64 a]] w fun e w' => DR K (m + 1) M tv sv pv w (bnd (pr2 o x y) fun v => .ok (q ++ [v])) e w' := by
  cases hX : pr2 o x y with
  | ok v => exact MDp.pair_ok h hq hT (pairs h7 h28) (by omega) hwf hX cS
  | error n => exact MDr.pair_err h hq hT (pairs h7 h28) (by omega) hwf hX cS
theorem do_all {K m : Nat} {w : World} {M : Nat} {tv sv pv : Value} {p : List C} {T : List ByteArray} {S : List C} {o a : Int} (h : Mc K (m + 1) w M tv sv pv p) (hp : p.length ≤ 65536) (hT : Tz K w tv T) (hS : Base.InL false (fun b => b < K) w (m + 1) sv S) (hTK : TK K w)
    (h1 : 1 ≤ o) (h2 : o ≤ 29) (hn : hnm T.length S.length o a = true) (hd : nd o ≤ p.length) (ha : -9223372036854775808 ≤ a ∧ a ≤ 9223372036854775807) (hwf : ∀ c ∈ p, wf c) :
    Calls Tryz.prog 101 #[ptr M, .agg #[.int .i64 o, .int .i64 a]] w fun e w' => DR K (m + 1) M tv sv pv w (dop T S o a p) e w' := by
  unfold dop
  by_cases e1 : o = 1
  · subst e1; rw [if_pos rfl]; exact do_null h hp
  rw [if_neg e1]
  by_cases e2 : o = 2 ∨ o = 3
  · rw [if_pos e2]; exact do_truth h hp e2
  rw [if_neg e2]
  by_cases e4 : o = 4
  · subst e4; rw [if_pos rfl]; exact do_int h hp ha
  rw [if_neg e4]
  by_cases e5 : o = 5
  · subst e5
    rw [if_pos rfl]
    have hk : 0 ≤ a ∧ a < T.length := by simpa [hnm] using hn
    obtain ⟨k, rfl⟩ : ∃ k : Nat, a = k := ⟨a.toNat, by omega⟩
    have hk2 : k < T.length := by omega
    rw [Int.toNat_natCast, List.getD_eq_getElem?_getD, List.getElem?_eq_getElem hk2]
    exact do_text h hp hT hk2
  rw [if_neg e5]
  by_cases e6 : o = 6
  · subst e6
    rw [if_pos rfl]
    have hk : 0 ≤ a ∧ a < S.length := by simpa [hnm] using hn
    obtain ⟨k, rfl⟩ : ∃ k : Nat, a = k := ⟨a.toNat, by omega⟩
    have hk2 : k < S.length := by omega
    rw [Int.toNat_natCast, List.getD_eq_getElem?_getD, List.getElem?_eq_getElem hk2]
    exact do_var h hp hS hk2
  rw [if_neg e6]
  by_cases e29 : o = 29
  · subst e29
    rw [if_pos rfl]
    have : nd 29 = 1 := by decide
    obtain ⟨q, c, rfl⟩ := snoc_of (p := p) (by omega)
    rw [last_snoc]
    exact do_bool h (by simp at hp; omega)
  rw [if_neg e29]
  by_cases hs : o = 7 ∨ o = 9 ∨ o = 10 ∨ o = 11
  · have hnd : nd o = 1 := by rcases hs with rfl | rfl | rfl | rfl <;> decide
    obtain ⟨q, x, rfl⟩ := snoc_of (p := p) (by omega)
    have hq : q.length ≤ 65536 := by simp at hp; omega
    have hx : wf x := hwf x (by simp)
    have hse : (sec T o a (q ++ [x])).2 = q ++ [x] := by
      unfold sec
      rcases hs with rfl | rfl | rfl | rfl <;> rfl
    rw [hse, last_snoc, drop_snoc]
    refine two_c h hq hTK (by omega) (by omega) hx fun W hW => ?_
    have hlow := h.low
    have hlt := h.lt
    have hTW : Tz K W tv T := hT.below (hW.mono (by omega))
    rcases hs with rfl | rfl | rfl | rfl
    · have hk : 0 ≤ a ∧ a < T.length := by simpa [hnm] using hn
      obtain ⟨k, rfl⟩ : ∃ k : Nat, a = k := ⟨a.toNat, by omega⟩
      have hk2 : k < T.length := by omega
      have := second_text (h.below hW) hTW hk2
      unfold sec
      rw [if_pos rfl, Int.toNat_natCast, List.getD_eq_getElem?_getD, List.getElem?_eq_getElem hk2]
      exact this
    · exact second_num (h.below hW) ha
    · exact second_zero (h.below hW) (.inl rfl)
    · exact second_zero (h.below hW) (.inr rfl)
  · have hnd : nd o = 2 := by
      have a1 : decide (o ≤ 6) = false := by simp; omega
      have a2 : (o == 33) = false := by simp; omega
      have a3 : ((o == 8) || (decide (12 ≤ o) && decide (o ≤ 28))) = true := by
        by_cases h8 : o = 8
        · subst h8; decide
        · have b1 : decide (12 ≤ o) = true := by simp; omega
          have b2 : decide (o ≤ 28) = true := by simp; omega
          simp [b1, b2]
      unfold nd
      rw [a1, a2, a3]
      rfl
    obtain ⟨r, y, rfl⟩ := snoc_of (p := p) (by omega)
    obtain ⟨q, x, rfl⟩ := snoc_of (p := r) (by simp at hd; omega)
    have hq : q.length ≤ 65536 := by simp at hp; omega
    have hx : wf x := hwf x (by simp)
    have hse : sec T o a (q ++ [x] ++ [y]) = (y, q ++ [x]) := by
      unfold sec
      rw [if_neg (by omega), if_neg (by omega), if_neg (by omega), last_snoc, drop_snoc]
    rw [hse]
    dsimp only
    rw [last_snoc, drop_snoc]
    exact two_c h hq hTK (by omega) (by omega) hx fun W hW => second_take (h.below hW) (by simp at hp; simp; omega) (by omega)
end Go.Proofs.YtpaigpijaifeoaaGreatDoor.MDa
