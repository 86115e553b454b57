/- The machine that runs code: an instruction of two operands. -/
import Derived.Test.YtpaigpijaifeoaaGreatDoorMDo
namespace Go.Proofs.YtpaigpijaifeoaaGreatDoor.MDp
open Go.RowKit Go.Proofs.YtpaigpijaifeoaaGreatDoor.Base Go.Proofs.YtpaigpijaifeoaaGreatDoor.VSm Go.Proofs.YtpaigpijaifeoaaGreatDoor.VJn Go.Proofs.YtpaigpijaifeoaaGreatDoor.VRs Go.Proofs.YtpaigpijaifeoaaGreatDoor.VPk Go.Proofs.YtpaigpijaifeoaaGreatDoor.MBx Go.Proofs.YtpaigpijaifeoaaGreatDoor.MPu Go.Proofs.YtpaigpijaifeoaaGreatDoor.MSe Go.Proofs.YtpaigpijaifeoaaGreatDoor.MDo
open Go.Proofs.YtpaigpijaifeoaaGreatDoor.VPure
set_option linter.unusedVariables false

set_option maxRecDepth 20000 in
set_option maxHeartbeats 6400000 in
theorem pair_ok {K m : Nat} {w : World} {M : Nat} {tv sv pv : Value} {p q : List C} {x y v : C} {o a : Int} (h : Mc K (m + 1) w M tv sv pv p) (hq : q.length ≤ 65536) (hT : TK K w) (hP : PairOk o) (hd : o ≠ 1 ∧ o ≠ 2 ∧ o ≠ 3 ∧ o ≠ 4 ∧ o ≠ 5 ∧ o ≠ 6 ∧ o ≠ 29) (hwf : wf x) (hX : pr2 o x y = .ok v)
    (cS : ∀ W, Below w.heap.size w W → Calls Tryz.prog 131 #[ptr M, .agg #[.int .i64 o, .int .i64 a]] W fun e w' => SR K (m + 1) M tv sv pv W y (q ++ [x]) e w') :
    Calls Tryz.prog 101 #[ptr M, .agg #[.int .i64 o, .int .i64 a]] w fun e w' => DR K (m + 1) M tv sv pv w (.ok (q ++ [v])) e w' := by
  obtain ⟨W0, hW0, b0, s0, x0⟩ := box1 w (.int .i64 o) (.int .i64 a)
  obtain ⟨i0, i1⟩ := two_box x0
  have c2 := cS W0 b0
  have HH : Hid _ := h
  have HB0 : Hid _ := b0
  have HX0 : Hid _ := x0
  have HT : Hid (TK K w) := hT
  have HP : Hid (PairOk o) := hP
  have HWF : Hid (wf x) := hwf
  have HXX : Hid (pr2 o x y = .ok v) := hX
  have hlt := h.lt
  have hlow := h.low
  obtain ⟨e1, e2, e3, e4, e5, e6, e29⟩ := hd
  have d1 : (o == 1) = false := by simp [e1]
  have d2 : (o == 2) = false := by simp [e2]
  have d3 : (o == 3) = false := by simp [e3]
  have d4 : (o == 4) = false := by simp [e4]
  have d5 : (o == 5) = false := by simp [e5]
  have d6 : (o == 6) = false := by simp [e6]
  have d29 : (o == 29) = false := by simp [e29]
  clear h b0 x0 hT hP hwf hX cS e1 e2 e3 e4 e5 e6 e29
  go_enter Tryz.func101, Tryz.ntmps101
  go_wp2_with fail
  try rw [hW0]
  refine c2.mono ?_
  rintro e W1 ⟨u, pv1, rfl, hin1, m1, k1, e1⟩
  obtain ⟨an, ln, cn, al, ll, cl, rfl⟩ := in_shape hin1
  have hs1 := k1.below.size
  have hn0 : some w.heap.size ≠ pv.ownBlock := fun e => by have := HH.out.own_ne e.symm; omega
  have x1 := (k1.other w.heap.size (by omega) (by omega) hn0).trans HX0.out
  obtain ⟨W2, hW2⟩ : ∃ W2, W1.alloc (.cells #[.int .i64 y.k, .bool y.b, .int .i64 y.i, .string y.s, .slice an ln cn, .slice al ll cl] 26) = W2 := ⟨_, rfl⟩
  have b2 : Below W1.heap.size W1 W2 := by rw [← hW2]; exact (Below.refl _ W1).alloc (Nat.le_refl _) _
  have s2 : W2.heap.size = W1.heap.size + 1 := by rw [← hW2]; simp
  have y2 : W2.heap[W1.heap.size]? = some (.cells #[.int .i64 y.k, .bool y.b, .int .i64 y.i, .string y.s, .slice an ln cn, .slice al ll cl] 26 (0, 0)) := by rw [← hW2]; exact heap_alloc_new W1 _
  have x2 := (b2.block _ (by omega)).trans x1
  obtain ⟨j0, j1⟩ := two_box x2
  obtain ⟨z0, z1, z2, z3, z4, z5⟩ := six_box y2
  have b2d : Below W1.heap.size W1 W2.drew := ⟨b2.os, b2.tape, b2.output, b2.size, b2.block⟩
  have m2 : Mc K (m + 1) W2.drew M tv sv pv1 (q ++ [x]) := m1.below b2d
  have cT := take_c m2 hq
  have hn1 : some W1.heap.size ≠ pv1.ownBlock := fun e => by have := m1.own_ne e.symm; omega
  have HS : Hid (∀ W, Km M pv1 W2.drew W → W.cell? ⟨w.heap.size, 0, none⟩ = some (.int .i64 o) ∧ (W.cell? ⟨W1.heap.size, 0, none⟩ = some (.int .i64 y.k) ∧ W.cell? ⟨W1.heap.size, 1, none⟩ = some (.bool y.b) ∧ W.cell? ⟨W1.heap.size, 2, none⟩ = some (.int .i64 y.i) ∧ W.cell? ⟨W1.heap.size, 3, none⟩ = some (.string y.s) ∧ W.cell? ⟨W1.heap.size, 4, none⟩ = some (.slice an ln cn) ∧ W.cell? ⟨W1.heap.size, 5, none⟩ = some (.slice al ll cl))) := fun W hW =>
    ⟨(two_box ((hW.other w.heap.size (by show w.heap.size < W2.heap.size; omega) (by omega) (by rw [e1]; exact hn0)).trans x2)).1, six_box ((hW.other W1.heap.size (by show W1.heap.size < W2.heap.size; omega) (by omega) hn1).trans y2)⟩
  have HB1 : Hid (Below M w W2.drew) := ((HB0.out.mono (by omega)).trans k1.below).trans (b2d.mono (by omega))
  have HK1 : Hid (Km M pv w W2.drew) := ((Km.of_below HB0.out (by omega)).trans k1 (.inl rfl)).trans (Km.of_below b2d (by omega)) (.inl rfl)
  have HI1 : Hid (Base.In false (fun b => b < K) W2.drew (m + 1) (vl y.k y.b y.i y.s (.slice an ln cn) (.slice al ll cl)) y) := hin1.below b2d
  have HE1 : Hid (pv1.ownBlock = pv.ownBlock) := e1
  have hs2d : W2.drew.heap.size = W1.heap.size + 1 := s2
  clear c2 hin1 m1 k1 x1 b2 x2 y2 b2d m2 e1 hn0 hn1
  go_wp2_with fail
  try rw [hW2]
  go_region_held3 (fun w' => w'.cell? ⟨w.heap.size, 0, none⟩ = some (.int .i64 o) ∧ (w'.cell? ⟨W1.heap.size, 0, none⟩ = some (.int .i64 y.k) ∧ w'.cell? ⟨W1.heap.size, 1, none⟩ = some (.bool y.b) ∧ w'.cell? ⟨W1.heap.size, 2, none⟩ = some (.int .i64 y.i) ∧ w'.cell? ⟨W1.heap.size, 3, none⟩ = some (.string y.s) ∧ w'.cell? ⟨W1.heap.size, 4, none⟩ = some (.slice an ln cn) ∧ w'.cell? ⟨W1.heap.size, 5, none⟩ = some (.slice al ll cl))) (go_keep) (first
    | (go_at_call 100; refine cT.mono ?_; rintro e W3 ⟨u3, pv3, rfl, hin3, m3, k3, e3⟩; obtain ⟨ax, lx, cx, bx, mx, dx, rfl⟩ := in_shape hin3; have hb3 : Below K W2.drew W3 := k3.below.mono hlow; have cP := HP.out K m W3 _ _ x y (by have := k3.below.size; omega) (HT.out.tb ((HB1.out.mono hlow).trans hb3) (by have := k3.below.size; omega)) hin3 (in_low HI1.out hb3) HWF.out; obtain ⟨n1, n2, n3, n4, n5, n6, n7⟩ := HS.out W3 k3)
    | (go_at_call 109; refine cP.mono ?_; rintro e W4 ⟨b4, hA⟩; rw [HXX.out] at hA; obtain ⟨u4, rfl, hin4⟩ := hA; obtain ⟨ay, ly, cy, bY, my, dy, rfl⟩ := in_shape hin4; have k4 := k3.trans (Km.of_below (pv := pv3) b4 (by have := k3.below.size; omega)) (.inl e3); have cQ := put_c (m3.below b4) hq hin4; obtain ⟨n1, n2, n3, n4, n5, n6, n7⟩ := HS.out W4 k4)
    | (go_at_call 130; refine cQ.mono ?_; rintro e W5 ⟨⟨v5, rfl⟩, pv5, m5, k5, e5⟩; have k6 := k4.trans k5 (.inl e3); obtain ⟨n1, n2, n3, n4, n5, n6, n7⟩ := HS.out W5 k6))
  have HE : Hid (∃ pv', Mc K (m + 1) W5 M tv sv pv' (q ++ [v]) ∧ Km M pv w W5 ∧ (pv'.ownBlock = pv.ownBlock ∨ ∃ g, pv'.ownBlock = some g ∧ w.heap.size ≤ g)) := by
    refine ⟨pv5, m5, HK1.out.trans k6 (.inl HE1.out), ?_⟩
    rcases e5 with e | ⟨g, e, hg⟩
    · exact .inl (by rw [e, e3, HE1.out])
    · exact .inr ⟨g, e, by have := k3.below.size; have := b4.size; have := HB1.out.size; omega⟩
  clear cT cP cQ m3 k3 m5 k5 k6 e3 e5 b4 k4 hin3 hin4
  go_wp2_with fail
  go_end0
  exact ⟨⟨_, rfl⟩, HE.out⟩
end Go.Proofs.YtpaigpijaifeoaaGreatDoor.MDp
