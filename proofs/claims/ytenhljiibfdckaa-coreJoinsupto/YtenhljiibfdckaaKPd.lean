/- Are the expressions of a for such as ask places of the stack alone (package core)? -/
import Derived.Test.YtenhljiibfdckaaKPc
import Derived.Deep.RegionHeld3
namespace Go.Proofs.Ytenhljiibfdckaa.KPd
open Go.RowKit Go.Proofs.Ytenhljiibfdckaa.Base Go.Proofs.Ytenhljiibfdckaa.EPure Go.Proofs.Ytenhljiibfdckaa.KBase Go.Proofs.Ytenhljiibfdckaa.KEx Go.Proofs.Ytenhljiibfdckaa.KAr
open Go.Proofs.Ytenhljiibfdckaa.XBase (four_box frozen_box)
set_option linter.unusedVariables false

set_option maxRecDepth 20000 in
set_option maxHeartbeats 3200000 in
theorem placed_for {m : Nat} {v : Value} {c : Co} {w : World} (hin : In false (fun _ => True) w m v c) {so eo lo si ei li : Int} (hk : c.k = 4) {x y : Ex} (hx : c.x = [x, y]) :
    Calls Try.prog 36 #[v, av so eo lo, av si ei li] w fun e w' => e = .returned (.bool (KHs.hs so [x] && KHs.hs si [y])) ∧ Below w.heap.size w w' := by
  obtain ⟨m', fv, pv, xv, lv, uv, rfl, rfl, -, -, hF, hP, ⟨mx, hX⟩, hl, hu⟩ := hin.shape
  obtain ⟨a1, c1, rfl, -, -, -, -, -⟩ := hF
  obtain ⟨a2, c2, rfl, -, -, -, -, -⟩ := hP
  rw [hx] at hX
  obtain ⟨a3, c3, rfl, hc3, hm3, hl3, -, hLX⟩ := hX
  obtain ⟨g, o, u0, ha, -, hu0, hi0⟩ := XBase.elem_at hLX (q := 0) (by simp)
  obtain ⟨g', o', u1, ha', -, hu1, hi1⟩ := XBase.elem_at hLX (q := 1) (by simp)
  subst ha
  obtain ⟨rfl, rfl⟩ : g = g' ∧ o = o' := by cases ha'; exact ⟨rfl, rfl⟩
  obtain ⟨e0, e1, e2, e3, rfl, k0, k1, k2, k3⟩ := hu0
  obtain ⟨f0, f1, f2, f3, rfl, k4, k5, k6, k7⟩ := hu1
  obtain ⟨-, b1, d1, -, rfl, rfl, rfl, rfl, -, -, -, -⟩ := hi0.kinds
  obtain ⟨-, b2, d2, -, rfl, rfl, rfl, rfl, -, -, -, -⟩ := hi1.kinds
  simp only [List.getElem_cons_zero, List.getElem_cons_succ, Nat.zero_mul, Nat.one_mul, Nat.add_zero, Nat.add_assoc, Nat.reduceAdd] at k0 k1 k2 k3 k4 k5 k6 k7 hi0 hi1
  have hlen : ([x, y] : List Ex).length = 2 := rfl
  rw [hlen] at hc3
  have hk4 : (c.k == 4) = true := by simpa using hk
  clear hin hl hu hk ha' hLX hl3 hlen hm3
  obtain ⟨W0, hW0⟩ : ∃ W0, (((w.alloc (.cells #[.int .i64 c.k, .string c.t, .slice a1 c.f.length c1, .slice a2 c.p.length c2, .slice (some ⟨g, o, none⟩) 2 c3, lv, uv] 41)).alloc (.cells #[.int .i64 so, .int .i64 eo, .int .i64 lo] 52)).alloc (.cells #[.int .i64 si, .int .i64 ei, .int .i64 li] 52)).alloc (.cells #[.bool false] 4) = W0 := ⟨_, rfl⟩
  have hsz : W0.heap.size = w.heap.size + 4 := by rw [← hW0]; simp
  have hsD : W0.drew.heap.size = w.heap.size + 4 := by simp [hsz]
  have HBa : Hid (Below w.heap.size w W0) := by
    rw [← hW0]
    exact ((((Below.refl _ w).alloc (Nat.le_refl _) _).alloc (by simp) _).alloc (by simp; omega) _).alloc (by simp; omega) _
  have HCa : Hid (W0.heap[w.heap.size]? = some (.cells #[.int .i64 c.k, .string c.t, .slice a1 c.f.length c1, .slice a2 c.p.length c2, .slice (some ⟨g, o, none⟩) 2 c3, lv, uv] 41 (0, 0))) := by
    rw [← hW0]
    iterate 3 rw [Below.heap_alloc _ _ _ (by simp; try omega)]
    exact KLe.heap_alloc_at _ _ _ (by simp)
  have HAa : Hid (W0.heap[w.heap.size + 1]? = some (.cells #[.int .i64 so, .int .i64 eo, .int .i64 lo] 52 (0, 0))) := by
    rw [← hW0]
    iterate 2 rw [Below.heap_alloc _ _ _ (by simp; try omega)]
    exact KLe.heap_alloc_at _ _ _ (by simp)
  have HIa : Hid (W0.heap[w.heap.size + 1 + 1]? = some (.cells #[.int .i64 si, .int .i64 ei, .int .i64 li] 52 (0, 0))) := by
    rw [← hW0]
    iterate 1 rw [Below.heap_alloc _ _ _ (by simp; try omega)]
    exact KLe.heap_alloc_at _ _ _ (by simp)
  have HRa : Hid (W0.heap[w.heap.size + 1 + 1 + 1]? = some (.cells #[.bool false] 4 (0, 0))) := by
    rw [← hW0]
    exact KLe.heap_alloc_at _ _ _ (by simp)
  have HS : Hid (∀ w', Below w.heap.size w w' → w'.heap[w.heap.size]? = some (.cells #[.int .i64 c.k, .string c.t, .slice a1 c.f.length c1, .slice a2 c.p.length c2, .slice (some ⟨g, o, none⟩) 2 c3, lv, uv] 41 (0, 0)) → w'.heap[w.heap.size + 1]? = some (.cells #[.int .i64 so, .int .i64 eo, .int .i64 lo] 52 (0, 0)) → w'.heap[w.heap.size + 1 + 1]? = some (.cells #[.int .i64 si, .int .i64 ei, .int .i64 li] 52 (0, 0)) → w'.cell? ⟨w.heap.size, 4, none⟩ = some (.slice (some ⟨g, o, none⟩) 2 c3) ∧ w'.cell? ⟨w.heap.size + 1, 0, none⟩ = some (.int .i64 so) ∧ w'.cell? ⟨w.heap.size + 1, 1, none⟩ = some (.int .i64 eo) ∧ w'.cell? ⟨w.heap.size + 1, 2, none⟩ = some (.int .i64 lo) ∧ w'.cell? ⟨w.heap.size + 1 + 1, 0, none⟩ = some (.int .i64 si) ∧ w'.cell? ⟨w.heap.size + 1 + 1, 1, none⟩ = some (.int .i64 ei) ∧ w'.cell? ⟨w.heap.size + 1 + 1, 2, none⟩ = some (.int .i64 li) ∧ w'.cell? ⟨g, o, none⟩ = some (.int .i64 x.o) ∧ w'.cell? ⟨g, o + 1, none⟩ = some (.int .i64 x.i) ∧ w'.cell? ⟨g, o + 2, none⟩ = some (.string x.s) ∧ w'.cell? ⟨g, o + 3, none⟩ = some (.slice b1 x.l.length d1) ∧ w'.cell? ⟨g, o + 4, none⟩ = some (.int .i64 y.o) ∧ w'.cell? ⟨g, o + 5, none⟩ = some (.int .i64 y.i) ∧ w'.cell? ⟨g, o + 6, none⟩ = some (.string y.s) ∧ w'.cell? ⟨g, o + 7, none⟩ = some (.slice b2 y.l.length d2)) := by
    intro w' hB hC hA hI
    obtain ⟨p0, p1, p2⟩ := three_box hA
    obtain ⟨q0, q1, q2⟩ := three_box hI
    exact ⟨(seven_box hC).2.2.2.2.1, p0, p1, p2, q0, q1, q2, below_cell k0 hB, below_cell k1 hB, below_cell k2 hB, below_cell k3 hB, below_cell k4 hB, below_cell k5 hB, below_cell k6 hB, below_cell k7 hB⟩
  have HSa : Hid _ := HS.out W0 HBa.out HCa.out HAa.out HIa.out
  obtain ⟨a0_, a1_, a2_, a3_, a4_, a5_, a6_, a7_, a8_, a9_, a10_, a11_, a12_, a13_, a14_⟩ := HSa.out
  have kc := (seven_box HCa.out).1
  have cA := fun W (hB : Below w.heap.size w W) => KHs.has_all _ W _ x so eo lo (hi0.below hB)
  have cI := fun W (hB : Below w.heap.size w W) => KHs.has_all _ W _ y si ei li (hi1.below hB)
  have i0 : (0 : Int) < ((2 : Nat) : Int) := by omega
  have i1 : (1 : Int) < ((2 : Nat) : Int) := by omega
  clear k0 k1 k2 k3 k4 k5 k6 k7
  obtain ⟨T, hT⟩ : ∃ T, (KHs.hs so [x] && KHs.hs si [y]) = T := ⟨_, rfl⟩
  rw [hT]
  obtain ⟨Y, hY⟩ : ∃ Y, KHs.hs so [x] = Y := ⟨_, rfl⟩
  obtain ⟨Z, hZ⟩ : ∃ Z, KHs.hs si [y] = Z := ⟨_, rfl⟩
  rw [hY] at cA hT
  rw [hZ] at cI hT
  clear hY hZ hi0 hi1
  cases Y with
  | true =>
    have HT : Hid (T = Z) := by rw [Bool.true_and] at hT; exact hT.symm
    clear hT
    go_enter Try.func36, Try.ntmps36
    go_wp2_with fail
    try rw [hW0]
    refine wp_region_held_drew (S := (fun w' => w'.cell? ⟨w.heap.size, 4, none⟩ = some (.slice (some ⟨g, o, none⟩) 2 c3) ∧ w'.cell? ⟨w.heap.size + 1, 0, none⟩ = some (.int .i64 so) ∧ w'.cell? ⟨w.heap.size + 1, 1, none⟩ = some (.int .i64 eo) ∧ w'.cell? ⟨w.heap.size + 1, 2, none⟩ = some (.int .i64 lo) ∧ w'.cell? ⟨w.heap.size + 1 + 1, 0, none⟩ = some (.int .i64 si) ∧ w'.cell? ⟨w.heap.size + 1 + 1, 1, none⟩ = some (.int .i64 ei) ∧ w'.cell? ⟨w.heap.size + 1 + 1, 2, none⟩ = some (.int .i64 li) ∧ w'.cell? ⟨g, o, none⟩ = some (.int .i64 x.o) ∧ w'.cell? ⟨g, o + 1, none⟩ = some (.int .i64 x.i) ∧ w'.cell? ⟨g, o + 2, none⟩ = some (.string x.s) ∧ w'.cell? ⟨g, o + 3, none⟩ = some (.slice b1 x.l.length d1) ∧ w'.cell? ⟨g, o + 4, none⟩ = some (.int .i64 y.o) ∧ w'.cell? ⟨g, o + 5, none⟩ = some (.int .i64 y.i) ∧ w'.cell? ⟨g, o + 6, none⟩ = some (.string y.s) ∧ w'.cell? ⟨g, o + 7, none⟩ = some (.slice b2 y.l.length d2))) (by kernel_rfl) (by exact HSa.out) (fun hHeld => ?_)
    refine wpAnyH_take (i := 0) (v := ?_) rfl (by kernel_rfl) (by kernel_rfl) (by kernel_rfl) (fun _ _ _ h => h) (Or.inl ⟨by rfl, ?_⟩) (by assumption) ?_
    rotate_left 1
    · intro w hSw; (try dsimp only at hSw); go_simp; first | done | with_reducible rfl | (rw [if_neg (by omega)])
    try simp only [Act.put, List.getElem_toArray, List.getElem_cons_zero, List.setIfInBounds_toArray, List.set_cons_zero, List.set_cons_succ]
    refine wpAnyH_take (i := 1) (v := ?_) rfl (by kernel_rfl) (by kernel_rfl) (by kernel_rfl) (fun _ _ _ h => h) (Or.inl ⟨by rfl, ?_⟩) (by assumption) ?_
    rotate_left 1
    · intro w hSw; (try dsimp only at hSw); go_simp; first | done | with_reducible rfl | (rw [if_neg (by omega)])
    try simp only [Act.put, List.getElem_toArray, List.getElem_cons_zero, List.getElem_cons_succ, List.setIfInBounds_toArray, List.set_cons_zero, List.set_cons_succ]
    refine wpAnyH_take (i := 2) (v := ?_) rfl (by kernel_rfl) (by kernel_rfl) (by kernel_rfl) (fun _ _ _ h => h) (Or.inl ⟨by rfl, ?_⟩) (by assumption) ?_
    rotate_left 1
    · intro w hSw; (try dsimp only at hSw); go_simp; first | done | with_reducible rfl | (rw [if_neg (by omega)])
    try simp only [Act.put, List.getElem_toArray, List.getElem_cons_zero, List.getElem_cons_succ, List.setIfInBounds_toArray, List.set_cons_zero, List.set_cons_succ]
    refine wpAnyH_take (i := 3) (v := ?_) rfl (by kernel_rfl) (by kernel_rfl) (by kernel_rfl) (fun _ _ _ h => h) (Or.inl ⟨by rfl, ?_⟩) (by assumption) ?_
    rotate_left 1
    · intro w hSw; (try dsimp only at hSw); go_simp; first | done | with_reducible rfl | (rw [if_neg (by omega)])
    try simp only [Act.put, List.getElem_toArray, List.getElem_cons_zero, List.getElem_cons_succ, List.setIfInBounds_toArray, List.set_cons_zero, List.set_cons_succ]
    refine wpAnyH_take (i := 4) (v := ?_) rfl (by kernel_rfl) (by kernel_rfl) (by kernel_rfl) (fun _ _ _ h => h) (Or.inl ⟨by rfl, ?_⟩) (by assumption) ?_
    rotate_left 1
    · intro w hSw; (try dsimp only at hSw); go_simp; first | done | with_reducible rfl | (rw [if_neg (by omega)])
    try simp only [Act.put, List.getElem_toArray, List.getElem_cons_zero, List.getElem_cons_succ, List.setIfInBounds_toArray, List.set_cons_zero, List.set_cons_succ]
    refine wpAnyH_ready (rs := [5]) (by kernel_rfl) (by simp) ?_
    refine AllReadyH.cons rfl (fun K hK => ?_) AllReadyH.nil
    go_simp
    refine (cA _ (show Below w.heap.size w W0.drew from HBa.out.trans (Below.refl _ W0).drew)).mono ?_
    rintro e W5 ⟨rfl, b5⟩
    have hs5 := b5.size
    rw [hsD] at hs5
    have HBb : Hid (Below w.heap.size w W5) := (HBa.out.trans (Below.refl _ W0).drew).trans (b5.mono HBa.out.size)
    have b5' : Below W0.heap.size W0 W5 := ((Below.refl _ W0).drew).trans b5
    have HCb : Hid _ := (b5'.block w.heap.size (by omega)).trans HCa.out
    have HAb : Hid _ := (b5'.block (w.heap.size + 1) (by omega)).trans HAa.out
    have HIb : Hid _ := (b5'.block (w.heap.size + 1 + 1) (by omega)).trans HIa.out
    have HRb : Hid _ := (b5'.block (w.heap.size + 1 + 1 + 1) (by omega)).trans HRa.out
    have HSb : Hid _ := HS.out W5 HBb.out HCb.out HAb.out HIb.out
    obtain ⟨b0, b1, b2, b3, b4, b5, b6, b7, b8, b9, b10, b11, b12, b13, b14⟩ := HSb.out
    clear b5 b5'
    go_wp2_with fail
    refine hK.out _ _ (by exact HSb.out) (fun hHeld => ?_)
    clear hK K
    try simp only [Act.put, List.getElem_toArray, List.getElem_cons_zero, List.getElem_cons_succ, List.setIfInBounds_toArray, List.set_cons_zero, List.set_cons_succ]
    refine wpAnyH_take (i := 6) (v := ?_) rfl (by kernel_rfl) (by kernel_rfl) (by kernel_rfl) (fun _ _ _ h => h) (Or.inl ⟨by rfl, ?_⟩) (by assumption) ?_
    rotate_left 1
    · intro w hSw; (try dsimp only at hSw); go_simp; first | done | with_reducible rfl | (rw [if_neg (by omega)])
    try simp only [Act.put, List.getElem_toArray, List.getElem_cons_zero, List.getElem_cons_succ, List.setIfInBounds_toArray, List.set_cons_zero, List.set_cons_succ]
    refine wpAnyH_take (i := 7) (v := ?_) rfl (by kernel_rfl) (by kernel_rfl) (by kernel_rfl) (fun _ _ _ h => h) (Or.inl ⟨by rfl, ?_⟩) (by assumption) ?_
    rotate_left 1
    · intro w hSw; (try dsimp only at hSw); go_simp; first | done | with_reducible rfl | (rw [if_neg (by omega)])
    try simp only [Act.put, List.getElem_toArray, List.getElem_cons_zero, List.getElem_cons_succ, List.setIfInBounds_toArray, List.set_cons_zero, List.set_cons_succ]
    refine wpAnyH_take (i := 8) (v := ?_) rfl (by kernel_rfl) (by kernel_rfl) (by kernel_rfl) (fun _ _ _ h => h) (Or.inl ⟨by rfl, ?_⟩) (by assumption) ?_
    rotate_left 1
    · intro w hSw; (try dsimp only at hSw); go_simp; first | done | with_reducible rfl | (rw [if_neg (by omega)])
    try simp only [Act.put, List.getElem_toArray, List.getElem_cons_zero, List.getElem_cons_succ, List.setIfInBounds_toArray, List.set_cons_zero, List.set_cons_succ]
    refine wpAnyH_take (i := 9) (v := ?_) rfl (by kernel_rfl) (by kernel_rfl) (by kernel_rfl) (fun _ _ _ h => h) (Or.inl ⟨by rfl, ?_⟩) (by assumption) ?_
    rotate_left 1
    · intro w hSw; (try dsimp only at hSw); go_simp; first | done | with_reducible rfl | (rw [if_neg (by omega)])
    try simp only [Act.put, List.getElem_toArray, List.getElem_cons_zero, List.getElem_cons_succ, List.setIfInBounds_toArray, List.set_cons_zero, List.set_cons_succ]
    refine wpAnyH_take (i := 10) (v := ?_) rfl (by kernel_rfl) (by kernel_rfl) (by kernel_rfl) (fun _ _ _ h => h) (Or.inl ⟨by rfl, ?_⟩) (by assumption) ?_
    rotate_left 1
    · intro w hSw; (try dsimp only at hSw); go_simp; first | done | with_reducible rfl | (rw [if_neg (by omega)])
    try simp only [Act.put, List.getElem_toArray, List.getElem_cons_zero, List.getElem_cons_succ, List.setIfInBounds_toArray, List.set_cons_zero, List.set_cons_succ]
    refine wpAnyH_take (i := 11) (v := ?_) rfl (by kernel_rfl) (by kernel_rfl) (by kernel_rfl) (fun _ _ _ h => h) (Or.inl ⟨by rfl, ?_⟩) (by assumption) ?_
    rotate_left 1
    · intro w hSw; (try dsimp only at hSw); go_simp; first | done | with_reducible rfl | (rw [if_neg (by omega)])
    try simp only [Act.put, List.getElem_toArray, List.getElem_cons_zero, List.getElem_cons_succ, List.setIfInBounds_toArray, List.set_cons_zero, List.set_cons_succ]
    refine wpAnyH_ready (rs := [12]) (by kernel_rfl) (by simp) ?_
    refine AllReadyH.cons rfl (fun K hK => ?_) AllReadyH.nil
    go_simp
    refine (cI _ HBb.out).mono ?_
    rintro e W6 ⟨rfl, b6⟩
    have hs6 := b6.size
    have HBc : Hid (Below w.heap.size w W6) := nx HBb.out b6
    have HCc : Hid _ := (b6.block w.heap.size (by omega)).trans HCb.out
    have HAc : Hid _ := (b6.block (w.heap.size + 1) (by omega)).trans HAb.out
    have HIc : Hid _ := (b6.block (w.heap.size + 1 + 1) (by omega)).trans HIb.out
    have HRc : Hid _ := (b6.block (w.heap.size + 1 + 1 + 1) (by omega)).trans HRb.out
    have HSc : Hid _ := HS.out W6 HBc.out HCc.out HAc.out HIc.out
    obtain ⟨c0, c1, c2, c3, c4, c5, c6, c7, c8, c9, c10, c11, c12, c13, c14⟩ := HSc.out
    clear b6
    go_wp2_with fail
    refine hK.out _ _ (by exact HSc.out) (fun hHeld => ?_)
    clear hK K
    try simp only [Act.put, List.getElem_toArray, List.getElem_cons_zero, List.getElem_cons_succ, List.setIfInBounds_toArray, List.set_cons_zero, List.set_cons_succ]
    refine wpAnyH_take (i := 13) (v := ?_) rfl (by kernel_rfl) (by kernel_rfl) (by kernel_rfl) (fun _ _ _ h => h) (Or.inl ⟨by rfl, ?_⟩) (by assumption) ?_
    rotate_left 1
    · intro w hSw; (try dsimp only at hSw); go_simp; first | done | with_reducible rfl | (rw [if_neg (by omega)])
    try simp only [Act.put, List.getElem_toArray, List.getElem_cons_zero, List.getElem_cons_succ, List.setIfInBounds_toArray, List.set_cons_zero, List.set_cons_succ]
    have rc : W6.cell? ⟨w.heap.size + 1 + 1 + 1, 0, none⟩ = some (.bool false) := by simp [World.cell?, HRc.out]
    have rf := frozen_box HRc.out 0
    obtain ⟨W8, hW8⟩ : ∃ W8, W6.setCell ⟨w.heap.size + 1 + 1 + 1, 0, none⟩ (.bool Z) = W8 := ⟨_, rfl⟩
    have HR8 : Hid (W8.heap[w.heap.size + 1 + 1 + 1]? = some (.cells #[.bool Z] 4 (0, 0))) := by rw [← hW8]; exact heap_setCell_same _ _ _ _ _ _ HRc.out
    have HBd : Hid (Below w.heap.size w W8) := by rw [← hW8]; exact HBc.out.setCell (p := ⟨w.heap.size + 1 + 1 + 1, 0, none⟩) (show w.heap.size ≤ w.heap.size + 1 + 1 + 1 by omega) _
    have HCd : Hid _ := (show W8.heap[w.heap.size]? = W6.heap[w.heap.size]? by rw [← hW8, Below.heap_setCell _ _ _ _ (show w.heap.size ≠ w.heap.size + 1 + 1 + 1 by omega)]).trans HCc.out
    have HAd : Hid _ := (show W8.heap[w.heap.size + 1]? = W6.heap[w.heap.size + 1]? by rw [← hW8, Below.heap_setCell _ _ _ _ (show w.heap.size + 1 ≠ w.heap.size + 1 + 1 + 1 by omega)]).trans HAc.out
    have HId : Hid _ := (show W8.heap[w.heap.size + 1 + 1]? = W6.heap[w.heap.size + 1 + 1]? by rw [← hW8, Below.heap_setCell _ _ _ _ (show w.heap.size + 1 + 1 ≠ w.heap.size + 1 + 1 + 1 by omega)]).trans HIc.out
    have HSd : Hid _ := HS.out W8 HBd.out HCd.out HAd.out HId.out
    obtain ⟨d0, d1, d2, d3, d4, d5, d6, d7, d8, d9, d10, d11, d12, d13, d14⟩ := HSd.out
    refine wpAnyH_ready (rs := [14]) (by kernel_rfl) (by simp) ?_
    refine AllReadyH.cons rfl (fun K hK => ?_) AllReadyH.nil
    go_simp
    go_wp2_with fail
    try rw [hW8]
    refine hK.out _ _ (by exact HSd.out) (fun hHeld => ?_)
    clear hK K
    try simp only [Act.put, List.getElem_toArray, List.getElem_cons_zero, List.getElem_cons_succ, List.setIfInBounds_toArray, List.set_cons_zero, List.set_cons_succ]
    refine wpAnyH_done (by kernel_rfl) ?_ _
    skip
    go_wp2_with fail
    have r8 : W8.cell? ⟨w.heap.size + 1 + 1 + 1, 0, none⟩ = some (.bool Z) := by simp [World.cell?, HR8.out]
    refine bodyPost_ret (v := .bool Z) (by simp [results, Try.results36, go_sem, r8]) rfl ?_
    exact ⟨by rw [HT.out], HBd.out⟩
  | false =>
    have HT : Hid (T = false) := by rw [Bool.false_and] at hT; exact hT.symm
    clear hT
    go_enter Try.func36, Try.ntmps36
    go_wp2_with fail
    try rw [hW0]
    refine wp_region_held_drew (S := (fun w' => w'.cell? ⟨w.heap.size, 4, none⟩ = some (.slice (some ⟨g, o, none⟩) 2 c3) ∧ w'.cell? ⟨w.heap.size + 1, 0, none⟩ = some (.int .i64 so) ∧ w'.cell? ⟨w.heap.size + 1, 1, none⟩ = some (.int .i64 eo) ∧ w'.cell? ⟨w.heap.size + 1, 2, none⟩ = some (.int .i64 lo) ∧ w'.cell? ⟨w.heap.size + 1 + 1, 0, none⟩ = some (.int .i64 si) ∧ w'.cell? ⟨w.heap.size + 1 + 1, 1, none⟩ = some (.int .i64 ei) ∧ w'.cell? ⟨w.heap.size + 1 + 1, 2, none⟩ = some (.int .i64 li) ∧ w'.cell? ⟨g, o, none⟩ = some (.int .i64 x.o) ∧ w'.cell? ⟨g, o + 1, none⟩ = some (.int .i64 x.i) ∧ w'.cell? ⟨g, o + 2, none⟩ = some (.string x.s) ∧ w'.cell? ⟨g, o + 3, none⟩ = some (.slice b1 x.l.length d1) ∧ w'.cell? ⟨g, o + 4, none⟩ = some (.int .i64 y.o) ∧ w'.cell? ⟨g, o + 5, none⟩ = some (.int .i64 y.i) ∧ w'.cell? ⟨g, o + 6, none⟩ = some (.string y.s) ∧ w'.cell? ⟨g, o + 7, none⟩ = some (.slice b2 y.l.length d2))) (by kernel_rfl) (by exact HSa.out) (fun hHeld => ?_)
    refine wpAnyH_take (i := 0) (v := ?_) rfl (by kernel_rfl) (by kernel_rfl) (by kernel_rfl) (fun _ _ _ h => h) (Or.inl ⟨by rfl, ?_⟩) (by assumption) ?_
    rotate_left 1
    · intro w hSw; (try dsimp only at hSw); go_simp; first | done | with_reducible rfl | (rw [if_neg (by omega)])
    try simp only [Act.put, List.getElem_toArray, List.getElem_cons_zero, List.setIfInBounds_toArray, List.set_cons_zero, List.set_cons_succ]
    refine wpAnyH_take (i := 1) (v := ?_) rfl (by kernel_rfl) (by kernel_rfl) (by kernel_rfl) (fun _ _ _ h => h) (Or.inl ⟨by rfl, ?_⟩) (by assumption) ?_
    rotate_left 1
    · intro w hSw; (try dsimp only at hSw); go_simp; first | done | with_reducible rfl | (rw [if_neg (by omega)])
    try simp only [Act.put, List.getElem_toArray, List.getElem_cons_zero, List.getElem_cons_succ, List.setIfInBounds_toArray, List.set_cons_zero, List.set_cons_succ]
    refine wpAnyH_take (i := 2) (v := ?_) rfl (by kernel_rfl) (by kernel_rfl) (by kernel_rfl) (fun _ _ _ h => h) (Or.inl ⟨by rfl, ?_⟩) (by assumption) ?_
    rotate_left 1
    · intro w hSw; (try dsimp only at hSw); go_simp; first | done | with_reducible rfl | (rw [if_neg (by omega)])
    try simp only [Act.put, List.getElem_toArray, List.getElem_cons_zero, List.getElem_cons_succ, List.setIfInBounds_toArray, List.set_cons_zero, List.set_cons_succ]
    refine wpAnyH_take (i := 3) (v := ?_) rfl (by kernel_rfl) (by kernel_rfl) (by kernel_rfl) (fun _ _ _ h => h) (Or.inl ⟨by rfl, ?_⟩) (by assumption) ?_
    rotate_left 1
    · intro w hSw; (try dsimp only at hSw); go_simp; first | done | with_reducible rfl | (rw [if_neg (by omega)])
    try simp only [Act.put, List.getElem_toArray, List.getElem_cons_zero, List.getElem_cons_succ, List.setIfInBounds_toArray, List.set_cons_zero, List.set_cons_succ]
    refine wpAnyH_take (i := 4) (v := ?_) rfl (by kernel_rfl) (by kernel_rfl) (by kernel_rfl) (fun _ _ _ h => h) (Or.inl ⟨by rfl, ?_⟩) (by assumption) ?_
    rotate_left 1
    · intro w hSw; (try dsimp only at hSw); go_simp; first | done | with_reducible rfl | (rw [if_neg (by omega)])
    try simp only [Act.put, List.getElem_toArray, List.getElem_cons_zero, List.getElem_cons_succ, List.setIfInBounds_toArray, List.set_cons_zero, List.set_cons_succ]
    refine wpAnyH_ready (rs := [5]) (by kernel_rfl) (by simp) ?_
    refine AllReadyH.cons rfl (fun K hK => ?_) AllReadyH.nil
    go_simp
    refine (cA _ (show Below w.heap.size w W0.drew from HBa.out.trans (Below.refl _ W0).drew)).mono ?_
    rintro e W5 ⟨rfl, b5⟩
    have hs5 := b5.size
    rw [hsD] at hs5
    have HBb : Hid (Below w.heap.size w W5) := (HBa.out.trans (Below.refl _ W0).drew).trans (b5.mono HBa.out.size)
    have b5' : Below W0.heap.size W0 W5 := ((Below.refl _ W0).drew).trans b5
    have HCb : Hid _ := (b5'.block w.heap.size (by omega)).trans HCa.out
    have HAb : Hid _ := (b5'.block (w.heap.size + 1) (by omega)).trans HAa.out
    have HIb : Hid _ := (b5'.block (w.heap.size + 1 + 1) (by omega)).trans HIa.out
    have HRb : Hid _ := (b5'.block (w.heap.size + 1 + 1 + 1) (by omega)).trans HRa.out
    have HSb : Hid _ := HS.out W5 HBb.out HCb.out HAb.out HIb.out
    obtain ⟨b0, b1, b2, b3, b4, b5, b6, b7, b8, b9, b10, b11, b12, b13, b14⟩ := HSb.out
    clear b5 b5'
    go_wp2_with fail
    refine hK.out _ _ (by exact HSb.out) (fun hHeld => ?_)
    clear hK K
    try simp only [Act.put, List.getElem_toArray, List.getElem_cons_zero, List.getElem_cons_succ, List.setIfInBounds_toArray, List.set_cons_zero, List.set_cons_succ]
    refine wpAnyH_take (i := 6) (v := ?_) rfl (by kernel_rfl) (by kernel_rfl) (by kernel_rfl) (fun _ _ _ h => h) (Or.inl ⟨by rfl, ?_⟩) (by assumption) ?_
    rotate_left 1
    · intro w hSw; (try dsimp only at hSw); go_simp; first | done | with_reducible rfl | (rw [if_neg (by omega)])
    try simp only [Act.put, List.getElem_toArray, List.getElem_cons_zero, List.getElem_cons_succ, List.setIfInBounds_toArray, List.set_cons_zero, List.set_cons_succ]
    refine wpAnyH_take (i := 7) rfl (by kernel_rfl) (by kernel_rfl) (by kernel_rfl) (fun _ _ _ h => h) (Or.inr ⟨by rfl, rfl⟩) (by assumption) ?_
    try simp only [Act.put, List.getElem_toArray, List.getElem_cons_zero, List.getElem_cons_succ, List.setIfInBounds_toArray, List.set_cons_zero, List.set_cons_succ]
    refine wpAnyH_take (i := 8) rfl (by kernel_rfl) (by kernel_rfl) (by kernel_rfl) (fun _ _ _ h => h) (Or.inr ⟨by rfl, rfl⟩) (by assumption) ?_
    try simp only [Act.put, List.getElem_toArray, List.getElem_cons_zero, List.getElem_cons_succ, List.setIfInBounds_toArray, List.set_cons_zero, List.set_cons_succ]
    refine wpAnyH_take (i := 9) rfl (by kernel_rfl) (by kernel_rfl) (by kernel_rfl) (fun _ _ _ h => h) (Or.inr ⟨by rfl, rfl⟩) (by assumption) ?_
    try simp only [Act.put, List.getElem_toArray, List.getElem_cons_zero, List.getElem_cons_succ, List.setIfInBounds_toArray, List.set_cons_zero, List.set_cons_succ]
    refine wpAnyH_take (i := 10) rfl (by kernel_rfl) (by kernel_rfl) (by kernel_rfl) (fun _ _ _ h => h) (Or.inr ⟨by rfl, rfl⟩) (by assumption) ?_
    try simp only [Act.put, List.getElem_toArray, List.getElem_cons_zero, List.getElem_cons_succ, List.setIfInBounds_toArray, List.set_cons_zero, List.set_cons_succ]
    refine wpAnyH_take (i := 11) rfl (by kernel_rfl) (by kernel_rfl) (by kernel_rfl) (fun _ _ _ h => h) (Or.inr ⟨by rfl, rfl⟩) (by assumption) ?_
    try simp only [Act.put, List.getElem_toArray, List.getElem_cons_zero, List.getElem_cons_succ, List.setIfInBounds_toArray, List.set_cons_zero, List.set_cons_succ]
    refine wpAnyH_take (i := 12) rfl (by kernel_rfl) (by kernel_rfl) (by kernel_rfl) (fun _ _ _ h => h) (Or.inr ⟨by rfl, rfl⟩) (by assumption) ?_
    try simp only [Act.put, List.getElem_toArray, List.getElem_cons_zero, List.getElem_cons_succ, List.setIfInBounds_toArray, List.set_cons_zero, List.set_cons_succ]
    refine wpAnyH_take (i := 13) (v := ?_) rfl (by kernel_rfl) (by kernel_rfl) (by kernel_rfl) (fun _ _ _ h => h) (Or.inl ⟨by rfl, ?_⟩) (by assumption) ?_
    rotate_left 1
    · intro w hSw; (try dsimp only at hSw); go_simp; first | done | with_reducible rfl | (rw [if_neg (by omega)])
    try simp only [Act.put, List.getElem_toArray, List.getElem_cons_zero, List.getElem_cons_succ, List.setIfInBounds_toArray, List.set_cons_zero, List.set_cons_succ]
    have rc : W5.cell? ⟨w.heap.size + 1 + 1 + 1, 0, none⟩ = some (.bool false) := by simp [World.cell?, HRb.out]
    have rf := frozen_box HRb.out 0
    obtain ⟨W8, hW8⟩ : ∃ W8, W5.setCell ⟨w.heap.size + 1 + 1 + 1, 0, none⟩ (.bool false) = W8 := ⟨_, rfl⟩
    have HR8 : Hid (W8.heap[w.heap.size + 1 + 1 + 1]? = some (.cells #[.bool false] 4 (0, 0))) := by rw [← hW8]; exact heap_setCell_same _ _ _ _ _ _ HRb.out
    have HBd : Hid (Below w.heap.size w W8) := by rw [← hW8]; exact HBb.out.setCell (p := ⟨w.heap.size + 1 + 1 + 1, 0, none⟩) (show w.heap.size ≤ w.heap.size + 1 + 1 + 1 by omega) _
    have HCd : Hid _ := (show W8.heap[w.heap.size]? = W5.heap[w.heap.size]? by rw [← hW8, Below.heap_setCell _ _ _ _ (show w.heap.size ≠ w.heap.size + 1 + 1 + 1 by omega)]).trans HCb.out
    have HAd : Hid _ := (show W8.heap[w.heap.size + 1]? = W5.heap[w.heap.size + 1]? by rw [← hW8, Below.heap_setCell _ _ _ _ (show w.heap.size + 1 ≠ w.heap.size + 1 + 1 + 1 by omega)]).trans HAb.out
    have HId : Hid _ := (show W8.heap[w.heap.size + 1 + 1]? = W5.heap[w.heap.size + 1 + 1]? by rw [← hW8, Below.heap_setCell _ _ _ _ (show w.heap.size + 1 + 1 ≠ w.heap.size + 1 + 1 + 1 by omega)]).trans HIb.out
    have HSd : Hid _ := HS.out W8 HBd.out HCd.out HAd.out HId.out
    obtain ⟨d0, d1, d2, d3, d4, d5, d6, d7, d8, d9, d10, d11, d12, d13, d14⟩ := HSd.out
    refine wpAnyH_ready (rs := [14]) (by kernel_rfl) (by simp) ?_
    refine AllReadyH.cons rfl (fun K hK => ?_) AllReadyH.nil
    go_simp
    go_wp2_with fail
    try rw [hW8]
    refine hK.out _ _ (by exact HSd.out) (fun hHeld => ?_)
    clear hK K
    try simp only [Act.put, List.getElem_toArray, List.getElem_cons_zero, List.getElem_cons_succ, List.setIfInBounds_toArray, List.set_cons_zero, List.set_cons_succ]
    refine wpAnyH_done (by kernel_rfl) ?_ _
    skip
    go_wp2_with fail
    have r8 : W8.cell? ⟨w.heap.size + 1 + 1 + 1, 0, none⟩ = some (.bool false) := by simp [World.cell?, HR8.out]
    refine bodyPost_ret (v := .bool false) (by simp [results, Try.results36, go_sem, r8]) rfl ?_
    exact ⟨by rw [HT.out], HBd.out⟩
end Go.Proofs.Ytenhljiibfdckaa.KPd
