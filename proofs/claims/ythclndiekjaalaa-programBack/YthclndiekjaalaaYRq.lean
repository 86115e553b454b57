/- Programs read: program. -/
import Derived.Test.YthclndiekjaalaaYRp
namespace Go.Proofs.Ythclndiekjaalaa.YRq
open Go.RowKit Go.Proofs.Ythclndiekjaalaa.Leb Go.Proofs.Ythclndiekjaalaa.YPl Go.Proofs.Ythclndiekjaalaa.YRd Go.Proofs.Ythclndiekjaalaa.YWr Go.Proofs.Ythclndiekjaalaa.YRr Go.Proofs.Ythclndiekjaalaa.YRs Go.Proofs.Ythclndiekjaalaa.YRb Go.Proofs.Ythclndiekjaalaa.YRl Go.Proofs.Ythclndiekjaalaa.YRt Go.Proofs.Ythclndiekjaalaa.YRn Go.Proofs.Ythclndiekjaalaa.YRp
open Go.Proofs.Ythclndiekjaalaa.TBase (T Keep)
set_option linter.unusedVariables false

/-- What program answers. -/
def RPg (K R : Nat) (b : By) (a : Rs Pg) (w : World) (e : Ending) (w' : World) : Prop := Gx R w w' ∧ match a with
  | .ok (x, q) => ∃ v, e = .returned v ∧ HvP (fun g => w.heap.size ≤ g ∧ g < w'.heap.size) w' v x
  | .error q => e = .panicked (pkF 2100 q)
theorem box4 (w : World) (a b c d x y z u : Value) (t : TypeId) : ((((w.alloc (.cells #[a, b, c, d] t)).setCell ⟨w.heap.size, 0, none⟩ x).setCell ⟨w.heap.size, 1, none⟩ y).setCell ⟨w.heap.size, 2, none⟩ z).setCell ⟨w.heap.size, 3, none⟩ u = w.alloc (.cells #[x, y, z, u] t) := TPure.box4 w a b c d x y z u t
set_option maxRecDepth 20000 in
set_option maxHeartbeats 3200000 in
theorem program_c {K R : Nat} {w : World} {b : By} (h : Rb K w R b 0 0) :
    Calls Try.prog 23 #[ptw R] w fun e w' => RPg K R b (rprg b) w e w' := by
  have hmf : ∀ (fn : Fn) (first cap : Array Value) (w : World), (Instr.makeFunc fn first cap).run Try.prog w = .ok (.func fn first cap) w := fun _ _ _ _ => rfl
  have hRlt := h.lt
  obtain ⟨W0, hW0⟩ : ∃ W, w.alloc (.cells #[.slice none 0 0, .slice none 0 0, .slice none 0 0, .slice none 0 0] 27) = W := ⟨_, rfl⟩
  have b0 : Below w.heap.size w W0 := by rw [← hW0]; exact (Below.refl _ w).alloc (Nat.le_refl _) _
  have s0 : W0.heap.size = w.heap.size + 1 := by rw [← hW0]; simp
  have g0 : W0.heap[w.heap.size]? = some (.cells #[.slice none 0 0, .slice none 0 0, .slice none 0 0, .slice none 0 0] 27 (0, 0)) := by rw [← hW0]; exact heap_alloc_new w _
  have G0 : Hid (Gx R w W0 ∧ Gx R W0 W0 ∧ Rb K W0 R b 0 0) := ⟨Gx.of b0, Gx.refl _ _, Rb.below h b0⟩
  have HZ : Hid (∀ W, Gx R W0 W → W.heap[w.heap.size]? = some (.cells #[.slice none 0 0, .slice none 0 0, .slice none 0 0, .slice none 0 0] 27 (0, 0))) := fun W hg => (hg.block _ (by omega) (fun e => by cases e; omega)).trans g0
  have c0 := octet_c G0.out.2.2
  clear h b0 g0
  go_enter Try.func23, Try.ntmps23
  go_wp2_with fail
  try rw [hW0]
  refine c0.mono ?_
  rintro e W1 ⟨q1, hA⟩
  cases hE0 : roct b 0 with
  | error z =>
    rw [hE0] at hA
    obtain rfl := hA
    exact ⟨rfl, by rw [show rprg b = .error z by simp only [rprg, hE0, bnd]]; exact ⟨Gx.trans G0.out.1 q1, rfl⟩⟩
  | ok t =>
  obtain ⟨x0, p1⟩ := t
  rw [hE0] at hA
  obtain ⟨v0, rfl, ⟨rfl, hb0⟩, hR1⟩ := hA
  have G1 : Hid (Gx R w W1 ∧ Gx R W0 W1 ∧ Rb K W1 R b p1 0) := ⟨Gx.trans G0.out.1 q1, Gx.trans G0.out.2.1 q1, hR1⟩
  clear c0 q1 hR1
  by_cases hv : x0 = 1
  · subst hv
    have c1 := YRa.rl_s 16384 (by omega) (rtxt b) G1.out.2.2 (show _ from fun W q h _ => YRx.text_c h)
    go_wp2_with fail
    refine c1.mono ?_
    rintro e W2 ⟨q2, hA⟩
    cases hE1 : rlst 16384 (rtxt b) b p1 with
    | error z =>
      rw [hE1] at hA
      obtain rfl := hA
      exact ⟨rfl, by rw [show rprg b = .error z by simp only [rprg, hE0, hE1, bnd, if_true]]; exact ⟨Gx.trans G1.out.1 q2, rfl⟩⟩
    | ok t =>
    obtain ⟨x1, p2⟩ := t
    rw [hE1] at hA
    obtain ⟨v1, rfl, hv1, hR2⟩ := hA
    have L12 : Hid (W1.heap.size ≤ W2.heap.size) := q2.size
    have HV1 : Hid _ := hv1
    obtain ⟨a1, n1, d1, rfl⟩ := RrS.slice hv1
    have G2 : Hid (Gx R w W2 ∧ Gx R W0 W2 ∧ Rb K W2 R b p2 0) := ⟨Gx.trans G1.out.1 q2, Gx.trans G1.out.2.1 q2, hR2⟩
    clear c1 q2 hR2 hv1
    have c2 := YRf.rl_c 8192 (by omega) (rlst 8192 (rins b) b) G2.out.2.2 (show _ from fun W q h _ => YRg.code_c h)
    go_wp2_with fail
    refine c2.mono ?_
    rintro e W3 ⟨q3, hA⟩
    cases hE2 : rlst 8192 (rlst 8192 (rins b) b) b p2 with
    | error z =>
      rw [hE2] at hA
      obtain rfl := hA
      exact ⟨rfl, by rw [show rprg b = .error z by simp only [rprg, hE0, hE1, hE2, bnd, if_true]]; exact ⟨Gx.trans G2.out.1 q3, rfl⟩⟩
    | ok t =>
    obtain ⟨x2, p3⟩ := t
    rw [hE2] at hA
    obtain ⟨v2, rfl, hv2, hR3⟩ := hA
    have HV2 : Hid _ := hv2
    obtain ⟨a2, n2, d2, rfl⟩ := RrS.slice hv2
    have G3 : Hid (Gx R w W3 ∧ Gx R W0 W3 ∧ Rb K W3 R b p3 0 ∧ Gx R W2 W3) := ⟨Gx.trans G2.out.1 q3, Gx.trans G2.out.2.1 q3, hR3, q3⟩
    clear c2 q3 hR3 hv2
    have c3 := YRt.rl_t (m := 65) 4096 (by omega) (fun p _ => YRd.rnd b 64 p 0) G3.out.2.2.1 (by omega) (show _ from fun W q k' h _ _ => static_c h)
    have HE2 : Hid (rprg b = match rlstT 4096 (fun p _ => YRd.rnd b 64 p 0) b p3 0 with
      | .error q => .error q
      | .ok (s, q, _) => bnd (rlst 8192 (rblk b) b q) fun k q => if q < b.length then .error q else .ok (⟨x1, x2, s, k⟩, q)) := by
      show _ = _
      simp only [rprg, hE0, hE1, hE2, bnd, if_true]
      cases rlstT 4096 (fun p _ => YRd.rnd b 64 p 0) b p3 0 with
      | error z => rfl
      | ok t => obtain ⟨s, q, k⟩ := t; rfl
    obtain ⟨AA, hAA⟩ : ∃ A, rlstT 4096 (fun p _ => YRd.rnd b 64 p 0) b p3 0 = A := ⟨_, rfl⟩
    rw [hAA] at c3 HE2
    clear hAA hE0 hE1 hE2
    go_wp2_with fail
    refine c3.mono ?_
    rintro e W4 ⟨q4, hA⟩
    cases AA with
    | error z =>
      obtain rfl := hA
      exact ⟨rfl, by rw [HE2.out]; exact ⟨Gx.trans G3.out.1 q4, rfl⟩⟩
    | ok t =>
    obtain ⟨x3, p4, k4⟩ := t
    obtain ⟨v3, rfl, hv3, hR4, hk4⟩ := hA
    have HV3 : Hid _ := hv3
    obtain ⟨a3, n3, d3, rfl⟩ : ∃ a n c, v3 = .slice a n c := by obtain ⟨a, c, h, -⟩ := hv3; exact ⟨_, _, _, h⟩
    have G4 : Hid (Gx R w W4 ∧ Gx R W0 W4 ∧ Rb K W4 R b p4 k4 ∧ Gx R W3 W4) := ⟨Gx.trans G3.out.1 q4, Gx.trans G3.out.2.1 q4, hR4, q4⟩
    have HE3 : Hid (rprg b = bnd (rlst 8192 (rblk b) b p4) fun k q => if q < b.length then .error q else .ok (⟨x1, x2, x3, k⟩, q)) := HE2.out
    clear c3 q4 hR4 hv3 HE2
    have c4 := YRf.rl_b 8192 (by omega) (rblk b) G4.out.2.2.1 (show _ from fun W q h _ => YRg.block_c h)
    go_wp2_with fail
    refine c4.mono ?_
    rintro e W5 ⟨q5, hA⟩
    cases hE4 : rlst 8192 (rblk b) b p4 with
    | error z =>
      rw [hE4] at hA
      obtain rfl := hA
      exact ⟨rfl, by rw [HE3.out, hE4]; exact ⟨Gx.trans G4.out.1 q5, rfl⟩⟩
    | ok t =>
    obtain ⟨x4, p5⟩ := t
    rw [hE4] at hA
    obtain ⟨v4, rfl, hv4, hR5⟩ := hA
    have HV4 : Hid _ := hv4
    obtain ⟨a4, n4, d4, rfl⟩ := RrS.slice hv4
    have HE4 : Hid (rprg b = if p5 < b.length then .error p5 else .ok (⟨x1, x2, x3, x4⟩, p5)) := by show _ = _; rw [HE3.out, hE4]; rfl
    have G5 : Hid (Gx R w W5 ∧ Gx R W0 W5 ∧ Rb K W5 R b p5 k4 ∧ Gx R W4 W5) := ⟨Gx.trans G4.out.1 q5, Gx.trans G4.out.2.1 q5, hR5, q5⟩
    clear c4 q5 hR5 hv4 HE3 hE4
    obtain ⟨Wz, hWz⟩ : ∃ W, W5.alloc (.cells #[.slice none 0 0, .slice none 0 0, .slice none 0 0, .slice none 0 0] 27) = W := ⟨_, rfl⟩
    obtain ⟨W6, hW6⟩ : ∃ W, W5.alloc (.cells #[.slice a1 n1 d1, .slice a2 n2 d2, .slice a3 n3 d3, .slice a4 n4 d4] 27) = W := ⟨_, rfl⟩
    have nz : Wz.heap[W5.heap.size]? = some (.cells #[.slice none 0 0, .slice none 0 0, .slice none 0 0, .slice none 0 0] 27 (0, 0)) := by rw [← hWz]; exact heap_alloc_new W5 _
    have hWs : (((Wz.setCell ⟨W5.heap.size, 0, none⟩ (.slice a1 n1 d1)).setCell ⟨W5.heap.size, 1, none⟩ (.slice a2 n2 d2)).setCell ⟨W5.heap.size, 2, none⟩ (.slice a3 n3 d3)).setCell ⟨W5.heap.size, 3, none⟩ (.slice a4 n4 d4) = W6 := by rw [← hWz, ← hW6]; exact box4 _ _ _ _ _ _ _ _ _ _
    have b6 : Below W5.heap.size W5 W6 := by rw [← hW6]; exact (Below.refl _ W5).alloc (Nat.le_refl _) _
    have n6 : W6.heap[W5.heap.size]? = some (.cells #[.slice a1 n1 d1, .slice a2 n2 d2, .slice a3 n3 d3, .slice a4 n4 d4] 27 (0, 0)) := by rw [← hW6]; exact heap_alloc_new W5 _
    have hR6 := Rb.below G5.out.2.2.1 b6
    have G6 : Hid (Gx R w W6 ∧ Gx R W0 W6 ∧ Gx R W5 W6) := ⟨Gx.trans G5.out.1 (Gx.of b6), Gx.trans G5.out.2.1 (Gx.of b6), Gx.of b6⟩
    have m6 := HZ.out W6 G6.out.2.1
    obtain ⟨-, -, -, -, -, ia, il, ic, h6, h7, -⟩ := hR6
    obtain rfl : il = b.length := by obtain ⟨a, c, e, -⟩ := h7; cases e; rfl
    have u0 := cell_of nz 0 _ rfl
    have u1 := cell_of nz 1 _ rfl
    have u2 := cell_of nz 2 _ rfl
    have u3 := cell_of nz 3 _ rfl
    have fz0 := TBase.frozen_box nz 0
    have fz1 := TBase.frozen_box nz 1
    have fz2 := TBase.frozen_box nz 2
    have fz3 := TBase.frozen_box nz 3
    have y0 := cell_of h6 0 _ rfl
    have y1 := cell_of h6 1 _ rfl
    have x60 := cell_of n6 0 _ rfl
    have x61 := cell_of n6 1 _ rfl
    have x62 := cell_of n6 2 _ rfl
    have x63 := cell_of n6 3 _ rfl
    have L : Hid (w.heap.size < W1.heap.size ∧ W1.heap.size ≤ W2.heap.size ∧ W2.heap.size ≤ W3.heap.size ∧ W3.heap.size ≤ W4.heap.size ∧ W4.heap.size ≤ W5.heap.size ∧ W5.heap.size ≤ W6.heap.size) := ⟨by have := G1.out.2.1.size; omega, L12.out, G3.out.2.2.2.size, G4.out.2.2.2.size, G5.out.2.2.2.size, b6.size⟩
    have GX : Hid (Gx R W2 W6 ∧ Gx R W3 W6 ∧ Gx R W4 W6) := ⟨Gx.trans (Gx.trans (Gx.trans G3.out.2.2.2 G4.out.2.2.2) G5.out.2.2.2) (Gx.of b6), Gx.trans (Gx.trans G4.out.2.2.2 G5.out.2.2.2) (Gx.of b6), Gx.trans G5.out.2.2.2 (Gx.of b6)⟩
    have hz0 := cell_of m6 0 _ rfl
    have hz1 := cell_of m6 1 _ rfl
    have hz2 := cell_of m6 2 _ rfl
    have hz3 := cell_of m6 3 _ rfl
    have e0 := TBase.frozen_box m6 0
    have e1 := TBase.frozen_box m6 1
    have e2 := TBase.frozen_box m6 2
    have e3 := TBase.frozen_box m6 3
    have HM6 : Hid _ := m6
    clear h6 h7 nz hW6 b6 n6 m6
    by_cases hp : p5 < b.length
    · have HE : Hid (rprg b = .error p5) := by show _ = _; rw [HE4.out, if_pos hp]
      have hp' : (p5 : Int) < (b.length : Int) := by omega
      go_wp2_with fail
      try rw [hWs]
      go_quiet (fail)
      go_wp2_with fail
      refine (refuse_c _ _).mono ?_
      rintro e w9 ⟨rfl, rfl⟩
      exact ⟨rfl, by rw [HE.out]; exact ⟨Gx.drewN G6.out.1 _, rfl⟩⟩
    · have HE : Hid (rprg b = .ok (⟨x1, x2, x3, x4⟩, p5)) := by show _ = _; rw [HE4.out, if_neg hp]
      have hp' : ¬ (p5 : Int) < (b.length : Int) := by omega
      go_wp2_with fail
      try rw [hWs]
      go_quiet (fail)
      obtain ⟨W9, hW9⟩ : ∃ W, ((((W6.drewN nq).setCell ⟨w.heap.size, 0, none⟩ (.slice a1 n1 d1)).setCell ⟨w.heap.size, 1, none⟩ (.slice a2 n2 d2)).setCell ⟨w.heap.size, 2, none⟩ (.slice a3 n3 d3)).setCell ⟨w.heap.size, 3, none⟩ (.slice a4 n4 d4) = W := ⟨_, rfl⟩
      obtain ⟨hn, hg9⟩ := YRg.set4 _ _ _ _ (show (W6.drewN nq).heap[w.heap.size]? = _ from HM6.out) hW9
      have HN : Hid _ := hn
      have HG9 : Hid (Gx R w W9) := gx_row (Gx.drewN G6.out.1 nq) hg9 (fun r hr => by cases hr; exact Nat.le_refl _)
      have hl9 : W6.heap.size ≤ W9.heap.size := hg9.size
      obtain ⟨l1, l2, l3, l4, l5, l6⟩ := L.out
      have k1 : Keep (fun g => W1.heap.size ≤ g ∧ g < W2.heap.size) W2 W9 := (fun g hg hl => (hg9.block g (show g < W6.heap.size by omega) (fun e => by have := Option.some.inj e; omega)).trans (GX.out.1.block g hl (fun e => by have := Option.some.inj e; omega)))
      have k2 : Keep (fun g => W2.heap.size ≤ g ∧ g < W3.heap.size) W3 W9 := (fun g hg hl => (hg9.block g (show g < W6.heap.size by omega) (fun e => by have := Option.some.inj e; omega)).trans (GX.out.2.1.block g hl (fun e => by have := Option.some.inj e; omega)))
      have k3 : Keep (fun g => W3.heap.size ≤ g ∧ g < W4.heap.size) W4 W9 := (fun g hg hl => (hg9.block g (show g < W6.heap.size by omega) (fun e => by have := Option.some.inj e; omega)).trans (GX.out.2.2.block g hl (fun e => by have := Option.some.inj e; omega)))
      have k4' : Keep (fun g => W4.heap.size ≤ g ∧ g < W5.heap.size) W5 W9 := (fun g hg hl => (hg9.block g (show g < W6.heap.size by omega) (fun e => by have := Option.some.inj e; omega)).trans (G6.out.2.2.block g hl (fun e => by have := Option.some.inj e; omega)))
      have HH : Hid (HvP (fun g => w.heap.size ≤ g ∧ g < W9.heap.size) W9 (.agg #[.slice a1 n1 d1, .slice a2 n2 d2, .slice a3 n3 d3, .slice a4 n4 d4]) ⟨x1, x2, x3, x4⟩) := ⟨_, _, _, _, _, _, _, _, _, _, _, _, rfl,
        RrS.keep HV1.out (fun g hg => by constructor <;> omega) (fun g o x _ hg h => kS (S := fun g => W1.heap.size ≤ g ∧ g < W2.heap.size) k1 hg h),
        RrS.keep HV2.out (fun g hg => by constructor <;> omega) (fun g o x _ hg h => kC (S := fun g => W2.heap.size ≤ g ∧ g < W3.heap.size) k2 (fun g hg => by constructor <;> omega) hg h),
        (TBase.InL.keep HV3.out k3).weak (fun g hg => by constructor <;> omega) false id 65 (Nat.le_refl _),
        RrS.keep HV4.out (fun g hg => by constructor <;> omega) (fun g o x _ hg h => kB (S := fun g => W4.heap.size ≤ g ∧ g < W5.heap.size) k4' (fun g hg => by constructor <;> omega) hg h)⟩
      clear hn hg9 k1 k2 k3 k4'
      go_wp2_with fail
      try rw [hW9]
      refine bodyPost_ret (results_cell_row rfl _ W9 w.heap.size 27 _ (0, 0) _ rfl HN.out Try.underlying27 rfl (by kernel_rfl)) rfl ?_
      rw [HE.out]
      exact ⟨HG9.out, _, rfl, HH.out⟩
  · have HE : Hid (rprg b = .error 0) := by show _ = _; simp only [rprg, hE0, bnd, hv, if_false]
    have hv1 : (x0 != 1) = true := by simp [hv]
    go_wp2_with fail
    refine (refuse_c _ _).mono ?_
    rintro e w9 ⟨rfl, rfl⟩
    exact ⟨rfl, by rw [HE.out]; exact ⟨G1.out.1, rfl⟩⟩
end Go.Proofs.Ythclndiekjaalaa.YRq
