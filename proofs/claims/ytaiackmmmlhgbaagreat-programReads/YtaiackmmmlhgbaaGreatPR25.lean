import Derived.Test.YtaiackmmmlhgbaaGreatPR24
open Go.Proofs.Tryz
set_option linter.unusedVariables false
set_option maxRecDepth 20000
set_option maxHeartbeats 3200000
namespace Go.Proofs.YtaiackmmmlhgbaaGreat.YRqf
open Go.RowKit YPl YRd YWr YRr YRsf YRbf YRlf YRtf YRnf YRpf
open TBase (T Keep)
def RPg (K R : Nat) (b : By) (a : Rs Pg) (w : World) (e : Ending) (w' : World) : Prop := Gx R w w' /\ match a with
  | .ok (x, q) => ∃ v, e = .returned v /\ HvP (Bz w' w.heap.size) w' v x
  | .error q => e = .panicked (pkF 2100 q)
theorem box4 (w : World) (a b c d x y z u : Value) (t : TypeId) : ((((w.alloc (.cells #[a, b, c, d] t)).setCell ⟨w.heap.size, 0, none⟩ x).setCell ⟨w.heap.size, 1, none⟩ y).setCell ⟨w.heap.size, 2, none⟩ z).setCell ⟨w.heap.size, 3, none⟩ u = w.alloc (.cells #[x, y, z, u] t) := TPure.box4 w a b c d x y z u t
theorem program_c {K R : Nat} {w : World} {b : By} (h : Rb K w R b 0 0) :
    Calls prog 21 #[ptw R] w fun e w' => RPg K R b (rprg b) w e w' := by
  have hmf : ∀ (fn : Fn) (first cap : Array Value) (w : World), (Instr.makeFunc fn first cap).run prog w = .ok (.func fn first cap) w := fun _ _ _ _ => rfl
  have hRlt := h.lt
  obtain ⟨W0, hW0⟩ : ∃ W, w.alloc (.cells #[.slice none 0 0, .slice none 0 0, .slice none 0 0, .slice none 0 0] 29) = W := ⟨_, rfl⟩
  have b0 : Below w.heap.size w W0 := by rw [<- hW0]; exact (Below.refl _ w).alloc (Nat.le_refl _) _
  have s0 : W0.heap.size = w.heap.size + 1 := by rw [<- hW0]; simp
  have g0 : W0.heap[w.heap.size]? = some (.cells #[.slice none 0 0, .slice none 0 0, .slice none 0 0, .slice none 0 0] 29 (0, 0)) := by rw [<- hW0]; exact heap_alloc_new w _
  have G0 : Hid (Gx R w W0 /\ Gx R W0 W0 /\ Rb K W0 R b 0 0) := ⟨Gx.of b0, Gx.refl _ _, Rb.below h b0⟩
  have HZ : Hid (∀ W, Gx R W0 W -> W.heap[w.heap.size]? = some (.cells #[.slice none 0 0, .slice none 0 0, .slice none 0 0, .slice none 0 0] 29 (0, 0))) := fun W hg => (hg.block _ (by omega) (fun e => by cases e; omega)).trans g0
  have c0 := octet_c G0.out.2.2
  clear h b0 g0
  go_enter func21, ntmps21
  go_wp2_with fail
  try rw [hW0]
  refine c0.mono ?_
  rintro e W1 ⟨q1, hA⟩
  cases hE0 : roct b 0 with
  | error z =>
    rw [hE0] at hA
    obtain rfl := hA
    exact ⟨rfl, by rw [show rprg b = .error z by simp only [rprg, hE0, bnd]]; exact ⟨Gx.trans G0.out.1 q1, rfl⟩⟩
  | ok t =>
  obtain ⟨x0, p1⟩ := t
  rw [hE0] at hA
  obtain ⟨v0, rfl, ⟨rfl, hb0⟩, hR1⟩ := hA
  have G1 : Hid (Gx R w W1 /\ Gx R W0 W1 /\ Rb K W1 R b p1 0) := ⟨Gx.trans G0.out.1 q1, Gx.trans G0.out.2.1 q1, hR1⟩
  clear c0 q1 hR1
  by_cases hv : x0 = 1
  · subst hv
    have c1 := YRaf.rl_s 16384 (by omega) (rtxt b) G1.out.2.2 (show _ from fun W q h _ => YRxf.text_c h)
    go_wp2_with fail
    refine c1.mono ?_
    rintro e W2 ⟨q2, hA⟩
    cases hE1 : rlst 16384 (rtxt b) b p1 with
    | error z =>
      rw [hE1] at hA
      obtain rfl := hA
      exact ⟨rfl, by rw [show rprg b = .error z by simp only [rprg, hE0, hE1, bnd, if_true]]; exact ⟨Gx.trans G1.out.1 q2, rfl⟩⟩
    | ok t =>
    obtain ⟨x1, p2⟩ := t
    rw [hE1] at hA
    obtain ⟨v1, rfl, hv1, hR2⟩ := hA
    have L12 : Hid (W1.heap.size <= W2.heap.size) := q2.size
    have HV1 : Hid _ := hv1
    obtain ⟨a1, n1, d1, rfl⟩ := RrS.slice hv1
    have G2 : Hid (Gx R w W2 /\ Gx R W0 W2 /\ Rb K W2 R b p2 0) := ⟨Gx.trans G1.out.1 q2, Gx.trans G1.out.2.1 q2, hR2⟩
    clear c1 q2 hR2 hv1
    have c2 := YRff.rl_c 8192 (by omega) (rlst 8192 (rins b) b) G2.out.2.2 (show _ from fun W q h _ => YRgf.code_c h)
    go_wp2_with fail
    refine c2.mono ?_
    rintro e W3 ⟨q3, hA⟩
    cases hE2 : rlst 8192 (rlst 8192 (rins b) b) b p2 with
    | error z =>
      rw [hE2] at hA
      obtain rfl := hA
      exact ⟨rfl, by rw [show rprg b = .error z by simp only [rprg, hE0, hE1, hE2, bnd, if_true]]; exact ⟨Gx.trans G2.out.1 q3, rfl⟩⟩
    | ok t =>
    obtain ⟨x2, p3⟩ := t
    rw [hE2] at hA
    obtain ⟨v2, rfl, hv2, hR3⟩ := hA
    have HV2 : Hid _ := hv2
    obtain ⟨a2, n2, d2, rfl⟩ := RrS.slice hv2
    have G3 : Hid (Gx R w W3 /\ Gx R W0 W3 /\ Rb K W3 R b p3 0 /\ Gx R W2 W3) := ⟨Gx.trans G2.out.1 q3, Gx.trans G2.out.2.1 q3, hR3, q3⟩
    clear c2 q3 hR3 hv2
    have c3 := YRtf.rl_t (m := 65) 4096 (by omega) (fun p _ => YRd.rnd b 64 p 0) G3.out.2.2.1 (by omega) (show _ from fun W q k' h _ _ => static_c h)
    have HE2 : Hid (rprg b = match rlstT 4096 (fun p _ => YRd.rnd b 64 p 0) b p3 0 with
      | .error q => .error q
      | .ok (s, q, _) => bnd (rlst 8192 (rblk b) b q) fun k q => if q < b.length then .error q else .ok (⟨x1, x2, s, k⟩, q)) := by
      show _ = _
      simp only [rprg, hE0, hE1, hE2, bnd, if_true]
      cases rlstT 4096 (fun p _ => YRd.rnd b 64 p 0) b p3 0 with
      | error z => rfl
      | ok t => obtain ⟨s, q, k⟩ := t; rfl
    obtain ⟨AA, hAA⟩ : ∃ A, rlstT 4096 (fun p _ => YRd.rnd b 64 p 0) b p3 0 = A := ⟨_, rfl⟩
    rw [hAA] at c3 HE2
    clear hAA hE0 hE1 hE2
    go_wp2_with fail
    refine c3.mono ?_
    rintro e W4 ⟨q4, hA⟩
    cases AA with
    | error z =>
      obtain rfl := hA
      exact ⟨rfl, by rw [HE2.out]; exact ⟨Gx.trans G3.out.1 q4, rfl⟩⟩
    | ok t =>
    obtain ⟨x3, p4, k4⟩ := t
    obtain ⟨v3, rfl, hv3, hR4, hk4⟩ := hA
    have HV3 : Hid _ := hv3
    obtain ⟨a3, n3, d3, rfl⟩ : ∃ a n c, v3 = .slice a n c := by obtain ⟨a, c, h, -⟩ := hv3; exact ⟨_, _, _, h⟩
    have G4 : Hid (Gx R w W4 /\ Gx R W0 W4 /\ Rb K W4 R b p4 k4 /\ Gx R W3 W4) := ⟨Gx.trans G3.out.1 q4, Gx.trans G3.out.2.1 q4, hR4, q4⟩
    have HE3 : Hid (rprg b = bnd (rlst 8192 (rblk b) b p4) fun k q => if q < b.length then .error q else .ok (⟨x1, x2, x3, k⟩, q)) := HE2.out
    clear c3 q4 hR4 hv3 HE2
    have c4 := YRff.rl_b 8192 (by omega) (rblk b) G4.out.2.2.1 (show _ from fun W q h _ => YRgf.block_c h)
    go_wp2_with fail
    refine c4.mono ?_
    rintro e W5 ⟨q5, hA⟩
    cases hE4 : rlst 8192 (rblk b) b p4 with
    | error z =>
      rw [hE4] at hA
      obtain rfl := hA
      exact ⟨rfl, by rw [HE3.out, hE4]; exact ⟨Gx.trans G4.out.1 q5, rfl⟩⟩
    | ok t =>
    obtain ⟨x4, p5⟩ := t
    rw [hE4] at hA
    obtain ⟨v4, rfl, hv4, hR5⟩ := hA
    have HV4 : Hid _ := hv4
    obtain ⟨a4, n4, d4, rfl⟩ := RrS.slice hv4
    have HE4 : Hid (rprg b = if p5 < b.length then .error p5 else .ok (⟨x1, x2, x3, x4⟩, p5)) := by show _ = _; rw [HE3.out, hE4]; rfl
    have G5 : Hid (Gx R w W5 /\ Gx R W0 W5 /\ Rb K W5 R b p5 k4 /\ Gx R W4 W5) := ⟨Gx.trans G4.out.1 q5, Gx.trans G4.out.2.1 q5, hR5, q5⟩
    clear c4 q5 hR5 hv4 HE3 hE4
    obtain ⟨Wz, hWz⟩ : ∃ W, W5.alloc (.cells #[.slice none 0 0, .slice none 0 0, .slice none 0 0, .slice none 0 0] 29) = W := ⟨_, rfl⟩
    obtain ⟨W6, hW6⟩ : ∃ W, W5.alloc (.cells #[.slice a1 n1 d1, .slice a2 n2 d2, .slice a3 n3 d3, .slice a4 n4 d4] 29) = W := ⟨_, rfl⟩
    have nz : Wz.heap[W5.heap.size]? = some (.cells #[.slice none 0 0, .slice none 0 0, .slice none 0 0, .slice none 0 0] 29 (0, 0)) := by rw [<- hWz]; exact heap_alloc_new W5 _
    have hWs : (((Wz.setCell ⟨W5.heap.size, 0, none⟩ (.slice a1 n1 d1)).setCell ⟨W5.heap.size, 1, none⟩ (.slice a2 n2 d2)).setCell ⟨W5.heap.size, 2, none⟩ (.slice a3 n3 d3)).setCell ⟨W5.heap.size, 3, none⟩ (.slice a4 n4 d4) = W6 := by rw [<- hWz, <- hW6]; exact box4 _ _ _ _ _ _ _ _ _ _
    have b6 : Below W5.heap.size W5 W6 := by rw [<- hW6]; exact (Below.refl _ W5).alloc (Nat.le_refl _) _
    have n6 : W6.heap[W5.heap.size]? = some (.cells #[.slice a1 n1 d1, .slice a2 n2 d2, .slice a3 n3 d3, .slice a4 n4 d4] 29 (0, 0)) := by rw [<- hW6]; exact heap_alloc_new W5 _
    have hR6 := Rb.below G5.out.2.2.1 b6
    have G6 : Hid (Gx R w W6 /\ Gx R W0 W6 /\ Gx R W5 W6) := ⟨Gx.trans G5.out.1 (Gx.of b6), Gx.trans G5.out.2.1 (Gx.of b6), Gx.of b6⟩
    have m6 := HZ.out W6 G6.out.2.1
    obtain ⟨-, -, -, -, -, ia, il, ic, h6, h7, -⟩ := hR6
    obtain rfl : il = b.length := by obtain ⟨a, c, e, -⟩ := h7; cases e; rfl
    have u0 := cell_of nz 0 _ rfl
    have u1 := cell_of nz 1 _ rfl
    have u2 := cell_of nz 2 _ rfl
    have u3 := cell_of nz 3 _ rfl
    have fz0 := TBase.frozen_box nz 0
    have fz1 := TBase.frozen_box nz 1
    have fz2 := TBase.frozen_box nz 2
    have fz3 := TBase.frozen_box nz 3
    have y0 := cell_of h6 0 _ rfl
    have y1 := cell_of h6 1 _ rfl
    have x60 := cell_of n6 0 _ rfl
    have x61 := cell_of n6 1 _ rfl
    have x62 := cell_of n6 2 _ rfl
    have x63 := cell_of n6 3 _ rfl
    have L : Hid (w.heap.size < W1.heap.size /\ W1.heap.size <= W2.heap.size /\ W2.heap.size <= W3.heap.size /\ W3.heap.size <= W4.heap.size /\ W4.heap.size <= W5.heap.size /\ W5.heap.size <= W6.heap.size) := ⟨by have := G1.out.2.1.size; omega, L12.out, G3.out.2.2.2.size, G4.out.2.2.2.size, G5.out.2.2.2.size, b6.size⟩
    have GX : Hid (Gx R W2 W6 /\ Gx R W3 W6 /\ Gx R W4 W6) := ⟨Gx.trans (Gx.trans (Gx.trans G3.out.2.2.2 G4.out.2.2.2) G5.out.2.2.2) (Gx.of b6), Gx.trans (Gx.trans G4.out.2.2.2 G5.out.2.2.2) (Gx.of b6), Gx.trans G5.out.2.2.2 (Gx.of b6)⟩
    have hz0 := cell_of m6 0 _ rfl
    have hz1 := cell_of m6 1 _ rfl
    have hz2 := cell_of m6 2 _ rfl
    have hz3 := cell_of m6 3 _ rfl
    have e0 := TBase.frozen_box m6 0
    have e1 := TBase.frozen_box m6 1
    have e2 := TBase.frozen_box m6 2
    have e3 := TBase.frozen_box m6 3
    have HM6 : Hid _ := m6
    clear h6 h7 nz hW6 b6 n6 m6
    by_cases hp : p5 < b.length
    · have HE : Hid (rprg b = .error p5) := by show _ = _; rw [HE4.out, if_pos hp]
      have hp' : (p5 : Int) < (b.length : Int) := by omega
      go_wp2_with fail
      try rw [hWs]
      go_quiet (fail)
      go_wp2_with fail
      refine (refuse_c _ _).mono ?_
      rintro e w9 ⟨rfl, rfl⟩
      exact ⟨rfl, by rw [HE.out]; exact ⟨Gx.drewN G6.out.1 _, rfl⟩⟩
    · have HE : Hid (rprg b = .ok (⟨x1, x2, x3, x4⟩, p5)) := by show _ = _; rw [HE4.out, if_neg hp]
      have hp' : ¬ (p5 : Int) < (b.length : Int) := by omega
      go_wp2_with fail
      try rw [hWs]
      go_quiet (fail)
      obtain ⟨W9, hW9⟩ : ∃ W, ((((W6.drewN nq).setCell ⟨w.heap.size, 0, none⟩ (.slice a1 n1 d1)).setCell ⟨w.heap.size, 1, none⟩ (.slice a2 n2 d2)).setCell ⟨w.heap.size, 2, none⟩ (.slice a3 n3 d3)).setCell ⟨w.heap.size, 3, none⟩ (.slice a4 n4 d4) = W := ⟨_, rfl⟩
      obtain ⟨hn, hg9⟩ := YRgf.set4 _ _ _ _ (show (W6.drewN nq).heap[w.heap.size]? = _ from HM6.out) hW9
      have HN : Hid _ := hn
      have HG9 : Hid (Gx R w W9) := gx_row (Gx.drewN G6.out.1 nq) hg9 (fun r hr => by cases hr; exact Nat.le_refl _)
      have hl9 : W6.heap.size <= W9.heap.size := hg9.size
      obtain ⟨l1, l2, l3, l4, l5, l6⟩ := L.out
      have k1 : Keep (Bz W2 W1.heap.size) W2 W9 := (fun g hg hl => have hg := hg.at'; (hg9.block g (show g < W6.heap.size by omega) (fun e => by have := Option.some.inj e; omega)).trans (GX.out.1.block g hl (fun e => by have := Option.some.inj e; omega)))
      have k2 : Keep (Bz W3 W2.heap.size) W3 W9 := (fun g hg hl => have hg := hg.at'; (hg9.block g (show g < W6.heap.size by omega) (fun e => by have := Option.some.inj e; omega)).trans (GX.out.2.1.block g hl (fun e => by have := Option.some.inj e; omega)))
      have k3 : Keep (Bz W4 W3.heap.size) W4 W9 := (fun g hg hl => have hg := hg.at'; (hg9.block g (show g < W6.heap.size by omega) (fun e => by have := Option.some.inj e; omega)).trans (GX.out.2.2.block g hl (fun e => by have := Option.some.inj e; omega)))
      have k4' : Keep (Bz W5 W4.heap.size) W5 W9 := (fun g hg hl => have hg := hg.at'; (hg9.block g (show g < W6.heap.size by omega) (fun e => by have := Option.some.inj e; omega)).trans (G6.out.2.2.block g hl (fun e => by have := Option.some.inj e; omega)))
      have HH : Hid (HvP (Bz W9 w.heap.size) W9 (.agg #[.slice a1 n1 d1, .slice a2 n2 d2, .slice a3 n3 d3, .slice a4 n4 d4]) ⟨x1, x2, x3, x4⟩) := ⟨_, _, _, _, _, _, _, _, _, _, _, _, rfl,
        RrS.keep HV1.out (bz_up k1 (by omega) (by omega)) (fun g o x _ hg h => kS (S := Bz W2 W1.heap.size) k1 hg h),
        RrS.keep HV2.out (bz_up k2 (by omega) (by omega)) (fun g o x _ hg h => kC (S := Bz W3 W2.heap.size) k2 (bz_up k2 (by omega) (by omega)) hg h),
        (TBase.InL.keep HV3.out k3).weak (bz_up k3 (by omega) (by omega)) false id 65 (Nat.le_refl _),
        RrS.keep HV4.out (bz_up k4' (by omega) (by omega)) (fun g o x _ hg h => kB (S := Bz W5 W4.heap.size) k4' (bz_up k4' (by omega) (by omega)) hg h)⟩
      clear hn hg9 k1 k2 k3 k4'
      go_wp2_with fail
      try rw [hW9]
      refine bodyPost_ret (results_cell_row rfl _ W9 w.heap.size 29 _ (0, 0) _ rfl HN.out underlying29 rfl (by kernel_rfl)) rfl ?_
      rw [HE.out]
      exact ⟨HG9.out, _, rfl, HH.out⟩
  · have HE : Hid (rprg b = .error 0) := by show _ = _; simp only [rprg, hE0, bnd, hv, if_false]
    have hv1 : (x0 != 1) = true := by simp [hv]
    go_wp2_with fail
    refine (refuse_c _ _).mono ?_
    rintro e w9 ⟨rfl, rfl⟩
    exact ⟨rfl, by rw [HE.out]; exact ⟨G1.out.1, rfl⟩⟩
end Go.Proofs.YtaiackmmmlhgbaaGreat.YRqf
namespace Go.Proofs.YtaiackmmmlhgbaaGreat.YDef
open Go.RowKit YPl YRd YWr YRr YRsf YRbf YRlf YRpf YRqf
open TBase (T Keep)
abbrev p0 : Value := .agg #[.slice none 0 0, .slice none 0 0, .slice none 0 0, .slice none 0 0]
def CP (R : Nat) (a : Rs Pg) (w : World) (e : Ending) (w' : World) : Prop := Gx R w w' /\ match a with
  | .ok (x, q) => ∃ v, e = .returned (.tuple #[v, .agg #[.int .i64 0, .int .i64 0]]) /\ HvP (Bz w' w.heap.size) w' v x
  | .error q => e = .returned (.tuple #[p0, .agg #[.int .i64 2100, .int .i64 (q : Nat)]])
theorem caught_c {K R : Nat} {w : World} {b : By} (h : Rb K w R b 0 0) :
    Calls prog 20 #[.func (.func 21) #[ptw R] #[]] w fun e w' => CP R (rprg b) w e w' := by
  have hmf : ∀ (fn : Fn) (first cap : Array Value) (w : World), (Instr.makeFunc fn first cap).run prog w = .ok (.func fn first cap) w := fun _ _ _ _ => rfl
  have hRlt := h.lt
  obtain ⟨W, hW⟩ : ∃ W, (w.alloc (.cells #[.slice none 0 0, .slice none 0 0, .slice none 0 0, .slice none 0 0] 29)).alloc (.cells #[.int .i64 0, .int .i64 0] 52) = W := ⟨_, rfl⟩
  have bW : Below w.heap.size w W := by rw [<- hW]; exact ((Below.refl _ w).alloc (Nat.le_refl _) _).alloc (by simp) _
  have sW : W.heap.size = w.heap.size + 2 := by rw [<- hW]; simp
  have zV : W.heap[w.heap.size]? = some (.cells #[.slice none 0 0, .slice none 0 0, .slice none 0 0, .slice none 0 0] 29 (0, 0)) := by rw [<- hW, Below.heap_alloc _ _ _ (by simp), heap_alloc_new]
  have zM : W.heap[w.heap.size + 1]? = some (.cells #[.int .i64 0, .int .i64 0] 52 (0, 0)) := by
    rw [<- hW]
    have := heap_alloc_new (w.alloc (.cells #[.slice none 0 0, .slice none 0 0, .slice none 0 0, .slice none 0 0] 29)) (.cells #[.int .i64 0, .int .i64 0] 52)
    rwa [World.size_alloc] at this
  have cV := program_c (Rb.below h bW)
  obtain ⟨A, hE⟩ : ∃ A, rprg b = A := ⟨_, rfl⟩
  rw [hE] at cV ⊢
  have HB : Hid (Gx R w W) := Gx.of bW
  have HV : Hid _ := zV
  have HM : Hid _ := zM
  clear bW zV zM h hE
  go_enter_defers func20, ntmps20
  go_wp2_with fail
  try rw [hW]
  refine cV.mono ?_
  rintro e W1 ⟨g1, hA⟩
  have hs1 := g1.size
  have v1 := (g1.block w.heap.size (by omega) (fun e => by have := Option.some.inj e; omega)).trans HV.out
  have m1 := (g1.block (w.heap.size + 1) (by omega) (fun e => by have := Option.some.inj e; omega)).trans HM.out
  have HG1 : Hid (Gx R w W1) := Gx.trans HB.out g1
  clear cV g1 HV HM HB hW
  cases A with
  | error q =>
    obtain rfl := hA
    refine leaves_cons (f := 55) (args := #[.pointer (some ⟨w.heap.size + 1, 0, none⟩)]) (by simp) (by simp [go_sem]) ?_
    refine (YCa.fault_p (w.heap.size + 1) 2100 (q : Nat) [] W1 _ _ m1).mono ?_
    rintro e u' w5 ⟨rfl, rfl, r2, r3⟩
    have b5 := r3 (w.heap.size + 1) (Nat.le_refl _)
    have v5 := (b5.block w.heap.size (by omega)).trans v1
    have q0 := cell_of r2 0 _ rfl
    have q1 := cell_of r2 1 _ rfl
    have c0 := cell_of v5 0 _ rfl
    have c1 := cell_of v5 1 _ rfl
    have c2 := cell_of v5 2 _ rfl
    have c3 := cell_of v5 3 _ rfl
    have HD : Hid (Gx R w w5) := ⟨b5.os.trans HG1.out.os, b5.tape.trans HG1.out.tape, b5.output.trans HG1.out.output, Nat.le_trans HG1.out.size b5.size, fun k hk hne => (b5.block k (by omega)).trans (HG1.out.block k hk hne)⟩
    simp [Leaves, settle, results, results20, go_sem, q0, q1, c0, c1, c2, c3]
    exact ⟨HD.out, rfl⟩
  | ok t =>
    obtain ⟨x, q⟩ := t
    obtain ⟨v, rfl, hv⟩ := hA
    have hv0 := hv
    obtain ⟨a, n1, c1, b1, n2, c2, c, n3, c3, d, n4, c4, rfl, -⟩ := hv0
    have z0 := cell_of v1 0 _ rfl
    have z1 := cell_of v1 1 _ rfl
    have z2 := cell_of v1 2 _ rfl
    have z3 := cell_of v1 3 _ rfl
    have f0 := TBase.frozen_box v1 0
    have f1 := TBase.frozen_box v1 1
    have f2 := TBase.frozen_box v1 2
    have f3 := TBase.frozen_box v1 3
    obtain ⟨W2, hW2⟩ : ∃ W, (((W1.setCell ⟨w.heap.size, 0, none⟩ (.slice a n1 c1)).setCell ⟨w.heap.size, 1, none⟩ (.slice b1 n2 c2)).setCell ⟨w.heap.size, 2, none⟩ (.slice c n3 c3)).setCell ⟨w.heap.size, 3, none⟩ (.slice d n4 c4) = W := ⟨_, rfl⟩
    obtain ⟨v2, g2⟩ := YRgf.set4 _ _ _ _ v1 hW2
    have m2 := (g2.block (w.heap.size + 1) (by omega) (fun e => by have := Option.some.inj e; omega)).trans m1
    have e0 := cell_of m2 0 _ rfl
    have e1 := cell_of m2 1 _ rfl
    have ef0 := TBase.frozen_box m2 0
    have ef1 := TBase.frozen_box m2 1
    obtain ⟨W3, hW3⟩ : ∃ W, (W2.setCell ⟨w.heap.size + 1, 0, none⟩ (.int .i64 0)).setCell ⟨w.heap.size + 1, 1, none⟩ (.int .i64 0) = W := ⟨_, rfl⟩
    obtain ⟨m3, g3⟩ := YRgf.set2 _ _ m2 hW3
    have v3 := (g3.block w.heap.size (by have := g2.size; omega) (fun e => by have := Option.some.inj e; omega)).trans v2
    have HG3 : Hid (Gx R w W3) := gx_row (gx_row HG1.out g2 (fun r hr => by cases hr; exact Nat.le_refl _)) g3 (fun r hr => by cases hr; omega)
    have kk : TBase.Keep (Bz W1 W.heap.size) W1 W3 := fun g hg hl => have hg := hg.at'; (g3.block g (by have := g2.size; omega) (fun e => by have := Option.some.inj e; omega)).trans (g2.block g hl (fun e => by have := Option.some.inj e; omega))
    have HKK : Hid (TBase.Keep (Bz W1 W.heap.size) W1 W3) := kk
    have HKS : Hid (W1.heap.size <= W3.heap.size) := by show _ <= _; have := g2.size; have := g3.size; omega
    have HH : Hid (HvP (Bz W1 W.heap.size) W3 (.agg #[.slice a n1 c1, .slice b1 n2 c2, .slice c n3 c3, .slice d n4 c4]) x) := HvP.keep kk (fun g h => h) hv
    have l3 : W1.heap.size <= W3.heap.size := Nat.le_trans g2.size g3.size
    have M3 : Hid _ := m3
    have V3 : Hid _ := v3
    clear hv v1 m1 v2 m2 m3 v3 g2 g3
    go_wp2_with fail
    try rw [hW2]
    try rw [hW3]
    refine leaves_cons (f := 55) (args := #[.pointer (some ⟨w.heap.size + 1, 0, none⟩)]) (by simp) (by simp [go_sem]) ?_
    refine (YCa.idle_p ⟨w.heap.size + 1, 0, none⟩ W3).mono ?_
    rintro e u' w5 ⟨rfl, rfl, b5⟩
    have m5 := (b5.block (w.heap.size + 1) (by omega)).trans M3.out
    have v5 := (b5.block w.heap.size (by omega)).trans V3.out
    have y0 := cell_of m5 0 _ rfl
    have y1 := cell_of m5 1 _ rfl
    have u0 := cell_of v5 0 _ rfl
    have u1 := cell_of v5 1 _ rfl
    have u2 := cell_of v5 2 _ rfl
    have u3 := cell_of v5 3 _ rfl
    have HG5 : Hid (Gx R w w5) := Gx.trans HG3.out (Gx.of b5)
    have l5 := b5.size
    have HH5 : Hid (HvP (Bz w5 w.heap.size) w5 (.agg #[.slice a n1 c1, .slice b1 n2 c2, .slice c n3 c3, .slice d n4 c4]) x) := HvP.keep (fun g hg hl => b5.block g hl) (bz_up (fun g hg hl => (b5.block g (by have := HKS.out; omega)).trans (HKK.out g hg hl)) (by omega) (by have := HKS.out; omega)) HH.out
    simp [Leaves, settle, results, results20, go_sem, y0, y1, u0, u1, u2, u3]
    exact ⟨HG5.out, _, rfl, HH5.out⟩
end Go.Proofs.YtaiackmmmlhgbaaGreat.YDef
namespace Go.Proofs.YtaiackmmmlhgbaaGreat.YDff
open Go.RowKit YPl YWr YRr YRsf YRbf YRpf YDef
open TBase (T Keep)
def DA (a : Except (Nat × Nat) Pg) (w : World) (e : Ending) (w' : World) : Prop := Below w.heap.size w w' /\ match a with
  | .ok x => ∃ v, e = .returned (.tuple #[v, .int .i64 0, .int .i64 0]) /\ HvP (Bz w' w.heap.size) w' v x
  | .error (p, c) => e = .returned (.tuple #[p0, .int .i64 (p : Nat), .int .i64 (c : Nat)])
theorem box3 (w : World) (a b c x y z : Value) (t : TypeId) : (((w.alloc (.cells #[a, b, c] t)).setCell ⟨w.heap.size, 0, none⟩ x).setCell ⟨w.heap.size, 1, none⟩ y).setCell ⟨w.heap.size, 2, none⟩ z = w.alloc (.cells #[x, y, z] t) := by
  simp only [World.setCell, World.alloc]
  congr 1
  apply Array.ext_getElem?
  intro i
  by_cases h : i = w.heap.size
  · subst h
    simp only [Array.getElem?_modify, Array.getElem?_push_size, if_true, Option.map_some]
    rfl
  · simp only [Array.getElem?_modify, if_neg (Ne.symm h), Array.getElem?_push, if_neg h]
theorem decode_gen {w W1 : World} {ia : Option Addr} {n cap : Nat} (Q : World -> Value -> Int -> Int -> Prop) (hn : ¬ (1048576 : Int) < (n : Int))
    (hW1 : (w.alloc (.cells #[.slice none 0 0, .slice none 0 0, .slice none 0 0, .slice none 0 0] 29)).alloc (.cells #[.slice ia n cap, .int .i64 0, .int .i64 0] 50) = W1)
    (cC : Calls prog 20 #[.func (.func 21) #[ptw (w.heap.size + 1)] #[]] W1 fun e w' => Gx (w.heap.size + 1) W1 w' /\ ∃ (a1 a2 a3 a4 : Option Addr) (n1 n2 n3 n4 d1 d2 d3 d4 : Nat) (c p : Int), Q w' (.agg #[.slice a1 n1 d1, .slice a2 n2 d2, .slice a3 n3 d3, .slice a4 n4 d4]) c p /\ e = .returned (.tuple #[.agg #[.slice a1 n1 d1, .slice a2 n2 d2, .slice a3 n3 d3, .slice a4 n4 d4], .agg #[.int .i64 c, .int .i64 p]])) :
    Calls prog 6 #[.slice ia n cap] w fun e w' => ∃ v c p, e = .returned (.tuple #[v, .int .i64 p, .int .i64 c]) /\ Below w.heap.size w w' /\ ∃ W2, Q W2 v c p /\ W2.heap.size <= w'.heap.size /\ ∀ g, w.heap.size < g -> g < W2.heap.size -> w'.heap[g]? = W2.heap[g]? := by
  have hmf : ∀ (fn : Fn) (first cap : Array Value) (w : World), (Instr.makeFunc fn first cap).run prog w = .ok (.func fn first cap) w := fun _ _ _ _ => rfl
  have b1 : Below w.heap.size w W1 := by rw [<- hW1]; exact ((Below.refl _ w).alloc (Nat.le_refl _) _).alloc (by simp) _
  have s1 : W1.heap.size = w.heap.size + 2 := by rw [<- hW1]; simp
  have q0 : W1.heap[w.heap.size]? = some (.cells #[.slice none 0 0, .slice none 0 0, .slice none 0 0, .slice none 0 0] 29 (0, 0)) := by rw [<- hW1, Below.heap_alloc _ _ _ (by simp), heap_alloc_new]
  have HB1 : Hid _ := b1
  have HQ0 : Hid _ := q0
  clear b1 q0
  obtain ⟨W0, hW0⟩ : ∃ W, w.alloc (.cells #[.slice none 0 0, .slice none 0 0, .slice none 0 0, .slice none 0 0] 29) = W := ⟨_, rfl⟩
  have s0 : W0.heap.size = w.heap.size + 1 := by rw [<- hW0]; simp
  obtain ⟨Wz, hWz⟩ : ∃ W, W0.alloc (.cells #[.slice none 0 0, .int .i64 0, .int .i64 0] 50) = W := ⟨_, rfl⟩
  have nz : Wz.heap[w.heap.size + 1]? = some (.cells #[.slice none 0 0, .int .i64 0, .int .i64 0] 50 (0, 0)) := by rw [<- s0, <- hWz]; exact heap_alloc_new W0 _
  have hWs : ((Wz.setCell ⟨w.heap.size + 1, 0, none⟩ (.slice ia n cap)).setCell ⟨w.heap.size + 1, 1, none⟩ (.int .i64 0)).setCell ⟨w.heap.size + 1, 2, none⟩ (.int .i64 0) = W1 := by rw [<- hWz, <- s0, <- hW1, hW0]; exact box3 _ _ _ _ _ _ _ _
  have r0 := cell_of nz 0 _ rfl
  have r1 := cell_of nz 1 _ rfl
  have r2 := cell_of nz 2 _ rfl
  have rf0 := TBase.frozen_box nz 0
  have rf1 := TBase.frozen_box nz 1
  have rf2 := TBase.frozen_box nz 2
  clear nz hW1
  go_enter func6, ntmps6
  go_wp2_with fail
  try rw [hW0]
  try rw [hWs]
  refine cC.mono ?_
  rintro e W2 ⟨g2, a1, a2, a3, a4, n1, n2, n3, n4, d1, d2, d3, d4, c, p, hq, rfl⟩
  have l2 := g2.size
  obtain ⟨W5, hW5⟩ : ∃ W, (W2.alloc (.cells #[.slice a1 n1 d1, .slice a2 n2 d2, .slice a3 n3 d3, .slice a4 n4 d4] 29)).alloc (.cells #[.int .i64 c, .int .i64 p] 52) = W := ⟨_, rfl⟩
  have b5 : Below W2.heap.size W2 W5 := by rw [<- hW5]; exact ((Below.refl _ W2).alloc (Nat.le_refl _) _).alloc (by simp) _
  have s5 : W5.heap.size = W2.heap.size + 2 := by rw [<- hW5]; simp
  have u5 : W5.heap[W2.heap.size]? = some (.cells #[.slice a1 n1 d1, .slice a2 n2 d2, .slice a3 n3 d3, .slice a4 n4 d4] 29 (0, 0)) := by rw [<- hW5, Below.heap_alloc _ _ _ (by simp), heap_alloc_new]
  have m5 : W5.heap[W2.heap.size + 1]? = some (.cells #[.int .i64 c, .int .i64 p] 52 (0, 0)) := by
    rw [<- hW5]
    have := heap_alloc_new (W2.alloc (.cells #[.slice a1 n1 d1, .slice a2 n2 d2, .slice a3 n3 d3, .slice a4 n4 d4] 29)) (.cells #[.int .i64 c, .int .i64 p] 52)
    rwa [World.size_alloc] at this
  have v5 := (b5.block w.heap.size (by omega)).trans ((g2.block w.heap.size (by omega) (fun e => by have := Option.some.inj e; omega)).trans HQ0.out)
  have d0 := cell_of v5 0 _ rfl
  have d1' := cell_of v5 1 _ rfl
  have d2' := cell_of v5 2 _ rfl
  have d3' := cell_of v5 3 _ rfl
  have e0 := cell_of u5 0 _ rfl
  have e1 := cell_of u5 1 _ rfl
  have e2 := cell_of u5 2 _ rfl
  have e3 := cell_of u5 3 _ rfl
  have m0 := cell_of m5 0 _ rfl
  have m1 := cell_of m5 1 _ rfl
  have f0 := TBase.frozen_box v5 0
  have f1 := TBase.frozen_box v5 1
  have f2 := TBase.frozen_box v5 2
  have f3 := TBase.frozen_box v5 3
  have n1' : w.heap.size ≠ W2.heap.size := by omega
  have n2' : W2.heap.size ≠ w.heap.size := by omega
  have n3' : w.heap.size ≠ W2.heap.size + 1 := by omega
  have n4' : W2.heap.size + 1 ≠ w.heap.size := by omega
  have HV5 : Hid _ := v5
  have HB5 : Hid (Below W2.heap.size W2 W5) := b5
  have HQ : Hid _ := hq
  have HG2 : Hid (Gx (w.heap.size + 1) W1 W2) := g2
  clear cC g2 hq v5 u5 m5 b5 hW0 hWz hWs r0 r1 r2 rf0 rf1 rf2 s0
  go_wp2_with fail
  try rw [hW5]
  clear hW5
  go_region
  obtain ⟨W6, hW6⟩ : ∃ W6, ((((W5.setCell ⟨w.heap.size, 0, none⟩ (.slice a1 n1 d1)).setCell ⟨w.heap.size, 1, none⟩ (.slice a2 n2 d2)).setCell ⟨w.heap.size, 2, none⟩ (.slice a3 n3 d3)).setCell ⟨w.heap.size, 3, none⟩ (.slice a4 n4 d4)) = W6 := ⟨_, rfl⟩
  rw [hW6]
  obtain ⟨q1, g6⟩ := YRgf.set4 _ _ _ _ HV5.out hW6
  go_wp2_with fail
  have v6 : W6.drew.heap[w.heap.size]? = _ := q1
  have p0 := cell_of v6 0 _ rfl
  have p1 := cell_of v6 1 _ rfl
  have p2 := cell_of v6 2 _ rfl
  have p3 := cell_of v6 3 _ rfl
  refine bodyPost_ret (v := .tuple #[.agg #[.slice a1 n1 d1, .slice a2 n2 d2, .slice a3 n3 d3, .slice a4 n4 d4], .int .i64 p, .int .i64 c]) (by simp [results, results6, go_sem, p0, p1, p2, p3]) rfl ?_
  have l6 := g6.size
  refine ⟨_, _, _, rfl, ?_, W2, HQ.out, by show _ <= W6.heap.size; omega, fun g h1 h2 => ?_⟩
  · have k1 : Below w.heap.size W1 W2 := HG2.out.below (by omega) (by omega)
    have k2 : Below w.heap.size W5 W6 := ⟨g6.os, g6.tape, g6.output, g6.size, fun k hk => g6.block k (by omega) (fun e => by have := Option.some.inj e; omega)⟩
    exact (((HB1.out.trans k1).trans (HB5.out.mono (by omega))).trans k2).drew
  · show W6.heap[g]? = _
    exact (g6.block g (by omega) (fun e => by have := Option.some.inj e; omega)).trans (HB5.out.block g h2)
end Go.Proofs.YtaiackmmmlhgbaaGreat.YDff
namespace Go.Proofs.YtaiackmmmlhgbaaGreat.YDcf
open Go.RowKit Leb YPl YRd YRr YRsf YRbf YRpf YDef YDff
open TBase (T Keep)
theorem decode_long {w : World} {ia : Option Addr} {n cap : Nat} (hn : (1048576 : Int) < (n : Int)) :
    Calls prog 6 #[.slice ia n cap] w fun e w' => e = .returned (.tuple #[p0, .int .i64 0, .int .i64 2101]) /\ Below w.heap.size w w' := by
  obtain ⟨W0, hW0⟩ : ∃ W, w.alloc (.cells #[.slice none 0 0, .slice none 0 0, .slice none 0 0, .slice none 0 0] 29) = W := ⟨_, rfl⟩
  have b0 : Below w.heap.size w W0 := by rw [<- hW0]; exact (Below.refl _ w).alloc (Nat.le_refl _) _
  have g0 : W0.heap[w.heap.size]? = some (.cells #[.slice none 0 0, .slice none 0 0, .slice none 0 0, .slice none 0 0] 29 (0, 0)) := by rw [<- hW0]; exact heap_alloc_new w _
  have z0 := cell_of g0 0 _ rfl
  have z1 := cell_of g0 1 _ rfl
  have z2 := cell_of g0 2 _ rfl
  have z3 := cell_of g0 3 _ rfl
  have f0 := TBase.frozen_box g0 0
  have f1 := TBase.frozen_box g0 1
  have f2 := TBase.frozen_box g0 2
  have f3 := TBase.frozen_box g0 3
  obtain ⟨W6, hW6⟩ : ∃ W6, ((((W0.setCell ⟨w.heap.size, 0, none⟩ (.slice none 0 0)).setCell ⟨w.heap.size, 1, none⟩ (.slice none 0 0)).setCell ⟨w.heap.size, 2, none⟩ (.slice none 0 0)).setCell ⟨w.heap.size, 3, none⟩ (.slice none 0 0)) = W6 := ⟨_, rfl⟩
  obtain ⟨q1, g6⟩ := YRgf.set4 _ _ _ _ g0 hW6
  have p0 := cell_of q1 0 _ rfl
  have p1 := cell_of q1 1 _ rfl
  have p2 := cell_of q1 2 _ rfl
  have p3 := cell_of q1 3 _ rfl
  have HB : Hid (Below w.heap.size w W6) := b0.trans ⟨g6.os, g6.tape, g6.output, g6.size, fun k hk => g6.block k (by have := b0.size; omega) (fun e => by have := Option.some.inj e; omega)⟩
  clear b0 g0 q1 g6
  go_enter func6, ntmps6
  go_wp2_with fail
  try rw [hW0]
  try rw [hW6]
  refine bodyPost_ret (v := .tuple #[YDef.p0, .int .i64 0, .int .i64 2101]) (by simp [results, results6, go_sem, p0, p1, p2, p3]) rfl ?_
  exact ⟨rfl, HB.out⟩
theorem decode_c {w : World} {ia : Option Addr} {n cap : Nat} {b : By} (hS : Seen w (.slice ia n cap) b) (hl : ∀ g, ia = some g -> g.block < w.heap.size) :
    Calls prog 6 #[.slice ia n cap] w fun e w' => DA (dec b) w e w' := by
  have hnb : n = b.length := by obtain ⟨a, c, e, -⟩ := hS; cases e; rfl
  by_cases hn : 1048576 < b.length
  · refine (decode_long (ia := ia) (n := n) (cap := cap) (w := w) (by omega)).mono ?_
    rintro e w' ⟨rfl, hb⟩
    rw [show dec b = .error (0, 2101) by unfold dec; rw [if_pos hn]]
    exact ⟨hb, rfl⟩
  obtain ⟨W1, hW1⟩ : ∃ W, (w.alloc (.cells #[.slice none 0 0, .slice none 0 0, .slice none 0 0, .slice none 0 0] 29)).alloc (.cells #[.slice ia n cap, .int .i64 0, .int .i64 0] 50) = W := ⟨_, rfl⟩
  have b1 : Below w.heap.size w W1 := by rw [<- hW1]; exact ((Below.refl _ w).alloc (Nat.le_refl _) _).alloc (by simp) _
  have s1 : W1.heap.size = w.heap.size + 2 := by rw [<- hW1]; simp
  have q1 : W1.heap[w.heap.size + 1]? = some (.cells #[.slice ia n cap, .int .i64 0, .int .i64 0] 50 (0, 0)) := by
    rw [<- hW1]
    have := heap_alloc_new (w.alloc (.cells #[.slice none 0 0, .slice none 0 0, .slice none 0 0, .slice none 0 0] 29)) (.cells #[.slice ia n cap, .int .i64 0, .int .i64 0] 50)
    rwa [World.size_alloc] at this
  have hR : Rb w.heap.size W1 (w.heap.size + 1) b 0 0 := ⟨by omega, by omega, by omega, by omega, by omega, ia, n, cap, q1, seen_low hS hl b1, hl⟩
  have cC := caught_c hR
  obtain ⟨A, hA⟩ : ∃ A, rprg b = A := ⟨_, rfl⟩
  rw [hA] at cC
  cases A with
  | error q =>
    rw [show dec b = .error (q, 2100) by unfold dec; rw [if_neg hn, hA]]
    refine (decode_gen (fun _ v c p => v = p0 /\ c = 2100 /\ p = (q : Nat)) (by omega) hW1 (cC.mono ?_)).mono ?_
    · rintro e w' ⟨g, he⟩
      exact ⟨g, none, none, none, none, 0, 0, 0, 0, 0, 0, 0, 0, _, _, ⟨rfl, rfl, rfl⟩, he⟩
    · rintro e w' ⟨v, c, p, rfl, hb, W2, ⟨rfl, rfl, rfl⟩, -⟩
      exact ⟨hb, rfl⟩
  | ok t =>
    obtain ⟨x, q⟩ := t
    rw [show dec b = .ok x by unfold dec; rw [if_neg hn, hA]]
    refine (decode_gen (fun W v c p => c = 0 /\ p = 0 /\ HvP (Bz W W1.heap.size) W v x) (by omega) hW1 (cC.mono ?_)).mono ?_
    · rintro e w' ⟨g, v, rfl, hv⟩
      have hv0 := hv
      obtain ⟨a, n1, c1, b1, n2, c2, c, n3, c3, d, n4, c4, rfl, -⟩ := hv0
      exact ⟨g, a, b1, c, d, n1, n2, n3, n4, c1, c2, c3, c4, 0, 0, ⟨rfl, rfl, hv⟩, rfl⟩
    · rintro e w' ⟨v, c, p, rfl, hb, W2, ⟨rfl, rfl, hv⟩, hs, hk⟩
      exact ⟨hb, v, rfl, HvP.keep (fun g hg hl => hk g (by have := hg.at'; omega) hl) (bz_up (fun g hg hl => hk g (by have := hg.at'; omega) hl) (by omega) (by omega)) hv⟩
end Go.Proofs.YtaiackmmmlhgbaaGreat.YDcf
