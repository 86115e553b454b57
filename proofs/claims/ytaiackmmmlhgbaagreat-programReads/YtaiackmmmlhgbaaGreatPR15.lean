import Derived.Test.YtaiackmmmlhgbaaGreatPR10
import Derived.Test.YtaiackmmmlhgbaaGreatPR11
open Go.Proofs.Tryz
set_option linter.unusedVariables false
set_option maxRecDepth 20000
set_option maxHeartbeats 3200000
namespace Go.Proofs.YtaiackmmmlhgbaaGreat.YRg
open Go.RowKit YPl YRd YWr YRr YRs YRb YRl
theorem set2 {W W' : World} {B : Nat} {t : TypeId} {y0 y1 : Value} (x0 x1 : Value) (h : W.heap[B]? = some (.cells #[y0, y1] t (0, 0))) (hW : (W.setCell ⟨B, 0, none⟩ x0).setCell ⟨B, 1, none⟩ x1 = W') : W'.heap[B]? = some (.cells #[x0, x1] t (0, 0)) /\ W.grownBy W' (some B) := by
  subst hW
  refine ⟨by rw [YCb.block_set (YCb.block_set h _) _]; rfl, ⟨rfl, rfl, rfl, by simp [World.setCell], fun k hk hne => ?_⟩⟩
  have hk' : k ≠ B := fun e => hne (by rw [e])
  rw [Below.heap_setCell _ _ _ _ hk', Below.heap_setCell _ _ _ _ hk']
theorem set3 {W W' : World} {B : Nat} {t : TypeId} {y0 y1 y2 : Value} (x0 x1 x2 : Value) (h : W.heap[B]? = some (.cells #[y0, y1, y2] t (0, 0))) (hW : ((W.setCell ⟨B, 0, none⟩ x0).setCell ⟨B, 1, none⟩ x1).setCell ⟨B, 2, none⟩ x2 = W') : W'.heap[B]? = some (.cells #[x0, x1, x2] t (0, 0)) /\ W.grownBy W' (some B) := by
  subst hW
  refine ⟨by rw [YCb.block_set (YCb.block_set (YCb.block_set h _) _) _]; rfl, ⟨rfl, rfl, rfl, by simp [World.setCell], fun k hk hne => ?_⟩⟩
  have hk' : k ≠ B := fun e => hne (by rw [e])
  rw [Below.heap_setCell _ _ _ _ hk', Below.heap_setCell _ _ _ _ hk', Below.heap_setCell _ _ _ _ hk']
theorem set5 {W W' : World} {B : Nat} {t : TypeId} {y0 y1 y2 y3 y4 : Value} (x0 x1 x2 x3 x4 : Value) (h : W.heap[B]? = some (.cells #[y0, y1, y2, y3, y4] t (0, 0))) (hW : ((((W.setCell ⟨B, 0, none⟩ x0).setCell ⟨B, 1, none⟩ x1).setCell ⟨B, 2, none⟩ x2).setCell ⟨B, 3, none⟩ x3).setCell ⟨B, 4, none⟩ x4 = W') : W'.heap[B]? = some (.cells #[x0, x1, x2, x3, x4] t (0, 0)) /\ W.grownBy W' (some B) := by
  subst hW
  refine ⟨by rw [YCb.block_set (YCb.block_set (YCb.block_set (YCb.block_set (YCb.block_set h _) _) _) _) _]; rfl, ⟨rfl, rfl, rfl, by simp [World.setCell], fun k hk hne => ?_⟩⟩
  have hk' : k ≠ B := fun e => hne (by rw [e])
  rw [Below.heap_setCell _ _ _ _ hk', Below.heap_setCell _ _ _ _ hk', Below.heap_setCell _ _ _ _ hk', Below.heap_setCell _ _ _ _ hk', Below.heap_setCell _ _ _ _ hk']
theorem set4 {W W' : World} {B : Nat} {t : TypeId} {y0 y1 y2 y3 : Value} (x0 x1 x2 x3 : Value) (h : W.heap[B]? = some (.cells #[y0, y1, y2, y3] t (0, 0))) (hW : (((W.setCell ⟨B, 0, none⟩ x0).setCell ⟨B, 1, none⟩ x1).setCell ⟨B, 2, none⟩ x2).setCell ⟨B, 3, none⟩ x3 = W') : W'.heap[B]? = some (.cells #[x0, x1, x2, x3] t (0, 0)) /\ W.grownBy W' (some B) := by
  subst hW
  refine ⟨by rw [YCb.block_set (YCb.block_set (YCb.block_set (YCb.block_set h _) _) _) _]; rfl, ⟨rfl, rfl, rfl, by simp [World.setCell], fun k hk hne => ?_⟩⟩
  have hk' : k ≠ B := fun e => hne (by rw [e])
  rw [Below.heap_setCell _ _ _ _ hk', Below.heap_setCell _ _ _ _ hk', Below.heap_setCell _ _ _ _ hk', Below.heap_setCell _ _ _ _ hk']
theorem inst_c {K R p k : Nat} {w : World} {b : By} (h : Rb K w R b p k) :
    Calls prog 109 #[ptw R] w fun e w' => RA K R b k (VA HdN) (rins b p) w e w' := by
  have hmf : ∀ (fn : Fn) (first cap : Array Value) (w : World), (Instr.makeFunc fn first cap).run prog w = .ok (.func fn first cap) w := fun _ _ _ _ => rfl
  have hRlt := h.lt
  obtain ⟨W0, hW0⟩ : ∃ W, w.alloc (.cells #[.int .i64 0, .int .i64 0] 65) = W := ⟨_, rfl⟩
  have b0 : Below w.heap.size w W0 := by rw [<- hW0]; exact (Below.refl _ w).alloc (Nat.le_refl _) _
  have s0 : w.heap.size < W0.heap.size := by rw [<- hW0]; simp
  have g0 : W0.heap[w.heap.size]? = some (.cells #[.int .i64 0, .int .i64 0] 65 (0, 0)) := by rw [<- hW0]; exact heap_alloc_new w _
  have G0 : Hid (Gx R w W0 /\ Gx R W0 W0 /\ Rb K W0 R b p k) := ⟨Gx.of b0, Gx.refl _ _, Rb.below h b0⟩
  have HZ : Hid (∀ W, Gx R W0 W -> W.heap[w.heap.size]? = some (.cells #[.int .i64 0, .int .i64 0] 65 (0, 0))) := fun W hg => (hg.block _ s0 (fun e => by cases e; omega)).trans g0
  have hs0 : w.heap.size < W0.heap.size := s0
  clear h b0 g0
  go_enter func109, ntmps109
  have c0 := octet_c G0.out.2.2
  go_wp2_with fail
  try rw [hW0]
  refine c0.mono ?_
  rintro e W1 ⟨q1, hA⟩
  cases hE0 : roct b p with
  | error z =>
    rw [hE0] at hA
    obtain rfl := hA
    exact ⟨rfl, by rw [show rins b p = .error z by simp only [rins, hE0, bnd]]; exact ⟨Gx.trans G0.out.1 q1, rfl⟩⟩
  | ok t =>
  obtain ⟨x0, p1⟩ := t
  rw [hE0] at hA
  obtain ⟨v0, rfl, hv0, hR0⟩ := hA
  obtain ⟨rfl, hb0⟩ := hv0
  have G1 : Hid (Gx R w W1 /\ Gx R W0 W1 /\ Rb K W1 R b p1 k) := ⟨Gx.trans G0.out.1 q1, Gx.trans G0.out.2.1 q1, hR0⟩
  have Q1 : Hid (Gx R W0 W1) := q1
  clear hR0 q1 c0
  have c1 := whole_c G1.out.2.2
  go_wp2_with fail
  try rw [hW0]
  refine c1.mono ?_
  rintro e W2 ⟨q2, hA⟩
  cases hE1 : rwhl b p1 with
  | error z =>
    rw [hE1] at hA
    obtain rfl := hA
    exact ⟨rfl, by rw [show rins b p = .error z by simp only [rins, hE0, hE1, bnd]]; exact ⟨Gx.trans G1.out.1 q2, rfl⟩⟩
  | ok t =>
  obtain ⟨x1, p2⟩ := t
  rw [hE1] at hA
  obtain ⟨v1, rfl, hv1, hR1⟩ := hA
  obtain ⟨rfl, hb1⟩ := hv1
  have G2 : Hid (Gx R w W2 /\ Gx R W0 W2 /\ Rb K W2 R b p2 k) := ⟨Gx.trans G1.out.1 q2, Gx.trans G1.out.2.1 q2, hR1⟩
  have Q2 : Hid (Gx R W1 W2) := q2
  clear hR1 q2 c1
  have hz := HZ.out W2 G2.out.2.1
  have z0 := cell_of hz 0 _ rfl
  have f0 := TBase.frozen_box hz 0
  have z1 := cell_of hz 1 _ rfl
  have f1 := TBase.frozen_box hz 1
  obtain ⟨W9, hW9⟩ : ∃ W, (W2.setCell ⟨w.heap.size, 0, none⟩ (.int .i64 x0)).setCell ⟨w.heap.size, 1, none⟩ (.int .i64 x1) = W := ⟨_, rfl⟩
  obtain ⟨hn, hg9⟩ := set2 _ _ hz hW9
  have HN : Hid _ := hn
  have HG9 : Hid (Gx R w W9) := gx_row G2.out.1 hg9 (fun r hr => by cases hr; exact Nat.le_refl _)
  have HR9 : Hid (Rb K W9 R b p2 k) := Rb.row (lo := w.heap.size) G2.out.2.2 hg9 hRlt (fun r hr => by cases hr; exact Nat.le_refl _)
  clear hz hn hg9
  go_wp2_with fail
  try rw [hW9]
  refine bodyPost_ret (results_cell_row rfl _ W9 w.heap.size 65 _ (0, 0) _ rfl HN.out underlying65 rfl (by kernel_rfl)) rfl ?_
  rw [show rins b p = .ok ((x0, x1), p2) by simp only [rins, hE0, hE1, bnd]]
  exact ⟨HG9.out, _, rfl, ⟨_, rfl, rfl, hb0, hb1⟩, HR9.out⟩
theorem attr_c {K R p k : Nat} {w : World} {b : By} (h : Rb K w R b p k) :
    Calls prog 163 #[ptw R] w fun e w' => RA K R b k (VA HdA) (ratt b p) w e w' := by
  have hmf : ∀ (fn : Fn) (first cap : Array Value) (w : World), (Instr.makeFunc fn first cap).run prog w = .ok (.func fn first cap) w := fun _ _ _ _ => rfl
  have hRlt := h.lt
  obtain ⟨W0, hW0⟩ : ∃ W, w.alloc (.cells #[.string ⟨#[]⟩, .string ⟨#[]⟩] 124) = W := ⟨_, rfl⟩
  have b0 : Below w.heap.size w W0 := by rw [<- hW0]; exact (Below.refl _ w).alloc (Nat.le_refl _) _
  have s0 : w.heap.size < W0.heap.size := by rw [<- hW0]; simp
  have g0 : W0.heap[w.heap.size]? = some (.cells #[.string ⟨#[]⟩, .string ⟨#[]⟩] 124 (0, 0)) := by rw [<- hW0]; exact heap_alloc_new w _
  have G0 : Hid (Gx R w W0 /\ Gx R W0 W0 /\ Rb K W0 R b p k) := ⟨Gx.of b0, Gx.refl _ _, Rb.below h b0⟩
  have HZ : Hid (∀ W, Gx R W0 W -> W.heap[w.heap.size]? = some (.cells #[.string ⟨#[]⟩, .string ⟨#[]⟩] 124 (0, 0))) := fun W hg => (hg.block _ s0 (fun e => by cases e; omega)).trans g0
  have hs0 : w.heap.size < W0.heap.size := s0
  clear h b0 g0
  go_enter func163, ntmps163
  have c0 := YRx.text_c G0.out.2.2
  go_wp2_with fail
  try rw [hW0]
  refine c0.mono ?_
  rintro e W1 ⟨q1, hA⟩
  cases hE0 : rtxt b p with
  | error z =>
    rw [hE0] at hA
    obtain rfl := hA
    exact ⟨rfl, by rw [show ratt b p = .error z by simp only [ratt, hE0, bnd]]; exact ⟨Gx.trans G0.out.1 q1, rfl⟩⟩
  | ok t =>
  obtain ⟨x0, p1⟩ := t
  rw [hE0] at hA
  obtain ⟨v0, rfl, hv0, hR0⟩ := hA
  obtain ⟨rfl, hb0⟩ := hv0
  have G1 : Hid (Gx R w W1 /\ Gx R W0 W1 /\ Rb K W1 R b p1 k) := ⟨Gx.trans G0.out.1 q1, Gx.trans G0.out.2.1 q1, hR0⟩
  have Q1 : Hid (Gx R W0 W1) := q1
  clear hR0 q1 c0
  have c1 := YRx.text_c G1.out.2.2
  go_wp2_with fail
  try rw [hW0]
  refine c1.mono ?_
  rintro e W2 ⟨q2, hA⟩
  cases hE1 : rtxt b p1 with
  | error z =>
    rw [hE1] at hA
    obtain rfl := hA
    exact ⟨rfl, by rw [show ratt b p = .error z by simp only [ratt, hE0, hE1, bnd]]; exact ⟨Gx.trans G1.out.1 q2, rfl⟩⟩
  | ok t =>
  obtain ⟨x1, p2⟩ := t
  rw [hE1] at hA
  obtain ⟨v1, rfl, hv1, hR1⟩ := hA
  obtain ⟨rfl, hb1⟩ := hv1
  have G2 : Hid (Gx R w W2 /\ Gx R W0 W2 /\ Rb K W2 R b p2 k) := ⟨Gx.trans G1.out.1 q2, Gx.trans G1.out.2.1 q2, hR1⟩
  have Q2 : Hid (Gx R W1 W2) := q2
  clear hR1 q2 c1
  have hz := HZ.out W2 G2.out.2.1
  have z0 := cell_of hz 0 _ rfl
  have f0 := TBase.frozen_box hz 0
  have z1 := cell_of hz 1 _ rfl
  have f1 := TBase.frozen_box hz 1
  obtain ⟨W9, hW9⟩ : ∃ W, (W2.setCell ⟨w.heap.size, 0, none⟩ (.string x0)).setCell ⟨w.heap.size, 1, none⟩ (.string x1) = W := ⟨_, rfl⟩
  obtain ⟨hn, hg9⟩ := set2 _ _ hz hW9
  have HN : Hid _ := hn
  have HG9 : Hid (Gx R w W9) := gx_row G2.out.1 hg9 (fun r hr => by cases hr; exact Nat.le_refl _)
  have HR9 : Hid (Rb K W9 R b p2 k) := Rb.row (lo := w.heap.size) G2.out.2.2 hg9 hRlt (fun r hr => by cases hr; exact Nat.le_refl _)
  clear hz hn hg9
  go_wp2_with fail
  try rw [hW9]
  refine bodyPost_ret (results_cell_row rfl _ W9 w.heap.size 124 _ (0, 0) _ rfl HN.out underlying124 rfl (by kernel_rfl)) rfl ?_
  rw [show ratt b p = .ok ((x0, x1), p2) by simp only [ratt, hE0, hE1, bnd]]
  exact ⟨HG9.out, _, rfl, ⟨_, rfl, rfl, Nat.le_trans hb0 (by omega), Nat.le_trans hb1 (by omega)⟩, HR9.out⟩
theorem op_c {K R p k : Nat} {w : World} {b : By} (h : Rb K w R b p k) :
    Calls prog 112 #[ptw R] w fun e w' => RA K R b k (VA HdO) (ropc b p) w e w' := by
  have hmf : ∀ (fn : Fn) (first cap : Array Value) (w : World), (Instr.makeFunc fn first cap).run prog w = .ok (.func fn first cap) w := fun _ _ _ _ => rfl
  have hRlt := h.lt
  obtain ⟨W0, hW0⟩ : ∃ W, w.alloc (.cells #[.int .i64 0, .int .i64 0, .int .i64 0, .int .i64 0, .slice none 0 0] 127) = W := ⟨_, rfl⟩
  have b0 : Below w.heap.size w W0 := by rw [<- hW0]; exact (Below.refl _ w).alloc (Nat.le_refl _) _
  have s0 : w.heap.size < W0.heap.size := by rw [<- hW0]; simp
  have g0 : W0.heap[w.heap.size]? = some (.cells #[.int .i64 0, .int .i64 0, .int .i64 0, .int .i64 0, .slice none 0 0] 127 (0, 0)) := by rw [<- hW0]; exact heap_alloc_new w _
  have G0 : Hid (Gx R w W0 /\ Gx R W0 W0 /\ Rb K W0 R b p k) := ⟨Gx.of b0, Gx.refl _ _, Rb.below h b0⟩
  have HZ : Hid (∀ W, Gx R W0 W -> W.heap[w.heap.size]? = some (.cells #[.int .i64 0, .int .i64 0, .int .i64 0, .int .i64 0, .slice none 0 0] 127 (0, 0))) := fun W hg => (hg.block _ s0 (fun e => by cases e; omega)).trans g0
  have hs0 : w.heap.size < W0.heap.size := s0
  clear h b0 g0
  go_enter func112, ntmps112
  have c0 := octet_c G0.out.2.2
  go_wp2_with fail
  try rw [hW0]
  refine c0.mono ?_
  rintro e W1 ⟨q1, hA⟩
  cases hE0 : roct b p with
  | error z =>
    rw [hE0] at hA
    obtain rfl := hA
    exact ⟨rfl, by rw [show ropc b p = .error z by simp only [ropc, hE0, bnd]]; exact ⟨Gx.trans G0.out.1 q1, rfl⟩⟩
  | ok t =>
  obtain ⟨x0, p1⟩ := t
  rw [hE0] at hA
  obtain ⟨v0, rfl, hv0, hR0⟩ := hA
  obtain ⟨rfl, hb0⟩ := hv0
  have G1 : Hid (Gx R w W1 /\ Gx R W0 W1 /\ Rb K W1 R b p1 k) := ⟨Gx.trans G0.out.1 q1, Gx.trans G0.out.2.1 q1, hR0⟩
  have Q1 : Hid (Gx R W0 W1) := q1
  clear hR0 q1 c0
  have c1 := whole_c G1.out.2.2
  go_wp2_with fail
  try rw [hW0]
  refine c1.mono ?_
  rintro e W2 ⟨q2, hA⟩
  cases hE1 : rwhl b p1 with
  | error z =>
    rw [hE1] at hA
    obtain rfl := hA
    exact ⟨rfl, by rw [show ropc b p = .error z by simp only [ropc, hE0, hE1, bnd]]; exact ⟨Gx.trans G1.out.1 q2, rfl⟩⟩
  | ok t =>
  obtain ⟨x1, p2⟩ := t
  rw [hE1] at hA
  obtain ⟨v1, rfl, hv1, hR1⟩ := hA
  obtain ⟨rfl, hb1⟩ := hv1
  have G2 : Hid (Gx R w W2 /\ Gx R W0 W2 /\ Rb K W2 R b p2 k) := ⟨Gx.trans G1.out.1 q2, Gx.trans G1.out.2.1 q2, hR1⟩
  have Q2 : Hid (Gx R W1 W2) := q2
  clear hR1 q2 c1
  have c2 := whole_c G2.out.2.2
  go_wp2_with fail
  try rw [hW0]
  refine c2.mono ?_
  rintro e W3 ⟨q3, hA⟩
  cases hE2 : rwhl b p2 with
  | error z =>
    rw [hE2] at hA
    obtain rfl := hA
    exact ⟨rfl, by rw [show ropc b p = .error z by simp only [ropc, hE0, hE1, hE2, bnd]]; exact ⟨Gx.trans G2.out.1 q3, rfl⟩⟩
  | ok t =>
  obtain ⟨x2, p3⟩ := t
  rw [hE2] at hA
  obtain ⟨v2, rfl, hv2, hR2⟩ := hA
  obtain ⟨rfl, hb2⟩ := hv2
  have G3 : Hid (Gx R w W3 /\ Gx R W0 W3 /\ Rb K W3 R b p3 k) := ⟨Gx.trans G2.out.1 q3, Gx.trans G2.out.2.1 q3, hR2⟩
  have Q3 : Hid (Gx R W2 W3) := q3
  clear hR2 q3 c2
  have c3 := whole_c G3.out.2.2
  go_wp2_with fail
  try rw [hW0]
  refine c3.mono ?_
  rintro e W4 ⟨q4, hA⟩
  cases hE3 : rwhl b p3 with
  | error z =>
    rw [hE3] at hA
    obtain rfl := hA
    exact ⟨rfl, by rw [show ropc b p = .error z by simp only [ropc, hE0, hE1, hE2, hE3, bnd]]; exact ⟨Gx.trans G3.out.1 q4, rfl⟩⟩
  | ok t =>
  obtain ⟨x3, p4⟩ := t
  rw [hE3] at hA
  obtain ⟨v3, rfl, hv3, hR3⟩ := hA
  obtain ⟨rfl, hb3⟩ := hv3
  have G4 : Hid (Gx R w W4 /\ Gx R W0 W4 /\ Rb K W4 R b p4 k) := ⟨Gx.trans G3.out.1 q4, Gx.trans G3.out.2.1 q4, hR3⟩
  have Q4 : Hid (Gx R W3 W4) := q4
  clear hR3 q4 c3
  have c4 := YRe.rl_i 64 (by omega) (rwhl b) G4.out.2.2 (show _ from fun W q h _ => whole_c h)
  go_wp2_with fail
  try rw [hW0]
  refine c4.mono ?_
  rintro e W5 ⟨q5, hA⟩
  cases hE4 : rlst 64 (rwhl b) b p4 with
  | error z =>
    rw [hE4] at hA
    obtain rfl := hA
    exact ⟨rfl, by rw [show ropc b p = .error z by simp only [ropc, hE0, hE1, hE2, hE3, hE4, bnd]]; exact ⟨Gx.trans G4.out.1 q5, rfl⟩⟩
  | ok t =>
  obtain ⟨x4, p5⟩ := t
  rw [hE4] at hA
  obtain ⟨v4, rfl, hv4, hR4⟩ := hA
  have HV4 : Hid _ := hv4
  obtain ⟨a4, m4, d4, rfl⟩ := RrS.slice hv4
  clear hv4
  have G5 : Hid (Gx R w W5 /\ Gx R W0 W5 /\ Rb K W5 R b p5 k) := ⟨Gx.trans G4.out.1 q5, Gx.trans G4.out.2.1 q5, hR4⟩
  have Q5 : Hid (Gx R W4 W5) := q5
  clear hR4 q5 c4
  have hz := HZ.out W5 G5.out.2.1
  have z0 := cell_of hz 0 _ rfl
  have f0 := TBase.frozen_box hz 0
  have z1 := cell_of hz 1 _ rfl
  have f1 := TBase.frozen_box hz 1
  have z2 := cell_of hz 2 _ rfl
  have f2 := TBase.frozen_box hz 2
  have z3 := cell_of hz 3 _ rfl
  have f3 := TBase.frozen_box hz 3
  have z4 := cell_of hz 4 _ rfl
  have f4 := TBase.frozen_box hz 4
  obtain ⟨W9, hW9⟩ : ∃ W, ((((W5.setCell ⟨w.heap.size, 0, none⟩ (.int .i64 x0)).setCell ⟨w.heap.size, 1, none⟩ (.int .i64 x1)).setCell ⟨w.heap.size, 2, none⟩ (.int .i64 x2)).setCell ⟨w.heap.size, 3, none⟩ (.int .i64 x3)).setCell ⟨w.heap.size, 4, none⟩ (.slice a4 m4 d4) = W := ⟨_, rfl⟩
  obtain ⟨hn, hg9⟩ := set5 _ _ _ _ _ hz hW9
  have HN : Hid _ := hn
  have HG9 : Hid (Gx R w W9) := gx_row G5.out.1 hg9 (fun r hr => by cases hr; exact Nat.le_refl _)
  have HR9 : Hid (Rb K W9 R b p5 k) := Rb.row (lo := w.heap.size) G5.out.2.2 hg9 hRlt (fun r hr => by cases hr; exact Nat.le_refl _)
  have HK4 : Hid (RrS 1 LyI (fun g => w.heap.size <= g /\ g < W9.heap.size) W9 (.slice a4 m4 d4) x4) := by
    have gx : Gx R W5 W5 := Gx.refl R _
    have l0 : W0.heap.size <= W4.heap.size := G4.out.2.1.size
    have l9 := hg9.size
    have ln := gx.size
    have kp : TBase.Keep (fun g => W4.heap.size <= g /\ g < W5.heap.size) W5 W9 := fun g hg hl => (hg9.block g (by omega) (fun e => by cases e; omega)).trans (gx.block g hl (fun e => by cases e; omega))
    have up : ∀ g, (W4.heap.size <= g /\ g < W5.heap.size) -> (w.heap.size <= g /\ g < W9.heap.size) := fun g hg => by constructor <;> omega
    exact RrS.keep HV4.out up fun g o x _ hg h => kI (S := fun g => W4.heap.size <= g /\ g < W5.heap.size) kp hg h
  clear hz hn hg9
  go_wp2_with fail
  try rw [hW9]
  refine bodyPost_ret (results_cell_row rfl _ W9 w.heap.size 127 _ (0, 0) _ rfl HN.out underlying127 rfl (by kernel_rfl)) rfl ?_
  rw [show ropc b p = .ok (⟨x0, x1, x2, x3, x4⟩, p5) by simp only [ropc, hE0, hE1, hE2, hE3, hE4, bnd]]
  exact ⟨HG9.out, _, rfl, ⟨_, rfl, _, rfl, ⟨hb0, hb1, hb2, hb3⟩, HK4.out⟩, HR9.out⟩
theorem block_c {K R p k : Nat} {w : World} {b : By} (h : Rb K w R b p k) :
    Calls prog 65 #[ptw R] w fun e w' => RA K R b k (VA HdB) (rblk b p) w e w' := by
  have hmf : ∀ (fn : Fn) (first cap : Array Value) (w : World), (Instr.makeFunc fn first cap).run prog w = .ok (.func fn first cap) w := fun _ _ _ _ => rfl
  have hRlt := h.lt
  obtain ⟨W0, hW0⟩ : ∃ W, w.alloc (.cells #[.int .i64 0, .slice none 0 0, .slice none 0 0] 74) = W := ⟨_, rfl⟩
  have b0 : Below w.heap.size w W0 := by rw [<- hW0]; exact (Below.refl _ w).alloc (Nat.le_refl _) _
  have s0 : w.heap.size < W0.heap.size := by rw [<- hW0]; simp
  have g0 : W0.heap[w.heap.size]? = some (.cells #[.int .i64 0, .slice none 0 0, .slice none 0 0] 74 (0, 0)) := by rw [<- hW0]; exact heap_alloc_new w _
  have G0 : Hid (Gx R w W0 /\ Gx R W0 W0 /\ Rb K W0 R b p k) := ⟨Gx.of b0, Gx.refl _ _, Rb.below h b0⟩
  have HZ : Hid (∀ W, Gx R W0 W -> W.heap[w.heap.size]? = some (.cells #[.int .i64 0, .slice none 0 0, .slice none 0 0] 74 (0, 0))) := fun W hg => (hg.block _ s0 (fun e => by cases e; omega)).trans g0
  have hs0 : w.heap.size < W0.heap.size := s0
  clear h b0 g0
  go_enter func65, ntmps65
  have c0 := YRb.count_c 64 (by omega) G0.out.2.2
  go_wp2_with fail
  try rw [hW0]
  refine c0.mono ?_
  rintro e W1 ⟨q1, hA⟩
  cases hE0 : rcnt 64 b p with
  | error z =>
    rw [hE0] at hA
    obtain rfl := hA
    exact ⟨rfl, by rw [show rblk b p = .error z by simp only [rblk, hE0, bnd]]; exact ⟨Gx.trans G0.out.1 q1, rfl⟩⟩
  | ok t =>
  obtain ⟨x0, p1⟩ := t
  rw [hE0] at hA
  obtain ⟨v0, rfl, hv0, hR0⟩ := hA
  obtain ⟨rfl, hb0⟩ := hv0
  have G1 : Hid (Gx R w W1 /\ Gx R W0 W1 /\ Rb K W1 R b p1 k) := ⟨Gx.trans G0.out.1 q1, Gx.trans G0.out.2.1 q1, hR0⟩
  have Q1 : Hid (Gx R W0 W1) := q1
  clear hR0 q1 c0
  have c1 := YRf.rl_o 8192 (by omega) (ropc b) G1.out.2.2 (show _ from fun W q h _ => op_c h)
  go_wp2_with fail
  try rw [hW0]
  refine c1.mono ?_
  rintro e W2 ⟨q2, hA⟩
  cases hE1 : rlst 8192 (ropc b) b p1 with
  | error z =>
    rw [hE1] at hA
    obtain rfl := hA
    exact ⟨rfl, by rw [show rblk b p = .error z by simp only [rblk, hE0, hE1, bnd]]; exact ⟨Gx.trans G1.out.1 q2, rfl⟩⟩
  | ok t =>
  obtain ⟨x1, p2⟩ := t
  rw [hE1] at hA
  obtain ⟨v1, rfl, hv1, hR1⟩ := hA
  have HV1 : Hid _ := hv1
  obtain ⟨a1, m1, d1, rfl⟩ := RrS.slice hv1
  clear hv1
  have G2 : Hid (Gx R w W2 /\ Gx R W0 W2 /\ Rb K W2 R b p2 k) := ⟨Gx.trans G1.out.1 q2, Gx.trans G1.out.2.1 q2, hR1⟩
  have Q2 : Hid (Gx R W1 W2) := q2
  clear hR1 q2 c1
  have c2 := YRe.rl_i 8192 (by omega) (rwhl b) G2.out.2.2 (show _ from fun W q h _ => whole_c h)
  go_wp2_with fail
  try rw [hW0]
  refine c2.mono ?_
  rintro e W3 ⟨q3, hA⟩
  cases hE2 : rlst 8192 (rwhl b) b p2 with
  | error z =>
    rw [hE2] at hA
    obtain rfl := hA
    exact ⟨rfl, by rw [show rblk b p = .error z by simp only [rblk, hE0, hE1, hE2, bnd]]; exact ⟨Gx.trans G2.out.1 q3, rfl⟩⟩
  | ok t =>
  obtain ⟨x2, p3⟩ := t
  rw [hE2] at hA
  obtain ⟨v2, rfl, hv2, hR2⟩ := hA
  have HV2 : Hid _ := hv2
  obtain ⟨a2, m2, d2, rfl⟩ := RrS.slice hv2
  clear hv2
  have G3 : Hid (Gx R w W3 /\ Gx R W0 W3 /\ Rb K W3 R b p3 k) := ⟨Gx.trans G2.out.1 q3, Gx.trans G2.out.2.1 q3, hR2⟩
  have Q3 : Hid (Gx R W2 W3) := q3
  clear hR2 q3 c2
  have hz := HZ.out W3 G3.out.2.1
  have z0 := cell_of hz 0 _ rfl
  have f0 := TBase.frozen_box hz 0
  have z1 := cell_of hz 1 _ rfl
  have f1 := TBase.frozen_box hz 1
  have z2 := cell_of hz 2 _ rfl
  have f2 := TBase.frozen_box hz 2
  obtain ⟨W9, hW9⟩ : ∃ W, ((W3.setCell ⟨w.heap.size, 0, none⟩ (.int .i64 (x0 : Int))).setCell ⟨w.heap.size, 1, none⟩ (.slice a1 m1 d1)).setCell ⟨w.heap.size, 2, none⟩ (.slice a2 m2 d2) = W := ⟨_, rfl⟩
  obtain ⟨hn, hg9⟩ := set3 _ _ _ hz hW9
  have HN : Hid _ := hn
  have HG9 : Hid (Gx R w W9) := gx_row G3.out.1 hg9 (fun r hr => by cases hr; exact Nat.le_refl _)
  have HR9 : Hid (Rb K W9 R b p3 k) := Rb.row (lo := w.heap.size) G3.out.2.2 hg9 hRlt (fun r hr => by cases hr; exact Nat.le_refl _)
  have HK1 : Hid (RrS 5 (LyOs (fun g => w.heap.size <= g /\ g < W9.heap.size)) (fun g => w.heap.size <= g /\ g < W9.heap.size) W9 (.slice a1 m1 d1) x1) := by
    have gx : Gx R W2 W3 := Gx.trans (Gx.refl R _) Q3.out
    have l0 : W0.heap.size <= W1.heap.size := G1.out.2.1.size
    have l9 := hg9.size
    have ln := gx.size
    have kp : TBase.Keep (fun g => W1.heap.size <= g /\ g < W2.heap.size) W2 W9 := fun g hg hl => (hg9.block g (by omega) (fun e => by cases e; omega)).trans (gx.block g hl (fun e => by cases e; omega))
    have up : ∀ g, (W1.heap.size <= g /\ g < W2.heap.size) -> (w.heap.size <= g /\ g < W9.heap.size) := fun g hg => by constructor <;> omega
    exact RrS.keep HV1.out up fun g o x _ hg h => kO (S := fun g => W1.heap.size <= g /\ g < W2.heap.size) kp up hg h
  have HK2 : Hid (RrS 1 LyI (fun g => w.heap.size <= g /\ g < W9.heap.size) W9 (.slice a2 m2 d2) x2) := by
    have gx : Gx R W3 W3 := Gx.refl R _
    have l0 : W0.heap.size <= W2.heap.size := G2.out.2.1.size
    have l9 := hg9.size
    have ln := gx.size
    have kp : TBase.Keep (fun g => W2.heap.size <= g /\ g < W3.heap.size) W3 W9 := fun g hg hl => (hg9.block g (by omega) (fun e => by cases e; omega)).trans (gx.block g hl (fun e => by cases e; omega))
    have up : ∀ g, (W2.heap.size <= g /\ g < W3.heap.size) -> (w.heap.size <= g /\ g < W9.heap.size) := fun g hg => by constructor <;> omega
    exact RrS.keep HV2.out up fun g o x _ hg h => kI (S := fun g => W2.heap.size <= g /\ g < W3.heap.size) kp hg h
  clear hz hn hg9
  go_wp2_with fail
  try rw [hW9]
  refine bodyPost_ret (results_cell_row rfl _ W9 w.heap.size 74 _ (0, 0) _ rfl HN.out underlying74 rfl (by kernel_rfl)) rfl ?_
  rw [show rblk b p = .ok (⟨x0, x1, x2⟩, p3) by simp only [rblk, hE0, hE1, hE2, bnd]]
  exact ⟨HG9.out, _, rfl, ⟨_, rfl, _, _, rfl, (show i64 (x0 : Int) by constructor <;> omega), HK1.out, HK2.out⟩, HR9.out⟩
theorem code_c {K R p k : Nat} {w : World} {b : By} (h : Rb K w R b p k) :
    Calls prog 61 #[ptw R] w fun e w' => RA K R b k VC (rlst 8192 (rins b) b p) w e w' := by
  have c1 := YRe.rl_n 8192 (by omega) (rins b) h (show _ from fun W q h _ => inst_c h)
  clear h
  go_enter func61, ntmps61
  go_wp2_with fail
  refine c1.mono ?_
  rintro e W1 ⟨g1, hA⟩
  cases hE : rlst 8192 (rins b) b p with
  | error z =>
    rw [hE] at hA
    obtain rfl := hA
    exact ⟨rfl, g1, by rw [hE]⟩
  | ok t =>
    obtain ⟨x, q⟩ := t
    rw [hE] at hA
    obtain ⟨v, rfl, hv, hR⟩ := hA
    have HV : Hid _ := hv
    obtain ⟨a, n, c, rfl⟩ := RrS.slice hv
    have HR : Hid (Rb K W1 R b q k) := hR
    clear hv hR
    go_wp2_with fail
    go_ret
    exact ⟨g1, by rw [hE]; exact ⟨_, rfl, HV.out, HR.out⟩⟩
end Go.Proofs.YtaiackmmmlhgbaaGreat.YRg
namespace Go.Proofs.YtaiackmmmlhgbaaGreat.YRt
open Go.RowKit YPl YRd YWr YRr YRs YRb YRl
open TBase (T Keep)
def RT {α : Type} (K R : Nat) (b : By) (Hv : (Nat -> Prop) -> World -> Value -> α -> Prop) (a : Rt α) (w : World) (e : Ending) (w' : World) : Prop := Gx R w w' /\ match a with
  | .ok (x, q, k') => ∃ v, e = .returned v /\ Hv (fun g => w.heap.size <= g /\ g < w'.heap.size) w' v x /\ Rb K w' R b q k' /\ k' <= 4096
  | .error q => e = .panicked (pkF 2100 q)
def adT (xs : List T) (a : Rt (List T)) : Rt (List T) := match a with
  | .ok (l, p, k) => .ok (xs ++ l, p, k)
  | .error q => .error q
theorem adT_nil (a : Rt (List T)) : adT [] a = a := by
  unfold adT; cases a with
  | error q => rfl
  | ok t => obtain ⟨x, p, k⟩ := t; rfl
theorem manyT_step {f : Nat -> Nat -> Rt T} {n q p p2 k k2 q0 k0 : Nat} {xs : List T} {x : T} (hq : q < n) (h : adT xs (rmanyT f (n - q) p k) = rmanyT f n q0 k0) (hf : f p k = .ok (x, p2, k2)) : adT (xs ++ [x]) (rmanyT f (n - (q + 1)) p2 k2) = rmanyT f n q0 k0 := by
  obtain ⟨m, hm⟩ : ∃ m, n - q = m + 1 := ⟨n - q - 1, by omega⟩
  rw [show n - (q + 1) = m by omega]
  rw [hm, rmanyT, hf] at h
  rw [<- h]
  simp only
  cases rmanyT f m p2 k2 with
  | error z => rfl
  | ok t => obtain ⟨l, r, s⟩ := t; simp [adT]
theorem manyT_stop {f : Nat -> Nat -> Rt T} {n q p k q0 k0 z : Nat} {xs : List T} (hq : q < n) (h : adT xs (rmanyT f (n - q) p k) = rmanyT f n q0 k0) (hf : f p k = .error z) : rmanyT f n q0 k0 = .error z := by
  obtain ⟨m, hm⟩ : ∃ m, n - q = m + 1 := ⟨n - q - 1, by omega⟩
  rw [hm, rmanyT, hf] at h
  exact h.symm
theorem manyT_end {f : Nat -> Nat -> Rt T} {n p k q0 k0 : Nat} {xs : List T} (h : adT xs (rmanyT f (n - n) p k) = rmanyT f n q0 k0) : rmanyT f n q0 k0 = .ok (xs, p, k) := by
  rw [Nat.sub_self, rmanyT] at h
  rw [<- h]
  simp [adT]
theorem ly_t {m : Nat} {S : Nat -> Prop} {lo : Nat} {w : World} {v : Value} (hSS : ∀ b, Sx lo w v b -> S b) (g o : Nat) (c : List Value) (x : T) (hg : S g) (hc : ∀ i u, c[i]? = some u -> w.cell? ⟨g, o + i, none⟩ = some u) (hl : c.length = 4) (h : HdT m (Sx lo w v) w c x) : LyTs m S w g o x := by
  obtain ⟨nv, lv, rfl, h1⟩ := h
  exact ⟨_, ⟨_, _, _, _, rfl, hc 0 _ rfl, hc 1 _ rfl, hc 2 _ rfl, hc 3 _ rfl⟩, h1.weak hSS false id m (Nat.le_refl _)⟩
theorem rrs_inl {m : Nat} {S : Nat -> Prop} {w : World} {v : Value} {l : List T} (h : RrS 4 (LyTs m S) S w v l) (hl : l.length <= 4096) : TBase.InL false S w m v l := by
  obtain ⟨a, cap, h1, h2, h3, h4, h5, h6⟩ := h
  refine ⟨a, cap, h1, h2, h3, by omega, h5, ?_⟩
  rcases h6 with h6 | ⟨g, o, ha, hg, hc⟩
  · exact .inl ⟨h6, rfl⟩
  · exact .inr ⟨g, o, ha, hg, fun j hj => hc j hj, fun h => by cases h⟩
theorem rl_t {m K R p k : Nat} {w : World} {b : By} (lim : Nat) (hlim : lim <= 4096) (f : Nat -> Nat -> Rt T) (h : Rb K w R b p k) (hk0 : k <= 4096)
    (hone : Hid (∀ (W : World) (q k' : Nat), Rb K W R b q k' -> k' <= 4096 -> Gx R w W -> Calls prog 63 #[ptw R] W fun e w' => RT K R b (VA (HdT m)) (f q k') W e w')) :
    Calls prog 62 #[ptw R, .int .i64 lim, .func (.func 63) #[ptw R] #[]] w fun e w' => RT K R b (fun S w v l => TBase.InL false S w m v l) (rlstT lim f b p k) w e w' := by
  have hRlt := h.lt
  have c1 := YRb.count_c lim (by omega) h
  obtain ⟨i0, hi, hz0, hz1, hz2⟩ := info_parts TBase.infoT
  have hE0 : rlstT lim f b p k = match rcnt lim b p with
    | .error q => .error q
    | .ok (n, q) => rmanyT f n q k := rfl
  clear h
  cases hE : rcnt lim b p with
  | error q =>
    rw [hE] at c1 hE0
    have HE : Hid (rlstT lim f b p k = .error q) := hE0
    clear hE0 hE
    go_enter func62, ntmps62
    go_wp2_with fail
    refine c1.mono ?_
    rintro e w1 ⟨g1, rfl⟩
    exact ⟨rfl, by rw [HE.out]; exact ⟨g1, rfl⟩⟩
  | ok t =>
  obtain ⟨n, q0⟩ := t
  rw [hE] at c1 hE0
  have HE : Hid (rlstT lim f b p k = rmanyT f n q0 k) := hE0
  clear hE0 hE
  go_enter func62, ntmps62
  go_wp2_with fail
  refine c1.mono ?_
  rintro e w1 ⟨g1, v, rfl, ⟨rfl, hn⟩, hR1⟩
  have HG1 : Hid (Gx R w w1 /\ Rb K w1 R b q0 k) := ⟨g1, hR1⟩
  clear c1 g1 hR1
  go_wp2_with fail
  go_loopw [7, 11] (fun v i wr => ∃ (q p' k' : Nat) (xs : List T), i = .int .i64 q /\ q <= n /\ xs.length = q /\ Hid (Gx R w wr /\ RowI (HdT m) 68 4 w.heap.size wr v xs /\ Rb K wr R b p' k' /\ k' <= 4096) /\ Hid (adT xs (rmanyT f (n - q) p' k') = rmanyT f n q0 k)) (fun _ i _ => n - (intOf i).toNat)
  case atStart => exact ⟨0, q0, k, [], rfl, by omega, rfl, ⟨HG1.out.1, RowI.nil _ _ _ _ _, HG1.out.2, hk0⟩, by show _ = _; rw [Nat.sub_zero]; exact adT_nil _⟩
  case round =>
    obtain ⟨q, p', k', xs, rfl, hq, hxl, HG, HS⟩ := hrel
    by_cases hlt : q < n
    · have cx := hone.out wr p' k' HG.out.2.2.1 HG.out.2.2.2 HG.out.1
      go_wp2_with fail
      refine cx.mono ?_
      rintro e w2 ⟨g2, hA⟩
      cases hfx : f p' k' with
      | error z =>
        rw [hfx] at hA
        obtain rfl := hA
        exact ⟨rfl, by rw [HE.out, manyT_stop hlt HS.out hfx]; exact ⟨Gx.trans HG.out.1 g2, rfl⟩⟩
      | ok t =>
        obtain ⟨x, p2, k2⟩ := t
        rw [hfx] at hA
        obtain ⟨ve, rfl, ⟨cc, rfl, nv, lv, rfl, hin⟩, hR2, hk2⟩ := hA
        obtain ⟨na, nn, nc, rfl⟩ : ∃ a n c, nv = .slice a n c := by obtain ⟨m', nv', lv', -, e, -, -, ⟨a, c, h, -⟩, -⟩ := hin.shape; cases e; exact ⟨_, _, _, h⟩
        obtain ⟨la, ln, lc, rfl⟩ : ∃ a n c, lv = .slice a n c := by obtain ⟨m', nv', lv', -, e, -, -, -, ⟨a, c, h, -⟩⟩ := hin.shape; cases e; exact ⟨_, _, _, h⟩
        obtain ⟨W3, hW3⟩ : ∃ W, w2.alloc (.cells #[.string x.g, .string x.s, .slice na nn nc, .slice la ln lc] 68) = W := ⟨_, rfl⟩
        have b3 : Below w2.heap.size w2 W3 := by rw [<- hW3]; exact (Below.refl _ w2).alloc (Nat.le_refl _) _
        have n3 : W3.heap[w2.heap.size]? = some (.cells #[.string x.g, .string x.s, .slice na nn nc, .slice la ln lc] 68 (0, 0)) := by rw [<- hW3]; exact heap_alloc_new w2 _
        obtain ⟨css, k1, k2', k3, k4, k5⟩ := RowI.push sT HG.out.2.1 hRlt HG.out.1.size g2 (c := [.string x.g, .string x.s, .slice na nn nc, .slice la ln lc]) (x := x) ⟨_, _, rfl, hin⟩ b3
        have HS2 : Hid _ := manyT_step hlt HS.out hfx
        have HP : Hid (_ /\ _ /\ _ /\ _) := And.intro k2' (And.intro k3 (And.intro k4 k5))
        have HG2 : Hid (Gx R w W3 /\ Rb K W3 R b p2 k2) := ⟨Gx.trans (Gx.trans HG.out.1 g2) (Gx.of b3), Rb.below hR2 b3⟩
        have hsz := HG2.out.1.size
        have hcl := src_of (c := [.string x.g, .string x.s, .slice na nn nc, .slice la ln lc]) n3
        have hl3 := k1.1
        clear hR2 b3 n3 k2' k3 k4 k5 g2 cx HG HS hin
        go_wp2_with (first
          | (at_builtin; (try rw [hW3]); refine YAp.app_seen rfl _ _ 26 rfl w.heap.size 68 i0 (.agg #[.string ⟨#[]⟩, .string ⟨#[]⟩, .slice none 0 0, .slice none 0 0]) 4 80 underlying26 hi hz0 hz1 hz2 rfl (by decide) _ _ _ rfl k1 _ 1 _ [.string x.g, .string x.s, .slice na nn nc, .slice la ln lc] rfl hcl rfl (by intro u hu; simp only [List.mem_cons, List.not_mem_nil, or_false] at hu; rcases hu with rfl | rfl | rfl | rfl <;> rfl) (by unfold maxLen; omega) (by omega) hsz ?_))
        intro v' W4 hown hgrow hnb
        have HF : Hid (Gx R w W4 /\ RowI (HdT m) 68 4 w.heap.size W4 v' (xs ++ [x]) /\ Rb K W4 R b p2 k2 /\ k2 <= 4096) := ⟨gx_row HG2.out.1 hgrow (fun r hr => (World.ownsRow.lt k1 r hr).1), RowI.snoc sT k1 HP.out.1 HP.out.2.1 HP.out.2.2.1 HP.out.2.2.2 rfl hgrow (by rw [hxl]; exact hown) hnb, Rb.row HG2.out.2 hgrow hRlt (fun r hr => (World.ownsRow.lt k1 r hr).1), hk2⟩
        clear hown hgrow hnb HG2 HP k1 hcl
        go_wp2_with fail
        go_roundw
        case rel => exact ⟨q + 1, p2, k2, xs ++ [x], by go_num, by omega, by simp [hxl], HF, HS2⟩
        case measure => simp only [intOf]; omega
    · obtain rfl : q = n := by omega
      obtain ⟨va, vm, vc, rfl⟩ := RowI.slice HG.out.2.1
      go_wp2_with fail
      go_ret
      rw [HE.out, manyT_end HS.out]
      exact ⟨HG.out.1, _, rfl, rrs_inl (RowI.rr (Ly := LyTs m (fun g => w.heap.size <= g /\ g < wr.heap.size)) HG.out.2.1 (by omega) (fun b h1 h2 => ⟨h1, h2⟩) (ly_t (fun b hb => ⟨hb.1, hb.2.1⟩))) (by omega), HG.out.2.2.1, HG.out.2.2.2⟩
theorem rl_u {m K R p k P2 P3 : Nat} {w : World} {b : By} (lim : Nat) (hlim : lim <= 4096) (f : Nat -> Nat -> Rt T) (h : Rb K w R b p k) (hk0 : k <= 4096)
    (hone : Hid (∀ (W : World) (q k' : Nat), Rb K W R b q k' -> k' <= 4096 -> Gx R w W -> Calls prog 164 #[ptw P2, ptw P3] W fun e w' => RT K R b (VA (HdT m)) (f q k') W e w')) :
    Calls prog 62 #[ptw R, .int .i64 lim, .func (.func 164) #[] #[ptw P2, ptw P3]] w fun e w' => RT K R b (fun S w v l => TBase.InL false S w m v l) (rlstT lim f b p k) w e w' := by
  have hRlt := h.lt
  have c1 := YRb.count_c lim (by omega) h
  obtain ⟨i0, hi, hz0, hz1, hz2⟩ := info_parts TBase.infoT
  have hE0 : rlstT lim f b p k = match rcnt lim b p with
    | .error q => .error q
    | .ok (n, q) => rmanyT f n q k := rfl
  clear h
  cases hE : rcnt lim b p with
  | error q =>
    rw [hE] at c1 hE0
    have HE : Hid (rlstT lim f b p k = .error q) := hE0
    clear hE0 hE
    go_enter func62, ntmps62
    go_wp2_with fail
    refine c1.mono ?_
    rintro e w1 ⟨g1, rfl⟩
    exact ⟨rfl, by rw [HE.out]; exact ⟨g1, rfl⟩⟩
  | ok t =>
  obtain ⟨n, q0⟩ := t
  rw [hE] at c1 hE0
  have HE : Hid (rlstT lim f b p k = rmanyT f n q0 k) := hE0
  clear hE0 hE
  go_enter func62, ntmps62
  go_wp2_with fail
  refine c1.mono ?_
  rintro e w1 ⟨g1, v, rfl, ⟨rfl, hn⟩, hR1⟩
  have HG1 : Hid (Gx R w w1 /\ Rb K w1 R b q0 k) := ⟨g1, hR1⟩
  clear c1 g1 hR1
  go_wp2_with fail
  go_loopw [7, 11] (fun v i wr => ∃ (q p' k' : Nat) (xs : List T), i = .int .i64 q /\ q <= n /\ xs.length = q /\ Hid (Gx R w wr /\ RowI (HdT m) 68 4 w.heap.size wr v xs /\ Rb K wr R b p' k' /\ k' <= 4096) /\ Hid (adT xs (rmanyT f (n - q) p' k') = rmanyT f n q0 k)) (fun _ i _ => n - (intOf i).toNat)
  case atStart => exact ⟨0, q0, k, [], rfl, by omega, rfl, ⟨HG1.out.1, RowI.nil _ _ _ _ _, HG1.out.2, hk0⟩, by show _ = _; rw [Nat.sub_zero]; exact adT_nil _⟩
  case round =>
    obtain ⟨q, p', k', xs, rfl, hq, hxl, HG, HS⟩ := hrel
    by_cases hlt : q < n
    · have cx := hone.out wr p' k' HG.out.2.2.1 HG.out.2.2.2 HG.out.1
      go_wp2_with fail
      refine cx.mono ?_
      rintro e w2 ⟨g2, hA⟩
      cases hfx : f p' k' with
      | error z =>
        rw [hfx] at hA
        obtain rfl := hA
        exact ⟨rfl, by rw [HE.out, manyT_stop hlt HS.out hfx]; exact ⟨Gx.trans HG.out.1 g2, rfl⟩⟩
      | ok t =>
        obtain ⟨x, p2, k2⟩ := t
        rw [hfx] at hA
        obtain ⟨ve, rfl, ⟨cc, rfl, nv, lv, rfl, hin⟩, hR2, hk2⟩ := hA
        obtain ⟨na, nn, nc, rfl⟩ : ∃ a n c, nv = .slice a n c := by obtain ⟨m', nv', lv', -, e, -, -, ⟨a, c, h, -⟩, -⟩ := hin.shape; cases e; exact ⟨_, _, _, h⟩
        obtain ⟨la, ln, lc, rfl⟩ : ∃ a n c, lv = .slice a n c := by obtain ⟨m', nv', lv', -, e, -, -, -, ⟨a, c, h, -⟩⟩ := hin.shape; cases e; exact ⟨_, _, _, h⟩
        obtain ⟨W3, hW3⟩ : ∃ W, w2.alloc (.cells #[.string x.g, .string x.s, .slice na nn nc, .slice la ln lc] 68) = W := ⟨_, rfl⟩
        have b3 : Below w2.heap.size w2 W3 := by rw [<- hW3]; exact (Below.refl _ w2).alloc (Nat.le_refl _) _
        have n3 : W3.heap[w2.heap.size]? = some (.cells #[.string x.g, .string x.s, .slice na nn nc, .slice la ln lc] 68 (0, 0)) := by rw [<- hW3]; exact heap_alloc_new w2 _
        obtain ⟨css, k1, k2', k3, k4, k5⟩ := RowI.push sT HG.out.2.1 hRlt HG.out.1.size g2 (c := [.string x.g, .string x.s, .slice na nn nc, .slice la ln lc]) (x := x) ⟨_, _, rfl, hin⟩ b3
        have HS2 : Hid _ := manyT_step hlt HS.out hfx
        have HP : Hid (_ /\ _ /\ _ /\ _) := And.intro k2' (And.intro k3 (And.intro k4 k5))
        have HG2 : Hid (Gx R w W3 /\ Rb K W3 R b p2 k2) := ⟨Gx.trans (Gx.trans HG.out.1 g2) (Gx.of b3), Rb.below hR2 b3⟩
        have hsz := HG2.out.1.size
        have hcl := src_of (c := [.string x.g, .string x.s, .slice na nn nc, .slice la ln lc]) n3
        have hl3 := k1.1
        clear hR2 b3 n3 k2' k3 k4 k5 g2 cx HG HS hin
        go_wp2_with (first
          | (at_builtin; (try rw [hW3]); refine YAp.app_seen rfl _ _ 26 rfl w.heap.size 68 i0 (.agg #[.string ⟨#[]⟩, .string ⟨#[]⟩, .slice none 0 0, .slice none 0 0]) 4 80 underlying26 hi hz0 hz1 hz2 rfl (by decide) _ _ _ rfl k1 _ 1 _ [.string x.g, .string x.s, .slice na nn nc, .slice la ln lc] rfl hcl rfl (by intro u hu; simp only [List.mem_cons, List.not_mem_nil, or_false] at hu; rcases hu with rfl | rfl | rfl | rfl <;> rfl) (by unfold maxLen; omega) (by omega) hsz ?_))
        intro v' W4 hown hgrow hnb
        have HF : Hid (Gx R w W4 /\ RowI (HdT m) 68 4 w.heap.size W4 v' (xs ++ [x]) /\ Rb K W4 R b p2 k2 /\ k2 <= 4096) := ⟨gx_row HG2.out.1 hgrow (fun r hr => (World.ownsRow.lt k1 r hr).1), RowI.snoc sT k1 HP.out.1 HP.out.2.1 HP.out.2.2.1 HP.out.2.2.2 rfl hgrow (by rw [hxl]; exact hown) hnb, Rb.row HG2.out.2 hgrow hRlt (fun r hr => (World.ownsRow.lt k1 r hr).1), hk2⟩
        clear hown hgrow hnb HG2 HP k1 hcl
        go_wp2_with fail
        go_roundw
        case rel => exact ⟨q + 1, p2, k2, xs ++ [x], by go_num, by omega, by simp [hxl], HF, HS2⟩
        case measure => simp only [intOf]; omega
    · obtain rfl : q = n := by omega
      obtain ⟨va, vm, vc, rfl⟩ := RowI.slice HG.out.2.1
      go_wp2_with fail
      go_ret
      rw [HE.out, manyT_end HS.out]
      exact ⟨HG.out.1, _, rfl, rrs_inl (RowI.rr (Ly := LyTs m (fun g => w.heap.size <= g /\ g < wr.heap.size)) HG.out.2.1 (by omega) (fun b h1 h2 => ⟨h1, h2⟩) (ly_t (fun b hb => ⟨hb.1, hb.2.1⟩))) (by omega), HG.out.2.2.1, HG.out.2.2.2⟩
end Go.Proofs.YtaiackmmmlhgbaaGreat.YRt
