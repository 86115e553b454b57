/- Programs read: static, program. -/
import Derived.Test.YthclndiekjaalaaYRn
import Derived.Test.YthclndiekjaalaaYEn
namespace Go.Proofs.Ythclndiekjaalaa.YRp
open Go.RowKit Go.Proofs.Ythclndiekjaalaa.Leb Go.Proofs.Ythclndiekjaalaa.YPl Go.Proofs.Ythclndiekjaalaa.YRd Go.Proofs.Ythclndiekjaalaa.YWr Go.Proofs.Ythclndiekjaalaa.YRr Go.Proofs.Ythclndiekjaalaa.YRs Go.Proofs.Ythclndiekjaalaa.YRb Go.Proofs.Ythclndiekjaalaa.YRl Go.Proofs.Ythclndiekjaalaa.YRt Go.Proofs.Ythclndiekjaalaa.YRn
open Go.Proofs.Ythclndiekjaalaa.TBase (T Keep)
set_option linter.unusedVariables false

set_option maxRecDepth 20000 in
set_option maxHeartbeats 1600000 in
theorem static_c {K R p k : Nat} {w : World} {b : By} (h : Rb K w R b p k) :
    Calls Try.prog 47 #[ptw R] w fun e w' => RT K R b (VA (HdT 65)) (rnd b 64 p 0) w e w' := by
  have hRlt := h.lt
  obtain ⟨W0, hW0⟩ : ∃ W, w.alloc (.cells #[.string ⟨#[]⟩, .string ⟨#[]⟩, .slice none 0 0, .slice none 0 0] 53) = W := ⟨_, rfl⟩
  have b0 : Below w.heap.size w W0 := by rw [← hW0]; exact (Below.refl _ w).alloc (Nat.le_refl _) _
  have s0 : w.heap.size < W0.heap.size := by rw [← hW0]; simp
  have g0 : W0.heap[w.heap.size]? = some (.cells #[.string ⟨#[]⟩, .string ⟨#[]⟩, .slice none 0 0, .slice none 0 0] 53 (0, 0)) := by rw [← hW0]; exact heap_alloc_new w _
  have hR0 := Rb.below h b0
  obtain ⟨W1, hW1⟩ : ∃ W, W0.setCell ⟨R, 2, none⟩ (.int .i64 0) = W := ⟨_, rfl⟩
  have hz := Rb.setk (j := 0) (z := 0) hR0 rfl (by omega)
  rw [hW1] at hz
  obtain ⟨-, -, -, -, -, ia, il, ic, h6, -, -⟩ := hR0
  have y2 := cell_of h6 2 _ rfl
  have fy := TBase.frozen_box h6 2
  have c1 := nodes (K := K) (R := R) (b := b) 64 (by omega) W1 p 0 1 (by omega) hz.1 (by omega)
  have G1 : Hid (Gx R w W1 ∧ Gx R W0 W1) := ⟨Gx.trans (Gx.of b0) hz.2, hz.2⟩
  have HZ : Hid _ := g0
  obtain ⟨A, hE⟩ : ∃ A, rnd b 64 p 0 = A := ⟨_, rfl⟩
  rw [hE] at c1 ⊢
  clear h b0 g0 h6 hz hE
  go_enter Try.func47, Try.ntmps47
  go_wp2_with fail
  try rw [hW0]
  try rw [hW1]
  refine c1.mono ?_
  rintro e W2 ⟨g2, hA⟩
  cases A with
  | error z =>
    obtain rfl := hA
    exact ⟨rfl, Gx.trans G1.out.1 g2, rfl⟩
  | ok t =>
    obtain ⟨x, q, k2⟩ := t
    obtain ⟨ve, rfl, ⟨cc, rfl, nv, lv, rfl, hin⟩, hR2, hk2⟩ := hA
    obtain ⟨na, nn, nc, rfl⟩ : ∃ a n c, nv = .slice a n c := by obtain ⟨m', nv', lv', -, e, -, -, ⟨a, c, h, -⟩, -⟩ := hin.shape; cases e; exact ⟨_, _, _, h⟩
    obtain ⟨la, ln, lc, rfl⟩ : ∃ a n c, lv = .slice a n c := by obtain ⟨m', nv', lv', -, e, -, -, -, ⟨a, c, h, -⟩⟩ := hin.shape; cases e; exact ⟨_, _, _, h⟩
    have hz := ((Gx.trans G1.out.2 g2).block w.heap.size s0 (fun e => by cases e; omega)).trans HZ.out
    have z0 := cell_of hz 0 _ rfl
    have z1 := cell_of hz 1 _ rfl
    have z2 := cell_of hz 2 _ rfl
    have z3 := cell_of hz 3 _ rfl
    have f0 := TBase.frozen_box hz 0
    have f1 := TBase.frozen_box hz 1
    have f2 := TBase.frozen_box hz 2
    have f3 := TBase.frozen_box hz 3
    obtain ⟨W9, hW9⟩ : ∃ W, (((W2.setCell ⟨w.heap.size, 0, none⟩ (.string x.g)).setCell ⟨w.heap.size, 1, none⟩ (.string x.s)).setCell ⟨w.heap.size, 2, none⟩ (.slice na nn nc)).setCell ⟨w.heap.size, 3, none⟩ (.slice la ln lc) = W := ⟨_, rfl⟩
    obtain ⟨hn, hg9⟩ := YRg.set4 _ _ _ _ hz hW9
    have l1 := G1.out.2.size
    have l2 := g2.size
    have l9 := hg9.size
    have HN : Hid _ := hn
    have HG9 : Hid (Gx R w W9) := gx_row (Gx.trans G1.out.1 g2) hg9 (fun r hr => by cases hr; exact Nat.le_refl _)
    have HR9 : Hid (Rb K W9 R b q k2) := Rb.row (lo := w.heap.size) hR2 hg9 hRlt (fun r hr => by cases hr; exact Nat.le_refl _)
    have HI : Hid (TBase.In false (fun g => w.heap.size ≤ g ∧ g < W9.heap.size) W9 65 (.agg #[.string x.g, .string x.s, .slice na nn nc, .slice la ln lc]) x) := (hin.keep (w' := W9) (fun g hg hl => hg9.block g hl (fun e => by cases e; omega))).weak (fun g hg => by constructor <;> omega) false id _ (Nat.le_refl _)
    clear hz hn hg9 hin hR2 g2 c1
    go_wp2_with fail
    try rw [hW9]
    refine bodyPost_ret (results_cell_row rfl _ W9 w.heap.size 53 _ (0, 0) _ rfl HN.out Try.underlying53 rfl (by kernel_rfl)) rfl ?_
    exact ⟨HG9.out, _, rfl, ⟨_, rfl, _, _, rfl, HI.out⟩, HR9.out, hk2⟩
/-- A program that was read. -/
def HvP (S : Nat → Prop) (w : World) (v : Value) (x : Pg) : Prop := ∃ a n1 c1 b n2 c2 c n3 c3 d n4 c4, v = .agg #[.slice a n1 c1, .slice b n2 c2, .slice c n3 c3, .slice d n4 c4] ∧ RrS 1 LyS S w (.slice a n1 c1) x.t ∧ RrS 1 (LyCs S) S w (.slice b n2 c2) x.c ∧ TBase.InL false S w 65 (.slice c n3 c3) x.s ∧ RrS 3 (LyBs S) S w (.slice d n4 c4) x.b
theorem HvP.pg {S : Nat → Prop} {w : World} {v : Value} {x : Pg} {K : Nat} (h : HvP S w v x) (hS : ∀ b, S b → b < K) : YEn.InPg K 65 w v x := by
  obtain ⟨a, n1, c1, b, n2, c2, c, n3, c3, d, n4, c4, rfl, h1, h2, h3, h4⟩ := h
  refine ⟨a, n1, c1, b, n2, c2, c, n3, c3, d, n4, c4, rfl, h1.rr hS fun g o x _ h => h, h2.rr hS fun g o x _ h => ?_, h3.weak hS false id 65 (Nat.le_refl _), h4.rr hS fun g o x _ h => ?_⟩
  · obtain ⟨v, k1, k2⟩ := h
    exact ⟨v, k1, k2.rr hS fun g o x _ h => h⟩
  · obtain ⟨v, u, k1, k2, k3, k4, k5, k6⟩ := h
    refine ⟨v, u, k1, k2, k3, k4, k5.rr hS fun g o x _ h => ?_, k6.rr hS fun g o x _ h => h⟩
    obtain ⟨v, j1, j2, j3, j4, j5, j6, j7⟩ := h
    exact ⟨v, j1, j2, j3, j4, j5, j6, j7.rr hS fun g o x _ h => h⟩
theorem HvP.keep {S S' : Nat → Prop} {w w' : World} {v : Value} {x : Pg} (hk : Keep S w w') (hS : ∀ b, S b → S' b) (h : HvP S w v x) : HvP S' w' v x := by
  obtain ⟨a, n1, c1, b, n2, c2, c, n3, c3, d, n4, c4, rfl, h1, h2, h3, h4⟩ := h
  exact ⟨a, n1, c1, b, n2, c2, c, n3, c3, d, n4, c4, rfl, h1.keep hS fun g o x _ hg h => kS hk hg h, h2.keep hS fun g o x _ hg h => kC hk hS hg h, (h3.keep hk).weak hS false id 65 (Nat.le_refl _), h4.keep hS fun g o x _ hg h => kB hk hS hg h⟩
end Go.Proofs.Ythclndiekjaalaa.YRp
