/- Programs read: Decode at every row of bytes. -/
import Derived.Test.YthclndiekjaalaaYDe
namespace Go.Proofs.Ythclndiekjaalaa.YDf
open Go.RowKit Go.Proofs.Ythclndiekjaalaa.Leb Go.Proofs.Ythclndiekjaalaa.YPl Go.Proofs.Ythclndiekjaalaa.YRd Go.Proofs.Ythclndiekjaalaa.YWr Go.Proofs.Ythclndiekjaalaa.YRr Go.Proofs.Ythclndiekjaalaa.YRs Go.Proofs.Ythclndiekjaalaa.YRb Go.Proofs.Ythclndiekjaalaa.YRl Go.Proofs.Ythclndiekjaalaa.YRp Go.Proofs.Ythclndiekjaalaa.YRq Go.Proofs.Ythclndiekjaalaa.YDe
open Go.Proofs.Ythclndiekjaalaa.TBase (T Keep)
set_option linter.unusedVariables false

/-- What Decode answers. -/
def DA (a : Except (Nat × Nat) Pg) (w : World) (e : Ending) (w' : World) : Prop := Below w.heap.size w w' ∧ match a with
  | .ok x => ∃ v, e = .returned (.tuple #[v, .int .i64 0, .int .i64 0]) ∧ HvP (fun g => w.heap.size ≤ g ∧ g < w'.heap.size) w' v x
  | .error (p, c) => e = .returned (.tuple #[p0, .int .i64 (p : Nat), .int .i64 (c : Nat)])
theorem box3 (w : World) (a b c x y z : Value) (t : TypeId) : (((w.alloc (.cells #[a, b, c] t)).setCell ⟨w.heap.size, 0, none⟩ x).setCell ⟨w.heap.size, 1, none⟩ y).setCell ⟨w.heap.size, 2, none⟩ z = w.alloc (.cells #[x, y, z] t) := by
  simp only [World.setCell, World.alloc]
  congr 1
  apply Array.ext_getElem?
  intro i
  by_cases h : i = w.heap.size
  · subst h
    simp only [Array.getElem?_modify, Array.getElem?_push_size, if_true, Option.map_some]
    rfl
  · simp only [Array.getElem?_modify, if_neg (Ne.symm h), Array.getElem?_push, if_neg h]
set_option maxRecDepth 20000 in
set_option maxHeartbeats 3200000 in
theorem decode_gen {w W1 : World} {ia : Option Addr} {n cap : Nat} (Q : World → Value → Int → Int → Prop) (hn : ¬ (1048576 : Int) < (n : Int))
    (hW1 : (w.alloc (.cells #[.slice none 0 0, .slice none 0 0, .slice none 0 0, .slice none 0 0] 27)).alloc (.cells #[.slice ia n cap, .int .i64 0, .int .i64 0] 65) = W1)
    (cC : Calls Try.prog 22 #[.func (.func 23) #[ptw (w.heap.size + 1)] #[]] W1 fun e w' => Gx (w.heap.size + 1) W1 w' ∧ ∃ (a1 a2 a3 a4 : Option Addr) (n1 n2 n3 n4 d1 d2 d3 d4 : Nat) (c p : Int), Q w' (.agg #[.slice a1 n1 d1, .slice a2 n2 d2, .slice a3 n3 d3, .slice a4 n4 d4]) c p ∧ e = .returned (.tuple #[.agg #[.slice a1 n1 d1, .slice a2 n2 d2, .slice a3 n3 d3, .slice a4 n4 d4], .agg #[.int .i64 c, .int .i64 p]])) :
    Calls Try.prog 11 #[.slice ia n cap] w fun e w' => ∃ v c p, e = .returned (.tuple #[v, .int .i64 p, .int .i64 c]) ∧ Below w.heap.size w w' ∧ ∃ W2, Q W2 v c p ∧ W2.heap.size ≤ w'.heap.size ∧ ∀ g, w.heap.size < g → g < W2.heap.size → w'.heap[g]? = W2.heap[g]? := by
  have hmf : ∀ (fn : Fn) (first cap : Array Value) (w : World), (Instr.makeFunc fn first cap).run Try.prog w = .ok (.func fn first cap) w := fun _ _ _ _ => rfl
  have b1 : Below w.heap.size w W1 := by rw [← hW1]; exact ((Below.refl _ w).alloc (Nat.le_refl _) _).alloc (by simp) _
  have s1 : W1.heap.size = w.heap.size + 2 := by rw [← hW1]; simp
  have q0 : W1.heap[w.heap.size]? = some (.cells #[.slice none 0 0, .slice none 0 0, .slice none 0 0, .slice none 0 0] 27 (0, 0)) := by rw [← hW1, Below.heap_alloc _ _ _ (by simp), heap_alloc_new]
  have HB1 : Hid _ := b1
  have HQ0 : Hid _ := q0
  clear b1 q0
  obtain ⟨W0, hW0⟩ : ∃ W, w.alloc (.cells #[.slice none 0 0, .slice none 0 0, .slice none 0 0, .slice none 0 0] 27) = W := ⟨_, rfl⟩
  have s0 : W0.heap.size = w.heap.size + 1 := by rw [← hW0]; simp
  obtain ⟨Wz, hWz⟩ : ∃ W, W0.alloc (.cells #[.slice none 0 0, .int .i64 0, .int .i64 0] 65) = W := ⟨_, rfl⟩
  have nz : Wz.heap[w.heap.size + 1]? = some (.cells #[.slice none 0 0, .int .i64 0, .int .i64 0] 65 (0, 0)) := by rw [← s0, ← hWz]; exact heap_alloc_new W0 _
  have hWs : ((Wz.setCell ⟨w.heap.size + 1, 0, none⟩ (.slice ia n cap)).setCell ⟨w.heap.size + 1, 1, none⟩ (.int .i64 0)).setCell ⟨w.heap.size + 1, 2, none⟩ (.int .i64 0) = W1 := by rw [← hWz, ← s0, ← hW1, hW0]; exact box3 _ _ _ _ _ _ _ _
  have r0 := cell_of nz 0 _ rfl
  have r1 := cell_of nz 1 _ rfl
  have r2 := cell_of nz 2 _ rfl
  have rf0 := TBase.frozen_box nz 0
  have rf1 := TBase.frozen_box nz 1
  have rf2 := TBase.frozen_box nz 2
  clear nz hW1
  go_enter Try.func11, Try.ntmps11
  go_wp2_with fail
  try rw [hW0]
  try rw [hWs]
  refine cC.mono ?_
  rintro e W2 ⟨g2, a1, a2, a3, a4, n1, n2, n3, n4, d1, d2, d3, d4, c, p, hq, rfl⟩
  have l2 := g2.size
  obtain ⟨W5, hW5⟩ : ∃ W, (W2.alloc (.cells #[.slice a1 n1 d1, .slice a2 n2 d2, .slice a3 n3 d3, .slice a4 n4 d4] 27)).alloc (.cells #[.int .i64 c, .int .i64 p] 59) = W := ⟨_, rfl⟩
  have b5 : Below W2.heap.size W2 W5 := by rw [← hW5]; exact ((Below.refl _ W2).alloc (Nat.le_refl _) _).alloc (by simp) _
  have s5 : W5.heap.size = W2.heap.size + 2 := by rw [← hW5]; simp
  have u5 : W5.heap[W2.heap.size]? = some (.cells #[.slice a1 n1 d1, .slice a2 n2 d2, .slice a3 n3 d3, .slice a4 n4 d4] 27 (0, 0)) := by rw [← hW5, Below.heap_alloc _ _ _ (by simp), heap_alloc_new]
  have m5 : W5.heap[W2.heap.size + 1]? = some (.cells #[.int .i64 c, .int .i64 p] 59 (0, 0)) := by
    rw [← hW5]
    have := heap_alloc_new (W2.alloc (.cells #[.slice a1 n1 d1, .slice a2 n2 d2, .slice a3 n3 d3, .slice a4 n4 d4] 27)) (.cells #[.int .i64 c, .int .i64 p] 59)
    rwa [World.size_alloc] at this
  have v5 := (b5.block w.heap.size (by omega)).trans ((g2.block w.heap.size (by omega) (fun e => by have := Option.some.inj e; omega)).trans HQ0.out)
  have d0 := cell_of v5 0 _ rfl
  have d1' := cell_of v5 1 _ rfl
  have d2' := cell_of v5 2 _ rfl
  have d3' := cell_of v5 3 _ rfl
  have e0 := cell_of u5 0 _ rfl
  have e1 := cell_of u5 1 _ rfl
  have e2 := cell_of u5 2 _ rfl
  have e3 := cell_of u5 3 _ rfl
  have m0 := cell_of m5 0 _ rfl
  have m1 := cell_of m5 1 _ rfl
  have f0 := TBase.frozen_box v5 0
  have f1 := TBase.frozen_box v5 1
  have f2 := TBase.frozen_box v5 2
  have f3 := TBase.frozen_box v5 3
  have n1' : w.heap.size ≠ W2.heap.size := by omega
  have n2' : W2.heap.size ≠ w.heap.size := by omega
  have n3' : w.heap.size ≠ W2.heap.size + 1 := by omega
  have n4' : W2.heap.size + 1 ≠ w.heap.size := by omega
  have HV5 : Hid _ := v5
  have HB5 : Hid (Below W2.heap.size W2 W5) := b5
  have HQ : Hid _ := hq
  have HG2 : Hid (Gx (w.heap.size + 1) W1 W2) := g2
  clear cC g2 hq v5 u5 m5 b5 hW0 hWz hWs r0 r1 r2 rf0 rf1 rf2 s0
  go_wp2_with fail
  try rw [hW5]
  clear hW5
  go_region
  obtain ⟨W6, hW6⟩ : ∃ W6, ((((W5.setCell ⟨w.heap.size, 0, none⟩ (.slice a1 n1 d1)).setCell ⟨w.heap.size, 1, none⟩ (.slice a2 n2 d2)).setCell ⟨w.heap.size, 2, none⟩ (.slice a3 n3 d3)).setCell ⟨w.heap.size, 3, none⟩ (.slice a4 n4 d4)) = W6 := ⟨_, rfl⟩
  rw [hW6]
  obtain ⟨q1, g6⟩ := YRg.set4 _ _ _ _ HV5.out hW6
  go_wp2_with fail
  have v6 : W6.drew.heap[w.heap.size]? = _ := q1
  have p0 := cell_of v6 0 _ rfl
  have p1 := cell_of v6 1 _ rfl
  have p2 := cell_of v6 2 _ rfl
  have p3 := cell_of v6 3 _ rfl
  refine bodyPost_ret (v := .tuple #[.agg #[.slice a1 n1 d1, .slice a2 n2 d2, .slice a3 n3 d3, .slice a4 n4 d4], .int .i64 p, .int .i64 c]) (by simp [results, Try.results11, go_sem, p0, p1, p2, p3]) rfl ?_
  have l6 := g6.size
  refine ⟨_, _, _, rfl, ?_, W2, HQ.out, by show _ ≤ W6.heap.size; omega, fun g h1 h2 => ?_⟩
  · have k1 : Below w.heap.size W1 W2 := HG2.out.below (by omega) (by omega)
    have k2 : Below w.heap.size W5 W6 := ⟨g6.os, g6.tape, g6.output, g6.size, fun k hk => g6.block k (by omega) (fun e => by have := Option.some.inj e; omega)⟩
    exact (((HB1.out.trans k1).trans (HB5.out.mono (by omega))).trans k2).drew
  · show W6.heap[g]? = _
    exact (g6.block g (by omega) (fun e => by have := Option.some.inj e; omega)).trans (HB5.out.block g h2)
end Go.Proofs.Ythclndiekjaalaa.YDf

namespace Go.Proofs.Ythclndiekjaalaa.YDc
open Go.RowKit Go.Proofs.Ythclndiekjaalaa.Leb Go.Proofs.Ythclndiekjaalaa.YPl Go.Proofs.Ythclndiekjaalaa.YRd Go.Proofs.Ythclndiekjaalaa.YWr Go.Proofs.Ythclndiekjaalaa.YRr Go.Proofs.Ythclndiekjaalaa.YRs Go.Proofs.Ythclndiekjaalaa.YRb Go.Proofs.Ythclndiekjaalaa.YRl Go.Proofs.Ythclndiekjaalaa.YRp Go.Proofs.Ythclndiekjaalaa.YRq Go.Proofs.Ythclndiekjaalaa.YDe Go.Proofs.Ythclndiekjaalaa.YDf
open Go.Proofs.Ythclndiekjaalaa.TBase (T Keep)
set_option linter.unusedVariables false

set_option maxRecDepth 20000 in
set_option maxHeartbeats 1600000 in
theorem decode_long {w : World} {ia : Option Addr} {n cap : Nat} (hn : (1048576 : Int) < (n : Int)) :
    Calls Try.prog 11 #[.slice ia n cap] w fun e w' => e = .returned (.tuple #[p0, .int .i64 0, .int .i64 2101]) ∧ Below w.heap.size w w' := by
  obtain ⟨W0, hW0⟩ : ∃ W, w.alloc (.cells #[.slice none 0 0, .slice none 0 0, .slice none 0 0, .slice none 0 0] 27) = W := ⟨_, rfl⟩
  have b0 : Below w.heap.size w W0 := by rw [← hW0]; exact (Below.refl _ w).alloc (Nat.le_refl _) _
  have g0 : W0.heap[w.heap.size]? = some (.cells #[.slice none 0 0, .slice none 0 0, .slice none 0 0, .slice none 0 0] 27 (0, 0)) := by rw [← hW0]; exact heap_alloc_new w _
  have z0 := cell_of g0 0 _ rfl
  have z1 := cell_of g0 1 _ rfl
  have z2 := cell_of g0 2 _ rfl
  have z3 := cell_of g0 3 _ rfl
  have f0 := TBase.frozen_box g0 0
  have f1 := TBase.frozen_box g0 1
  have f2 := TBase.frozen_box g0 2
  have f3 := TBase.frozen_box g0 3
  obtain ⟨W6, hW6⟩ : ∃ W6, ((((W0.setCell ⟨w.heap.size, 0, none⟩ (.slice none 0 0)).setCell ⟨w.heap.size, 1, none⟩ (.slice none 0 0)).setCell ⟨w.heap.size, 2, none⟩ (.slice none 0 0)).setCell ⟨w.heap.size, 3, none⟩ (.slice none 0 0)) = W6 := ⟨_, rfl⟩
  obtain ⟨q1, g6⟩ := YRg.set4 _ _ _ _ g0 hW6
  have p0 := cell_of q1 0 _ rfl
  have p1 := cell_of q1 1 _ rfl
  have p2 := cell_of q1 2 _ rfl
  have p3 := cell_of q1 3 _ rfl
  have HB : Hid (Below w.heap.size w W6) := b0.trans ⟨g6.os, g6.tape, g6.output, g6.size, fun k hk => g6.block k (by have := b0.size; omega) (fun e => by have := Option.some.inj e; omega)⟩
  clear b0 g0 q1 g6
  go_enter Try.func11, Try.ntmps11
  go_wp2_with fail
  try rw [hW0]
  try rw [hW6]
  refine bodyPost_ret (v := .tuple #[YDe.p0, .int .i64 0, .int .i64 2101]) (by simp [results, Try.results11, go_sem, p0, p1, p2, p3]) rfl ?_
  exact ⟨rfl, HB.out⟩
theorem decode_c {w : World} {ia : Option Addr} {n cap : Nat} {b : By} (hS : Seen w (.slice ia n cap) b) (hl : ∀ g, ia = some g → g.block < w.heap.size) :
    Calls Try.prog 11 #[.slice ia n cap] w fun e w' => DA (dec b) w e w' := by
  have hnb : n = b.length := by obtain ⟨a, c, e, -⟩ := hS; cases e; rfl
  by_cases hn : 1048576 < b.length
  · refine (decode_long (ia := ia) (n := n) (cap := cap) (w := w) (by omega)).mono ?_
    rintro e w' ⟨rfl, hb⟩
    rw [show dec b = .error (0, 2101) by unfold dec; rw [if_pos hn]]
    exact ⟨hb, rfl⟩
  obtain ⟨W1, hW1⟩ : ∃ W, (w.alloc (.cells #[.slice none 0 0, .slice none 0 0, .slice none 0 0, .slice none 0 0] 27)).alloc (.cells #[.slice ia n cap, .int .i64 0, .int .i64 0] 65) = W := ⟨_, rfl⟩
  have b1 : Below w.heap.size w W1 := by rw [← hW1]; exact ((Below.refl _ w).alloc (Nat.le_refl _) _).alloc (by simp) _
  have s1 : W1.heap.size = w.heap.size + 2 := by rw [← hW1]; simp
  have q1 : W1.heap[w.heap.size + 1]? = some (.cells #[.slice ia n cap, .int .i64 0, .int .i64 0] 65 (0, 0)) := by
    rw [← hW1]
    have := heap_alloc_new (w.alloc (.cells #[.slice none 0 0, .slice none 0 0, .slice none 0 0, .slice none 0 0] 27)) (.cells #[.slice ia n cap, .int .i64 0, .int .i64 0] 65)
    rwa [World.size_alloc] at this
  have hR : Rb w.heap.size W1 (w.heap.size + 1) b 0 0 := ⟨by omega, by omega, by omega, by omega, by omega, ia, n, cap, q1, seen_low hS hl b1, hl⟩
  have cC := caught_c hR
  obtain ⟨A, hA⟩ : ∃ A, rprg b = A := ⟨_, rfl⟩
  rw [hA] at cC
  cases A with
  | error q =>
    rw [show dec b = .error (q, 2100) by unfold dec; rw [if_neg hn, hA]]
    refine (decode_gen (fun _ v c p => v = p0 ∧ c = 2100 ∧ p = (q : Nat)) (by omega) hW1 (cC.mono ?_)).mono ?_
    · rintro e w' ⟨g, he⟩
      exact ⟨g, none, none, none, none, 0, 0, 0, 0, 0, 0, 0, 0, _, _, ⟨rfl, rfl, rfl⟩, he⟩
    · rintro e w' ⟨v, c, p, rfl, hb, W2, ⟨rfl, rfl, rfl⟩, -⟩
      exact ⟨hb, rfl⟩
  | ok t =>
    obtain ⟨x, q⟩ := t
    rw [show dec b = .ok x by unfold dec; rw [if_neg hn, hA]]
    refine (decode_gen (fun W v c p => c = 0 ∧ p = 0 ∧ HvP (fun g => W1.heap.size ≤ g ∧ g < W.heap.size) W v x) (by omega) hW1 (cC.mono ?_)).mono ?_
    · rintro e w' ⟨g, v, rfl, hv⟩
      have hv0 := hv
      obtain ⟨a, n1, c1, b1, n2, c2, c, n3, c3, d, n4, c4, rfl, -⟩ := hv0
      exact ⟨g, a, b1, c, d, n1, n2, n3, n4, c1, c2, c3, c4, 0, 0, ⟨rfl, rfl, hv⟩, rfl⟩
    · rintro e w' ⟨v, c, p, rfl, hb, W2, ⟨rfl, rfl, hv⟩, hs, hk⟩
      exact ⟨hb, v, rfl, HvP.keep (fun g hg hl => hk g (by omega) hl) (fun g hg => by constructor <;> omega) hv⟩
end Go.Proofs.Ythclndiekjaalaa.YDc
