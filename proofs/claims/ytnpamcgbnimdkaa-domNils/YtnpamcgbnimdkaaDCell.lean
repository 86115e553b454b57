/- A cell made of a tree: contracts of copied and detached. -/
import Derived.Test.YtnpamcgbnimdkaaDAsk
import Derived.Test.YtnpamcgbnimdkaaTLend
import Derived.Deep.RegionHeld3
namespace Go.Proofs.Ytnpamcgbnimdkaa.DCell
open Go.RowKit Go.Proofs.Ytnpamcgbnimdkaa.TBase Go.Proofs.Ytnpamcgbnimdkaa.TLend Go.Proofs.Ytnpamcgbnimdkaa.DBase Go.Proofs.Ytnpamcgbnimdkaa.DJoin Go.Proofs.Ytnpamcgbnimdkaa.DNeed Go.Proofs.Ytnpamcgbnimdkaa.DKids Go.Proofs.Ytnpamcgbnimdkaa.DAsk
set_option linter.unusedVariables false

theorem copied_c (v : Value) (L : List (ByteArray × ByteArray)) (w : World) (h : Ax false All w v L) :
    Calls Try.prog 41 #[v] w fun e w' => ∃ u, e = .returned u ∧ OwnA w' w.heap.size u L ∧ Below w.heap.size w w' := by
  obtain ⟨i0, hi, hz0, hz1, hz2⟩ := info_parts infoA
  obtain ⟨a, cap, rfl, hlc, hm, hlen, hsz, hnil, hN⟩ := h
  have ho : OwnA w w.heap.size (.slice none 0 0) [] := World.ownsRow_nil _ _ _ _
  cases a with
  | none =>
    obtain rfl := hnil rfl
    obtain rfl : L = [] := List.eq_nil_of_length_eq_zero (by omega)
    go_enter Try.func41, Try.ntmps41
    go_wp2_with fail
    go_ret
    exact ⟨_, rfl, ho, Below.refl _ _⟩
  | some x =>
    obtain ⟨g, o, sp⟩ := x
    have hnews : ∀ j u, (flatA L)[j]? = some u → w.cell? ((⟨g, o, sp⟩ : Addr).add j) = some u := by
      intro j u hj
      have hl : j < L.length * 2 := by
        have := (List.getElem?_eq_some_iff.1 hj).1
        rwa [flatA_len] at this
      have hq : j / 2 < L.length := by omega
      obtain ⟨g', o', e, -, hc, hc2⟩ := attr_at hN hq
      cases e
      rw [add_none]
      have hget := flatA_get L (j / 2) hq
      rcases Nat.mod_two_eq_zero_or_one j with hj2 | hj2
      · have e : j / 2 * 2 = j := by omega
        rw [e] at hget hc
        rw [hget.1] at hj
        cases hj
        exact hc
      · have e : j / 2 * 2 + 1 = j := by omega
        rw [e] at hget
        rw [show o + j / 2 * 2 + 1 = o + j by omega] at hc2
        rw [hget.2] at hj
        cases hj
        exact hc2
    have hfl := flatA_len L
    clear hN
    go_enter Try.func41, Try.ntmps41
    go_wp2_with (first
      | (at_builtin; refine wpList_append_own _ rfl _ _ 25 rfl w.heap.size 95 i0 (.agg #[.string ⟨#[]⟩, .string ⟨#[]⟩]) 2 32 Try.underlying25 hi hz0 hz1 hz2 rfl (by decide) _ _ _ rfl ho ⟨g, o, sp⟩ L.length cap (flatA L) rfl (by rw [hfl]) hnews (one_attrs L) (by unfold maxLen; simp; omega) (by simp; omega) (Nat.le_refl _) ?_))
    intro v' w2 hown' hgrow hnn
    have hb3 := (Below.refl w.heap.size w).grown hgrow (Nat.le_refl _) (fun k hk => by cases hk)
    have ho2 : OwnA w2 w.heap.size v' L := by
      unfold OwnA
      simpa [flatA] using hown'
    clear hown' hgrow ho hnews hnn
    go_wp2_with fail
    go_ret
    exact ⟨_, rfl, ho2, hb3⟩
theorem ownA_shape {w : World} {B : Nat} {v : Value} {L : List (ByteArray × ByteArray)} (h : OwnA w B v L) : ∃ a cap, v = .slice a L.length cap := by
  rcases h.2 with ⟨rfl, e⟩ | ⟨g, cap, cur, rfl, -⟩
  · exact ⟨none, 0, by rw [e]⟩
  · exact ⟨_, _, rfl⟩
theorem nine_box {w : World} {B : Nat} {v0 v1 v2 v3 v4 v5 v6 v7 v8 : Value} {t : TypeId} (h : w.heap[B]? = some (.cells #[v0, v1, v2, v3, v4, v5, v6, v7, v8] t (0, 0))) :
    w.cell? ⟨B, 0, none⟩ = some v0 ∧ w.cell? ⟨B, 1, none⟩ = some v1 ∧ w.cell? ⟨B, 2, none⟩ = some v2 ∧ w.cell? ⟨B, 3, none⟩ = some v3 ∧ w.cell? ⟨B, 4, none⟩ = some v4 ∧ w.cell? ⟨B, 5, none⟩ = some v5 ∧ w.cell? ⟨B, 6, none⟩ = some v6 ∧ w.cell? ⟨B, 7, none⟩ = some v7 ∧ w.cell? ⟨B, 8, none⟩ = some v8 := by
  refine ⟨?_, ?_, ?_, ?_, ?_, ?_, ?_, ?_, ?_⟩ <;> simp [World.cell?, h]
theorem set9 {W W' : World} {B : Nat} {t : TypeId} {y0 y1 y2 y3 y4 y5 y6 y7 y8 : Value} (x0 x1 x2 x3 x4 x5 x6 x7 x8 : Value) (h : W.heap[B]? = some (.cells #[y0, y1, y2, y3, y4, y5, y6, y7, y8] t (0, 0))) (hW : (((((((((W.setCell ⟨B, 0, none⟩ x0).setCell ⟨B, 1, none⟩ x1).setCell ⟨B, 2, none⟩ x2).setCell ⟨B, 3, none⟩ x3).setCell ⟨B, 4, none⟩ x4).setCell ⟨B, 5, none⟩ x5).setCell ⟨B, 6, none⟩ x6).setCell ⟨B, 7, none⟩ x7).setCell ⟨B, 8, none⟩ x8) = W') :
    W'.heap[B]? = some (.cells #[x0, x1, x2, x3, x4, x5, x6, x7, x8] t (0, 0)) ∧ (∀ b, b ≠ B → W'.heap[b]? = W.heap[b]?) ∧ W'.heap.size = W.heap.size ∧ ∀ w n, n ≤ B → Below n w W → Below n w W' := by
  subst hW
  refine ⟨?_, fun b hb => ?_, by simp [World.setCell], fun w n hn hb => ?_⟩
  · have h0 : (W.setCell ⟨B, 0, none⟩ x0).heap[B]? = some (.cells #[x0, y1, y2, y3, y4, y5, y6, y7, y8] t (0, 0)) := by rw [block_set h]; simp
    have h1 : ((W.setCell ⟨B, 0, none⟩ x0).setCell ⟨B, 1, none⟩ x1).heap[B]? = some (.cells #[x0, x1, y2, y3, y4, y5, y6, y7, y8] t (0, 0)) := by rw [block_set h0]; simp
    have h2 : (((W.setCell ⟨B, 0, none⟩ x0).setCell ⟨B, 1, none⟩ x1).setCell ⟨B, 2, none⟩ x2).heap[B]? = some (.cells #[x0, x1, x2, y3, y4, y5, y6, y7, y8] t (0, 0)) := by rw [block_set h1]; simp
    have h3 : ((((W.setCell ⟨B, 0, none⟩ x0).setCell ⟨B, 1, none⟩ x1).setCell ⟨B, 2, none⟩ x2).setCell ⟨B, 3, none⟩ x3).heap[B]? = some (.cells #[x0, x1, x2, x3, y4, y5, y6, y7, y8] t (0, 0)) := by rw [block_set h2]; simp
    have h4 : (((((W.setCell ⟨B, 0, none⟩ x0).setCell ⟨B, 1, none⟩ x1).setCell ⟨B, 2, none⟩ x2).setCell ⟨B, 3, none⟩ x3).setCell ⟨B, 4, none⟩ x4).heap[B]? = some (.cells #[x0, x1, x2, x3, x4, y5, y6, y7, y8] t (0, 0)) := by rw [block_set h3]; simp
    have h5 : ((((((W.setCell ⟨B, 0, none⟩ x0).setCell ⟨B, 1, none⟩ x1).setCell ⟨B, 2, none⟩ x2).setCell ⟨B, 3, none⟩ x3).setCell ⟨B, 4, none⟩ x4).setCell ⟨B, 5, none⟩ x5).heap[B]? = some (.cells #[x0, x1, x2, x3, x4, x5, y6, y7, y8] t (0, 0)) := by rw [block_set h4]; simp
    have h6 : (((((((W.setCell ⟨B, 0, none⟩ x0).setCell ⟨B, 1, none⟩ x1).setCell ⟨B, 2, none⟩ x2).setCell ⟨B, 3, none⟩ x3).setCell ⟨B, 4, none⟩ x4).setCell ⟨B, 5, none⟩ x5).setCell ⟨B, 6, none⟩ x6).heap[B]? = some (.cells #[x0, x1, x2, x3, x4, x5, x6, y7, y8] t (0, 0)) := by rw [block_set h5]; simp
    have h7 : ((((((((W.setCell ⟨B, 0, none⟩ x0).setCell ⟨B, 1, none⟩ x1).setCell ⟨B, 2, none⟩ x2).setCell ⟨B, 3, none⟩ x3).setCell ⟨B, 4, none⟩ x4).setCell ⟨B, 5, none⟩ x5).setCell ⟨B, 6, none⟩ x6).setCell ⟨B, 7, none⟩ x7).heap[B]? = some (.cells #[x0, x1, x2, x3, x4, x5, x6, x7, y8] t (0, 0)) := by rw [block_set h6]; simp
    have h8 : (((((((((W.setCell ⟨B, 0, none⟩ x0).setCell ⟨B, 1, none⟩ x1).setCell ⟨B, 2, none⟩ x2).setCell ⟨B, 3, none⟩ x3).setCell ⟨B, 4, none⟩ x4).setCell ⟨B, 5, none⟩ x5).setCell ⟨B, 6, none⟩ x6).setCell ⟨B, 7, none⟩ x7).setCell ⟨B, 8, none⟩ x8).heap[B]? = some (.cells #[x0, x1, x2, x3, x4, x5, x6, x7, x8] t (0, 0)) := by rw [block_set h7]; simp
    exact h8
  · rw [Below.heap_setCell _ _ _ _ hb, Below.heap_setCell _ _ _ _ hb, Below.heap_setCell _ _ _ _ hb, Below.heap_setCell _ _ _ _ hb, Below.heap_setCell _ _ _ _ hb, Below.heap_setCell _ _ _ _ hb, Below.heap_setCell _ _ _ _ hb, Below.heap_setCell _ _ _ _ hb, Below.heap_setCell _ _ _ _ hb]
  · exact (((((((((hb.setCell (p := ⟨B, 0, none⟩) hn x0).setCell (p := ⟨B, 1, none⟩) hn x1).setCell (p := ⟨B, 2, none⟩) hn x2).setCell (p := ⟨B, 3, none⟩) hn x3).setCell (p := ⟨B, 4, none⟩) hn x4).setCell (p := ⟨B, 5, none⟩) hn x5).setCell (p := ⟨B, 6, none⟩) hn x6).setCell (p := ⟨B, 7, none⟩) hn x7).setCell (p := ⟨B, 8, none⟩) hn x8)
/-- A cell without any link. -/
def fresh (c : T) (u : Value) : Nd := ⟨true, c.g, c.s, u, none, none, none, none, none⟩
set_option maxRecDepth 20000 in
set_option maxHeartbeats 800000 in
theorem detached_c {w : World} {g s : ByteArray} {n : List (ByteArray × ByteArray)} {nv : Value} {a : Option Addr} {k cap : Nat} (hn : Ax false All w nv n) :
    Calls Try.prog 63 #[.agg #[.string g, .string s, nv, .slice a k cap]] w fun e w' => ∃ b m q, e = .returned (.agg #[.bool true, .string g, .string s, .slice b m q, .int .i64 (-1), .int .i64 (-1), .int .i64 (-1), .int .i64 (-1), .int .i64 (-1)]) ∧ OwnA w' w.heap.size (.slice b m q) n ∧ Below w.heap.size w w' := by
  obtain ⟨a1, c1, rfl, -⟩ := id hn
  obtain ⟨W2, hW2⟩ : ∃ W2, (w.alloc (.cells #[.string g, .string s, .slice a1 n.length c1, .slice a k cap] 28)).alloc (.cells #[.bool false, .string ⟨#[]⟩, .string ⟨#[]⟩, .slice none 0 0, .int .i64 0, .int .i64 0, .int .i64 0, .int .i64 0, .int .i64 0] 71) = W2 := ⟨_, rfl⟩
  have b2 : Below w.heap.size w W2 := by rw [← hW2]; exact ((Below.refl _ w).alloc (Nat.le_refl _) _).alloc (by simp) _
  have s2 : W2.heap.size = w.heap.size + 2 := by rw [← hW2]; simp
  have hx0 : W2.heap[w.heap.size]? = some (.cells #[.string g, .string s, .slice a1 n.length c1, .slice a k cap] 28 (0, 0)) := by
    rw [← hW2, Below.heap_alloc _ _ _ (by simp), heap_alloc_new]
  have hx1 : W2.heap[w.heap.size + 1]? = some (.cells #[.bool false, .string ⟨#[]⟩, .string ⟨#[]⟩, .slice none 0 0, .int .i64 0, .int .i64 0, .int .i64 0, .int .i64 0, .int .i64 0] 71 (0, 0)) := by
    have := heap_alloc_new (w.alloc (.cells #[.string g, .string s, .slice a1 n.length c1, .slice a k cap] 28)) (.cells #[.bool false, .string ⟨#[]⟩, .string ⟨#[]⟩, .slice none 0 0, .int .i64 0, .int .i64 0, .int .i64 0, .int .i64 0, .int .i64 0] 71)
    rwa [hW2, World.size_alloc] at this
  have cc := copied_c (.slice a1 n.length c1) n W2.drew ((hn.below b2).below (Below.refl _ _).drew)
  obtain ⟨e0, e1, e2, -⟩ := four_box hx0
  have HN : Hid (∀ w1, Below W2.drew.heap.size W2.drew w1 → w1.cell? ⟨w.heap.size, 0, none⟩ = some (.string g) ∧ w1.cell? ⟨w.heap.size, 1, none⟩ = some (.string s) ∧ w1.cell? ⟨w.heap.size, 2, none⟩ = some (.slice a1 n.length c1) ∧ w1.heap[w.heap.size + 1]? = some (.cells #[.bool false, .string ⟨#[]⟩, .string ⟨#[]⟩, .slice none 0 0, .int .i64 0, .int .i64 0, .int .i64 0, .int .i64 0, .int .i64 0] 71 (0, 0)) ∧ Below w.heap.size w w1) := by
    intro w1 hb1
    obtain ⟨q0, q1, q2, -⟩ := four_box ((hb1.block w.heap.size (by simp; omega)).trans hx0)
    exact ⟨q0, q1, q2, (hb1.block (w.heap.size + 1) (by simp; omega)).trans hx1, b2.drew.trans (hb1.mono (by simp; omega))⟩
  go_enter Try.func63, Try.ntmps63
  go_wp2_with fail
  clear hW2 hx0 hx1 hn
  go_region_held3 (fun w' => w'.cell? ⟨w.heap.size, 0, none⟩ = some (.string g) ∧ w'.cell? ⟨w.heap.size, 1, none⟩ = some (.string s) ∧ w'.cell? ⟨w.heap.size, 2, none⟩ = some (.slice a1 n.length c1)) (go_keep) (first | (go_at_call 41; refine cc.mono ?_; rintro e w1 ⟨u, rfl, ho, b1⟩; obtain ⟨ub, uq, rfl⟩ := ownA_shape ho; obtain ⟨z0, z1, z2, z3, z4⟩ := HN.out w1 b1; obtain ⟨n0, n1, n2, n3, n4, n5, n6, n7, n8⟩ := nine_box z3; have f0 := frozen_box z3 0; have f1 := frozen_box z3 1; have f2 := frozen_box z3 2; have f3 := frozen_box z3 3; have f4 := frozen_box z3 4; have f5 := frozen_box z3 5; have f6 := frozen_box z3 6; have f7 := frozen_box z3 7; have f8 := frozen_box z3 8; have Z3 : Hid (w1.heap[w.heap.size + 1]? = some (.cells #[.bool false, .string ⟨#[]⟩, .string ⟨#[]⟩, .slice none 0 0, .int .i64 0, .int .i64 0, .int .i64 0, .int .i64 0, .int .i64 0] 71 (0, 0))) := z3; clear z3) | fail)
  go_wp2_with fail
  obtain ⟨W3, hW3⟩ : ∃ W3, (((((((((w1.setCell ⟨w.heap.size + 1, 0, none⟩ (.bool true)).setCell ⟨w.heap.size + 1, 1, none⟩ (.string g)).setCell ⟨w.heap.size + 1, 2, none⟩ (.string s)).setCell ⟨w.heap.size + 1, 3, none⟩ (.slice ub n.length uq)).setCell ⟨w.heap.size + 1, 4, none⟩ (.int .i64 (-1))).setCell ⟨w.heap.size + 1, 5, none⟩ (.int .i64 (-1))).setCell ⟨w.heap.size + 1, 6, none⟩ (.int .i64 (-1))).setCell ⟨w.heap.size + 1, 7, none⟩ (.int .i64 (-1))).setCell ⟨w.heap.size + 1, 8, none⟩ (.int .i64 (-1))) = W3 := ⟨_, rfl⟩
  rw [hW3]
  obtain ⟨r1, r2, r3, r4⟩ := set9 _ _ _ _ _ _ _ _ _ Z3.out hW3
  refine bodyPost_ret (results_cell_row rfl _ W3 (w.heap.size + 1) 71 _ (0, 0) _ rfl r1 Try.underlying71 rfl (by kernel_rfl)) rfl ?_
  refine ⟨_, _, _, rfl, ?_, r4 _ _ (by omega) z4⟩
  have hlt := World.ownsRow.lt ho
  have hd : W2.drew.heap.size = W2.heap.size := rfl
  refine ⟨ho.1, ?_⟩
  rcases ho.2 with h | ⟨g', cap', cur, h1, h2, h3, h4⟩
  · exact .inl h
  · exact .inr ⟨g', cap', cur, h1, by omega, (r2 g' (by omega)).trans h3, h4⟩
theorem copied_nil (w : World) : Calls Try.prog 41 #[.slice none 0 0] w fun e w' => e = .returned (.slice none 0 0) ∧ w = w' := by
  go_enter Try.func41, Try.ntmps41
  go_wp2_with fail
  go_ret
  exact ⟨rfl, rfl⟩
set_option maxRecDepth 20000 in
set_option maxHeartbeats 800000 in
theorem detached_nil {w : World} {g s : ByteArray} {a : Option Addr} {k cap : Nat} :
    Calls Try.prog 63 #[.agg #[.string g, .string s, .slice none 0 0, .slice a k cap]] w fun e w' => e = .returned (.agg #[.bool true, .string g, .string s, .slice none 0 0, .int .i64 (-1), .int .i64 (-1), .int .i64 (-1), .int .i64 (-1), .int .i64 (-1)]) ∧ Below w.heap.size w w' := by
  obtain ⟨W2, hW2⟩ : ∃ W2, (w.alloc (.cells #[.string g, .string s, .slice none 0 0, .slice a k cap] 28)).alloc (.cells #[.bool false, .string ⟨#[]⟩, .string ⟨#[]⟩, .slice none 0 0, .int .i64 0, .int .i64 0, .int .i64 0, .int .i64 0, .int .i64 0] 71) = W2 := ⟨_, rfl⟩
  have b2 : Below w.heap.size w W2 := by rw [← hW2]; exact ((Below.refl _ w).alloc (Nat.le_refl _) _).alloc (by simp) _
  have s2 : W2.heap.size = w.heap.size + 2 := by rw [← hW2]; simp
  have hx0 : W2.heap[w.heap.size]? = some (.cells #[.string g, .string s, .slice none 0 0, .slice a k cap] 28 (0, 0)) := by
    rw [← hW2, Below.heap_alloc _ _ _ (by simp), heap_alloc_new]
  have hx1 : W2.heap[w.heap.size + 1]? = some (.cells #[.bool false, .string ⟨#[]⟩, .string ⟨#[]⟩, .slice none 0 0, .int .i64 0, .int .i64 0, .int .i64 0, .int .i64 0, .int .i64 0] 71 (0, 0)) := by
    have := heap_alloc_new (w.alloc (.cells #[.string g, .string s, .slice none 0 0, .slice a k cap] 28)) (.cells #[.bool false, .string ⟨#[]⟩, .string ⟨#[]⟩, .slice none 0 0, .int .i64 0, .int .i64 0, .int .i64 0, .int .i64 0, .int .i64 0] 71)
    rwa [hW2, World.size_alloc] at this
  have cc := copied_nil W2.drew
  obtain ⟨e0, e1, e2, -⟩ := four_box hx0
  have HN : Hid (∀ w1, Below W2.drew.heap.size W2.drew w1 → w1.cell? ⟨w.heap.size, 0, none⟩ = some (.string g) ∧ w1.cell? ⟨w.heap.size, 1, none⟩ = some (.string s) ∧ w1.cell? ⟨w.heap.size, 2, none⟩ = some (.slice none 0 0) ∧ w1.heap[w.heap.size + 1]? = some (.cells #[.bool false, .string ⟨#[]⟩, .string ⟨#[]⟩, .slice none 0 0, .int .i64 0, .int .i64 0, .int .i64 0, .int .i64 0, .int .i64 0] 71 (0, 0)) ∧ Below w.heap.size w w1) := by
    intro w1 hb1
    obtain ⟨q0, q1, q2, -⟩ := four_box ((hb1.block w.heap.size (by simp; omega)).trans hx0)
    exact ⟨q0, q1, q2, (hb1.block (w.heap.size + 1) (by simp; omega)).trans hx1, b2.drew.trans (hb1.mono (by simp; omega))⟩
  go_enter Try.func63, Try.ntmps63
  go_wp2_with fail
  clear hW2 hx0 hx1
  go_region_held3 (fun w' => w'.cell? ⟨w.heap.size, 0, none⟩ = some (.string g) ∧ w'.cell? ⟨w.heap.size, 1, none⟩ = some (.string s) ∧ w'.cell? ⟨w.heap.size, 2, none⟩ = some (.slice none 0 0)) (go_keep) (first | (go_at_call 41; refine cc.mono ?_; rintro e w1 ⟨rfl, hw1⟩; have b1 : Below W2.drew.heap.size W2.drew w1 := hw1 ▸ Below.refl _ _; obtain ⟨z0, z1, z2, z3, z4⟩ := HN.out w1 b1; obtain ⟨n0, n1, n2, n3, n4, n5, n6, n7, n8⟩ := nine_box z3; have f0 := frozen_box z3 0; have f1 := frozen_box z3 1; have f2 := frozen_box z3 2; have f3 := frozen_box z3 3; have f4 := frozen_box z3 4; have f5 := frozen_box z3 5; have f6 := frozen_box z3 6; have f7 := frozen_box z3 7; have f8 := frozen_box z3 8; have Z3 : Hid (w1.heap[w.heap.size + 1]? = some (.cells #[.bool false, .string ⟨#[]⟩, .string ⟨#[]⟩, .slice none 0 0, .int .i64 0, .int .i64 0, .int .i64 0, .int .i64 0, .int .i64 0] 71 (0, 0))) := z3; clear z3) | fail)
  go_wp2_with fail
  obtain ⟨W3, hW3⟩ : ∃ W3, (((((((((w1.setCell ⟨w.heap.size + 1, 0, none⟩ (.bool true)).setCell ⟨w.heap.size + 1, 1, none⟩ (.string g)).setCell ⟨w.heap.size + 1, 2, none⟩ (.string s)).setCell ⟨w.heap.size + 1, 3, none⟩ (.slice none 0 0)).setCell ⟨w.heap.size + 1, 4, none⟩ (.int .i64 (-1))).setCell ⟨w.heap.size + 1, 5, none⟩ (.int .i64 (-1))).setCell ⟨w.heap.size + 1, 6, none⟩ (.int .i64 (-1))).setCell ⟨w.heap.size + 1, 7, none⟩ (.int .i64 (-1))).setCell ⟨w.heap.size + 1, 8, none⟩ (.int .i64 (-1))) = W3 := ⟨_, rfl⟩
  rw [hW3]
  obtain ⟨r1, r2, r3, r4⟩ := set9 _ _ _ _ _ _ _ _ _ Z3.out hW3
  refine bodyPost_ret (results_cell_row rfl _ W3 (w.heap.size + 1) 71 _ (0, 0) _ rfl r1 Try.underlying71 rfl (by kernel_rfl)) rfl ?_
  exact ⟨rfl, r4 _ _ (by omega) z4⟩
end Go.Proofs.Ytnpamcgbnimdkaa.DCell
