import Derived.Deep.RegionHeld3
import Derived.LoopN
import Derived.LoopTactic
import Derived.Maps.AppendAt
import Derived.Test.YtdeigdbnnbikgaaGreatDoorPZ03
import Derived.Test.YtdeigdbnnbikgaaGreatDoorPZ04
import Derived.Test.YtdeigdbnnbikgaaGreatDoorPZ06
namespace Go.Proofs.YtdeigdbnnbikgaaGreatDoor.VIn
open Go.RowKit Go.Proofs.YtdeigdbnnbikgaaGreatDoor.Base Go.Proofs.YtdeigdbnnbikgaaGreatDoor.EPure Go.Proofs.YtdeigdbnnbikgaaGreatDoor.VPure Go.Proofs.YtdeigdbnnbikgaaGreatDoor.VSm
set_option linter.unusedVariables false
theorem bel_d {w W0 W1 : World} (h : Below w.heap.size w W0) (k : Below W0.drew.heap.size W0.drew W1) : Below w.heap.size w W1 :=
  (⟨h.os, h.tape, h.output, h.size, h.block⟩ : Below w.heap.size w W0.drew).trans (k.mono h.size)
set_option maxRecDepth 20000 in
set_option maxHeartbeats 1600000 in
theorem integers_c (k1 : Int) (b1 : Bool) (i1 : Int) (s1 : ByteArray) (n1 l1 : Value) (k2 : Int) (b2 : Bool) (i2 : Int) (s2 : ByteArray) (n2 l2 : Value) (w : World) : Calls Tryz.prog 151 #[vl k1 b1 i1 s1 n1 l1, vl k2 b2 i2 s2 n2 l2] w fun e w' => An w w' e (fun p : Int × Int => .tuple #[.int .i64 p.1, .int .i64 p.2]) (if k1 = 3 then (if k2 = 3 then .ok (i1, i2) else .error 1101) else .error 1101) := by
  obtain ⟨W0, hW0⟩ : ∃ W0, (w.alloc (.cells #[.int .i64 k1, .bool b1, .int .i64 i1, .string s1, n1, l1] 32)).alloc (.cells #[.int .i64 k2, .bool b2, .int .i64 i2, .string s2, n2, l2] 32) = W0 := ⟨_, rfl⟩
  have hs0 : W0.heap.size = w.heap.size + 2 := by rw [← hW0]; simp
  have hb0 : Below w.heap.size w W0 := by rw [← hW0]; exact ((Below.refl _ w).alloc (Nat.le_refl _) _).alloc (by simp) _
  have hp : W0.heap[w.heap.size]? = some (.cells #[.int .i64 k1, .bool b1, .int .i64 i1, .string s1, n1, l1] 32 (0, 0)) := by rw [← hW0, Below.heap_alloc _ _ _ (by simp), heap_alloc_new]
  have hq : W0.heap[w.heap.size + 1]? = some (.cells #[.int .i64 k2, .bool b2, .int .i64 i2, .string s2, n2, l2] 32 (0, 0)) := by
    have := heap_alloc_new (w.alloc (.cells #[.int .i64 k1, .bool b1, .int .i64 i1, .string s1, n1, l1] 32)) (.cells #[.int .i64 k2, .bool b2, .int .i64 i2, .string s2, n2, l2] 32)
    rw [World.size_alloc] at this
    rw [← hW0]
    exact this
  have HP : Hid (W0.heap[w.heap.size]? = some (.cells #[.int .i64 k1, .bool b1, .int .i64 i1, .string s1, n1, l1] 32 (0, 0))) := hp
  have HQ : Hid (W0.heap[w.heap.size + 1]? = some (.cells #[.int .i64 k2, .bool b2, .int .i64 i2, .string s2, n2, l2] 32 (0, 0))) := hq
  have HB : Hid (Below w.heap.size w W0) := hb0
  have hsD : W0.drew.heap.size = w.heap.size + 2 := by simp [hs0]
  obtain ⟨p0, p1, p2, p3, p4, p5⟩ := six_box hp
  obtain ⟨q0, q1, q2, q3, q4, q5⟩ := six_box hq
  clear hp hq hb0
  have c1 := fun W => integer_c k1 b1 i1 s1 n1 l1 W
  have c2 := fun W => integer_c k2 b2 i2 s2 n2 l2 W
  by_cases h1 : k1 = 3
  · rw [if_pos h1] at c1
    rw [if_pos h1]
    clear h1
    by_cases h2 : k2 = 3
    · rw [if_pos h2] at c2
      rw [if_pos h2]
      clear h2
      go_enter Tryz.func151, Tryz.ntmps151
      go_wp2_with fail
      try rw [hW0]
      refine wp_region_held_drew (S := fun w' => (w'.cell? ⟨w.heap.size, 0, none⟩ = some (.int .i64 k1) ∧ w'.cell? ⟨w.heap.size, 1, none⟩ = some (.bool b1) ∧ w'.cell? ⟨w.heap.size, 2, none⟩ = some (.int .i64 i1) ∧ w'.cell? ⟨w.heap.size, 3, none⟩ = some (.string s1) ∧ w'.cell? ⟨w.heap.size, 4, none⟩ = some (n1) ∧ w'.cell? ⟨w.heap.size, 5, none⟩ = some (l1)) ∧ (w'.cell? ⟨w.heap.size + 1, 0, none⟩ = some (.int .i64 k2) ∧ w'.cell? ⟨w.heap.size + 1, 1, none⟩ = some (.bool b2) ∧ w'.cell? ⟨w.heap.size + 1, 2, none⟩ = some (.int .i64 i2) ∧ w'.cell? ⟨w.heap.size + 1, 3, none⟩ = some (.string s2) ∧ w'.cell? ⟨w.heap.size + 1, 4, none⟩ = some (n2) ∧ w'.cell? ⟨w.heap.size + 1, 5, none⟩ = some (l2))) (by kernel_rfl) (by first | assumption | go_keep) (fun hHeld => ?_)
      refine wpAnyH_take (i := 0) (v := ?_) rfl (by kernel_rfl) (by kernel_rfl) (by kernel_rfl) (fun _ _ _ h => h) (Or.inl ⟨by rfl, ?_⟩) (by assumption) ?_
      rotate_left 1
      · intro w hSw; (try dsimp only at hSw); go_simp; first | done | with_reducible rfl | (rw [if_neg (by omega)])
      try simp only [Act.put, List.getElem_toArray, List.getElem_cons_zero, List.setIfInBounds_toArray, List.set_cons_zero, List.set_cons_succ]
      refine wpAnyH_take (i := 2) (v := ?_) rfl (by kernel_rfl) (by kernel_rfl) (by kernel_rfl) (fun _ _ _ h => h) (Or.inl ⟨by rfl, ?_⟩) (by assumption) ?_
      rotate_left 1
      · intro w hSw; (try dsimp only at hSw); go_simp; first | done | with_reducible rfl | (rw [if_neg (by omega)])
      try simp only [Act.put, List.getElem_toArray, List.getElem_cons_zero, List.getElem_cons_succ, List.setIfInBounds_toArray, List.set_cons_zero, List.set_cons_succ]
      refine wpAnyH_ready (rs := [1]) (by kernel_rfl) (by simp) ?_
      refine AllReadyH.cons rfl (fun K hK => ?_) (AllReadyH.nil)
      go_simp
      refine (c1 _).mono ?_
      rintro e W1 ⟨rfl, hb1⟩
      have hp1 := (hb1.block w.heap.size (by rw [hsD]; omega)).trans HP.out
      have hq1 := (hb1.block (w.heap.size + 1) (by rw [hsD]; omega)).trans HQ.out
      obtain ⟨x0, x1, x2, x3, x4, x5⟩ := six_box hp1
      obtain ⟨y0, y1, y2, y3, y4, y5⟩ := six_box hq1
      have HB1 : Hid (Below w.heap.size w W1) := bel_d HB.out hb1
      have HP1 : Hid _ := hp1
      have HQ1 : Hid _ := hq1
      have hs1 := hb1.size
      rw [hsD] at hs1
      clear hp1 hq1 hb1
      go_wp2_with fail
      refine hK.out _ _ (by first | assumption | go_keep) (fun hHeld => ?_)
      clear hK K
      try simp only [Act.put, List.getElem_toArray, List.getElem_cons_zero, List.getElem_cons_succ, List.setIfInBounds_toArray, List.set_cons_zero, List.set_cons_succ]
      refine wpAnyH_ready (rs := [3]) (by kernel_rfl) (by simp) ?_
      refine AllReadyH.cons rfl (fun K hK => ?_) (AllReadyH.nil)
      go_simp
      refine (c2 _).mono ?_
      rintro e W2 ⟨rfl, hb2⟩
      obtain ⟨z0, z1, z2, z3, z4, z5⟩ := six_box ((hb2.block w.heap.size (by omega)).trans HP1.out)
      obtain ⟨t0, t1, t2, t3, t4, t5⟩ := six_box ((hb2.block (w.heap.size + 1) (by omega)).trans HQ1.out)
      have HB2 : Hid (Below w.heap.size w W2) := HB1.out.trans (hb2.mono HB1.out.size)
      clear hb2
      go_wp2_with fail
      refine hK.out _ _ (by first | assumption | go_keep) (fun hHeld => ?_)
      clear hK K
      try simp only [Act.put, List.getElem_toArray, List.getElem_cons_zero, List.getElem_cons_succ, List.setIfInBounds_toArray, List.set_cons_zero, List.set_cons_succ]
      refine wpAnyH_take (i := 4) (v := ?_) rfl (by kernel_rfl) (by kernel_rfl) (by kernel_rfl) (fun _ _ _ h => h) (Or.inl ⟨by rfl, ?_⟩) (by assumption) ?_
      rotate_left 1
      · intro w hSw; (try dsimp only at hSw); go_simp; first | done | with_reducible rfl | (rw [if_neg (by omega)])
      try simp only [Act.put, List.getElem_toArray, List.getElem_cons_zero, List.getElem_cons_succ, List.setIfInBounds_toArray, List.set_cons_zero, List.set_cons_succ]
      refine wpAnyH_take (i := 5) (v := ?_) rfl (by kernel_rfl) (by kernel_rfl) (by kernel_rfl) (fun _ _ _ h => h) (Or.inl ⟨by rfl, ?_⟩) (by assumption) ?_
      rotate_left 1
      · intro w hSw; (try dsimp only at hSw); go_simp; first | done | with_reducible rfl | (rw [if_neg (by omega)])
      try simp only [Act.put, List.getElem_toArray, List.getElem_cons_zero, List.getElem_cons_succ, List.setIfInBounds_toArray, List.set_cons_zero, List.set_cons_succ]
      refine wpAnyH_done (by kernel_rfl) ?_ _
      go_wp2_with fail
      go_ret2
      exact ⟨rfl, HB2.out⟩
    · rw [if_neg h2] at c2
      rw [if_neg h2]
      clear h2
      go_enter Tryz.func151, Tryz.ntmps151
      go_wp2_with fail
      try rw [hW0]
      refine wp_region_held_drew (S := fun w' => (w'.cell? ⟨w.heap.size, 0, none⟩ = some (.int .i64 k1) ∧ w'.cell? ⟨w.heap.size, 1, none⟩ = some (.bool b1) ∧ w'.cell? ⟨w.heap.size, 2, none⟩ = some (.int .i64 i1) ∧ w'.cell? ⟨w.heap.size, 3, none⟩ = some (.string s1) ∧ w'.cell? ⟨w.heap.size, 4, none⟩ = some (n1) ∧ w'.cell? ⟨w.heap.size, 5, none⟩ = some (l1)) ∧ (w'.cell? ⟨w.heap.size + 1, 0, none⟩ = some (.int .i64 k2) ∧ w'.cell? ⟨w.heap.size + 1, 1, none⟩ = some (.bool b2) ∧ w'.cell? ⟨w.heap.size + 1, 2, none⟩ = some (.int .i64 i2) ∧ w'.cell? ⟨w.heap.size + 1, 3, none⟩ = some (.string s2) ∧ w'.cell? ⟨w.heap.size + 1, 4, none⟩ = some (n2) ∧ w'.cell? ⟨w.heap.size + 1, 5, none⟩ = some (l2))) (by kernel_rfl) (by first | assumption | go_keep) (fun hHeld => ?_)
      refine wpAnyH_take (i := 0) (v := ?_) rfl (by kernel_rfl) (by kernel_rfl) (by kernel_rfl) (fun _ _ _ h => h) (Or.inl ⟨by rfl, ?_⟩) (by assumption) ?_
      rotate_left 1
      · intro w hSw; (try dsimp only at hSw); go_simp; first | done | with_reducible rfl | (rw [if_neg (by omega)])
      try simp only [Act.put, List.getElem_toArray, List.getElem_cons_zero, List.setIfInBounds_toArray, List.set_cons_zero, List.set_cons_succ]
      refine wpAnyH_take (i := 2) (v := ?_) rfl (by kernel_rfl) (by kernel_rfl) (by kernel_rfl) (fun _ _ _ h => h) (Or.inl ⟨by rfl, ?_⟩) (by assumption) ?_
      rotate_left 1
      · intro w hSw; (try dsimp only at hSw); go_simp; first | done | with_reducible rfl | (rw [if_neg (by omega)])
      try simp only [Act.put, List.getElem_toArray, List.getElem_cons_zero, List.getElem_cons_succ, List.setIfInBounds_toArray, List.set_cons_zero, List.set_cons_succ]
      refine wpAnyH_ready (rs := [1]) (by kernel_rfl) (by simp) ?_
      refine AllReadyH.cons rfl (fun K hK => ?_) (AllReadyH.nil)
      go_simp
      refine (c1 _).mono ?_
      rintro e W1 ⟨rfl, hb1⟩
      have hp1 := (hb1.block w.heap.size (by rw [hsD]; omega)).trans HP.out
      have hq1 := (hb1.block (w.heap.size + 1) (by rw [hsD]; omega)).trans HQ.out
      obtain ⟨x0, x1, x2, x3, x4, x5⟩ := six_box hp1
      obtain ⟨y0, y1, y2, y3, y4, y5⟩ := six_box hq1
      have HB1 : Hid (Below w.heap.size w W1) := bel_d HB.out hb1
      have HP1 : Hid _ := hp1
      have HQ1 : Hid _ := hq1
      have hs1 := hb1.size
      rw [hsD] at hs1
      clear hp1 hq1 hb1
      go_wp2_with fail
      refine hK.out _ _ (by first | assumption | go_keep) (fun hHeld => ?_)
      clear hK K
      try simp only [Act.put, List.getElem_toArray, List.getElem_cons_zero, List.getElem_cons_succ, List.setIfInBounds_toArray, List.set_cons_zero, List.set_cons_succ]
      refine wpAnyH_ready (rs := [3]) (by kernel_rfl) (by simp) ?_
      refine AllReadyH.cons rfl (fun K hK => ?_) (AllReadyH.nil)
      go_simp
      refine (c2 _).mono ?_
      rintro e W2 ⟨rfl, hb2⟩
      exact ⟨rfl, rfl, HB1.out.trans (hb2.mono HB1.out.size)⟩
  · rw [if_neg h1] at c1
    rw [if_neg h1]
    clear h1
    go_enter Tryz.func151, Tryz.ntmps151
    go_wp2_with fail
    try rw [hW0]
    refine wp_region_held_drew (S := fun w' => (w'.cell? ⟨w.heap.size, 0, none⟩ = some (.int .i64 k1) ∧ w'.cell? ⟨w.heap.size, 1, none⟩ = some (.bool b1) ∧ w'.cell? ⟨w.heap.size, 2, none⟩ = some (.int .i64 i1) ∧ w'.cell? ⟨w.heap.size, 3, none⟩ = some (.string s1) ∧ w'.cell? ⟨w.heap.size, 4, none⟩ = some (n1) ∧ w'.cell? ⟨w.heap.size, 5, none⟩ = some (l1)) ∧ (w'.cell? ⟨w.heap.size + 1, 0, none⟩ = some (.int .i64 k2) ∧ w'.cell? ⟨w.heap.size + 1, 1, none⟩ = some (.bool b2) ∧ w'.cell? ⟨w.heap.size + 1, 2, none⟩ = some (.int .i64 i2) ∧ w'.cell? ⟨w.heap.size + 1, 3, none⟩ = some (.string s2) ∧ w'.cell? ⟨w.heap.size + 1, 4, none⟩ = some (n2) ∧ w'.cell? ⟨w.heap.size + 1, 5, none⟩ = some (l2))) (by kernel_rfl) (by first | assumption | go_keep) (fun hHeld => ?_)
    refine wpAnyH_take (i := 0) (v := ?_) rfl (by kernel_rfl) (by kernel_rfl) (by kernel_rfl) (fun _ _ _ h => h) (Or.inl ⟨by rfl, ?_⟩) (by assumption) ?_
    rotate_left 1
    · intro w hSw; (try dsimp only at hSw); go_simp; first | done | with_reducible rfl | (rw [if_neg (by omega)])
    try simp only [Act.put, List.getElem_toArray, List.getElem_cons_zero, List.setIfInBounds_toArray, List.set_cons_zero, List.set_cons_succ]
    refine wpAnyH_take (i := 2) (v := ?_) rfl (by kernel_rfl) (by kernel_rfl) (by kernel_rfl) (fun _ _ _ h => h) (Or.inl ⟨by rfl, ?_⟩) (by assumption) ?_
    rotate_left 1
    · intro w hSw; (try dsimp only at hSw); go_simp; first | done | with_reducible rfl | (rw [if_neg (by omega)])
    try simp only [Act.put, List.getElem_toArray, List.getElem_cons_zero, List.getElem_cons_succ, List.setIfInBounds_toArray, List.set_cons_zero, List.set_cons_succ]
    refine wpAnyH_ready (rs := [1]) (by kernel_rfl) (by simp) ?_
    refine AllReadyH.cons rfl (fun K hK => ?_) (AllReadyH.nil)
    go_simp
    refine (c1 _).mono ?_
    rintro e W1 ⟨rfl, hb1⟩
    exact ⟨rfl, rfl, bel_d HB.out hb1⟩
end Go.Proofs.YtdeigdbnnbikgaaGreatDoor.VIn
namespace Go.Proofs.YtdeigdbnnbikgaaGreatDoor.XBase
open Go.RowKit Go.Proofs.YtdeigdbnnbikgaaGreatDoor.EPure
open Go.Proofs.YtdeigdbnnbikgaaGreatDoor.Base (cell_lt Keep nx add_none heap_alloc_new All below_cell)
set_option linter.unusedVariables false
def room7 : Value := .agg #[.int .i64 (-7), .int .i64 0, .string ⟨#[]⟩, .slice none 0 0]
/-- Four cells in a row, as one. -/
def Four (w : World) (g o : Nat) (u : Value) : Prop :=
  ∃ v0 v1 v2 v3, u = .agg #[v0, v1, v2, v3] ∧ w.cell? ⟨g, o, none⟩ = some v0 ∧ w.cell? ⟨g, o + 1, none⟩ = some v1 ∧ w.cell? ⟨g, o + 2, none⟩ = some v2 ∧ w.cell? ⟨g, o + 3, none⟩ = some v3
/-- v lies in w and holds c, nested less than m deep; r: with marked room behind the lists; the blocks are of S. -/
def In (r : Bool) (S : Nat → Prop) (w : World) : Nat → Value → Ex → Prop
  | 0, _, _ => False
  | m + 1, v, .mk k i s l => ∃ a cap, v = .agg #[.int .i64 k, .int .i64 i, .string s, .slice a l.length cap] ∧
      (-9223372036854775808 ≤ k ∧ k ≤ 9223372036854775807) ∧ (-9223372036854775808 ≤ i ∧ i ≤ 9223372036854775807) ∧ s.size ≤ 140737488351232 ∧
      l.length ≤ cap ∧ cap ≤ 9223372036854775807 ∧ l.length * 56 ≤ 140737488351232 ∧ (a = none → cap = 0) ∧
      ((l = [] ∧ r = false) ∨ ∃ g o, a = some ⟨g, o, none⟩ ∧ S g ∧ (∀ j (h : j < l.length), ∃ u, Four w g (o + j * 4) u ∧ In r S w m u l[j]) ∧
        (r = true → l.length + 2 ≤ cap ∧ Four w g (o + l.length * 4) room7 ∧ Four w g (o + l.length * 4 + 4) room7))
/-- v is a list of the expressions l. -/
def LAt (r : Bool) (S : Nat → Prop) (w : World) (m : Nat) (a : Option Addr) (cap : Nat) (l : List Ex) : Prop := (l = [] ∧ r = false) ∨ ∃ g o, a = some ⟨g, o, none⟩ ∧ S g ∧ (∀ j (h : j < l.length), ∃ u, Four w g (o + j * 4) u ∧ In r S w m u l[j]) ∧
        (r = true → l.length + 2 ≤ cap ∧ Four w g (o + l.length * 4) room7 ∧ Four w g (o + l.length * 4 + 4) room7)
def InL (r : Bool) (S : Nat → Prop) (w : World) (m : Nat) (v : Value) (l : List Ex) : Prop :=
  ∃ a cap, v = .slice a l.length cap ∧ l.length ≤ cap ∧ cap ≤ 9223372036854775807 ∧ l.length * 56 ≤ 140737488351232 ∧ (a = none → cap = 0) ∧ LAt r S w m a cap l
theorem in_iff {r : Bool} {S : Nat → Prop} {w : World} {m : Nat} {v : Value} {k i : Int} {s : ByteArray} {l : List Ex} :
    In r S w (m + 1) v (.mk k i s l) ↔ ∃ lv, v = .agg #[.int .i64 k, .int .i64 i, .string s, lv] ∧
      (-9223372036854775808 ≤ k ∧ k ≤ 9223372036854775807) ∧ (-9223372036854775808 ≤ i ∧ i ≤ 9223372036854775807) ∧ s.size ≤ 140737488351232 ∧ InL r S w m lv l := by
  constructor
  · intro h
    rw [In] at h
    obtain ⟨a, cap, h1, h2, h3, h4, h6⟩ := h
    exact ⟨_, h1, h2, h3, h4, a, cap, rfl, h6⟩
  · rintro ⟨lv, h1, h2, h3, h4, a, cap, rfl, h6⟩
    rw [In]
    exact ⟨a, cap, h1, h2, h3, h4, h6⟩
theorem Keep.four {S : Nat → Prop} {w w' : World} (h : Keep S w w') {g o : Nat} {v : Value} (hS : S g) (hc : Four w g o v) : Four w' g o v := by
  obtain ⟨v0, v1, v2, v3, rfl, c0, c1, c2, c3⟩ := hc
  exact ⟨v0, v1, v2, v3, rfl, h.cell hS c0, h.cell hS c1, h.cell hS c2, h.cell hS c3⟩
theorem InL.keep_of {r : Bool} {S : Nat → Prop} {w w' : World} {m : Nat} (ih : ∀ (v : Value) (c : Ex), In r S w m v c → In r S w' m v c) {v : Value} {l : List Ex} (h : InL r S w m v l) (hk : Keep S w w') : InL r S w' m v l := by
  obtain ⟨a, cap, h1, h2, h3, h4, h5, h6⟩ := h
  refine ⟨a, cap, h1, h2, h3, h4, h5, ?_⟩
  rcases h6 with h6 | ⟨g, o, ha, hS, hc, hr⟩
  · exact .inl h6
  · refine .inr ⟨g, o, ha, hS, fun j hj => ?_, fun hr' => ⟨(hr hr').1, Keep.four hk hS (hr hr').2.1, Keep.four hk hS (hr hr').2.2⟩⟩
    obtain ⟨u, hu, hi⟩ := hc j hj
    exact ⟨u, Keep.four hk hS hu, ih _ _ hi⟩
theorem In.keep {r : Bool} {S : Nat → Prop} {w w' : World} (hk : Keep S w w') : ∀ {m : Nat} {v : Value} {c : Ex}, In r S w m v c → In r S w' m v c := by
  intro m
  induction m with
  | zero => intro v c h; rw [In] at h; exact h.elim
  | succ m ih =>
    intro v c h
    obtain ⟨k, i, s, l⟩ := c
    rw [in_iff] at h ⊢
    obtain ⟨lv, h1, h3, h4, h5, h6⟩ := h
    exact ⟨lv, h1, h3, h4, h5, h6.keep_of (fun v c => ih) hk⟩
theorem InL.keep {r : Bool} {S : Nat → Prop} {w w' : World} {m : Nat} {v : Value} {l : List Ex} (h : InL r S w m v l) (hk : Keep S w w') : InL r S w' m v l := h.keep_of (fun v c h => h.keep hk) hk
theorem In.below {r : Bool} {S : Nat → Prop} {w w' : World} {m : Nat} {v : Value} {c : Ex} (h : In r S w m v c) (hk : Below w.heap.size w w') : In r S w' m v c := h.keep (.of_below hk)
theorem InL.below {r : Bool} {S : Nat → Prop} {w w' : World} {m : Nat} {v : Value} {l : List Ex} (h : InL r S w m v l) (hk : Below w.heap.size w w') : InL r S w' m v l := h.keep (.of_below hk)
/-- Less asked: no room, more blocks, deeper. -/
theorem InL.weak_of {r : Bool} {S S' : Nat → Prop} {w : World} {m m' : Nat} {v : Value} {l : List Ex} (hS : ∀ b, S b → S' b) (r' : Bool) (hr : r' = true → r = true) (ih : ∀ (v : Value) (c : Ex), In r S w m v c → In r' S' w m' v c)
    (h : InL r S w m v l) : InL r' S' w m' v l := by
  obtain ⟨a, cap, h1, h2, h3, h4, h5, h6⟩ := h
  refine ⟨a, cap, h1, h2, h3, h4, h5, ?_⟩
  rcases h6 with ⟨h7, h8⟩ | ⟨g, o, ha, hg, hc, hr0⟩
  · refine .inl ⟨h7, ?_⟩
    cases r' with
    | true => rw [hr rfl] at h8; cases h8
    | false => rfl
  · refine .inr ⟨g, o, ha, hS _ hg, fun j hj => ?_, fun h => hr0 (hr h)⟩
    obtain ⟨u, hu, hi⟩ := hc j hj
    exact ⟨u, hu, ih _ _ hi⟩
theorem In.weak {r : Bool} {S S' : Nat → Prop} {w : World} (hS : ∀ b, S b → S' b) (r' : Bool) (hr : r' = true → r = true) : ∀ {m : Nat} (m' : Nat) {v : Value} {c : Ex}, m ≤ m' → In r S w m v c → In r' S' w m' v c := by
  intro m
  induction m with
  | zero => intro m' v c _ h; rw [In] at h; exact h.elim
  | succ m ih =>
    intro m' v c hm h
    obtain ⟨m', rfl⟩ : ∃ q, m' = q + 1 := ⟨m' - 1, by omega⟩
    obtain ⟨k, i, s, l⟩ := c
    rw [in_iff] at h ⊢
    obtain ⟨lv, h1, h3, h4, h5, h6⟩ := h
    exact ⟨lv, h1, h3, h4, h5, h6.weak_of hS r' hr (fun v c h => ih m' (by omega) h)⟩
theorem InL.weak {r : Bool} {S S' : Nat → Prop} {w : World} (hS : ∀ b, S b → S' b) (r' : Bool) (hr : r' = true → r = true) {m : Nat} (m' : Nat) {v : Value} {l : List Ex} (hm : m ≤ m') (h : InL r S w m v l) : InL r' S' w m' v l :=
  h.weak_of hS r' hr (fun v c h => h.weak hS r' hr m' hm)
theorem In.plain {r : Bool} {S : Nat → Prop} {w : World} {m : Nat} {v : Value} {c : Ex} (h : In r S w m v c) : In false All w m v c := h.weak (fun _ _ => trivial) false (fun h => by cases h) m (Nat.le_refl _)
theorem InL.plain {r : Bool} {S : Nat → Prop} {w : World} {m : Nat} {v : Value} {c : List Ex} (h : InL r S w m v c) : InL false All w m v c := h.weak (fun _ _ => trivial) false (fun h => by cases h) m (Nat.le_refl _)
/-- A box of four cells. -/
theorem four_box {w : World} {B : Nat} {v0 v1 v2 v3 : Value} {t : TypeId} (h : w.heap[B]? = some (.cells #[v0, v1, v2, v3] t (0, 0))) :
    w.cell? ⟨B, 0, none⟩ = some v0 ∧ w.cell? ⟨B, 1, none⟩ = some v1 ∧ w.cell? ⟨B, 2, none⟩ = some v2 ∧ w.cell? ⟨B, 3, none⟩ = some v3 := by
  refine ⟨?_, ?_, ?_, ?_⟩ <;> simp [World.cell?, h]
theorem two_box {w : World} {B : Nat} {v0 v1 : Value} {t : TypeId} (h : w.heap[B]? = some (.cells #[v0, v1] t (0, 0))) :
    w.cell? ⟨B, 0, none⟩ = some v0 ∧ w.cell? ⟨B, 1, none⟩ = some v1 := by
  refine ⟨?_, ?_⟩ <;> simp [World.cell?, h]
theorem frozen_box {w : World} {B : Nat} {vs : Array Value} {t : TypeId} (h : w.heap[B]? = some (.cells vs t (0, 0))) (j : Nat) : w.frozen? ⟨B, j, none⟩ = false := by
  simp [World.frozen?, h]
theorem elem_at {r : Bool} {S : Nat → Prop} {w : World} {m : Nat} {a : Option Addr} {cap : Nat} {l : List Ex} (hL : LAt r S w m a cap l) {q : Nat} (h : q < l.length) :
    ∃ g o u, a = some ⟨g, o, none⟩ ∧ S g ∧ Four w g (o + q * 4) u ∧ In r S w m u l[q] := by
  rcases hL with ⟨rfl, _⟩ | ⟨g, o, ha, hS, hc, _⟩
  · simp at h
  · obtain ⟨u, hu, hi⟩ := hc q h
    exact ⟨g, o, u, ha, hS, hu, hi⟩
theorem In.shape {r : Bool} {S : Nat → Prop} {w : World} {m : Nat} {v : Value} {c : Ex} (h : In r S w m v c) :
    ∃ m' lv, m = m' + 1 ∧ v = .agg #[.int .i64 c.o, .int .i64 c.i, .string c.s, lv] ∧ (-9223372036854775808 ≤ c.o ∧ c.o ≤ 9223372036854775807) ∧ (-9223372036854775808 ≤ c.i ∧ c.i ≤ 9223372036854775807) ∧ c.s.size ≤ 140737488351232 ∧ InL r S w m' lv c.l := by
  cases m with
  | zero => rw [In] at h; exact h.elim
  | succ m =>
    obtain ⟨k, i, s, l⟩ := c
    rw [in_iff] at h
    obtain ⟨lv, h⟩ := h
    exact ⟨m, lv, rfl, h⟩
/-- What the four cells of an expression are. -/
theorem In.kinds {r : Bool} {S : Nat → Prop} {w : World} {m : Nat} {x0 x1 x2 x3 : Value} {c : Ex} (h : In r S w m (.agg #[x0, x1, x2, x3]) c) :
    ∃ m' a2 c2, m = m' + 1 ∧ x0 = .int .i64 c.o ∧ x1 = .int .i64 c.i ∧ x2 = .string c.s ∧ x3 = .slice a2 c.l.length c2 ∧ (-9223372036854775808 ≤ c.o ∧ c.o ≤ 9223372036854775807) ∧ (-9223372036854775808 ≤ c.i ∧ c.i ≤ 9223372036854775807) ∧ c.s.size ≤ 140737488351232 ∧ InL r S w m' (.slice a2 c.l.length c2) c.l := by
  obtain ⟨m', lv, hm, e, ho, hi, hs, hl⟩ := h.shape
  simp only [Value.agg.injEq, Array.mk.injEq, List.cons.injEq, and_true] at e
  obtain ⟨rfl, rfl, rfl, rfl⟩ := e
  have hl0 := hl
  obtain ⟨a2, c2, rfl, -⟩ := hl
  exact ⟨m', a2, c2, hm, rfl, rfl, rfl, rfl, ho, hi, hs, hl0⟩
/-- Blocks from lo on, below hi. -/
def Rg (lo hi : Nat) : Nat → Prop := fun b => lo ≤ b ∧ b < hi
/-- An expression without kids. -/
theorem In.leaf (w : World) (m : Nat) (S : Nat → Prop) (k i : Int) (s : ByteArray) (hk : -9223372036854775808 ≤ k ∧ k ≤ 9223372036854775807) (hi : -9223372036854775808 ≤ i ∧ i ≤ 9223372036854775807) (hs : s.size ≤ 140737488351232) :
    In false S w (m + 1) (.agg #[.int .i64 k, .int .i64 i, .string s, .slice none 0 0]) (.mk k i s []) := by
  rw [in_iff]
  exact ⟨_, rfl, hk, hi, hs, none, 0, rfl, by simp, by simp, by simp, fun _ => rfl, .inl ⟨rfl, rfl⟩⟩
end Go.Proofs.YtdeigdbnnbikgaaGreatDoor.XBase
namespace Go.Proofs.YtdeigdbnnbikgaaGreatDoor.VOr
open Go.RowKit Go.Proofs.YtdeigdbnnbikgaaGreatDoor.Base Go.Proofs.YtdeigdbnnbikgaaGreatDoor.EPure Go.Proofs.YtdeigdbnnbikgaaGreatDoor.VPure Go.Proofs.YtdeigdbnnbikgaaGreatDoor.VSm Go.Proofs.YtdeigdbnnbikgaaGreatDoor.VIn
set_option linter.unusedVariables false
set_option maxRecDepth 20000 in
set_option maxHeartbeats 3200000 in
theorem order_c (k1 : Int) (b1 : Bool) (i1 : Int) (s1 : ByteArray) (n1 l1 : Value) (k2 : Int) (b2 : Bool) (i2 : Int) (s2 : ByteArray) (n2 l2 : Value) (w : World) : Calls Tryz.prog 154 #[vl k1 b1 i1 s1 n1 l1, vl k2 b2 i2 s2 n2 l2] w fun e w' => An w w' e (fun p : Int => .int .i64 p) (ord k1 i1 s1 k2 i2 s2) := by
  obtain ⟨W0, hW0⟩ : ∃ W0, (w.alloc (.cells #[.int .i64 k1, .bool b1, .int .i64 i1, .string s1, n1, l1] 32)).alloc (.cells #[.int .i64 k2, .bool b2, .int .i64 i2, .string s2, n2, l2] 32) = W0 := ⟨_, rfl⟩
  have hs0 : W0.heap.size = w.heap.size + 2 := by rw [← hW0]; simp
  have hb0 : Below w.heap.size w W0 := by rw [← hW0]; exact ((Below.refl _ w).alloc (Nat.le_refl _) _).alloc (by simp) _
  have hp : W0.heap[w.heap.size]? = some (.cells #[.int .i64 k1, .bool b1, .int .i64 i1, .string s1, n1, l1] 32 (0, 0)) := by rw [← hW0, Below.heap_alloc _ _ _ (by simp), heap_alloc_new]
  have hq : W0.heap[w.heap.size + 1]? = some (.cells #[.int .i64 k2, .bool b2, .int .i64 i2, .string s2, n2, l2] 32 (0, 0)) := by
    have := heap_alloc_new (w.alloc (.cells #[.int .i64 k1, .bool b1, .int .i64 i1, .string s1, n1, l1] 32)) (.cells #[.int .i64 k2, .bool b2, .int .i64 i2, .string s2, n2, l2] 32)
    rw [World.size_alloc] at this
    rw [← hW0]
    exact this
  have HP : Hid (W0.heap[w.heap.size]? = some (.cells #[.int .i64 k1, .bool b1, .int .i64 i1, .string s1, n1, l1] 32 (0, 0))) := hp
  have HQ : Hid (W0.heap[w.heap.size + 1]? = some (.cells #[.int .i64 k2, .bool b2, .int .i64 i2, .string s2, n2, l2] 32 (0, 0))) := hq
  have HB : Hid (Below w.heap.size w W0) := hb0
  have hsD : W0.drew.heap.size = w.heap.size + 2 := by simp [hs0]
  obtain ⟨p0, p1, p2, p3, p4, p5⟩ := six_box hp
  obtain ⟨q0, q1, q2, q3, q4, q5⟩ := six_box hq
  clear hp hq hb0
  have c1 := fun W => integer_c k1 b1 i1 s1 n1 l1 W
  have c2 := fun W => integer_c k2 b2 i2 s2 n2 l2 W
  have cC := fun W => Tryz.cmp_Compare_int i1 i2 W
  have cS := fun W => Tryz.strings_Compare s1 s2 W
  obtain ⟨X, hX⟩ : ∃ X, Lib.compareInt i1 i2 = X := ⟨_, rfl⟩
  obtain ⟨Y, hY⟩ : ∃ Y, Lib.compareBytes s1.data.toList s2.data.toList = Y := ⟨_, rfl⟩
  unfold ord
  rw [hX] at cC ⊢
  rw [hY] at cS ⊢
  clear hX hY
  by_cases h4 : k1 = 4 ∧ k2 = 4
  · rw [if_pos h4]
    obtain ⟨rfl, rfl⟩ := h4
    clear c1 c2 cC
    go_enter Tryz.func154, Tryz.ntmps154
    go_wp2_with fail
    try rw [hW0]
    refine (cS _).mono ?_
    rintro e W1 ⟨rfl, rfl⟩
    go_wp2_with fail
    go_ret
    exact ⟨rfl, HB.out⟩
  · rw [if_neg h4]
    have g4 : (k1 == 4 && k2 == 4) = false := by simp; omega
    clear cS
    by_cases h1 : k1 = 3
    · rw [if_pos h1] at c1
      rw [if_pos h1]
      have g1 : (k1 == 4) = false := by simp; omega
      by_cases h2 : k2 = 3
      · rw [if_pos h2] at c2
        rw [if_pos h2]
        clear h1 h2 h4 g4
        go_enter Tryz.func154, Tryz.ntmps154
        go_wp2_with fail
        try rw [hW0]
        refine wp_region_held_drew (S := fun w' => (w'.cell? ⟨w.heap.size, 0, none⟩ = some (.int .i64 k1) ∧ w'.cell? ⟨w.heap.size, 1, none⟩ = some (.bool b1) ∧ w'.cell? ⟨w.heap.size, 2, none⟩ = some (.int .i64 i1) ∧ w'.cell? ⟨w.heap.size, 3, none⟩ = some (.string s1) ∧ w'.cell? ⟨w.heap.size, 4, none⟩ = some (n1) ∧ w'.cell? ⟨w.heap.size, 5, none⟩ = some (l1)) ∧ (w'.cell? ⟨w.heap.size + 1, 0, none⟩ = some (.int .i64 k2) ∧ w'.cell? ⟨w.heap.size + 1, 1, none⟩ = some (.bool b2) ∧ w'.cell? ⟨w.heap.size + 1, 2, none⟩ = some (.int .i64 i2) ∧ w'.cell? ⟨w.heap.size + 1, 3, none⟩ = some (.string s2) ∧ w'.cell? ⟨w.heap.size + 1, 4, none⟩ = some (n2) ∧ w'.cell? ⟨w.heap.size + 1, 5, none⟩ = some (l2))) (by kernel_rfl) (by first | assumption | go_keep) (fun hHeld => ?_)
        refine wpAnyH_take (i := 0) (v := ?_) rfl (by kernel_rfl) (by kernel_rfl) (by kernel_rfl) (fun _ _ _ h => h) (Or.inl ⟨by rfl, ?_⟩) (by assumption) ?_
        rotate_left 1
        · intro w hSw; (try dsimp only at hSw); go_simp; first | done | with_reducible rfl | (rw [if_neg (by omega)])
        try simp only [Act.put, List.getElem_toArray, List.getElem_cons_zero, List.setIfInBounds_toArray, List.set_cons_zero, List.set_cons_succ]
        refine wpAnyH_take (i := 2) (v := ?_) rfl (by kernel_rfl) (by kernel_rfl) (by kernel_rfl) (fun _ _ _ h => h) (Or.inl ⟨by rfl, ?_⟩) (by assumption) ?_
        rotate_left 1
        · intro w hSw; (try dsimp only at hSw); go_simp; first | done | with_reducible rfl | (rw [if_neg (by omega)])
        try simp only [Act.put, List.getElem_toArray, List.getElem_cons_zero, List.getElem_cons_succ, List.setIfInBounds_toArray, List.set_cons_zero, List.set_cons_succ]
        refine wpAnyH_ready (rs := [1]) (by kernel_rfl) (by simp) ?_
        refine AllReadyH.cons rfl (fun K hK => ?_) (AllReadyH.nil)
        go_simp
        refine (c1 _).mono ?_
        rintro e W1 ⟨rfl, hb1⟩
        have hp1 := (hb1.block w.heap.size (by rw [hsD]; omega)).trans HP.out
        have hq1 := (hb1.block (w.heap.size + 1) (by rw [hsD]; omega)).trans HQ.out
        obtain ⟨x0, x1, x2, x3, x4, x5⟩ := six_box hp1
        obtain ⟨y0, y1, y2, y3, y4, y5⟩ := six_box hq1
        have HB1 : Hid (Below w.heap.size w W1) := bel_d HB.out hb1
        have HP1 : Hid _ := hp1
        have HQ1 : Hid _ := hq1
        have hs1 := hb1.size
        rw [hsD] at hs1
        clear hp1 hq1 hb1
        go_wp2_with fail
        refine hK.out _ _ (by first | assumption | go_keep) (fun hHeld => ?_)
        clear hK K
        try simp only [Act.put, List.getElem_toArray, List.getElem_cons_zero, List.getElem_cons_succ, List.setIfInBounds_toArray, List.set_cons_zero, List.set_cons_succ]
        refine wpAnyH_ready (rs := [3]) (by kernel_rfl) (by simp) ?_
        refine AllReadyH.cons rfl (fun K hK => ?_) (AllReadyH.nil)
        go_simp
        refine (c2 _).mono ?_
        rintro e W2 ⟨rfl, hb2⟩
        obtain ⟨z0, z1, z2, z3, z4, z5⟩ := six_box ((hb2.block w.heap.size (by omega)).trans HP1.out)
        obtain ⟨t0, t1, t2, t3, t4, t5⟩ := six_box ((hb2.block (w.heap.size + 1) (by omega)).trans HQ1.out)
        have HB2 : Hid (Below w.heap.size w W2) := HB1.out.trans (hb2.mono HB1.out.size)
        clear hb2
        go_wp2_with fail
        refine hK.out _ _ (by first | assumption | go_keep) (fun hHeld => ?_)
        clear hK K
        try simp only [Act.put, List.getElem_toArray, List.getElem_cons_zero, List.getElem_cons_succ, List.setIfInBounds_toArray, List.set_cons_zero, List.set_cons_succ]
        refine wpAnyH_ready (rs := [4]) (by kernel_rfl) (by simp) ?_
        refine AllReadyH.cons rfl (fun K hK => ?_) (AllReadyH.nil)
        go_simp
        refine (cC _).mono ?_
        rintro e W3 ⟨rfl, rfl⟩
        go_wp2_with fail
        refine hK.out _ _ (by first | assumption | go_keep) (fun hHeld => ?_)
        clear hK K
        try simp only [Act.put, List.getElem_toArray, List.getElem_cons_zero, List.getElem_cons_succ, List.setIfInBounds_toArray, List.set_cons_zero, List.set_cons_succ]
        refine wpAnyH_take (i := 5) (v := ?_) rfl (by kernel_rfl) (by kernel_rfl) (by kernel_rfl) (fun _ _ _ h => h) (Or.inl ⟨by rfl, ?_⟩) (by assumption) ?_
        rotate_left 1
        · intro w hSw; (try dsimp only at hSw); go_simp; first | done | with_reducible rfl | (rw [if_neg (by omega)])
        try simp only [Act.put, List.getElem_toArray, List.getElem_cons_zero, List.getElem_cons_succ, List.setIfInBounds_toArray, List.set_cons_zero, List.set_cons_succ]
        refine wpAnyH_done (by kernel_rfl) ?_ _
        go_wp2_with fail
        go_ret
        exact ⟨rfl, HB2.out⟩
      · rw [if_neg h2] at c2
        rw [if_neg h2]
        clear h1 h2 h4 g4
        go_enter Tryz.func154, Tryz.ntmps154
        go_wp2_with fail
        try rw [hW0]
        refine wp_region_held_drew (S := fun w' => (w'.cell? ⟨w.heap.size, 0, none⟩ = some (.int .i64 k1) ∧ w'.cell? ⟨w.heap.size, 1, none⟩ = some (.bool b1) ∧ w'.cell? ⟨w.heap.size, 2, none⟩ = some (.int .i64 i1) ∧ w'.cell? ⟨w.heap.size, 3, none⟩ = some (.string s1) ∧ w'.cell? ⟨w.heap.size, 4, none⟩ = some (n1) ∧ w'.cell? ⟨w.heap.size, 5, none⟩ = some (l1)) ∧ (w'.cell? ⟨w.heap.size + 1, 0, none⟩ = some (.int .i64 k2) ∧ w'.cell? ⟨w.heap.size + 1, 1, none⟩ = some (.bool b2) ∧ w'.cell? ⟨w.heap.size + 1, 2, none⟩ = some (.int .i64 i2) ∧ w'.cell? ⟨w.heap.size + 1, 3, none⟩ = some (.string s2) ∧ w'.cell? ⟨w.heap.size + 1, 4, none⟩ = some (n2) ∧ w'.cell? ⟨w.heap.size + 1, 5, none⟩ = some (l2))) (by kernel_rfl) (by first | assumption | go_keep) (fun hHeld => ?_)
        refine wpAnyH_take (i := 0) (v := ?_) rfl (by kernel_rfl) (by kernel_rfl) (by kernel_rfl) (fun _ _ _ h => h) (Or.inl ⟨by rfl, ?_⟩) (by assumption) ?_
        rotate_left 1
        · intro w hSw; (try dsimp only at hSw); go_simp; first | done | with_reducible rfl | (rw [if_neg (by omega)])
        try simp only [Act.put, List.getElem_toArray, List.getElem_cons_zero, List.setIfInBounds_toArray, List.set_cons_zero, List.set_cons_succ]
        refine wpAnyH_take (i := 2) (v := ?_) rfl (by kernel_rfl) (by kernel_rfl) (by kernel_rfl) (fun _ _ _ h => h) (Or.inl ⟨by rfl, ?_⟩) (by assumption) ?_
        rotate_left 1
        · intro w hSw; (try dsimp only at hSw); go_simp; first | done | with_reducible rfl | (rw [if_neg (by omega)])
        try simp only [Act.put, List.getElem_toArray, List.getElem_cons_zero, List.getElem_cons_succ, List.setIfInBounds_toArray, List.set_cons_zero, List.set_cons_succ]
        refine wpAnyH_ready (rs := [1]) (by kernel_rfl) (by simp) ?_
        refine AllReadyH.cons rfl (fun K hK => ?_) (AllReadyH.nil)
        go_simp
        refine (c1 _).mono ?_
        rintro e W1 ⟨rfl, hb1⟩
        have hp1 := (hb1.block w.heap.size (by rw [hsD]; omega)).trans HP.out
        have hq1 := (hb1.block (w.heap.size + 1) (by rw [hsD]; omega)).trans HQ.out
        obtain ⟨x0, x1, x2, x3, x4, x5⟩ := six_box hp1
        obtain ⟨y0, y1, y2, y3, y4, y5⟩ := six_box hq1
        have HB1 : Hid (Below w.heap.size w W1) := bel_d HB.out hb1
        have HP1 : Hid _ := hp1
        have HQ1 : Hid _ := hq1
        have hs1 := hb1.size
        rw [hsD] at hs1
        clear hp1 hq1 hb1
        go_wp2_with fail
        refine hK.out _ _ (by first | assumption | go_keep) (fun hHeld => ?_)
        clear hK K
        try simp only [Act.put, List.getElem_toArray, List.getElem_cons_zero, List.getElem_cons_succ, List.setIfInBounds_toArray, List.set_cons_zero, List.set_cons_succ]
        refine wpAnyH_ready (rs := [3]) (by kernel_rfl) (by simp) ?_
        refine AllReadyH.cons rfl (fun K hK => ?_) (AllReadyH.nil)
        go_simp
        refine (c2 _).mono ?_
        rintro e W2 ⟨rfl, hb2⟩
        exact ⟨rfl, rfl, HB1.out.trans (hb2.mono HB1.out.size)⟩
    · rw [if_neg h1] at c1
      rw [if_neg h1]
      by_cases g : k1 = 4
      · have g1 : (k1 == 4) = true := by simp [g]
        have g2 : (k2 == 4) = false := by simp; omega
        clear h1 h4 g4 g
        go_enter Tryz.func154, Tryz.ntmps154
        go_wp2_with fail
        try rw [hW0]
        refine wp_region_held_drew (S := fun w' => (w'.cell? ⟨w.heap.size, 0, none⟩ = some (.int .i64 k1) ∧ w'.cell? ⟨w.heap.size, 1, none⟩ = some (.bool b1) ∧ w'.cell? ⟨w.heap.size, 2, none⟩ = some (.int .i64 i1) ∧ w'.cell? ⟨w.heap.size, 3, none⟩ = some (.string s1) ∧ w'.cell? ⟨w.heap.size, 4, none⟩ = some (n1) ∧ w'.cell? ⟨w.heap.size, 5, none⟩ = some (l1)) ∧ (w'.cell? ⟨w.heap.size + 1, 0, none⟩ = some (.int .i64 k2) ∧ w'.cell? ⟨w.heap.size + 1, 1, none⟩ = some (.bool b2) ∧ w'.cell? ⟨w.heap.size + 1, 2, none⟩ = some (.int .i64 i2) ∧ w'.cell? ⟨w.heap.size + 1, 3, none⟩ = some (.string s2) ∧ w'.cell? ⟨w.heap.size + 1, 4, none⟩ = some (n2) ∧ w'.cell? ⟨w.heap.size + 1, 5, none⟩ = some (l2))) (by kernel_rfl) (by first | assumption | go_keep) (fun hHeld => ?_)
        refine wpAnyH_take (i := 0) (v := ?_) rfl (by kernel_rfl) (by kernel_rfl) (by kernel_rfl) (fun _ _ _ h => h) (Or.inl ⟨by rfl, ?_⟩) (by assumption) ?_
        rotate_left 1
        · intro w hSw; (try dsimp only at hSw); go_simp; first | done | with_reducible rfl | (rw [if_neg (by omega)])
        try simp only [Act.put, List.getElem_toArray, List.getElem_cons_zero, List.setIfInBounds_toArray, List.set_cons_zero, List.set_cons_succ]
        refine wpAnyH_take (i := 2) (v := ?_) rfl (by kernel_rfl) (by kernel_rfl) (by kernel_rfl) (fun _ _ _ h => h) (Or.inl ⟨by rfl, ?_⟩) (by assumption) ?_
        rotate_left 1
        · intro w hSw; (try dsimp only at hSw); go_simp; first | done | with_reducible rfl | (rw [if_neg (by omega)])
        try simp only [Act.put, List.getElem_toArray, List.getElem_cons_zero, List.getElem_cons_succ, List.setIfInBounds_toArray, List.set_cons_zero, List.set_cons_succ]
        refine wpAnyH_ready (rs := [1]) (by kernel_rfl) (by simp) ?_
        refine AllReadyH.cons rfl (fun K hK => ?_) (AllReadyH.nil)
        go_simp
        refine (c1 _).mono ?_
        rintro e W1 ⟨rfl, hb1⟩
        exact ⟨rfl, rfl, bel_d HB.out hb1⟩
      · have g1 : (k1 == 4) = false := by simp; omega
        clear h1 h4 g4 g
        go_enter Tryz.func154, Tryz.ntmps154
        go_wp2_with fail
        try rw [hW0]
        refine wp_region_held_drew (S := fun w' => (w'.cell? ⟨w.heap.size, 0, none⟩ = some (.int .i64 k1) ∧ w'.cell? ⟨w.heap.size, 1, none⟩ = some (.bool b1) ∧ w'.cell? ⟨w.heap.size, 2, none⟩ = some (.int .i64 i1) ∧ w'.cell? ⟨w.heap.size, 3, none⟩ = some (.string s1) ∧ w'.cell? ⟨w.heap.size, 4, none⟩ = some (n1) ∧ w'.cell? ⟨w.heap.size, 5, none⟩ = some (l1)) ∧ (w'.cell? ⟨w.heap.size + 1, 0, none⟩ = some (.int .i64 k2) ∧ w'.cell? ⟨w.heap.size + 1, 1, none⟩ = some (.bool b2) ∧ w'.cell? ⟨w.heap.size + 1, 2, none⟩ = some (.int .i64 i2) ∧ w'.cell? ⟨w.heap.size + 1, 3, none⟩ = some (.string s2) ∧ w'.cell? ⟨w.heap.size + 1, 4, none⟩ = some (n2) ∧ w'.cell? ⟨w.heap.size + 1, 5, none⟩ = some (l2))) (by kernel_rfl) (by first | assumption | go_keep) (fun hHeld => ?_)
        refine wpAnyH_take (i := 0) (v := ?_) rfl (by kernel_rfl) (by kernel_rfl) (by kernel_rfl) (fun _ _ _ h => h) (Or.inl ⟨by rfl, ?_⟩) (by assumption) ?_
        rotate_left 1
        · intro w hSw; (try dsimp only at hSw); go_simp; first | done | with_reducible rfl | (rw [if_neg (by omega)])
        try simp only [Act.put, List.getElem_toArray, List.getElem_cons_zero, List.setIfInBounds_toArray, List.set_cons_zero, List.set_cons_succ]
        refine wpAnyH_take (i := 2) (v := ?_) rfl (by kernel_rfl) (by kernel_rfl) (by kernel_rfl) (fun _ _ _ h => h) (Or.inl ⟨by rfl, ?_⟩) (by assumption) ?_
        rotate_left 1
        · intro w hSw; (try dsimp only at hSw); go_simp; first | done | with_reducible rfl | (rw [if_neg (by omega)])
        try simp only [Act.put, List.getElem_toArray, List.getElem_cons_zero, List.getElem_cons_succ, List.setIfInBounds_toArray, List.set_cons_zero, List.set_cons_succ]
        refine wpAnyH_ready (rs := [1]) (by kernel_rfl) (by simp) ?_
        refine AllReadyH.cons rfl (fun K hK => ?_) (AllReadyH.nil)
        go_simp
        refine (c1 _).mono ?_
        rintro e W1 ⟨rfl, hb1⟩
        exact ⟨rfl, rfl, bel_d HB.out hb1⟩
end Go.Proofs.YtdeigdbnnbikgaaGreatDoor.VOr
