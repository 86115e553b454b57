/- Rows of attributes and of trees of one's own. -/
import Derived.Test.YtgknjjaemjkloaaTBase
namespace Go.Proofs.Ytgknjjaemjkloaa.TBase
open Go.RowKit
set_option linter.unusedVariables false

theorem infoA : (Try.prog.info? 176).map (fun i => (i.zero, i.size, i.bytes)) = some (some (.agg #[.string ⟨#[]⟩, .string ⟨#[]⟩]), 2, 32) := by kernel_rfl
theorem infoT : (Try.prog.info? 53).map (fun i => (i.zero, i.size, i.bytes)) = some (some (.agg #[.string ⟨#[]⟩, .string ⟨#[]⟩, .slice none 0 0, .slice none 0 0]), 4, 80) := by kernel_rfl
/-- A row of attributes of one's own. -/
def flatA (L : List (ByteArray × ByteArray)) : List Value := L.flatMap fun t => [.string t.1, .string t.2]
def OwnA (w : World) (B : Nat) (v : Value) (L : List (ByteArray × ByteArray)) : Prop := w.ownsRow B 176 2 v L.length (flatA L)
theorem flatA_append (a b : List (ByteArray × ByteArray)) : flatA (a ++ b) = flatA a ++ flatA b := by simp [flatA]
theorem flatA_len (L : List (ByteArray × ByteArray)) : (flatA L).length = L.length * 2 := by
  induction L with
  | nil => rfl
  | cons t L ih =>
    simp only [flatA, List.flatMap_cons, List.length_append, List.length_cons] at ih ⊢
    rw [ih]
    simp
    omega
theorem flatA_get (L : List (ByteArray × ByteArray)) : ∀ (j : Nat) (hj : j < L.length), (flatA L)[j * 2]? = some (.string L[j].1) ∧ (flatA L)[j * 2 + 1]? = some (.string L[j].2) := by
  induction L with
  | nil => intro j hj; simp at hj
  | cons t L ih =>
    intro j hj
    have e : flatA (t :: L) = [.string t.1, .string t.2] ++ flatA L := by simp [flatA]
    rw [e]
    cases j with
    | zero => simp
    | succ j =>
      rw [List.getElem?_append_right (by simp; omega), List.getElem?_append_right (by simp; omega)]
      have e2 : (j + 1) * 2 - [Value.string t.1, .string t.2].length = j * 2 := by simp; omega
      have e3 : (j + 1) * 2 + 1 - [Value.string t.1, .string t.2].length = j * 2 + 1 := by simp; omega
      rw [e2, e3]
      exact ih j (by simpa using hj)
theorem one_attrs (L : List (ByteArray × ByteArray)) : ∀ u ∈ flatA L, u.oneCell' = true := by
  intro u hu
  obtain ⟨t, _, h⟩ := List.mem_flatMap.1 hu
  simp at h
  rcases h with rfl | rfl <;> rfl
theorem ownA_cell {w : World} {B g n cap : Nat} {L : List (ByteArray × ByteArray)} (h : OwnA w B (.slice (some ⟨g, 0, none⟩) n cap) L) (j : Nat) (hj : j < L.length) : Two w g (0 + j * 2) L[j] := by
  have h1 := World.ownsRow.cells (g := g) h rfl (j * 2) _ (flatA_get L j hj).1
  have h2 := World.ownsRow.cells (g := g) h rfl (j * 2 + 1) _ (flatA_get L j hj).2
  rw [add_none] at h1 h2
  exact ⟨h1, h2⟩
theorem ownA_lt {w : World} {B g n cap : Nat} {L : List (ByteArray × ByteArray)} (h : OwnA w B (.slice (some ⟨g, 0, none⟩) n cap) L) : B ≤ g ∧ g < w.heap.size := World.ownsRow.lt h g rfl
/-- A row of trees of one's own: their cells one behind the other. -/
def flat (us : List Value) : List Value := us.flatMap fun u => u.cells.toList
def Fours (us : List Value) : Prop := ∀ u ∈ us, ∃ v0 v1 v2 v3, u = .agg #[v0, v1, v2, v3] ∧ ∀ x ∈ [v0, v1, v2, v3], x.oneCell' = true
def OwnV (w : World) (B : Nat) (v : Value) (us : List Value) : Prop := w.ownsRow B 53 4 v us.length (flat us) ∧ Fours us
theorem flat_append (a b : List Value) : flat (a ++ b) = flat a ++ flat b := by simp [flat]
theorem flat_len {us : List Value} (h : Fours us) : (flat us).length = us.length * 4 := by
  induction us with
  | nil => rfl
  | cons u us ih =>
    obtain ⟨v0, v1, v2, v3, rfl, -⟩ := h u (by simp)
    have := ih (fun x hx => h x (by simp [hx]))
    simp only [flat, List.flatMap_cons, List.length_append] at this ⊢
    simp only [Value.cells, List.length_cons] at this ⊢
    simp [this]
    omega
theorem flat_get {us : List Value} (h : Fours us) : ∀ (j : Nat) (hj : j < us.length) (i : Nat), i < 4 → (flat us)[j * 4 + i]? = us[j].cells.toList[i]? := by
  induction us with
  | nil => intro j hj; simp at hj
  | cons u us ih =>
    intro j hj i hi
    obtain ⟨v0, v1, v2, v3, rfl, -⟩ := h u (by simp)
    have ih := ih (fun x hx => h x (by simp [hx]))
    have e : flat (.agg #[v0, v1, v2, v3] :: us) = [v0, v1, v2, v3] ++ flat us := by simp [flat, Value.cells]
    rw [e]
    cases j with
    | zero =>
      rw [List.getElem?_append_left (by simp; omega)]
      simp [Value.cells]
    | succ j =>
      rw [List.getElem?_append_right (by simp; omega)]
      have e2 : (j + 1) * 4 + i - [v0, v1, v2, v3].length = j * 4 + i := by simp; omega
      rw [e2, ih j (by simpa using hj) i hi]
      simp
theorem ownV_four {w : World} {B g n cap : Nat} {us : List Value} (h : OwnV w B (.slice (some ⟨g, 0, none⟩) n cap) us) (j : Nat) (hj : j < us.length) : Four w g (0 + j * 4) us[j] := by
  obtain ⟨v0, v1, v2, v3, e, -⟩ := h.2 us[j] (List.getElem_mem hj)
  have hc : ∀ i u, i < 4 → us[j].cells.toList[i]? = some u → w.cell? ⟨g, 0 + (j * 4 + i), none⟩ = some u := by
    intro i u hi hu
    rw [← add_none]
    exact World.ownsRow.cells (g := g) h.1 rfl (j * 4 + i) u (by rw [flat_get h.2 j hj i hi]; exact hu)
  rw [e] at hc ⊢
  refine ⟨v0, v1, v2, v3, rfl, ?_, ?_, ?_, ?_⟩
  · exact hc 0 v0 (by omega) rfl
  · exact hc 1 v1 (by omega) rfl
  · exact hc 2 v2 (by omega) rfl
  · exact hc 3 v3 (by omega) rfl
theorem ownV_lt {w : World} {B g n cap : Nat} {L : List Value} (h : OwnV w B (.slice (some ⟨g, 0, none⟩) n cap) L) : B ≤ g ∧ g < w.heap.size := World.ownsRow.lt h.1 g rfl
/-- The cells of a new block. -/
theorem new_cells (w : World) (cs : List Value) (t : TypeId) : ∀ j u, cs[j]? = some u → (w.alloc (.cells cs.toArray t)).cell? ((⟨w.heap.size, 0, none⟩ : Addr).add j) = some u := by
  intro j u hu
  rw [add_none, Nat.zero_add]
  have h := heap_alloc_new w (.cells cs.toArray t)
  have e : (w.alloc (.cells cs.toArray t)).cell? ⟨w.heap.size, j, none⟩ = cs.toArray[j]? := by
    unfold World.cell?
    rw [h]
    rfl
  rw [e]
  simpa using hu
theorem block_set {w : World} {B j : Nat} {cs : Array Value} {t : TypeId} {fz : Nat × Nat} (h : w.heap[B]? = some (.cells cs t fz)) (u : Value) : (w.setCell ⟨B, j, none⟩ u).heap[B]? = some (.cells (cs.setIfInBounds j u) t fz) := by
  simp [World.setCell, Array.getElem?_modify, h]
theorem frozen_box {w : World} {B : Nat} {cs : Array Value} {t : TypeId} (h : w.heap[B]? = some (.cells cs t (0, 0))) (j : Nat) : w.frozen? ⟨B, j, none⟩ = false := by
  simp [World.frozen?, h]
/-- Four cells written. -/
theorem set4 {W W' : World} {B : Nat} {t : TypeId} {y0 y1 y2 y3 : Value} (x0 x1 x2 x3 : Value) (h : W.heap[B]? = some (.cells #[y0, y1, y2, y3] t (0, 0))) (hW : ((((W.setCell ⟨B, 0, none⟩ x0).setCell ⟨B, 1, none⟩ x1).setCell ⟨B, 2, none⟩ x2).setCell ⟨B, 3, none⟩ x3) = W') :
    W'.heap[B]? = some (.cells #[x0, x1, x2, x3] t (0, 0)) ∧ (∀ b, b ≠ B → W'.heap[b]? = W.heap[b]?) ∧ W'.heap.size = W.heap.size ∧ ∀ w n, n ≤ B → Below n w W → Below n w W' := by
  subst hW
  refine ⟨?_, fun b hb => ?_, by simp [World.setCell], fun w n hn hb => ?_⟩
  · rw [block_set (block_set (block_set (block_set h _) _) _) _]
    rfl
  · rw [Below.heap_setCell _ _ _ _ hb, Below.heap_setCell _ _ _ _ hb, Below.heap_setCell _ _ _ _ hb, Below.heap_setCell _ _ _ _ hb]
  · exact (((hb.setCell (p := ⟨B, 0, none⟩) hn x0).setCell (p := ⟨B, 1, none⟩) hn x1).setCell (p := ⟨B, 2, none⟩) hn x2).setCell (p := ⟨B, 3, none⟩) hn x3
theorem own_below {w w' : World} {B : Nat} {e : TypeId} {s n : Nat} {v : Value} {xs : List Value} (h : w.ownsRow B e s v n xs) (hb : Below w.heap.size w w') : w'.ownsRow B e s v n xs := by
  refine ⟨h.1, ?_⟩
  rcases h.2 with h2 | ⟨g, cap, cur, hv, hg, hh, r⟩
  · exact .inl h2
  · exact .inr ⟨g, cap, cur, hv, hg, (hb.block g (Array.getElem?_eq_some_iff.1 hh).1).trans hh, r⟩
/-- The blocks of what lies in a row that is still built. -/
def El (lo hi : Nat) (v : Value) : Nat → Prop := fun b => lo ≤ b ∧ b < hi ∧ v.ownBlock ≠ some b
theorem fours_snoc {us : List Value} {u : Value} (h : Fours us) (hu : ∃ v0 v1 v2 v3, u = .agg #[v0, v1, v2, v3] ∧ ∀ x ∈ [v0, v1, v2, v3], x.oneCell' = true) : Fours (us ++ [u]) := by
  intro x hx
  rcases List.mem_append.1 hx with hx | hx
  · exact h x hx
  · simp at hx; subst hx; exact hu
theorem room4_four : ∃ v0 v1 v2 v3, room4 = .agg #[v0, v1, v2, v3] ∧ ∀ x ∈ [v0, v1, v2, v3], x.oneCell' = true :=
  ⟨_, _, _, _, rfl, by intro x hx; simp at hx; rcases hx with rfl | rfl | rfl <;> rfl⟩
theorem els_keep {r : Bool} {w wr w1 w2 : World} {m : Nat} {us : List Value} {l : List T} {out v' : Value} (hels : ∀ j (h : j < us.length) (h' : j < l.length), In r (El w.heap.size wr.heap.size out) wr m us[j] l[j])
    (b1 : Below wr.heap.size wr w1) (o : Obj) (hgrow : (w1.alloc o).grownBy w2 out.ownBlock) (hat : v'.ownBlock = out.ownBlock ∨ v'.ownBlock = some (w1.heap.size + 1)) :
    ∀ j (h : j < us.length) (h' : j < l.length), In r (El w.heap.size w2.heap.size v') w2 m us[j] l[j] := by
  have hs1 := b1.size
  have hs2 := hgrow.size
  rw [World.size_alloc] at hs2
  intro j hj h'
  refine ((hels j hj h').keep (w' := w2) ?_).weak ?_ r id m (Nat.le_refl _)
  · intro b hS hb
    rw [hgrow.block b (by simp; omega) (fun e => hS.2.2 e.symm), Below.heap_alloc _ _ _ (by omega), b1.block b hb]
  · intro b hS
    have h3 := hS.2.1
    refine ⟨hS.1, by omega, ?_⟩
    rcases hat with h | h
    · rw [h]; exact hS.2.2
    · rw [h]
      intro e
      have := Option.some.inj e
      omega
theorem els_step {r : Bool} {w wr w1 w2 : World} {m q : Nat} {us : List Value} {l : List T} {out v' u : Value} (hels : ∀ j (h : j < us.length) (h' : j < l.length), In r (El w.heap.size wr.heap.size out) wr m us[j] l[j])
    (hus : us.length = q) (hq : q < l.length) (hown : OwnV wr w.heap.size out us) (b1 : Below wr.heap.size wr w1) (hin1 : In r (Rg wr.heap.size w1.heap.size) w1 m u l[q]) (hsz : w.heap.size ≤ wr.heap.size) (o : Obj)
    (hgrow : (w1.alloc o).grownBy w2 out.ownBlock) (hat : v'.ownBlock = out.ownBlock ∨ v'.ownBlock = some (w1.heap.size + 1)) :
    ∀ j (h : j < (us ++ [u]).length) (h' : j < l.length), In r (El w.heap.size w2.heap.size v') w2 m (us ++ [u])[j] l[j] := by
  have hk := els_keep hels b1 o hgrow hat
  have hlt := World.ownsRow.lt hown.1
  have hs1 := b1.size
  have hs2 := hgrow.size
  rw [World.size_alloc] at hs2
  intro j h h'
  by_cases hj : j < us.length
  · rw [List.getElem_append_left hj]
    exact hk j hj h'
  · have e : j = us.length := by simp at h; omega
    subst e
    subst hus
    rw [List.getElem_append_right (by omega)]
    simp only [Nat.sub_self, List.getElem_cons_zero]
    have hne : ∀ b, wr.heap.size ≤ b → out.ownBlock ≠ some b := fun b hb e => by have := (hlt b e).2; omega
    refine (hin1.keep (w' := w2) ?_).weak ?_ r id m (Nat.le_refl _)
    · intro b hS hb
      rw [hgrow.block b (by simp; omega) (fun e => hne b hS.1 e.symm), Below.heap_alloc _ _ _ hb]
    · intro b hS
      have h2 := hS.2
      have h1 := hS.1
      refine ⟨by omega, by omega, ?_⟩
      rcases hat with h | h
      · rw [h]; exact hne b hS.1
      · rw [h]
        intro e
        have := Option.some.inj e
        omega
end Go.Proofs.Ytgknjjaemjkloaa.TBase
