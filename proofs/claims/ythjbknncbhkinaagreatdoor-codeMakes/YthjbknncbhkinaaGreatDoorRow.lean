/- Rows of texts and of values of one's own. -/
import Derived.Test.YthjbknncbhkinaaGreatDoorBase
import Derived.Maps.AppendAt
namespace Go.Proofs.YthjbknncbhkinaaGreatDoor.Base
open Go.RowKit
set_option linter.unusedVariables false

theorem info9 : (Tryz.prog.info? 9).map (fun i => (i.zero, i.size, i.bytes)) = some (some (.string ⟨#[]⟩), 1, 16) := by kernel_rfl
theorem info25 : (Tryz.prog.info? 46).map (fun i => (i.zero, i.size, i.bytes)) = some (some (.agg #[.int .i64 0, .bool false, .int .i64 0, .string ⟨#[]⟩, .slice none 0 0, .slice none 0 0]), 6, 88) := by kernel_rfl
/-- Blocks from lo on, below hi. -/
def Rg (lo hi : Nat) : Nat → Prop := fun b => lo ≤ b ∧ b < hi
/-- A row of texts of one's own. -/
def OwnT (w : World) (B : Nat) (v : Value) (L : List ByteArray) : Prop := w.ownsRow B 9 1 v L.length (L.map Value.string)
theorem one_texts (L : List ByteArray) : ∀ u ∈ L.map Value.string, u.oneCell' = true := by
  intro u hu
  obtain ⟨_, _, rfl⟩ := List.mem_map.1 hu
  rfl
theorem ownT_cell {w : World} {B g n cap : Nat} {L : List ByteArray} (h : OwnT w B (.slice (some ⟨g, 0, none⟩) n cap) L) (j : Nat) (hj : j < L.length) : w.cell? ⟨g, 0 + j, none⟩ = some (.string L[j]) := by
  have hc := World.ownsRow.cells (g := g) h rfl j (.string L[j]) (by simp [hj])
  rw [add_none] at hc
  exact hc
theorem ownT_lt {w : World} {B g n cap : Nat} {L : List ByteArray} (h : OwnT w B (.slice (some ⟨g, 0, none⟩) n cap) L) : B ≤ g ∧ g < w.heap.size := World.ownsRow.lt h g rfl
theorem ownT_cap {w : World} {B g n cap : Nat} {L : List ByteArray} (h : OwnT w B (.slice (some ⟨g, 0, none⟩) n cap) L) : n = L.length ∧ n ≤ cap ∧ cap ≤ maxLen := by
  rcases h.2 with ⟨h0, _⟩ | ⟨g', cap', cur, e, _, _, h1, h2, _⟩
  · cases h0
  · cases e
    exact ⟨rfl, h1, h2⟩
/-- A row of values of one's own: their cells one behind the other. -/
def flat (us : List Value) : List Value := us.flatMap fun u => u.cells.toList
def Sixes (us : List Value) : Prop := ∀ u ∈ us, ∃ v0 v1 v2 v3 v4 v5, u = .agg #[v0, v1, v2, v3, v4, v5] ∧ ∀ x ∈ [v0, v1, v2, v3, v4, v5], x.oneCell' = true
def OwnV (w : World) (B : Nat) (v : Value) (us : List Value) : Prop := w.ownsRow B 46 6 v us.length (flat us) ∧ Sixes us
theorem flat_append (a b : List Value) : flat (a ++ b) = flat a ++ flat b := by simp [flat]
theorem flat_len {us : List Value} (h : Sixes us) : (flat us).length = us.length * 6 := by
  induction us with
  | nil => rfl
  | cons u us ih =>
    obtain ⟨v0, v1, v2, v3, v4, v5, rfl, -⟩ := h u (by simp)
    have := ih (fun x hx => h x (by simp [hx]))
    simp only [flat, List.flatMap_cons, List.length_append] at this ⊢
    simp only [Value.cells, List.length_cons] at this ⊢
    simp [this]
    omega
theorem flat_get {us : List Value} (h : Sixes us) : ∀ (j : Nat) (hj : j < us.length) (i : Nat), i < 6 → (flat us)[j * 6 + i]? = us[j].cells.toList[i]? := by
  induction us with
  | nil => intro j hj; simp at hj
  | cons u us ih =>
    intro j hj i hi
    obtain ⟨v0, v1, v2, v3, v4, v5, rfl, -⟩ := h u (by simp)
    have ih := ih (fun x hx => h x (by simp [hx]))
    have e : flat (.agg #[v0, v1, v2, v3, v4, v5] :: us) = [v0, v1, v2, v3, v4, v5] ++ flat us := by simp [flat, Value.cells]
    rw [e]
    cases j with
    | zero =>
      rw [List.getElem?_append_left (by simp; omega)]
      simp [Value.cells]
    | succ j =>
      rw [List.getElem?_append_right (by simp; omega)]
      have e2 : (j + 1) * 6 + i - [v0, v1, v2, v3, v4, v5].length = j * 6 + i := by simp; omega
      rw [e2, ih j (by simpa using hj) i hi]
      simp
theorem ownV_six {w : World} {B g n cap : Nat} {us : List Value} (h : OwnV w B (.slice (some ⟨g, 0, none⟩) n cap) us) (j : Nat) (hj : j < us.length) : Six w g (0 + j * 6) us[j] := by
  obtain ⟨v0, v1, v2, v3, v4, v5, e, -⟩ := h.2 us[j] (List.getElem_mem hj)
  have hc : ∀ i u, i < 6 → us[j].cells.toList[i]? = some u → w.cell? ⟨g, 0 + (j * 6 + i), none⟩ = some u := by
    intro i u hi hu
    rw [← add_none]
    exact World.ownsRow.cells (g := g) h.1 rfl (j * 6 + i) u (by rw [flat_get h.2 j hj i hi]; exact hu)
  rw [e] at hc ⊢
  refine ⟨v0, v1, v2, v3, v4, v5, rfl, ?_, ?_, ?_, ?_, ?_, ?_⟩
  · exact hc 0 v0 (by omega) rfl
  · exact hc 1 v1 (by omega) rfl
  · exact hc 2 v2 (by omega) rfl
  · exact hc 3 v3 (by omega) rfl
  · exact hc 4 v4 (by omega) rfl
  · exact hc 5 v5 (by omega) rfl
theorem ownV_cap {w : World} {B g n cap : Nat} {L : List Value} (h : OwnV w B (.slice (some ⟨g, 0, none⟩) n cap) L) : n = L.length ∧ n ≤ cap ∧ cap ≤ maxLen := by
  rcases h.1.2 with ⟨h0, _⟩ | ⟨g', cap', cur, e, _, _, h1, h2, _⟩
  · cases h0
  · cases e
    exact ⟨rfl, h1, h2⟩
theorem ownV_lt {w : World} {B g n cap : Nat} {L : List Value} (h : OwnV w B (.slice (some ⟨g, 0, none⟩) n cap) L) : B ≤ g ∧ g < w.heap.size := World.ownsRow.lt h.1 g rfl
/-- The cells of a new block. -/
theorem new_cells (w : World) (cs : List Value) (t : TypeId) : ∀ j u, cs[j]? = some u → (w.alloc (.cells cs.toArray t)).cell? ((⟨w.heap.size, 0, none⟩ : Addr).add j) = some u := by
  intro j u hu
  rw [add_none, Nat.zero_add]
  have h := heap_alloc_new w (.cells cs.toArray t)
  have e : (w.alloc (.cells cs.toArray t)).cell? ⟨w.heap.size, j, none⟩ = cs.toArray[j]? := by
    unfold World.cell?
    rw [h]
    rfl
  rw [e]
  simpa using hu
theorem block_set {w : World} {B j : Nat} {cs : Array Value} {t : TypeId} {fz : Nat × Nat} (h : w.heap[B]? = some (.cells cs t fz)) (u : Value) : (w.setCell ⟨B, j, none⟩ u).heap[B]? = some (.cells (cs.setIfInBounds j u) t fz) := by
  simp [World.setCell, Array.getElem?_modify, h]
theorem frozen_box {w : World} {B : Nat} {cs : Array Value} {t : TypeId} (h : w.heap[B]? = some (.cells cs t (0, 0))) (j : Nat) : w.frozen? ⟨B, j, none⟩ = false := by
  simp [World.frozen?, h]
/-- What the six cells of a value are. -/
theorem In.kinds {r : Bool} {S : Nat → Prop} {w : World} {m : Nat} {x0 x1 x2 x3 x4 x5 : Value} {c : C} (h : In r S w m (.agg #[x0, x1, x2, x3, x4, x5]) c) :
    ∃ a1 n1 c1 a2 n2 c2, x0 = .int .i64 c.k ∧ x1 = .bool c.b ∧ x2 = .int .i64 c.i ∧ x3 = .string c.s ∧ x4 = .slice a1 n1 c1 ∧ x5 = .slice a2 n2 c2 := by
  obtain ⟨m', nv, lv, -, e, -, -, -, ⟨a1, c1, rfl, -⟩, ⟨a2, c2, rfl, -⟩⟩ := h.shape
  simp only [Value.agg.injEq, Array.mk.injEq, List.cons.injEq, and_true] at e
  exact ⟨_, _, _, _, _, _, e⟩
/-- Six cells written. -/
theorem set6 {W W' : World} {B : Nat} {t : TypeId} {y0 y1 y2 y3 y4 y5 : Value} (x0 x1 x2 x3 x4 x5 : Value) (h : W.heap[B]? = some (.cells #[y0, y1, y2, y3, y4, y5] t (0, 0))) (hW : ((((((W.setCell ⟨B, 0, none⟩ x0).setCell ⟨B, 1, none⟩ x1).setCell ⟨B, 2, none⟩ x2).setCell ⟨B, 3, none⟩ x3).setCell ⟨B, 4, none⟩ x4).setCell ⟨B, 5, none⟩ x5) = W') :
    W'.heap[B]? = some (.cells #[x0, x1, x2, x3, x4, x5] t (0, 0)) ∧ (∀ b, b ≠ B → W'.heap[b]? = W.heap[b]?) ∧ W'.heap.size = W.heap.size ∧ ∀ w n, n ≤ B → Below n w W → Below n w W' := by
  subst hW
  refine ⟨?_, fun b hb => ?_, by simp [World.setCell], fun w n hn hb => ?_⟩
  · rw [block_set (block_set (block_set (block_set (block_set (block_set h _) _) _) _) _) _]
    rfl
  · rw [Below.heap_setCell _ _ _ _ hb, Below.heap_setCell _ _ _ _ hb, Below.heap_setCell _ _ _ _ hb, Below.heap_setCell _ _ _ _ hb, Below.heap_setCell _ _ _ _ hb, Below.heap_setCell _ _ _ _ hb]
  · exact (((((hb.setCell (p := ⟨B, 0, none⟩) hn x0).setCell (p := ⟨B, 1, none⟩) hn x1).setCell (p := ⟨B, 2, none⟩) hn x2).setCell (p := ⟨B, 3, none⟩) hn x3).setCell (p := ⟨B, 4, none⟩) hn x4).setCell (p := ⟨B, 5, none⟩) hn x5
theorem own_below {w w' : World} {B : Nat} {e : TypeId} {s n : Nat} {v : Value} {xs : List Value} (h : w.ownsRow B e s v n xs) (hb : Below w.heap.size w w') : w'.ownsRow B e s v n xs := by
  refine ⟨h.1, ?_⟩
  rcases h.2 with h2 | ⟨g, cap, cur, hv, hg, hh, r⟩
  · exact .inl h2
  · exact .inr ⟨g, cap, cur, hv, hg, (hb.block g (Array.getElem?_eq_some_iff.1 hh).1).trans hh, r⟩
/-- The blocks of what lies in a row that is still built. -/
def El (lo hi : Nat) (v : Value) : Nat → Prop := fun b => lo ≤ b ∧ b < hi ∧ v.ownBlock ≠ some b
theorem sixes_snoc {us : List Value} {u : Value} (h : Sixes us) (hu : ∃ v0 v1 v2 v3 v4 v5, u = .agg #[v0, v1, v2, v3, v4, v5] ∧ ∀ x ∈ [v0, v1, v2, v3, v4, v5], x.oneCell' = true) : Sixes (us ++ [u]) := by
  intro x hx
  rcases List.mem_append.1 hx with hx | hx
  · exact h x hx
  · simp at hx; subst hx; exact hu
theorem room7_six : ∃ v0 v1 v2 v3 v4 v5, room7 = .agg #[v0, v1, v2, v3, v4, v5] ∧ ∀ x ∈ [v0, v1, v2, v3, v4, v5], x.oneCell' = true :=
  ⟨_, _, _, _, _, _, rfl, by intro x hx; simp at hx; rcases hx with rfl | rfl | rfl | rfl | rfl <;> rfl⟩
theorem els_keep {r : Bool} {w wr w1 w2 : World} {m : Nat} {us : List Value} {l : List C} {out v' : Value} (hels : ∀ j (h : j < us.length) (h' : j < l.length), In r (El w.heap.size wr.heap.size out) wr m us[j] l[j])
    (b1 : Below wr.heap.size wr w1) (o : Obj) (hgrow : (w1.alloc o).grownBy w2 out.ownBlock) (hat : v'.ownBlock = out.ownBlock ∨ v'.ownBlock = some (w1.heap.size + 1)) :
    ∀ j (h : j < us.length) (h' : j < l.length), In r (El w.heap.size w2.heap.size v') w2 m us[j] l[j] := by
  have hs1 := b1.size
  have hs2 := hgrow.size
  rw [World.size_alloc] at hs2
  intro j hj h'
  refine ((hels j hj h').keep (w' := w2) ?_).weak ?_ r id m (Nat.le_refl _)
  · intro b hS hb
    rw [hgrow.block b (by simp; omega) (fun e => hS.2.2 e.symm), Below.heap_alloc _ _ _ (by omega), b1.block b hb]
  · intro b hS
    have h3 := hS.2.1
    refine ⟨hS.1, by omega, ?_⟩
    rcases hat with h | h
    · rw [h]; exact hS.2.2
    · rw [h]
      intro e
      have := Option.some.inj e
      omega
theorem els_step {r : Bool} {w wr w1 w2 : World} {m q : Nat} {us : List Value} {l : List C} {out v' u : Value} (hels : ∀ j (h : j < us.length) (h' : j < l.length), In r (El w.heap.size wr.heap.size out) wr m us[j] l[j])
    (hus : us.length = q) (hq : q < l.length) (hown : OwnV wr w.heap.size out us) (b1 : Below wr.heap.size wr w1) (hin1 : In r (Rg wr.heap.size w1.heap.size) w1 m u l[q]) (hsz : w.heap.size ≤ wr.heap.size) (o : Obj)
    (hgrow : (w1.alloc o).grownBy w2 out.ownBlock) (hat : v'.ownBlock = out.ownBlock ∨ v'.ownBlock = some (w1.heap.size + 1)) :
    ∀ j (h : j < (us ++ [u]).length) (h' : j < l.length), In r (El w.heap.size w2.heap.size v') w2 m (us ++ [u])[j] l[j] := by
  have hk := els_keep hels b1 o hgrow hat
  have hlt := World.ownsRow.lt hown.1
  have hs1 := b1.size
  have hs2 := hgrow.size
  rw [World.size_alloc] at hs2
  intro j h h'
  by_cases hj : j < us.length
  · rw [List.getElem_append_left hj]
    exact hk j hj h'
  · have e : j = us.length := by simp at h; omega
    subst e
    subst hus
    rw [List.getElem_append_right (by omega)]
    simp only [Nat.sub_self, List.getElem_cons_zero]
    have hne : ∀ b, wr.heap.size ≤ b → out.ownBlock ≠ some b := fun b hb e => by have := (hlt b e).2; omega
    refine (hin1.keep (w' := w2) ?_).weak ?_ r id m (Nat.le_refl _)
    · intro b hS hb
      rw [hgrow.block b (by simp; omega) (fun e => hne b hS.1 e.symm), Below.heap_alloc _ _ _ hb]
    · intro b hS
      have h2 := hS.2
      have h1 := hS.1
      refine ⟨by omega, by omega, ?_⟩
      rcases hat with h | h
      · rw [h]; exact hne b hS.1
      · rw [h]
        intro e
        have := Option.some.inj e
        omega
end Go.Proofs.YthjbknncbhkinaaGreatDoor.Base
