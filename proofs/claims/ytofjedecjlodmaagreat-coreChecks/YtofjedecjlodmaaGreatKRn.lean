/- Rows of structs of one's own, each of n cells; a row that is gathered by append. -/
import Derived.Test.YtofjedecjlodmaaGreatXLend
import Derived.Test.YtofjedecjlodmaaGreatKBase
import Derived.Deep.RegionWith
namespace Go.Proofs.YtofjedecjlodmaaGreat.XCp
open Go.RowKit Go.Proofs.YtofjedecjlodmaaGreat.EPure Go.Proofs.YtofjedecjlodmaaGreat.XBase
open Go.Proofs.YtofjedecjlodmaaGreat.Base (nx All heap_alloc_new add_none Keep)
open Go.Proofs.YtofjedecjlodmaaGreat.XLend
set_option linter.unusedVariables false
end Go.Proofs.YtofjedecjlodmaaGreat.XCp

namespace Go.Proofs.YtofjedecjlodmaaGreat.KRn
open Go.RowKit Go.Proofs.YtofjedecjlodmaaGreat.EPure Go.Proofs.YtofjedecjlodmaaGreat.KBase
open Go.Proofs.YtofjedecjlodmaaGreat.XBase (Rg)
open Go.Proofs.YtofjedecjlodmaaGreat.Base (nx All heap_alloc_new add_none Keep)
open Go.Proofs.YtofjedecjlodmaaGreat.XLend (flat flat_append El info_parts own_below new_cells)
set_option linter.unusedVariables false

/-- Each is a struct of n cells. -/
def Nc (n : Nat) (us : List Value) : Prop := ∀ u ∈ us, ∃ vs : List Value, u = .agg vs.toArray ∧ vs.length = n ∧ ∀ x ∈ vs, x.oneCell' = true
def OwnN (w : World) (B : Nat) (ty : TypeId) (n : Nat) (v : Value) (us : List Value) : Prop := w.ownsRow B ty n v us.length (flat us) ∧ Nc n us
theorem flat_cons (vs : List Value) (us : List Value) : flat (.agg vs.toArray :: us) = vs ++ flat us := by simp [flat, Value.cells]
theorem flat_len {n : Nat} {us : List Value} (h : Nc n us) : (flat us).length = us.length * n := by
  induction us with
  | nil => simp [flat]
  | cons u us ih =>
    obtain ⟨vs, rfl, hl, -⟩ := h u (by simp)
    rw [flat_cons, List.length_append, ih (fun x hx => h x (by simp [hx])), hl, List.length_cons, Nat.succ_mul]
    omega
theorem flat_get {n : Nat} {us : List Value} (h : Nc n us) : ∀ (j : Nat) (hj : j < us.length) (i : Nat), i < n → (flat us)[j * n + i]? = us[j].cells.toList[i]? := by
  induction us with
  | nil => intro j hj; simp at hj
  | cons u us ih =>
    intro j hj i hi
    obtain ⟨vs, rfl, hl, -⟩ := h u (by simp)
    have ih := ih (fun x hx => h x (by simp [hx]))
    rw [flat_cons]
    cases j with
    | zero =>
      rw [List.getElem?_append_left (by omega)]
      simp [Value.cells]
    | succ j =>
      rw [List.getElem?_append_right (by rw [hl, Nat.succ_mul]; omega)]
      have e2 : (j + 1) * n + i - vs.length = j * n + i := by rw [hl, Nat.succ_mul]; omega
      rw [e2, ih j (by simpa using hj) i hi]
      simp
theorem OwnN.cell {w : World} {B g m cap n : Nat} {ty : TypeId} {us : List Value} (h : OwnN w B ty n (.slice (some ⟨g, 0, none⟩) m cap) us) (j : Nat) (hj : j < us.length) (i : Nat) (hi : i < n) (u : Value) (hu : us[j].cells.toList[i]? = some u) : w.cell? ⟨g, 0 + (j * n + i), none⟩ = some u := by
  rw [← add_none]
  exact World.ownsRow.cells (g := g) h.1 rfl (j * n + i) u (by rw [flat_get h.2 j hj i hi]; exact hu)
theorem OwnN.lt {w : World} {B g m cap n : Nat} {ty : TypeId} {us : List Value} (h : OwnN w B ty n (.slice (some ⟨g, 0, none⟩) m cap) us) : B ≤ g ∧ g < w.heap.size := World.ownsRow.lt h.1 g rfl
theorem nc_snoc {n : Nat} {us : List Value} {u : Value} (h : Nc n us) (hu : ∃ vs : List Value, u = .agg vs.toArray ∧ vs.length = n ∧ ∀ x ∈ vs, x.oneCell' = true) : Nc n (us ++ [u]) := by
  intro x hx
  rcases List.mem_append.1 hx with hx | hx
  · exact h x hx
  · simp at hx; subst hx; exact hu
theorem OwnN.pt {w : World} {B g m cap : Nat} {ty : TypeId} {us : List Value} (h : OwnN w B ty 6 (.slice (some ⟨g, 0, none⟩) m cap) us) (j : Nat) (hj : j < us.length) : Pt6 w g (0 + j * 6) us[j] := by
  obtain ⟨vs, e, hl, -⟩ := h.2 us[j] (List.getElem_mem hj)
  have hc := h.cell j hj
  rw [e] at hc ⊢
  match vs, hl with
  | [v0, v1, v2, v3, v4, v5], _ => exact ⟨v0, v1, v2, v3, v4, v5, rfl, hc 0 (by omega) v0 rfl, hc 1 (by omega) v1 rfl, hc 2 (by omega) v2 rfl, hc 3 (by omega) v3 rfl, hc 4 (by omega) v4 rfl, hc 5 (by omega) v5 rfl⟩
theorem OwnN.co {w : World} {B g m cap : Nat} {ty : TypeId} {us : List Value} (h : OwnN w B ty 7 (.slice (some ⟨g, 0, none⟩) m cap) us) (j : Nat) (hj : j < us.length) : Co7 w g (0 + j * 7) us[j] := by
  obtain ⟨vs, e, hl, -⟩ := h.2 us[j] (List.getElem_mem hj)
  have hc := h.cell j hj
  rw [e] at hc ⊢
  match vs, hl with
  | [v0, v1, v2, v3, v4, v5, v6], _ => exact ⟨v0, v1, v2, v3, v4, v5, v6, rfl, hc 0 (by omega) v0 rfl, hc 1 (by omega) v1 rfl, hc 2 (by omega) v2 rfl, hc 3 (by omega) v3 rfl, hc 4 (by omega) v4 rfl, hc 5 (by omega) v5 rfl, hc 6 (by omega) v6 rfl⟩
theorem OwnN.fd {w : World} {B g m cap : Nat} {ty : TypeId} {us : List Value} (h : OwnN w B ty 8 (.slice (some ⟨g, 0, none⟩) m cap) us) (j : Nat) (hj : j < us.length) : Fd8 w g (0 + j * 8) us[j] := by
  obtain ⟨vs, e, hl, -⟩ := h.2 us[j] (List.getElem_mem hj)
  have hc := h.cell j hj
  rw [e] at hc ⊢
  match vs, hl with
  | [v0, v1, v2, v3, v4, v5, v6, v7], _ => exact ⟨v0, v1, v2, v3, v4, v5, v6, v7, rfl, hc 0 (by omega) v0 rfl, hc 1 (by omega) v1 rfl, hc 2 (by omega) v2 rfl, hc 3 (by omega) v3 rfl, hc 4 (by omega) v4 rfl, hc 5 (by omega) v5 rfl, hc 6 (by omega) v6 rfl, hc 7 (by omega) v7 rfl⟩
/-- One more behind a row that is still gathered. -/
theorem els_step {α : Type} {Pd : (Nat → Prop) → World → Value → α → Prop} (hkeep : ∀ {S : Nat → Prop} {w w' : World} {u : Value} {c : α}, Keep S w w' → Pd S w u c → Pd S w' u c) (hweak : ∀ {S S' : Nat → Prop} {w : World} {u : Value} {c : α}, (∀ b, S b → S' b) → Pd S w u c → Pd S' w u c)
    {w wr w1 w2 : World} {q n : Nat} {ty : TypeId} {us : List Value} {l : List α} {out v' u : Value} (hels : ∀ j (h : j < us.length) (h' : j < l.length), Pd (El w.heap.size wr.heap.size out) wr us[j] l[j])
    (hus : us.length = q) (hq : q < l.length) (hown : OwnN wr w.heap.size ty n out us) (b1 : Below wr.heap.size wr w1) (hin1 : Pd (Rg wr.heap.size w1.heap.size) w1 u l[q]) (hsz : w.heap.size ≤ wr.heap.size) (o : Obj)
    (hgrow : (w1.alloc o).grownBy w2 out.ownBlock) (hat : v'.ownBlock = out.ownBlock ∨ v'.ownBlock = some (w1.heap.size + 1)) :
    ∀ j (h : j < (us ++ [u]).length) (h' : j < l.length), Pd (El w.heap.size w2.heap.size v') w2 (us ++ [u])[j] l[j] := by
  have hlt := World.ownsRow.lt hown.1
  have hs1 := b1.size
  have hs2 := hgrow.size
  rw [World.size_alloc] at hs2
  intro j h h'
  by_cases hj : j < us.length
  · rw [List.getElem_append_left hj]
    refine hweak ?_ (hkeep (w' := w2) ?_ (hels j hj h'))
    · intro b hS
      have h3 := hS.2.1
      refine ⟨hS.1, by omega, ?_⟩
      rcases hat with h | h
      · rw [h]; exact hS.2.2
      · rw [h]
        intro e
        have := Option.some.inj e
        omega
    · intro b hS hb
      rw [hgrow.block b (by simp; omega) (fun e => hS.2.2 e.symm), Below.heap_alloc _ _ _ (by omega), b1.block b hb]
  · have e : j = us.length := by simp at h; omega
    subst e
    subst hus
    simp only [List.getElem_append_right (Nat.le_refl _), Nat.sub_self, List.getElem_cons_zero]
    refine hweak ?_ (hkeep (w' := w2) ?_ hin1)
    · intro b hS
      refine ⟨by have := hS.1; omega, by have := hS.2; omega, ?_⟩
      rcases hat with h | h
      · rw [h]
        intro e
        have := (hlt b e).2
        have := hS.1
        omega
      · rw [h]
        intro e
        have := Option.some.inj e
        have := hS.2
        omega
    · intro b hS hb
      rw [hgrow.block b (by simp; omega) (fun e => by have := (hlt b e.symm).2; have := hS.1; omega), Below.heap_alloc _ _ _ (by omega)]
theorem InP.pd {S : Nat → Prop} {w w' : World} {u : Value} {c : Pt} (hk : Keep S w w') (h : InP false S w u c) : InP false S w' u c := h.keep hk
end Go.Proofs.YtofjedecjlodmaaGreat.KRn
