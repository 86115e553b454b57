/- Rows that are read, by the cells of each element; the parts of a program in memory. -/
import Derived.Test.YtmodaihngcnlfaaYWo
namespace Go.Proofs.Ytmodaihngcnlfaa.YRr
open Go.RowKit Go.Proofs.Ytmodaihngcnlfaa.Leb Go.Proofs.Ytmodaihngcnlfaa.YPl Go.Proofs.Ytmodaihngcnlfaa.YWr Go.Proofs.Ytmodaihngcnlfaa.YWo
open Go.Proofs.Ytmodaihngcnlfaa.TBase (T)
set_option linter.unusedVariables false

/-- v is a row of the elements l, n cells each, in a block below K. -/
def Rr {α : Type} (n : Nat) (Ly : World → Nat → Nat → α → Prop) (K : Nat) (w : World) (v : Value) (l : List α) : Prop :=
  ∃ a cap, v = .slice a l.length cap ∧ l.length ≤ cap ∧ cap ≤ 9223372036854775807 ∧ l.length ≤ 140737488351232 ∧ (a = none → cap = 0) ∧ (l = [] ∨ ∃ g o, a = some ⟨g, o, none⟩ ∧ g < K ∧ ∀ j (h : j < l.length), Ly w g (o + j * n) l[j])
theorem Rr.keep {α : Type} {n : Nat} {Ly Ly' : World → Nat → Nat → α → Prop} {K K' : Nat} {w w' : World} {v : Value} {l : List α} (h : Rr n Ly K w v l) (hK : K ≤ K') (hl : ∀ g o x, x ∈ l → g < K → Ly w g o x → Ly' w' g o x) : Rr n Ly' K' w' v l := by
  obtain ⟨a, cap, h1, h2, h3, h4, h5, h6⟩ := h
  refine ⟨a, cap, h1, h2, h3, h4, h5, ?_⟩
  rcases h6 with h6 | ⟨g, o, ha, hg, hc⟩
  · exact .inl h6
  · exact .inr ⟨g, o, ha, by omega, fun j hj => hl _ _ _ (List.getElem_mem hj) hg (hc j hj)⟩
abbrev i64 (x : Int) : Prop := -9223372036854775808 ≤ x ∧ x ≤ 9223372036854775807
def LyS (w : World) (g o : Nat) (s : ByteArray) : Prop := w.cell? ⟨g, o, none⟩ = some (.string s) ∧ s.size ≤ 140737488351232
def LyI (w : World) (g o : Nat) (x : Int) : Prop := w.cell? ⟨g, o, none⟩ = some (.int .i64 x) ∧ i64 x
def LyN (w : World) (g o : Nat) (x : Ins) : Prop := w.cell? ⟨g, o, none⟩ = some (.int .i64 x.1) ∧ w.cell? ⟨g, o + 1, none⟩ = some (.int .i64 x.2) ∧ i64 x.1 ∧ i64 x.2
def LyA (w : World) (g o : Nat) (x : ByteArray × ByteArray) : Prop := w.cell? ⟨g, o, none⟩ = some (.string x.1) ∧ w.cell? ⟨g, o + 1, none⟩ = some (.string x.2) ∧ x.1.size ≤ 140737488351232 ∧ x.2.size ≤ 140737488351232
def LyC (K : Nat) (w : World) (g o : Nat) (x : List Ins) : Prop := ∃ v, w.cell? ⟨g, o, none⟩ = some v ∧ Rr 2 LyN K w v x
def LyO (K : Nat) (w : World) (g o : Nat) (x : Oq) : Prop := ∃ v, w.cell? ⟨g, o, none⟩ = some (.int .i64 x.k) ∧ w.cell? ⟨g, o + 1, none⟩ = some (.int .i64 x.a) ∧ w.cell? ⟨g, o + 2, none⟩ = some (.int .i64 x.b) ∧ w.cell? ⟨g, o + 3, none⟩ = some (.int .i64 x.c) ∧ w.cell? ⟨g, o + 4, none⟩ = some v ∧ (i64 x.k ∧ i64 x.a ∧ i64 x.b ∧ i64 x.c) ∧ Rr 1 LyI K w v x.l
def LyB (K : Nat) (w : World) (g o : Nat) (x : Bk) : Prop := ∃ v u, w.cell? ⟨g, o, none⟩ = some (.int .i64 x.d) ∧ w.cell? ⟨g, o + 1, none⟩ = some v ∧ w.cell? ⟨g, o + 2, none⟩ = some u ∧ i64 x.d ∧ Rr 5 (LyO K) K w v x.o ∧ Rr 1 LyI K w u x.u
theorem ck {K : Nat} {w w' : World} {g o : Nat} {u : Value} (hb : Below K w w') (hg : g < K) (h : w.cell? ⟨g, o, none⟩ = some u) : w'.cell? ⟨g, o, none⟩ = some u := (World.cell?_of_block (w := w) (hb.block g hg)).trans h
theorem LyS.below {K : Nat} {w w' : World} {g o : Nat} {x : ByteArray} (hb : Below K w w') (hg : g < K) (h : LyS w g o x) : LyS w' g o x := ⟨ck hb hg h.1, h.2⟩
theorem LyI.below {K : Nat} {w w' : World} {g o : Nat} {x : Int} (hb : Below K w w') (hg : g < K) (h : LyI w g o x) : LyI w' g o x := ⟨ck hb hg h.1, h.2⟩
theorem LyN.below {K : Nat} {w w' : World} {g o : Nat} {x : Ins} (hb : Below K w w') (hg : g < K) (h : LyN w g o x) : LyN w' g o x := ⟨ck hb hg h.1, ck hb hg h.2.1, h.2.2⟩
theorem LyA.below {K : Nat} {w w' : World} {g o : Nat} {x : ByteArray × ByteArray} (hb : Below K w w') (hg : g < K) (h : LyA w g o x) : LyA w' g o x := ⟨ck hb hg h.1, ck hb hg h.2.1, h.2.2⟩
theorem LyC.below {K : Nat} {w w' : World} {g o : Nat} {x : List Ins} (hb : Below K w w') (hg : g < K) (h : LyC K w g o x) : LyC K w' g o x := by
  obtain ⟨v, h1, h2⟩ := h
  exact ⟨v, ck hb hg h1, h2.keep (Nat.le_refl _) fun g o x _ hg h => h.below hb hg⟩
theorem LyO.below {K : Nat} {w w' : World} {g o : Nat} {x : Oq} (hb : Below K w w') (hg : g < K) (h : LyO K w g o x) : LyO K w' g o x := by
  obtain ⟨v, h1, h2, h3, h4, h5, h6, h7⟩ := h
  exact ⟨v, ck hb hg h1, ck hb hg h2, ck hb hg h3, ck hb hg h4, ck hb hg h5, h6, h7.keep (Nat.le_refl _) fun g o x _ hg h => h.below hb hg⟩
theorem LyB.below {K : Nat} {w w' : World} {g o : Nat} {x : Bk} (hb : Below K w w') (hg : g < K) (h : LyB K w g o x) : LyB K w' g o x := by
  obtain ⟨v, u, h1, h2, h3, h4, h5, h6⟩ := h
  exact ⟨v, u, ck hb hg h1, ck hb hg h2, ck hb hg h3, h4, h5.keep (Nat.le_refl _) fun g o x _ hg h => h.below hb hg, h6.keep (Nat.le_refl _) fun g o x _ hg h => h.below hb hg⟩
theorem LyC.up {K K' : Nat} {w : World} {g o : Nat} {x : List Ins} (hk : K ≤ K') (h : LyC K w g o x) : LyC K' w g o x := by
  obtain ⟨v, h1, h2⟩ := h
  exact ⟨v, h1, h2.keep hk fun g o x _ hg h => h⟩
theorem LyO.up {K K' : Nat} {w : World} {g o : Nat} {x : Oq} (hk : K ≤ K') (h : LyO K w g o x) : LyO K' w g o x := by
  obtain ⟨v, h1, h2, h3, h4, h5, h6, h7⟩ := h
  exact ⟨v, h1, h2, h3, h4, h5, h6, h7.keep hk fun g o x _ hg h => h⟩
theorem LyB.up {K K' : Nat} {w : World} {g o : Nat} {x : Bk} (hk : K ≤ K') (h : LyB K w g o x) : LyB K' w g o x := by
  obtain ⟨v, u, h1, h2, h3, h4, h5, h6⟩ := h
  exact ⟨v, u, h1, h2, h3, h4, h5.keep hk fun g o x _ hg h => h.up hk, h6.keep hk fun g o x _ hg h => h⟩
theorem cell_of {W : World} {B : Nat} {cs : Array Value} {t : TypeId} (h : W.heap[B]? = some (.cells cs t (0, 0))) (i : Nat) (v : Value) (hv : cs[i]? = some v) : W.cell? ⟨B, i, none⟩ = some v := by simp [World.cell?, h, hv]
/-- A step of a list. -/
theorem lis_step {α : Type} {f : α → Pc} {l : List α} {q : Nat} (hq : q < l.length) {Xs : List By} (h : cat (some Xs) (lis f (l.drop q)) = lis f l) {Ys : List By} (hy : f l[q] = some Ys) : cat (some (Xs ++ Ys)) (lis f (l.drop (q + 1))) = lis f l := by
  rw [List.drop_eq_getElem_cons hq, lis, hy, ← cat_assoc] at h
  exact h
theorem lis_stop {α : Type} {f : α → Pc} {l : List α} {q : Nat} (hq : q < l.length) {Xs : List By} (h : cat (some Xs) (lis f (l.drop q)) = lis f l) (hy : f l[q] = none) : lis f l = none := by
  rw [List.drop_eq_getElem_cons hq, lis, hy, cat_none] at h
  exact h.symm
theorem lis_end {α : Type} {f : α → Pc} {l : List α} {Xs : List By} (h : cat (some Xs) (lis f (l.drop l.length)) = lis f l) : lis f l = some Xs := by
  rw [List.drop_length, lis, cat_nil'] at h
  exact h.symm
theorem cat_no (a : Pc) : cat a none = none := by cases a <;> rfl
end Go.Proofs.Ytmodaihngcnlfaa.YRr
