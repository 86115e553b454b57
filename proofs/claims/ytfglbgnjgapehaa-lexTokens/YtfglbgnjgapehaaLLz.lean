/- Templates: Lex at every text; a row of tokens read. -/
import Derived.Test.YtfglbgnjgapehaaLLy
namespace Go.Proofs.Ytfglbgnjgapehaa.LLz
open Go.RowKit Go.Proofs.Ytfglbgnjgapehaa.UBase Go.Proofs.Ytfglbgnjgapehaa.EPure Go.Proofs.Ytfglbgnjgapehaa.LPure Go.Proofs.Ytfglbgnjgapehaa.LSc Go.Proofs.Ytfglbgnjgapehaa.LIn Go.Proofs.Ytfglbgnjgapehaa.LMu Go.Proofs.Ytfglbgnjgapehaa.LTk Go.Proofs.Ytfglbgnjgapehaa.LLy
set_option linter.unusedVariables false

/-- What Lex answers: the tokens, or a fault. -/
def lxa (s : ByteArray) : List Tz × F :=
  if 65536 < s.size then ([], (1201, 0))
  else if verr s ≠ 0 then ([], (1200, vat s))
  else if (lxs s (s.size + 1) 0 false []).2.1 = 0 then ((lxs s (s.size + 1) 0 false []).1, (0, 0))
  else ([], (lxs s (s.size + 1) 0 false []).2)
theorem lex_c (s : ByteArray) (hs : s.size ≤ 140737488351232) (w : World) (hg : Gm w) (h0 : 0 < w.heap.size) :
    Calls Try.prog 7 #[.string s] w fun e w' => ∃ v, e = .returned (.tuple #[v, .int .i64 (lxa s).2.2, .int .i64 (lxa s).2.1]) ∧ To w' w.heap.size v (lxa s).1 ∧ Below w.heap.size w w' := by
  unfold lxa
  by_cases h1 : 65536 < s.size
  · rw [if_pos h1]
    refine (LLx.lex_long s h1 hs w).mono ?_
    rintro e w' ⟨rfl, rfl⟩
    exact ⟨_, rfl, nil_own _ _, Below.refl _ _⟩
  · rw [if_neg h1]
    by_cases h2 : verr s ≠ 0
    · rw [if_pos h2]
      refine (LLx.lex_utf s (by omega) h2 w).mono ?_
      rintro e w' ⟨rfl, hb⟩
      exact ⟨_, rfl, nil_own _ _, hb⟩
    · rw [if_neg h2]
      refine (lex_ok s (by omega) (by simpa using h2) w hg h0).mono ?_
      rintro e w' ⟨v, rfl, ha, hb, hB⟩
      by_cases h3 : (lxs s (s.size + 1) 0 false []).2.1 = 0
      · rw [if_pos h3]
        have := lxs_fz s (s.size + 1) 0 false [] h3
        refine ⟨v, ?_, ha h3, hB⟩
        rw [this]
      · rw [if_neg h3]
        rw [hb h3]
        exact ⟨_, rfl, nil_own _ _, hB⟩
/-- A row of tokens that is read: nil or not. -/
structure Rt (w : World) (v : Value) (xs : List Tz) : Prop where
  shape : (v = .slice none 0 0 ∧ xs = []) ∨ ∃ g cap, v = .slice (some ⟨g, 0, none⟩) xs.length cap ∧ g < w.heap.size ∧ xs.length ≤ cap ∧ cap ≤ maxLen ∧
    ∀ i (h : i < xs.length), w.cell? ⟨g, i * 4, none⟩ = some (.int .i64 xs[i].k) ∧ w.cell? ⟨g, i * 4 + 1, none⟩ = some (.string xs[i].n) ∧ w.cell? ⟨g, i * 4 + 2, none⟩ = some (.string xs[i].t) ∧ w.cell? ⟨g, i * 4 + 3, none⟩ = some (.int .i64 xs[i].a)
theorem flT_get : ∀ (xs : List Tz) (i : Nat) (h : i < xs.length), (flT xs)[i * 4]? = some (.int .i64 xs[i].k) ∧ (flT xs)[i * 4 + 1]? = some (.string xs[i].n) ∧ (flT xs)[i * 4 + 2]? = some (.string xs[i].t) ∧ (flT xs)[i * 4 + 3]? = some (.int .i64 xs[i].a)
  | x :: xs, 0, _ => ⟨rfl, rfl, rfl, rfl⟩
  | x :: xs, i + 1, h => by
    have ih := flT_get xs i (by simpa using h)
    have e : ∀ j, (flT (x :: xs))[(i + 1) * 4 + j]? = (flT xs)[i * 4 + j]? := fun j => by
      rw [flT, List.getElem?_append_right (by simp [tkc]; omega)]
      congr 1
      simp [tkc]
      omega
    have e0 := e 0
    simp only [Nat.add_zero] at e0
    rw [e0, e 1, e 2, e 3]
    exact ih
theorem To.rt {w : World} {B : Nat} {v : Value} {xs : List Tz} (h : To w B v xs) : Rt w v xs := by
  obtain ⟨h1, ⟨h2, h3⟩ | ⟨g, cap, cur, h2, h3, h4, h5, h6, h7, h8⟩⟩ := h
  · exact ⟨.inl ⟨h2, List.eq_nil_of_length_eq_zero h3⟩⟩
  · refine ⟨.inr ⟨g, cap, h2, (Array.getElem?_eq_some_iff.1 h4).1, h5, h6, ?_⟩⟩
    intro i hi
    have hc : ∀ j x, j < xs.length * 4 → (flT xs)[j]? = some x → w.cell? ⟨g, j, none⟩ = some x := by
      intro j x hj hx
      rw [← h8, List.getElem?_take, if_pos hj] at hx
      simp only [World.cell?, h4]
      simpa using hx
    obtain ⟨a, b, c, d⟩ := flT_get xs i hi
    exact ⟨hc _ _ (by omega) a, hc _ _ (by omega) b, hc _ _ (by omega) c, hc _ _ (by omega) d⟩
theorem Rt.below {w w' : World} {v : Value} {xs : List Tz} (h : Rt w v xs) (hB : Below w.heap.size w w') : Rt w' v xs := by
  obtain ⟨h | ⟨g, cap, h2, h3, h5, h6, h7⟩⟩ := h
  · exact ⟨.inl h⟩
  · refine ⟨.inr ⟨g, cap, h2, Nat.lt_of_lt_of_le h3 hB.size, h5, h6, fun i hi => ?_⟩⟩
    have e : ∀ o, w'.cell? ⟨g, o, none⟩ = w.cell? ⟨g, o, none⟩ := fun o => World.cell?_of_block (w := w) (hB.block g h3)
    rw [e, e, e, e]
    exact h7 i hi
set_option maxRecDepth 20000
theorem aw1 : (lxa ⟨#[97, 123, 123, 32, 98, 32, 125, 125, 60, 98, 114, 47, 62]⟩).2 = (0, 0) ∧ (lxa ⟨#[97, 123, 123, 32, 98, 32, 125, 125, 60, 98, 114, 47, 62]⟩).1.map (fun x => (x.k, x.n, x.t, x.a)) = [(1, ⟨#[]⟩, ⟨#[97]⟩, 0), (2, ⟨#[]⟩, ⟨#[32, 98, 32]⟩, 1), (3, ⟨#[98, 114]⟩, ⟨#[]⟩, 8), (7, ⟨#[]⟩, ⟨#[]⟩, 11)] := by decide +kernel
theorem aw2 : (lxa ⟨#[60, 32, 112, 62]⟩).2 = (1202, 1) := by decide +kernel
end Go.Proofs.Ytfglbgnjgapehaa.LLz
