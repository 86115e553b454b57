/- Trees that are written, in memory. -/
import Derived.Test.YthclndiekjaalaaYSq
namespace Go.Proofs.Ythclndiekjaalaa.YTr
open Go.RowKit Go.Proofs.Ythclndiekjaalaa.Leb Go.Proofs.Ythclndiekjaalaa.YPl Go.Proofs.Ythclndiekjaalaa.YWr Go.Proofs.Ythclndiekjaalaa.YWo Go.Proofs.Ythclndiekjaalaa.YRr
open Go.Proofs.Ythclndiekjaalaa.TBase (T)
open Go.Proofs.Ythclndiekjaalaa.TVisit (Lo keep_lo)
set_option linter.unusedVariables false

def LyT (m K : Nat) (w : World) (g o : Nat) (t : T) : Prop := ∃ u, TBase.Four w g o u ∧ TBase.In false (Lo K) w m u t
theorem LyT.below {m K : Nat} {w w' : World} {g o : Nat} {x : T} (hb : Below K w w') (hg : g < K) (h : LyT m K w g o x) : LyT m K w' g o x := by
  obtain ⟨u, ⟨v0, v1, v2, v3, rfl, h0, h1, h2, h3⟩, hI⟩ := h
  exact ⟨_, ⟨v0, v1, v2, v3, rfl, ck hb hg h0, ck hb hg h1, ck hb hg h2, ck hb hg h3⟩, hI.keep (keep_lo hb)⟩
theorem tree_cells {m K : Nat} {w : World} {u : Value} {t : T} (h : TBase.In false (Lo K) w m u t) : ∃ na nn nc la ln lc, u = .agg #[.string t.g, .string t.s, .slice na nn nc, .slice la ln lc] := by
  obtain ⟨m', nv, lv, -, rfl, -, -, ⟨a, c, rfl, -⟩, ⟨b, d, rfl, -⟩⟩ := h.shape
  exact ⟨_, _, _, _, _, _, rfl⟩
theorem LyT.cells {m K : Nat} {w : World} {g o : Nat} {t : T} (h : LyT m K w g o t) : ∃ na nn nc la ln lc, w.cell? ⟨g, o, none⟩ = some (.string t.g) ∧ w.cell? ⟨g, o + 1, none⟩ = some (.string t.s) ∧ w.cell? ⟨g, o + 2, none⟩ = some (.slice na nn nc) ∧ w.cell? ⟨g, o + 3, none⟩ = some (.slice la ln lc) ∧
    TBase.In false (Lo K) w m (.agg #[.string t.g, .string t.s, .slice na nn nc, .slice la ln lc]) t := by
  obtain ⟨u, ⟨v0, v1, v2, v3, hu, h0, h1, h2, h3⟩, hI⟩ := h
  obtain ⟨na, nn, nc, la, ln, lc, rfl⟩ := tree_cells hI
  simp only [Value.agg.injEq, Array.mk.injEq, List.cons.injEq, and_true] at hu
  obtain ⟨rfl, rfl, rfl, rfl⟩ := hu
  exact ⟨_, _, _, _, _, _, h0, h1, h2, h3, hI⟩
theorem ax_rr {K : Nat} {w : World} {v : Value} {n : List (ByteArray × ByteArray)} (h : TBase.Ax false (Lo K) w v n) : Rr 2 LyA K w v n := by
  obtain ⟨a, cap, h1, h2, h3, h4, h5, h6, h7⟩ := h
  refine ⟨a, cap, h1, h2, h3, by omega, h6, ?_⟩
  rcases h7 with h7 | ⟨g, o, ha, hS, hc, -⟩
  · exact .inl h7.1
  · exact .inr ⟨g, o, ha, hS, fun j hj => ⟨(hc j hj).1, (hc j hj).2, (h5 _ (List.getElem_mem hj)).1, (h5 _ (List.getElem_mem hj)).2⟩⟩
theorem inl_rr {m K : Nat} {w : World} {v : Value} {l : List T} (h : TBase.InL false (Lo K) w m v l) : Rr 4 (LyT m K) K w v l := by
  obtain ⟨a, cap, h1, h2, h3, h4, h5, h6⟩ := h
  refine ⟨a, cap, h1, h2, h3, by omega, h5, ?_⟩
  rcases h6 with h6 | ⟨g, o, ha, hS, hc, -⟩
  · exact .inl h6.1
  · exact .inr ⟨g, o, ha, hS, fun j hj => hc j hj⟩
end Go.Proofs.Ythclndiekjaalaa.YTr
