/- A value whose memory is one's own, each list in a block of its own: what it means, and what it gives. -/
import Derived.Test.YthjbknncbhkinaaGreatDoorClone
namespace Go.Proofs.YthjbknncbhkinaaGreatDoor.Fresh
open Go.RowKit Go.Proofs.YthjbknncbhkinaaGreatDoor.Base Go.Proofs.YthjbknncbhkinaaGreatDoor.Clone
set_option linter.unusedVariables false

/-- v holds c; its lists lie in blocks from lo on, below hi, no two in one. -/
def Fr (w : World) : Nat → Nat → Nat → Value → C → Prop
  | 0, _, _, _, _ => False
  | m + 1, lo, hi, v, .mk k b i s n l => ∃ nv lv a1 a2 us, ∃ cut : Nat → Nat, lo ≤ a1 ∧ a1 ≤ a2 ∧ v = .agg #[.int .i64 k, .bool b, .int .i64 i, .string s, nv, lv] ∧
      (-9223372036854775808 ≤ k ∧ k ≤ 9223372036854775807) ∧ (-9223372036854775808 ≤ i ∧ i ≤ 9223372036854775807) ∧ s.size ≤ 140737488351232 ∧ n.length * 16 ≤ 140737488351232 ∧ (∀ t ∈ n, t.size ≤ 140737488351232) ∧ l.length * 88 ≤ 140737488351232 ∧
      OwnT w lo nv n ∧ (∀ g, nv.ownBlock = some g → g < a1) ∧ OwnV w a1 lv us ∧ (∀ g, lv.ownBlock = some g → g < a2) ∧ us.length = l.length ∧ cut 0 = a2 ∧ cut l.length ≤ hi ∧ (∀ j, j < l.length → cut j ≤ cut (j + 1)) ∧
      ∀ j (h : j < us.length) (h' : j < l.length), Fr w m (cut j) (cut (j + 1)) us[j] l[j]
theorem cut_le {cut : Nat → Nat} {n : Nat} (h : ∀ j, j < n → cut j ≤ cut (j + 1)) : ∀ i j, i ≤ j → j ≤ n → cut i ≤ cut j := by
  intro i j hij
  induction hij with
  | refl => intro _; exact Nat.le_refl _
  | step hij ih => intro hn; exact Nat.le_trans (ih (by omega)) (h _ (by omega))
theorem ownT_tx {w : World} {lo hi : Nat} {v : Value} {n : List ByteArray} (h : OwnT w lo v n) (hb : ∀ g, v.ownBlock = some g → g < hi) (h1 : n.length * 16 ≤ 140737488351232) (h2 : ∀ t ∈ n, t.size ≤ 140737488351232) : Tx false (Rg lo hi) w v n := by
  rcases h.2 with ⟨rfl, h0⟩ | ⟨g, cap, cur, rfl, hlo, hg, hn, hm, _⟩
  · have : n = [] := List.eq_nil_of_length_eq_zero h0
    subst this
    exact ⟨none, 0, rfl, by simp, by simp, by simp, by simp, fun _ => rfl, .inl ⟨rfl, rfl⟩⟩
  · exact ⟨_, cap, rfl, hn, hm, h1, h2, (fun h => by cases h), .inr ⟨g, 0, rfl, ⟨hlo, hb g rfl⟩, ownT_cell h, fun h => by cases h⟩⟩
theorem Fr.in {w : World} : ∀ {m lo hi : Nat} {v : Value} {c : C}, Fr w m lo hi v c → In false (Rg lo hi) w m v c := by
  intro m
  induction m with
  | zero => intro lo hi v c h; rw [Fr] at h; exact h.elim
  | succ m ih =>
    intro lo hi v c h
    obtain ⟨k, b, i, s, n, l⟩ := c
    rw [Fr] at h
    obtain ⟨nv, lv, a1, a2, us, cut, h1, h2, rfl, hk, hi', hs, hn1, hn2, hl1, hT, hTb, hV, hVb, hus, hc0, hcl, hcm, hel⟩ := h
    have hcc := cut_le hcm
    have ha2 : a2 ≤ hi := by have := hcc 0 l.length (by omega) (by omega); omega
    rw [in_iff]
    refine ⟨nv, lv, rfl, hk, hi', hs, (ownT_tx hT hTb hn1 hn2).weak (fun g hg => ⟨hg.1, by have := hg.2; omega⟩) false id, ?_⟩
    rcases hV.1.2 with ⟨rfl, h0⟩ | ⟨g, cap, cur, rfl, hlo, hg, hn, hm, _⟩
    · have : l = [] := List.eq_nil_of_length_eq_zero (by omega)
      subst this
      exact ⟨none, 0, rfl, by simp, by simp, by simp, fun _ => rfl, .inl ⟨rfl, rfl⟩⟩
    · refine ⟨some ⟨g, 0, none⟩, cap, by rw [hus], by omega, hm, hl1, (fun h => by cases h), .inr ⟨g, 0, rfl, ⟨by omega, by have := hVb g rfl; omega⟩, fun j hj => ?_, fun h => by cases h⟩⟩
      refine ⟨us[j]'(by omega), ownV_six hV j (by omega), (ih (hel j (by omega) hj)).weak (fun x hx => ⟨?_, ?_⟩) false id m (Nat.le_refl _)⟩
      · have := hcc 0 j (by omega) (by omega)
        have := hx.1
        omega
      · have := hcc (j + 1) l.length (by omega) (by omega)
        have := hx.2
        omega
theorem own_keep {w w' : World} {B : Nat} {e : TypeId} {s n : Nat} {v : Value} {xs : List Value} (h : w.ownsRow B e s v n xs) (hk : ∀ g, v.ownBlock = some g → w'.heap[g]? = w.heap[g]?) : w'.ownsRow B e s v n xs := by
  refine ⟨h.1, ?_⟩
  rcases h.2 with h2 | ⟨g, cap, cur, rfl, hg, hh, r⟩
  · exact .inl h2
  · exact .inr ⟨g, cap, cur, rfl, hg, (hk g rfl).trans hh, r⟩
theorem Fr.keep {w w' : World} : ∀ {m lo hi : Nat} {v : Value} {c : C}, Fr w m lo hi v c → Keep (Rg lo hi) w w' → Fr w' m lo hi v c := by
  intro m
  induction m with
  | zero => intro lo hi v c h; rw [Fr] at h; exact h.elim
  | succ m ih =>
    intro lo hi v c h hk0
    obtain ⟨k, b, i, s, n, l⟩ := c
    rw [Fr] at h ⊢
    obtain ⟨nv, lv, a1, a2, us, cut, h1, h2, rfl, hk, hi', hs, hn1, hn2, hl1, hT, hTb, hV, hVb, hus, hc0, hcl, hcm, hel⟩ := h
    have hcc := cut_le hcm
    have ha2 : a2 ≤ hi := by have := hcc 0 l.length (by omega) (by omega); omega
    refine ⟨nv, lv, a1, a2, us, cut, h1, h2, rfl, hk, hi', hs, hn1, hn2, hl1, own_keep hT (fun g hg => ?_), hTb, ⟨own_keep hV.1 (fun g hg => ?_), hV.2⟩, hVb, hus, hc0, hcl, hcm, fun j h h' => ih (hel j h h') (fun b hb hlt => ?_)⟩
    · have := World.ownsRow.lt hT g hg
      have := hTb g hg
      exact hk0 g ⟨by omega, by omega⟩ (by omega)
    · have := World.ownsRow.lt hV.1 g hg
      have := hVb g hg
      exact hk0 g ⟨by omega, by omega⟩ (by omega)
    · have := hcc 0 j (by omega) (by omega)
      have := hcc (j + 1) l.length (by omega) (by omega)
      have := hb.1
      have := hb.2
      exact hk0 b ⟨by omega, by omega⟩ hlt
theorem Fr.below {w w' : World} {m lo hi : Nat} {v : Value} {c : C} (h : Fr w m lo hi v c) (hb : Below w.heap.size w w') : Fr w' m lo hi v c := h.keep (.of_below hb)
/-- What lies in a world lies in blocks of it. -/
theorem Tx.low {w : World} {v : Value} {n : List ByteArray} (h : Tx false All w v n) : Tx false (fun b => b < w.heap.size) w v n := by
  obtain ⟨a, cap, h1, h2, h3, h4, h5, h6, h7⟩ := h
  refine ⟨a, cap, h1, h2, h3, h4, h5, h6, ?_⟩
  by_cases hn : n = []
  · exact .inl ⟨hn, rfl⟩
  · rcases h7 with ⟨h7, _⟩ | ⟨g, o, ha, hS, hc, hr⟩
    · exact absurd h7 hn
    · exact .inr ⟨g, o, ha, cell_lt (hc 0 (List.length_pos_iff.2 hn)), hc, fun h => by cases h⟩
theorem In.low {w : World} : ∀ {m : Nat} {v : Value} {c : C}, In false All w m v c → In false (fun b => b < w.heap.size) w m v c := by
  intro m
  induction m with
  | zero => intro v c h; rw [In] at h; exact h.elim
  | succ m ih =>
    intro v c h
    obtain ⟨k, b, i, s, n, l⟩ := c
    rw [in_iff] at h ⊢
    obtain ⟨nv, lv, h1, h2, h3, h4, h5, ⟨a, cap, g1, g2, g3, g4, g5, g6⟩⟩ := h
    refine ⟨nv, lv, h1, h2, h3, h4, Tx.low h5, a, cap, g1, g2, g3, g4, g5, ?_⟩
    by_cases hl : l = []
    · exact .inl ⟨hl, rfl⟩
    · rcases g6 with ⟨g6, _⟩ | ⟨g, o, ha, hS, hc, hr⟩
      · exact absurd g6 hl
      · have hpos := List.length_pos_iff.2 hl
        obtain ⟨u0, hu0, _⟩ := hc 0 hpos
        obtain ⟨v0, v1, v2, v3, v4, v5, _, c0, _⟩ := hu0
        refine .inr ⟨g, o, ha, cell_lt c0, fun j hj => ?_, fun h => by cases h⟩
        obtain ⟨u, hu, hin⟩ := hc j hj
        exact ⟨u, hu, ih hin⟩
end Go.Proofs.YthjbknncbhkinaaGreatDoor.Fresh
