/- The contracts of what the statements do with rows of bytes: compare, spoil, copy, lend, hold. -/
import Derived.Test.YtnhnmbmbldhpnaaRtake
import Derived.Laws.BytesArg
namespace Go.Proofs.Ytnhnmbmbldhpnaa.Base
set_option linter.unusedVariables false
open Go.ChangeShapes Go.WideShapes Go.ChangeAt Go.RowKit

theorem seen_conv {w : World} {v : Value} {L : List UInt8} (h : Seen w v L) : (convert 23 9 v).run Try.prog w = .ok (.string ⟨L.toArray⟩) w := by
  obtain ⟨a, cap, rfl, hlc, hm, hnil, hcell⟩ := h
  cases a with
  | none =>
    have := hnil rfl
    obtain rfl : L = [] := List.eq_nil_of_length_eq_zero (by omega)
    exact run_convert_bytes_nil (P := Try.prog) w 23 5 Try.underlying23 Try.underlying5 _ _ 9 Try.underlying9
  | some x =>
    obtain ⟨g, o, sp⟩ := x
    refine run_convert_bytes_back (P := Try.prog) w 23 9 5 ⟨g, o, sp⟩ cap L Try.underlying23 Try.underlying5 Try.underlying9 fun j hj => ?_
    obtain ⟨rfl, hc⟩ := hcell g o sp rfl j hj
    rw [add_none]
    exact hc
theorem same_c (v u : Value) (L : List UInt8) (w : World) (h1 : Seen w v L) (h2 : Seen w u L) :
    Calls Try.prog 9 #[v, u] w fun e w' => e = .returned (.bool true) ∧ w' = w := by
  have c1 := seen_conv h1
  have c2 := seen_conv h2
  go_enter Try.func9, Try.ntmps9
  go_wp2
  go_ret
  exact ⟨rfl, rfl⟩
theorem num_c (k : Int) (w : World) : Calls Try.prog 15 #[.int .i64 k] w fun e w' => e = .returned (.int .i64 k) ∧ w' = w := by
  go_enter Try.func15, Try.ntmps15
  go_wp2
  go_ret
  exact ⟨rfl, rfl⟩
/-- Block g is a row of cap cells, the first n of them bytes. -/
def Row (w : World) (g n cap : Nat) : Prop := ∃ cur, w.heap[g]? = some (.cells cur 5 (0, 0)) ∧ cur.size = cap ∧ ∀ j, j < n → ∃ z, cur[j]? = some (.int .u8 z)
theorem Row.cell {w : World} {g n cap : Nat} (h : Row w g n cap) {j : Nat} (hj : j < n) : ∃ z, w.cell? ⟨g, j, none⟩ = some (.int .u8 z) ∧ w.frozen? ⟨g, j, none⟩ = false := by
  obtain ⟨cur, hh, hs, hc⟩ := h
  obtain ⟨z, hz⟩ := hc j hj
  exact ⟨z, by rw [cell_of_row w g j cur 5 (0, 0) hh]; exact hz, frozen_of_row w g j cur 5 hh⟩
theorem Row.set {w : World} {g n cap : Nat} (h : Row w g n cap) (j : Nat) (z : Int) : Row (w.setCell ⟨g, j, none⟩ (.int .u8 z)) g n cap := by
  obtain ⟨cur, hh, hs, hc⟩ := h
  refine ⟨_, heap_setCell_same w g j cur 5 (.int .u8 z) hh, by simp [hs], fun i hi => ?_⟩
  by_cases e : j = i
  · subst e
    obtain ⟨y, hy⟩ := hc j hi
    have := (Array.getElem?_eq_some_iff.1 hy).1
    exact ⟨z, by simp [this]⟩
  · obtain ⟨y, hy⟩ := hc i hi
    exact ⟨y, by rw [Array.getElem?_setIfInBounds_ne e]; exact hy⟩
theorem grown_set {w wr : World} {g : Nat} (h : w.grownBy wr (some g)) (j : Nat) (u : Value) : w.grownBy (wr.setCell ⟨g, j, none⟩ u) (some g) :=
  ⟨h.os, h.tape, h.output, Nat.le_trans h.size (by simp [World.setCell]), fun k hk hne => (heap_setCell_other wr ⟨g, j, none⟩ k u (fun e => hne (by rw [e]))).trans (h.block k hk hne)⟩
theorem spoil_c (B : Nat) (v : Value) (L : List UInt8) (w : World) (h : Own w B v L) (hl : L.length ≤ 10) (hne : L ≠ []) :
    Calls Try.prog 12 #[v] w fun e w' => e = .returned (.tuple #[]) ∧ w.grownBy w' v.ownBlock := by
  rcases h.2 with ⟨_, h0⟩ | ⟨g, cap, cur, rfl, hb, hh, hn, hm, hs, hx⟩
  · exact absurd (List.eq_nil_of_length_eq_zero h0) hne
  · have hrow : Row w g L.length cap := by
      refine ⟨cur, hh, by simpa using hs, fun j hj => ⟨(L[j].toNat : Int), ?_⟩⟩
      have hc := World.ownsRow.cells (g := g) h rfl j (.int .u8 (L[j].toNat : Int)) (by simp [cellsL, hj])
      rw [add_none, Nat.zero_add, cell_of_row w g j cur 5 (0, 0) hh] at hc
      exact hc
    obtain ⟨n, hn⟩ : ∃ n, n = L.length := ⟨_, rfl⟩
    rw [← hn] at hrow hl ⊢
    have hnc : n ≤ cap := by omega
    clear h hh hs hx
    go_enter Try.func12, Try.ntmps12
    go_wp2
    go_loopw [2] (fun t wr => ∃ k : Nat, t = .int .i64 k ∧ k ≤ n ∧ Row wr g n cap ∧ w.grownBy wr (some g)) (fun t _ => n - (intOf t).toNat)
    case atStart => exact ⟨0, rfl, by omega, hrow, World.grownBy.refl _ _⟩
    case round =>
      obtain ⟨k, rfl, hk, hr, hg⟩ := hrel
      by_cases hkn : k < n
      · obtain ⟨z, hz, hf⟩ := hr.cell hkn
        go_wp2
        go_roundw
        case rel => exact ⟨k + 1, by go_num, by omega, hr.set k _, grown_set hg k _⟩
        case measure => simp only [intOf]; omega
      · obtain rfl : k = n := by omega
        go_wp2
        go_end0
        exact ⟨rfl, hg⟩
theorem cellsL_seen {w : World} {g o : Nat} {L : List UInt8} (h : ∀ j (hj : j < L.length), w.cell? ⟨g, o + j, none⟩ = some (.int .u8 (L[j].toNat : Int))) (j : Nat) (u : Value) (hj : (cellsL L)[j]? = some u) : w.cell? ((⟨g, o, none⟩ : Addr).add j) = some u := by
  have hl : j < L.length := by
    have := (List.getElem?_eq_some_iff.1 hj).1
    rwa [cellsL_length] at this
  rw [add_none, h j hl]
  simp [cellsL, List.getElem?_eq_getElem hl] at hj
  rw [hj]
theorem copy_c (v : Value) (L : List UInt8) (w : World) (h : Seen w v L) (hl : L.length ≤ 140737488355328) :
    Calls Try.prog 21 #[v] w fun e w' => ∃ u, e = .returned u ∧ u ≠ .slice none 0 0 ∧ Own w' w.heap.size u L ∧ Below w.heap.size w w' := by
  obtain ⟨i0, hi, hz0, hz1, hz2⟩ := info_parts info5
  obtain ⟨a, cap, rfl, hlc, hm, hnil, hcell⟩ := h
  have hb := (Below.refl w.heap.size w).alloc (Nat.le_refl _) (.cells #[] 5)
  have ho : Own (w.alloc (.cells #[] 5)) w.heap.size (.slice (some ⟨w.heap.size, 0, none⟩) 0 0) [] :=
    ⟨rfl, .inr ⟨w.heap.size, 0, #[], rfl, Nat.le_refl _, heap_alloc_new w _, Nat.le_refl _, by unfold maxLen; omega, rfl, rfl⟩⟩
  cases a with
  | none =>
    obtain rfl := hnil rfl
    obtain rfl : L = [] := List.eq_nil_of_length_eq_zero (by omega)
    go_enter Try.func21, Try.ntmps21
    go_wp2
    go_ret
    exact ⟨_, rfl, (fun h => by cases h), ho, hb⟩
  | some x =>
    obtain ⟨g, o, sp⟩ := x
    have hnews : ∀ j u, (cellsL L)[j]? = some u → (w.alloc (.cells #[] 5)).cell? ((⟨g, o, sp⟩ : Addr).add j) = some u := by
      intro j u hj
      have hl : j < L.length := by
        have := (List.getElem?_eq_some_iff.1 hj).1
        rwa [cellsL_length] at this
      obtain ⟨rfl, _⟩ := hcell g o sp rfl j hl
      exact (World.grownBy_alloc w _ none).cell (cellsL_seen (fun j hj => (hcell g o none rfl j hj).2) j u hj) (by simp)
    clear hcell
    go_enter Try.func21, Try.ntmps21
    go_wp2_with (first
      | (at_builtin; refine wpList_append_own _ rfl _ _ 23 rfl w.heap.size 5 i0 (.int .u8 0) 1 1 Try.underlying23 hi hz0 hz1 hz2 rfl (by decide) _ _ _ rfl ho ⟨g, o, sp⟩ L.length cap (cellsL L) rfl (by rw [cellsL_length]; omega) hnews (one_cells L) (by unfold maxLen; simp; omega) (by simp; omega) (by simp) ?_))
    intro v' w2 hown' hgrow hnn
    have hb3 := hb.grown hgrow (by simp) (fun k hk => by cases hk; exact Nat.le_refl _)
    have ho2 : Own w2 w.heap.size v' L := by
      unfold Own
      simpa [cellsL] using hown'
    clear hown' hgrow ho hb hnews
    go_wp2
    go_ret
    exact ⟨_, rfl, hnn, ho2, hb3⟩
theorem two_cells (w : World) (j : Nat) (u : Value) (hj : (cellsL [173, 77])[j]? = some u) : (w.alloc (.cells #[.int .u8 173, .int .u8 77] 5)).cell? ((⟨w.heap.size, 0, none⟩ : Addr).add j) = some u := by
  rw [add_none, Nat.zero_add, cell_of_row _ w.heap.size j #[.int .u8 173, .int .u8 77] 5 (0, 0) (heap_alloc_new w _)]
  match j, hj with
  | 0, hj => exact hj
  | 1, hj => exact hj
  | j + 2, hj => simp [cellsL] at hj
/-- What is lent: the bytes in a row of one's own, two marked places behind them. -/
theorem lend_c (v : Value) (L : List UInt8) (w : World) (h : Seen w v L) (hl : L.length ≤ 140737488351232) :
    Calls Try.prog 17 #[v] w fun e w' => ∃ g cap, e = .returned (.slice (some ⟨g, 0, none⟩) L.length cap) ∧ Own w' w.heap.size (.slice (some ⟨g, 0, none⟩) (L.length + 2) cap) (L ++ [173, 77]) ∧ Below w.heap.size w w' := by
  obtain ⟨i0, hi, hz0, hz1, hz2⟩ := info_parts info5
  have c21 := copy_c v L w h (by omega)
  obtain ⟨a, cap, rfl, hlc, hm, hnil, hcell⟩ := h
  clear hcell
  go_enter Try.func17, Try.ntmps17
  go_wp2_with (first
    | (go_at_call 21; refine c21.mono ?_; rintro e w1 ⟨u, rfl, hne, ho, hb⟩)
    | (at_builtin; refine wpList_append_own _ rfl _ _ 23 rfl w.heap.size 5 i0 (.int .u8 0) 1 1 Try.underlying23 hi hz0 hz1 hz2 rfl (by decide) _ _ _ rfl (World.ownsRow.alloc ho _) ⟨w1.heap.size, 0, none⟩ 2 2 (cellsL [173, 77]) rfl rfl (two_cells _) (one_cells _) (by unfold maxLen; omega) (by omega) (by have := hb.size; simp; omega) ?_))
  intro v' w2 hown' hgrow hnn
  have hb3 := (hb.alloc hb.size (.cells #[.int .u8 173, .int .u8 77] 5)).grown hgrow (by have := hb.size; simp; omega) (fun k hk => (World.ownsRow.lt ho k hk).1)
  have ho2 : Own w2 w.heap.size v' (L ++ [173, 77]) := by
    unfold Own
    rw [cellsL_append, List.length_append]
    exact hown'
  rcases hown'.2 with ⟨h0, _⟩ | ⟨g, cap2, cur, rfl, _, _, hn2, hm2, _⟩
  · exact absurd h0 hnn
  clear hown' hgrow ho hb c21
  go_wp2
  go_ret
  exact ⟨_, _, rfl, ho2, hb3⟩
theorem kept_c (g cap : Nat) (u : Value) (L : List UInt8) (w : World) (h : Seen w (.slice (some ⟨g, 0, none⟩) (L.length + 2) cap) (L ++ [173, 77])) (hu : Seen w u L) (hl : L.length ≤ 140737488351232) :
    Calls Try.prog 20 #[.slice (some ⟨g, 0, none⟩) L.length cap, u] w fun e w' => e = .returned (.bool true) ∧ w' = w := by
  obtain ⟨a, cap', e, hlc, hm, hnil, hcell⟩ := h
  obtain ⟨e1, e3, e2⟩ := Value.slice.inj e
  subst e1 e2
  have hlen : (L ++ [173, 77]).length = L.length + 2 := by simp
  rw [hlen] at hlc
  have hs : Seen w (.slice (some ⟨g, 0, none⟩) L.length cap) L := by
    refine ⟨_, cap, rfl, by omega, hm, (fun h => by cases h), fun g' o' s' h j hj => ?_⟩
    cases h
    have := hcell g 0 none rfl j (by rw [hlen]; omega)
    rw [List.getElem_append_left hj] at this
    exact this
  have c9 := same_c _ u L w hs hu
  have c1 : w.cell? ⟨g, L.length, none⟩ = some (.int .u8 173) := by
    have := (hcell g 0 none rfl L.length (by rw [hlen]; omega)).2
    simpa using this
  have c2 : w.cell? ⟨g, L.length + 1, none⟩ = some (.int .u8 77) := by
    have := (hcell g 0 none rfl (L.length + 1) (by rw [hlen]; omega)).2
    simpa using this
  obtain ⟨a, cap2, rfl, hlc2, hm2, hnil2, hcell2⟩ := hu
  clear hcell hcell2 hs hlen e e3
  go_enter Try.func20, Try.ntmps20
  go_wp2_with (first | (go_at_call 9; refine c9.mono ?_; rintro e w' ⟨rfl, rfl⟩))
  go_ret
  exact ⟨rfl, rfl⟩
end Go.Proofs.Ytnhnmbmbldhpnaa.Base
