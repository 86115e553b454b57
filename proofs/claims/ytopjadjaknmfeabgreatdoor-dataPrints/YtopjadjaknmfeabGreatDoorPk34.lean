import Derived.Test.YtopjadjaknmfeabGreatDoorPk21
import Derived.Test.YtopjadjaknmfeabGreatDoorPk33
namespace Go.Proofs.YtopjadjaknmfeabGreatDoor.LBy
open Go.RowKit Go.Proofs.YtopjadjaknmfeabGreatDoor.Base Go.Proofs.YtopjadjaknmfeabGreatDoor.UBase Go.Proofs.YtopjadjaknmfeabGreatDoor.Spec Go.Proofs.YtopjadjaknmfeabGreatDoor.Byts Go.Proofs.YtopjadjaknmfeabGreatDoor.WPk Go.Proofs.YtopjadjaknmfeabGreatDoor.RPrt
set_option linter.unusedVariables false
/-- The bytes of v are L: what string(v) reads. -/
def Rd (w : World) (v : Value) (L : List UInt8) : Prop := (∃ a n c, v = .slice a n c) ∧ (convert 22 9 v).run Tryz.prog w = .ok (.string ⟨L.toArray⟩) w
theorem rd_nil (w : World) : Rd w (.slice none 0 0) [] := ⟨⟨_, _, _, rfl⟩, own_conv (Own.nil w 0)⟩
theorem Sn.below {B : Nat} {w w' : World} {v : Value} {L : List UInt8} (h : Sn B w v L) (hb : Below w.heap.size w w') : Sn B w' v L := by
  obtain ⟨g, cap, rfl, h1, h2, hc⟩ := h
  exact ⟨g, cap, rfl, h1, by have := hb.size; omega, fun j hj => (World.cell?_of_block (w := w) (hb.block g h2)).trans (hc j hj)⟩
theorem sameB_c {w : World} {a b : Value} {L M : List UInt8} (ha : Rd w a L) (hb : Rd w b M) :
    Calls Tryz.prog 17 #[a, b] w fun e w' => e = .returned (.bool (L == M)) ∧ w' = w := by
  obtain ⟨⟨a1, n1, c1, rfl⟩, h1⟩ := ha
  obtain ⟨⟨a2, n2, c2, rfl⟩, h2⟩ := hb
  go_enter Tryz.func17, Tryz.ntmps17
  go_wp2_with fail
  go_ret
  exact ⟨rfl, rfl⟩
end Go.Proofs.YtopjadjaknmfeabGreatDoor.LBy
namespace Go.Proofs.YtopjadjaknmfeabGreatDoor.LSp
open Go.RowKit Go.Proofs.YtopjadjaknmfeabGreatDoor.Base Go.Proofs.YtopjadjaknmfeabGreatDoor.UBase Go.Proofs.YtopjadjaknmfeabGreatDoor.Spec Go.Proofs.YtopjadjaknmfeabGreatDoor.Byts Go.Proofs.YtopjadjaknmfeabGreatDoor.WPk Go.Proofs.YtopjadjaknmfeabGreatDoor.RPrt Go.Proofs.YtopjadjaknmfeabGreatDoor.LBy
set_option linter.unusedVariables false
/-- Block g is a row of cap cells, the first n of them bytes. -/
def Row (w : World) (g n cap : Nat) : Prop := ∃ cur, w.heap[g]? = some (.cells cur 5 (0, 0)) ∧ cur.size = cap ∧ ∀ j, j < n → ∃ z, cur[j]? = some (.int .u8 z)
theorem Row.cell {w : World} {g n cap : Nat} (h : Row w g n cap) {j : Nat} (hj : j < n) : ∃ z, w.cell? ⟨g, j, none⟩ = some (.int .u8 z) ∧ w.frozen? ⟨g, j, none⟩ = false := by
  obtain ⟨cur, hh, hs, hc⟩ := h
  obtain ⟨z, hz⟩ := hc j hj
  exact ⟨z, by rw [cell_of_row w g j cur 5 (0, 0) hh]; exact hz, frozen_of_row w g j cur 5 hh⟩
theorem Row.set {w : World} {g n cap : Nat} (h : Row w g n cap) (j : Nat) (z : Int) : Row (w.setCell ⟨g, j, none⟩ (.int .u8 z)) g n cap := by
  obtain ⟨cur, hh, hs, hc⟩ := h
  refine ⟨_, heap_setCell_same w g j cur 5 (.int .u8 z) hh, by simp [hs], fun i hi => ?_⟩
  by_cases e : j = i
  · subst e
    obtain ⟨y, hy⟩ := hc j hi
    have := (Array.getElem?_eq_some_iff.1 hy).1
    exact ⟨z, by simp [this]⟩
  · obtain ⟨y, hy⟩ := hc i hi
    exact ⟨y, by rw [Array.getElem?_setIfInBounds_ne e]; exact hy⟩
theorem grown_set {w wr : World} {g : Nat} (h : w.grownBy wr (some g)) (j : Nat) (u : Value) : w.grownBy (wr.setCell ⟨g, j, none⟩ u) (some g) :=
  ⟨h.os, h.tape, h.output, Nat.le_trans h.size (by simp [World.setCell]), fun k hk hne => (heap_setCell_other wr ⟨g, j, none⟩ k u (fun e => hne (by rw [e]))).trans (h.block k hk hne)⟩
theorem spoil_c (B : Nat) (v : Value) (L : List UInt8) (w : World) (h : Byts.Own w B v L) (hl : L.length ≤ 1000000000000) (hne : L ≠ []) :
    Calls Tryz.prog 19 #[v] w fun e w' => e = .returned (.tuple #[]) ∧ w.grownBy w' v.ownBlock := by
  rcases h.2 with ⟨_, h0⟩ | ⟨g, cap, cur, rfl, hb, hh, hn, hm, hs, hx⟩
  · exact absurd (List.eq_nil_of_length_eq_zero h0) hne
  · have hrow : Row w g L.length cap := by
      refine ⟨cur, hh, by simpa using hs, fun j hj => ⟨(L[j].toNat : Int), ?_⟩⟩
      have hc := World.ownsRow.cells (g := g) h rfl j (.int .u8 (L[j].toNat : Int)) (by simp [Lib.byteCells, hj])
      rw [add_none, Nat.zero_add, cell_of_row w g j cur 5 (0, 0) hh] at hc
      exact hc
    obtain ⟨n, hn⟩ : ∃ n, n = L.length := ⟨_, rfl⟩
    rw [← hn] at hrow hl ⊢
    have hnc : n ≤ cap := by omega
    clear h hh hs hx
    go_enter Tryz.func19, Tryz.ntmps19
    go_wp2
    go_loopw [2] (fun t wr => ∃ k : Nat, t = .int .i64 k ∧ k ≤ n ∧ Row wr g n cap ∧ w.grownBy wr (some g)) (fun t _ => n - (intOf t).toNat)
    case atStart => exact ⟨0, rfl, by omega, hrow, World.grownBy.refl _ _⟩
    case round =>
      obtain ⟨k, rfl, hk, hr, hg⟩ := hrel
      by_cases hkn : k < n
      · obtain ⟨z, hz, hf⟩ := hr.cell hkn
        go_wp2
        go_roundw
        case rel => exact ⟨k + 1, by go_num, by omega, hr.set k _, grown_set hg k _⟩
        case measure => simp only [intOf]; omega
      · obtain rfl : k = n := by omega
        go_wp2
        go_end0
        exact ⟨rfl, hg⟩
end Go.Proofs.YtopjadjaknmfeabGreatDoor.LSp
namespace Go.Proofs.YtopjadjaknmfeabGreatDoor.Vals
open Go.RowKit Go.Proofs.YtopjadjaknmfeabGreatDoor.Base Go.Proofs.YtopjadjaknmfeabGreatDoor.UBase Go.Proofs.YtopjadjaknmfeabGreatDoor.Spec Go.Proofs.YtopjadjaknmfeabGreatDoor.Rdr Go.Proofs.YtopjadjaknmfeabGreatDoor.Skip Go.Proofs.YtopjadjaknmfeabGreatDoor.Own Go.Proofs.YtopjadjaknmfeabGreatDoor.LState Go.Proofs.YtopjadjaknmfeabGreatDoor.Val
set_option linter.unusedVariables false
theorem one_cases (V : Nat → Nat → Except F (C × Nat × Nat)) (s : ByteArray) (p b : Nat) (h : beg (at' s p) = true) :
    (at' s p = 110 ∧ one V s p b = wK 1 false b (wd s [110, 117, 108, 108] p)) ∨ (at' s p = 116 ∧ one V s p b = wK 2 true b (wd s [116, 114, 117, 101] p)) ∨ (at' s p = 102 ∧ one V s p b = wK 2 false b (wd s [102, 97, 108, 115, 101] p)) ∨
    (at' s p = 34 ∧ one V s p b = tK b (txt s p)) ∨ (at' s p = 91 ∧ one V s p b = lis V s p b) ∨ (at' s p = 123 ∧ one V s p b = rec V s p b) ∨ ((at' s p = 45 ∨ dig (at' s p) = true) ∧ one V s p b = nK b (nm s p)) := by
  by_cases h1 : at' s p = 110
  · refine .inl ⟨h1, ?_⟩
    rw [one, if_pos h1]
    generalize wd s _ p = X
    cases X <;> rfl
  by_cases h2 : at' s p = 116
  · refine .inr (.inl ⟨h2, ?_⟩)
    rw [one, if_neg h1, if_pos h2]
    generalize wd s _ p = X
    cases X <;> rfl
  by_cases h3 : at' s p = 102
  · refine .inr (.inr (.inl ⟨h3, ?_⟩))
    rw [one, if_neg h1, if_neg h2, if_pos h3]
    generalize wd s _ p = X
    cases X <;> rfl
  by_cases h4 : at' s p = 34
  · refine .inr (.inr (.inr (.inl ⟨h4, ?_⟩)))
    rw [one, if_neg h1, if_neg h2, if_neg h3, if_pos h4]
    generalize txt s p = X
    cases X <;> rfl
  by_cases h5 : at' s p = 91
  · refine .inr (.inr (.inr (.inr (.inl ⟨h5, ?_⟩))))
    rw [one, if_neg h1, if_neg h2, if_neg h3, if_neg h4, if_pos h5]
  by_cases h6 : at' s p = 123
  · refine .inr (.inr (.inr (.inr (.inr (.inl ⟨h6, ?_⟩)))))
    rw [one, if_neg h1, if_neg h2, if_neg h3, if_neg h4, if_neg h5, if_pos h6]
  · refine .inr (.inr (.inr (.inr (.inr (.inr ⟨?_, ?_⟩)))))
    · unfold beg at h
      simp only [h1, h2, h3, h4, h5, h6, decide_false, Bool.false_or, Bool.or_false, Bool.or_eq_true, decide_eq_true_eq] at h
      exact h
    · rw [one, if_neg h1, if_neg h2, if_neg h3, if_neg h4, if_neg h5, if_neg h6]
      generalize nm s p = X
      cases X <;> rfl
theorem vis : ∀ (n d : Nat), n + d = 25 → VIs n d n
  | 0, d, e => by
    intro w R v s i b h
    have hx : ∃ x, vl s 0 i b = .error x ∧ bgn d (blk s i) b (at' s (blk s i)) = .error x := by
      rw [vl]
      unfold bgn
      split
      · rw [if_pos (by omega)]; exact ⟨_, rfl, rfl⟩
      · exact ⟨_, rfl, rfl⟩
    obtain ⟨x, h1, h2⟩ := hx
    rw [h1]
    exact value_err (by omega) h h2
  | n + 1, d, e => by
    have ih := vis n (d + 1) (by omega)
    intro w R v s i b h
    have hlb := h.lb
    by_cases hg : beg (at' s (blk s i)) = true
    · by_cases hb : 16384 ≤ b
      · have h1 : vl s (n + 1) i b = .error (604, blk s i) := by rw [vl, if_pos hg, if_pos hb]
        have h2 : bgn d (blk s i) b (at' s (blk s i)) = .error (604, blk s i) := by unfold bgn; rw [if_pos hg, if_neg (by omega), if_pos (by omega)]
        rw [h1]
        exact value_err (by omega) h h2
      · have h1 : vl s (n + 1) i b = one (vl s n) s (blk s i) (b + 1) := by rw [vl, if_pos hg, if_neg hb]
        have h2 : bgn d (blk s i) b (at' s (blk s i)) = .ok () := by unfold bgn; rw [if_pos hg, if_neg (by omega), if_neg (by omega)]
        rw [h1]
        rcases one_cases (vl s n) s (blk s i) (b + 1) hg with ⟨hc, e⟩ | ⟨hc, e⟩ | ⟨hc, e⟩ | ⟨hc, e⟩ | ⟨hc, e⟩ | ⟨hc, e⟩ | ⟨hc, e⟩
        · rw [e]; exact vnull_c (by omega) h h2 hc
        · rw [e]; exact vtrue_c (by omega) h h2 hc
        · rw [e]; exact vfalse_c (by omega) h h2 hc
        · rw [e]; exact vtext_c (by omega) h h2 hc
        · rw [e]; exact vlist_c (by omega) ih h h2 hc
        · rw [e]; exact vrecord_c (by omega) ih h h2 hc
        · rw [e]; exact vnum_c (by omega) h h2 hc
    · have h1 : vl s (n + 1) i b = .error (600, blk s i) := by rw [vl, if_neg hg]
      have h2 : bgn d (blk s i) b (at' s (blk s i)) = .error (600, blk s i) := by unfold bgn; rw [if_neg hg]
      rw [h1]
      exact value_err (by omega) h h2
end Go.Proofs.YtopjadjaknmfeabGreatDoor.Vals
