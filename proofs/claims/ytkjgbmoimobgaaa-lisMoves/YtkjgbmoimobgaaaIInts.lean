/- Rows of integers compared, copied, lent, spoilt: contracts of SameInts, CopyInts, LendInts, KeptInts, SpoilInts. -/
import Derived.Test.YtkjgbmoimobgaaaIBase
namespace Go.Proofs.Ytkjgbmoimobgaaa.IInts
open Go.RowKit Go.Proofs.Ytkjgbmoimobgaaa.IPure Go.Proofs.Ytkjgbmoimobgaaa.IBase
set_option linter.unusedVariables false

theorem take_same {L M : List Int} {k : Nat} (h1 : k < L.length) (h2 : k < M.length) (h : L.take k = M.take k) (he : L[k] = M[k]) : L.take (k + 1) = M.take (k + 1) := by
  rw [List.take_succ_eq_append_getElem h1, List.take_succ_eq_append_getElem h2, h, he]
set_option maxRecDepth 20000 in
set_option maxHeartbeats 800000 in
theorem sameI_c {w : World} {v u : Value} {L M : List Int} (hv : Ix w v L) (hu : Ix w u M) :
    Calls Try.prog 11 #[v, u] w fun e w' => e = .returned (.bool (decide (L = M))) ∧ Below w.heap.size w w' := by
  obtain ⟨a, cap, rfl, hl, hm, hnil, hL⟩ := hv
  obtain ⟨a2, cap2, rfl, hl2, hm2, hnil2, hM⟩ := hu
  clear hnil hnil2
  by_cases hlen : L.length = M.length
  · have HE : Hid (L.length = M.length) := hlen
    rw [← hlen] at hl2 ⊢
    clear hlen
    go_enter Try.func11, Try.ntmps11
    go_wp2_with fail
    go_loopw [5] (fun i wr => ∃ k : Nat, i = .int .i64 k ∧ k ≤ L.length ∧ L.take k = M.take k ∧ Below w.heap.size w wr) (fun i _ => L.length - (intOf i).toNat)
    case atStart => exact ⟨0, rfl, Nat.zero_le _, by simp, Below.refl _ _⟩
    case round =>
      obtain ⟨k, rfl, hk, htk, hb⟩ := hrel
      by_cases hlt : k < L.length
      · have hlt2 : k < M.length := by rw [← HE.out]; exact hlt
        rcases hL with rfl | ⟨g, o, rfl, hcl⟩
        · simp at hlt
        · rcases hM with rfl | ⟨g2, o2, rfl, hcm⟩
          · simp at hlt2
          · have x1 := below_cell (hcl k hlt) hb
            have x2 := below_cell (hcm k hlt2) hb
            have HT := take_same hlt hlt2 htk
            have HN : Hid (L[k] ≠ M[k] → decide (L = M) = false) := fun h => decide_eq_false (fun e => h (by subst e; rfl))
            have HT2 : Hid (L[k] = M[k] → L.take (k + 1) = M.take (k + 1)) := HT
            generalize L[k] = X at *
            generalize M[k] = Y at *
            clear hcl hcm HT htk hlt2
            by_cases hxy : X = Y
            · subst hxy
              have HT3 : Hid (L.take (k + 1) = M.take (k + 1)) := HT2.out rfl
              clear HN HT2
              go_wp2_with fail
              go_quiet (fail)
              go_wp2_with fail
              go_roundw
              case rel => exact ⟨k + 1, by go_num, by omega, HT3.out, below_drewN hb⟩
              case measure => simp only [intOf]; omega
            · have e : (X == Y) = false := by simp [hxy]
              have HN2 : Hid (decide (L = M) = false) := HN.out hxy
              clear HN HT2
              go_wp2_with fail
              go_quiet (fail)
              go_wp2_with fail
              go_ret
              exact ⟨by rw [HN2.out]; rfl, below_drewN hb⟩
      · obtain rfl : k = L.length := by omega
        have hnlt : decide ((L.length : Int) < (L.length : Int)) = false := by simp
        have HT : Hid (L = M) := by
          rw [List.take_length, HE.out, List.take_length] at htk
          exact htk
        clear htk
        go_wp2_with fail
        go_ret
        exact ⟨by rw [decide_eq_true HT.out]; rfl, hb⟩
  · have hd : ((L.length : Int) == (M.length : Int)) = false := by simp; omega
    have HN : Hid (decide (L = M) = false) := decide_eq_false (fun e => hlen (by rw [e]))
    go_enter Try.func11, Try.ntmps11
    go_wp2_with fail
    go_ret
    exact ⟨by rw [HN.out]; rfl, Below.refl _ _⟩
theorem one_ints (L : List Int) : ∀ u ∈ L.map (Value.int .i64), u.oneCell' = true := by
  intro u hu
  obtain ⟨x, _, rfl⟩ := List.mem_map.1 hu
  rfl
theorem copyI_c {w : World} {v : Value} {L : List Int} (hv : Ix w v L) (hn : L.length ≤ 17592186044416) :
    Calls Try.prog 20 #[v] w fun e w' => ∃ u, e = .returned u ∧ u ≠ .slice none 0 0 ∧ Oi w' w.heap.size u L ∧ Below w.heap.size w w' := by
  obtain ⟨i0, hi, hz0, hz1, hz2⟩ := info_parts infoI
  obtain ⟨a, cap, rfl, hl, hm, hnil, hL⟩ := hv
  have ho : Oi (w.alloc (.cells #[] 3)) w.heap.size (.slice (some ⟨w.heap.size, 0, none⟩) 0 0) [] := by
    refine ⟨rfl, .inr ⟨w.heap.size, 0, #[], rfl, Nat.le_refl _, heap_alloc_new w _, Nat.le_refl _, by simp [maxLen], rfl, rfl⟩⟩
  have hb : Below w.heap.size w (w.alloc (.cells #[] 3)) := (Below.refl _ w).alloc (Nat.le_refl _) _
  cases a with
  | none =>
    obtain rfl := hnil rfl
    obtain rfl : L = [] := List.eq_nil_of_length_eq_zero (by omega)
    go_enter Try.func20, Try.ntmps20
    go_wp2_with fail
    go_ret
    exact ⟨_, rfl, (fun h => by cases h), ho, hb⟩
  | some x =>
    obtain ⟨g, o, sp⟩ := x
    have hnews : ∀ j u, (L.map (Value.int .i64))[j]? = some u → (w.alloc (.cells #[] 3)).cell? ((⟨g, o, sp⟩ : Addr).add j) = some u := by
      intro j u hj
      have hl2 : j < L.length := by
        have := (List.getElem?_eq_some_iff.1 hj).1
        simpa using this
      rcases hL with rfl | ⟨g', o', e, hc⟩
      · simp at hl2
      · cases e
        rw [add_none]
        rw [List.getElem?_map, List.getElem?_eq_getElem hl2] at hj
        cases hj
        exact below_cell (hc j hl2) hb
    have hlen : (L.map (Value.int .i64)).length = L.length * 1 := by simp
    clear hL hnil
    go_enter Try.func20, Try.ntmps20
    go_wp2_with (first
      | (at_builtin; refine wpList_append_own _ rfl _ _ 22 rfl w.heap.size 3 i0 (.int .i64 0) 1 8 Try.underlying22 hi hz0 hz1 hz2 rfl (by decide) _ _ _ rfl ho ⟨g, o, sp⟩ L.length cap (L.map (Value.int .i64)) rfl hlen hnews (one_ints L) (by simp [maxLen]; omega) (by simp; omega) (by simp) ?_))
    intro v' w2 hown' hgrow hnn
    have hb3 := hb.grown hgrow (by simp) (fun k hk => by cases hk; exact Nat.le_refl _)
    have ho2 : Oi w2 w.heap.size v' L := by
      unfold Oi
      simpa using hown'
    have hn2 : v' ≠ .slice none 0 0 := fun h => hnn h
    clear hown' hgrow ho hb hnews hnn
    go_wp2_with fail
    go_ret
    exact ⟨_, rfl, hn2, ho2, hb3⟩
/-- A row that was lent: with marked room behind it. -/
def Lx (w : World) (B : Nat) (v : Value) (L : List Int) : Prop := ∃ g cap, v = .slice (some ⟨g, 0, none⟩) L.length cap ∧ L.length + 2 ≤ cap ∧ cap ≤ 9223372036854775807 ∧ B ≤ g ∧ g < w.heap.size ∧
  (∀ j (h : j < L.length), w.cell? ⟨g, 0 + j, none⟩ = some (.int .i64 L[j])) ∧ w.cell? ⟨g, 0 + L.length, none⟩ = some (.int .i64 (-7777)) ∧ w.cell? ⟨g, 0 + (L.length + 1), none⟩ = some (.int .i64 (-8888))
theorem Lx.ix {w : World} {B : Nat} {v : Value} {L : List Int} (h : Lx w B v L) : Ix w v L := by
  obtain ⟨g, cap, rfl, h1, h2, -, -, h3, -⟩ := h
  exact ⟨_, cap, rfl, by omega, h2, (fun h => by cases h), .inr ⟨g, 0, rfl, h3⟩⟩
theorem Lx.below {w w' : World} {B : Nat} {v : Value} {L : List Int} (h : Lx w B v L) (hb : Below w.heap.size w w') : Lx w' B v L := by
  obtain ⟨g, cap, rfl, h1, h2, h3, h4, h5, h6, h7⟩ := h
  exact ⟨g, cap, rfl, h1, h2, h3, by have := hb.size; omega, fun j hj => below_cell (h5 j hj) hb, below_cell h6 hb, below_cell h7 hb⟩
theorem lendI_c {w : World} {v : Value} {L : List Int} (hv : Ix w v L) (hn : L.length + 2 ≤ 17592186044416) :
    Calls Try.prog 8 #[v] w fun e w' => ∃ u, e = .returned u ∧ Lx w' w.heap.size u L ∧ Below w.heap.size w w' := by
  obtain ⟨i0, hi, hz0, hz1, hz2⟩ := info_parts infoI
  have c1 := copyI_c hv (by omega)
  obtain ⟨a, cap, rfl, hl, hm, hnil, hL⟩ := hv
  clear hL hnil
  go_enter Try.func8, Try.ntmps8
  go_wp2_with (first
    | (go_at_call 20; refine c1.mono ?_; rintro e w1 ⟨u, rfl, hne, ho, hb⟩)
    | (at_builtin; refine wpList_append_own _ rfl _ _ 22 rfl w.heap.size 3 i0 (.int .i64 0) 1 8 Try.underlying22 hi hz0 hz1 hz2 rfl (by decide) _ _ _ rfl (World.ownsRow.alloc ho _) ⟨w1.heap.size, 0, none⟩ 2 2 [.int .i64 (-7777), .int .i64 (-8888)] rfl rfl (new_cells w1 _ 3) (one_ints [-7777, -8888]) (by simp [maxLen]; omega) (by omega) (by have := hb.size; simp; omega) ?_))
  intro v' w2 hown' hgrow hnn
  have hb3 := (hb.alloc hb.size (.cells #[.int .i64 (-7777), .int .i64 (-8888)] 3)).grown hgrow (by have := hb.size; simp; omega) (fun k hk => (World.ownsRow.lt ho k hk).1)
  have ho2 : Oi w2 w.heap.size v' (L ++ [-7777, -8888]) := by
    unfold Oi
    simpa using hown'
  obtain ⟨g, cap2, rfl, hc1, hc2⟩ := ho2.pos (by simp)
  have hlt := ho2.lt
  have hx : Lx w2 w.heap.size (.slice (some ⟨g, 0, none⟩) L.length cap2) L := by
    refine ⟨g, cap2, rfl, by simpa using hc1, hc2, hlt.1, hlt.2, fun j hj => ?_, ?_, ?_⟩
    · have := (ho2.at (k := j) (by simp; omega)).1
      rwa [List.getElem_append_left hj] at this
    · have := (ho2.at (k := L.length) (by simp)).1
      rw [List.getElem_append_right (by omega)] at this
      simpa using this
    · have := (ho2.at (k := L.length + 1) (by simp)).1
      rw [List.getElem_append_right (by omega)] at this
      simpa using this
  have hcap : L.length + 2 ≤ cap2 := by simpa using hc1
  simp only [List.length_append, List.length_cons, List.length_nil]
  clear hown' hgrow ho hb hnn ho2 hc1 c1
  go_wp2_with fail
  go_ret
  exact ⟨_, rfl, hx, hb3⟩
set_option maxRecDepth 20000 in
set_option maxHeartbeats 800000 in
theorem keptI_c {w : World} {B : Nat} {u v : Value} {L : List Int} (hu : Lx w B u L) (hv : Ix w v L) (hn : L.length + 2 ≤ 17592186044416) :
    Calls Try.prog 12 #[u, v] w fun e w' => e = .returned (.bool true) ∧ Below w.heap.size w w' := by
  have c1 := sameI_c hu.ix hv
  rw [decide_eq_true rfl] at c1
  obtain ⟨g, cap, rfl, h1, h2, h3, h4, h5, h6, h7⟩ := hu
  obtain ⟨a2, cap2, rfl, hl2, hm2, hnil2, hM⟩ := hv
  obtain ⟨n, hnn⟩ : ∃ n, L.length = n := ⟨_, rfl⟩
  rw [Nat.zero_add] at h6 h7
  rw [hnn] at h1 h6 h7 hl2 hn c1 ⊢
  have H6 : Hid (w.cell? ⟨g, n, none⟩ = some (.int .i64 (-7777))) := h6
  have H7 : Hid (w.cell? ⟨g, n + 1, none⟩ = some (.int .i64 (-8888))) := h7
  clear hM hnil2 h5 hnn h6 h7 h3 h4
  go_enter Try.func12, Try.ntmps12
  go_wp2_with (first | (go_at_call 11; refine c1.mono ?_; rintro e w1 ⟨rfl, b1⟩; have k6 := below_cell H6.out b1; have k7 := below_cell H7.out b1))
  go_ret
  exact ⟨rfl, b1⟩
/-- Block g is a row of cap cells, the first n of them integers. -/
def Row (w : World) (g n cap : Nat) : Prop := ∃ cur, w.heap[g]? = some (.cells cur 3 (0, 0)) ∧ cur.size = cap ∧ ∀ j, j < n → ∃ z, cur[j]? = some (.int .i64 z)
theorem cell_of_row (w : World) (g j : Nat) (cur : Array Value) (t : TypeId) (h : w.heap[g]? = some (.cells cur t (0, 0))) : w.cell? ⟨g, j, none⟩ = cur[j]? := by
  simp [World.cell?, h]
theorem frozen_of_row (w : World) (g j : Nat) (cur : Array Value) (t : TypeId) (h : w.heap[g]? = some (.cells cur t (0, 0))) : w.frozen? ⟨g, j, none⟩ = false := by
  simp [World.frozen?, h]
theorem Row.cell {w : World} {g n cap : Nat} (h : Row w g n cap) {j : Nat} (hj : j < n) : ∃ z, w.cell? ⟨g, j, none⟩ = some (.int .i64 z) ∧ w.frozen? ⟨g, j, none⟩ = false := by
  obtain ⟨cur, hh, hs, hc⟩ := h
  obtain ⟨z, hz⟩ := hc j hj
  exact ⟨z, by rw [cell_of_row w g j cur 3 hh]; exact hz, frozen_of_row w g j cur 3 hh⟩
theorem Row.set {w : World} {g n cap : Nat} (h : Row w g n cap) (j : Nat) (z : Int) : Row (w.setCell ⟨g, j, none⟩ (.int .i64 z)) g n cap := by
  obtain ⟨cur, hh, hs, hc⟩ := h
  refine ⟨_, heap_setCell_same w g j cur 3 (.int .i64 z) hh, by simp [hs], fun i hi => ?_⟩
  by_cases e : j = i
  · subst e
    obtain ⟨y, hy⟩ := hc j hi
    have := (Array.getElem?_eq_some_iff.1 hy).1
    exact ⟨z, by simp [this]⟩
  · obtain ⟨y, hy⟩ := hc i hi
    exact ⟨y, by rw [Array.getElem?_setIfInBounds_ne e]; exact hy⟩
theorem grown_set {w wr : World} {g : Nat} (h : w.grownBy wr (some g)) (j : Nat) (u : Value) : w.grownBy (wr.setCell ⟨g, j, none⟩ u) (some g) :=
  ⟨h.os, h.tape, h.output, Nat.le_trans h.size (by simp [World.setCell]), fun k hk hne => (heap_setCell_other wr ⟨g, j, none⟩ k u (fun e => hne (by rw [e]))).trans (h.block k hk hne)⟩
theorem spoilI_c {w : World} {B : Nat} {v : Value} {L : List Int} (h : Oi w B v L) (hl : L.length ≤ 17592186044416) :
    Calls Try.prog 13 #[v] w fun e w' => e = .returned (.tuple #[]) ∧ w.grownBy w' v.ownBlock := by
  rcases h.2 with ⟨rfl, h0⟩ | ⟨g, cap, cur, rfl, hb, hh, hn, hm, hs, hx⟩
  · go_enter Try.func13, Try.ntmps13
    go_wp2
    go_loopw [2] (fun t wr => t = .int .i64 0 ∧ wr = w) (fun t _ => 0)
    case atStart => exact ⟨rfl, rfl⟩
    case round =>
      obtain ⟨rfl, rfl⟩ := hrel
      go_wp2
      go_end0
      exact ⟨rfl, World.grownBy.refl _ _⟩
  · have hrow : Row w g L.length cap := by
      refine ⟨cur, hh, by simpa using hs, fun j hj => ⟨L[j], ?_⟩⟩
      have hc := World.ownsRow.cells (g := g) h rfl j (.int .i64 L[j]) (by simp [hj])
      rw [add_none, Nat.zero_add, cell_of_row w g j cur 3 hh] at hc
      exact hc
    obtain ⟨n, hn⟩ : ∃ n, n = L.length := ⟨_, rfl⟩
    rw [← hn] at hrow hl ⊢
    have hnc : n ≤ cap := by omega
    clear h hh hs hx
    go_enter Try.func13, Try.ntmps13
    go_wp2
    go_loopw [2] (fun t wr => ∃ k : Nat, t = .int .i64 k ∧ k ≤ n ∧ Row wr g n cap ∧ w.grownBy wr (some g)) (fun t _ => n - (intOf t).toNat)
    case atStart => exact ⟨0, rfl, by omega, hrow, World.grownBy.refl _ _⟩
    case round =>
      obtain ⟨k, rfl, hk, hr, hg⟩ := hrel
      by_cases hkn : k < n
      · obtain ⟨z, hz, hf⟩ := hr.cell hkn
        go_wp2
        go_roundw
        case rel => exact ⟨k + 1, by go_num, by omega, hr.set k _, grown_set hg k _⟩
        case measure => simp only [intOf]; omega
      · obtain rfl : k = n := by omega
        go_wp2
        go_end0
        exact ⟨rfl, hg⟩
end Go.Proofs.Ytkjgbmoimobgaaa.IInts
