/- Rows of integers compared, copied, lent, spoilt: contracts of SameInts, CopyInts, LendInts, KeptInts, SpoilInts. -/
import Derived.Test.YtofjedecjlodmaaGreatIBase
namespace Go.Proofs.YtofjedecjlodmaaGreat.IInts
open Go.RowKit Go.Proofs.YtofjedecjlodmaaGreat.IPure Go.Proofs.YtofjedecjlodmaaGreat.IBase
set_option linter.unusedVariables false

theorem take_same {L M : List Int} {k : Nat} (h1 : k < L.length) (h2 : k < M.length) (h : L.take k = M.take k) (he : L[k] = M[k]) : L.take (k + 1) = M.take (k + 1) := by
  rw [List.take_succ_eq_append_getElem h1, List.take_succ_eq_append_getElem h2, h, he]
set_option maxRecDepth 20000 in
set_option maxHeartbeats 800000 in
theorem sameI_c {w : World} {v u : Value} {L M : List Int} (hv : Ix w v L) (hu : Ix w u M) :
    Calls Tryz.prog 15 #[v, u] w fun e w' => e = .returned (.bool (decide (L = M))) ∧ Below w.heap.size w w' := by
  obtain ⟨a, cap, rfl, hl, hm, hnil, hL⟩ := hv
  obtain ⟨a2, cap2, rfl, hl2, hm2, hnil2, hM⟩ := hu
  clear hnil hnil2
  by_cases hlen : L.length = M.length
  · have HE : Hid (L.length = M.length) := hlen
    rw [← hlen] at hl2 ⊢
    clear hlen
    go_enter Tryz.func15, Tryz.ntmps15
    go_wp2_with fail
    go_loopw [5] (fun i wr => ∃ k : Nat, i = .int .i64 k ∧ k ≤ L.length ∧ L.take k = M.take k ∧ Below w.heap.size w wr) (fun i _ => L.length - (intOf i).toNat)
    case atStart => exact ⟨0, rfl, Nat.zero_le _, by simp, Below.refl _ _⟩
    case round =>
      obtain ⟨k, rfl, hk, htk, hb⟩ := hrel
      by_cases hlt : k < L.length
      · have hlt2 : k < M.length := by rw [← HE.out]; exact hlt
        rcases hL with rfl | ⟨g, o, rfl, hcl⟩
        · simp at hlt
        · rcases hM with rfl | ⟨g2, o2, rfl, hcm⟩
          · simp at hlt2
          · have x1 := below_cell (hcl k hlt) hb
            have x2 := below_cell (hcm k hlt2) hb
            have HT := take_same hlt hlt2 htk
            have HN : Hid (L[k] ≠ M[k] → decide (L = M) = false) := fun h => decide_eq_false (fun e => h (by subst e; rfl))
            have HT2 : Hid (L[k] = M[k] → L.take (k + 1) = M.take (k + 1)) := HT
            generalize L[k] = X at *
            generalize M[k] = Y at *
            clear hcl hcm HT htk hlt2
            by_cases hxy : X = Y
            · subst hxy
              have HT3 : Hid (L.take (k + 1) = M.take (k + 1)) := HT2.out rfl
              clear HN HT2
              go_wp2_with fail
              go_quiet (fail)
              go_wp2_with fail
              go_roundw
              case rel => exact ⟨k + 1, by go_num, by omega, HT3.out, below_drewN hb⟩
              case measure => simp only [intOf]; omega
            · have e : (X == Y) = false := by simp [hxy]
              have HN2 : Hid (decide (L = M) = false) := HN.out hxy
              clear HN HT2
              go_wp2_with fail
              go_quiet (fail)
              go_wp2_with fail
              go_ret
              exact ⟨by rw [HN2.out]; rfl, below_drewN hb⟩
      · obtain rfl : k = L.length := by omega
        have hnlt : decide ((L.length : Int) < (L.length : Int)) = false := by simp
        have HT : Hid (L = M) := by
          rw [List.take_length, HE.out, List.take_length] at htk
          exact htk
        clear htk
        go_wp2_with fail
        go_ret
        exact ⟨by rw [decide_eq_true HT.out]; rfl, hb⟩
  · have hd : ((L.length : Int) == (M.length : Int)) = false := by simp; omega
    have HN : Hid (decide (L = M) = false) := decide_eq_false (fun e => hlen (by rw [e]))
    go_enter Tryz.func15, Tryz.ntmps15
    go_wp2_with fail
    go_ret
    exact ⟨by rw [HN.out]; rfl, Below.refl _ _⟩
theorem one_ints (L : List Int) : ∀ u ∈ L.map (Value.int .i64), u.oneCell' = true := by
  intro u hu
  obtain ⟨x, _, rfl⟩ := List.mem_map.1 hu
  rfl
/-- A row that was lent: with marked room behind it. -/
def Lx (w : World) (B : Nat) (v : Value) (L : List Int) : Prop := ∃ g cap, v = .slice (some ⟨g, 0, none⟩) L.length cap ∧ L.length + 2 ≤ cap ∧ cap ≤ 9223372036854775807 ∧ B ≤ g ∧ g < w.heap.size ∧
  (∀ j (h : j < L.length), w.cell? ⟨g, 0 + j, none⟩ = some (.int .i64 L[j])) ∧ w.cell? ⟨g, 0 + L.length, none⟩ = some (.int .i64 (-7777)) ∧ w.cell? ⟨g, 0 + (L.length + 1), none⟩ = some (.int .i64 (-8888))
theorem Lx.ix {w : World} {B : Nat} {v : Value} {L : List Int} (h : Lx w B v L) : Ix w v L := by
  obtain ⟨g, cap, rfl, h1, h2, -, -, h3, -⟩ := h
  exact ⟨_, cap, rfl, by omega, h2, (fun h => by cases h), .inr ⟨g, 0, rfl, h3⟩⟩
theorem Lx.below {w w' : World} {B : Nat} {v : Value} {L : List Int} (h : Lx w B v L) (hb : Below w.heap.size w w') : Lx w' B v L := by
  obtain ⟨g, cap, rfl, h1, h2, h3, h4, h5, h6, h7⟩ := h
  exact ⟨g, cap, rfl, h1, h2, h3, by have := hb.size; omega, fun j hj => below_cell (h5 j hj) hb, below_cell h6 hb, below_cell h7 hb⟩
/-- Block g is a row of cap cells, the first n of them integers. -/
def Row (w : World) (g n cap : Nat) : Prop := ∃ cur, w.heap[g]? = some (.cells cur 3 (0, 0)) ∧ cur.size = cap ∧ ∀ j, j < n → ∃ z, cur[j]? = some (.int .i64 z)
theorem cell_of_row (w : World) (g j : Nat) (cur : Array Value) (t : TypeId) (h : w.heap[g]? = some (.cells cur t (0, 0))) : w.cell? ⟨g, j, none⟩ = cur[j]? := by
  simp [World.cell?, h]
theorem frozen_of_row (w : World) (g j : Nat) (cur : Array Value) (t : TypeId) (h : w.heap[g]? = some (.cells cur t (0, 0))) : w.frozen? ⟨g, j, none⟩ = false := by
  simp [World.frozen?, h]
theorem Row.cell {w : World} {g n cap : Nat} (h : Row w g n cap) {j : Nat} (hj : j < n) : ∃ z, w.cell? ⟨g, j, none⟩ = some (.int .i64 z) ∧ w.frozen? ⟨g, j, none⟩ = false := by
  obtain ⟨cur, hh, hs, hc⟩ := h
  obtain ⟨z, hz⟩ := hc j hj
  exact ⟨z, by rw [cell_of_row w g j cur 3 hh]; exact hz, frozen_of_row w g j cur 3 hh⟩
theorem Row.set {w : World} {g n cap : Nat} (h : Row w g n cap) (j : Nat) (z : Int) : Row (w.setCell ⟨g, j, none⟩ (.int .i64 z)) g n cap := by
  obtain ⟨cur, hh, hs, hc⟩ := h
  refine ⟨_, heap_setCell_same w g j cur 3 (.int .i64 z) hh, by simp [hs], fun i hi => ?_⟩
  by_cases e : j = i
  · subst e
    obtain ⟨y, hy⟩ := hc j hi
    have := (Array.getElem?_eq_some_iff.1 hy).1
    exact ⟨z, by simp [this]⟩
  · obtain ⟨y, hy⟩ := hc i hi
    exact ⟨y, by rw [Array.getElem?_setIfInBounds_ne e]; exact hy⟩
theorem grown_set {w wr : World} {g : Nat} (h : w.grownBy wr (some g)) (j : Nat) (u : Value) : w.grownBy (wr.setCell ⟨g, j, none⟩ u) (some g) :=
  ⟨h.os, h.tape, h.output, Nat.le_trans h.size (by simp [World.setCell]), fun k hk hne => (heap_setCell_other wr ⟨g, j, none⟩ k u (fun e => hne (by rw [e]))).trans (h.block k hk hne)⟩
theorem spoilI_c {w : World} {B : Nat} {v : Value} {L : List Int} (h : Oi w B v L) (hl : L.length ≤ 17592186044416) :
    Calls Tryz.prog 16 #[v] w fun e w' => e = .returned (.tuple #[]) ∧ w.grownBy w' v.ownBlock := by
  rcases h.2 with ⟨rfl, h0⟩ | ⟨g, cap, cur, rfl, hb, hh, hn, hm, hs, hx⟩
  · go_enter Tryz.func16, Tryz.ntmps16
    go_wp2
    go_loopw [2] (fun t wr => t = .int .i64 0 ∧ wr = w) (fun t _ => 0)
    case atStart => exact ⟨rfl, rfl⟩
    case round =>
      obtain ⟨rfl, rfl⟩ := hrel
      go_wp2
      go_end0
      exact ⟨rfl, World.grownBy.refl _ _⟩
  · have hrow : Row w g L.length cap := by
      refine ⟨cur, hh, by simpa using hs, fun j hj => ⟨L[j], ?_⟩⟩
      have hc := World.ownsRow.cells (g := g) h rfl j (.int .i64 L[j]) (by simp [hj])
      rw [add_none, Nat.zero_add, cell_of_row w g j cur 3 hh] at hc
      exact hc
    obtain ⟨n, hn⟩ : ∃ n, n = L.length := ⟨_, rfl⟩
    rw [← hn] at hrow hl ⊢
    have hnc : n ≤ cap := by omega
    clear h hh hs hx
    go_enter Tryz.func16, Tryz.ntmps16
    go_wp2
    go_loopw [2] (fun t wr => ∃ k : Nat, t = .int .i64 k ∧ k ≤ n ∧ Row wr g n cap ∧ w.grownBy wr (some g)) (fun t _ => n - (intOf t).toNat)
    case atStart => exact ⟨0, rfl, by omega, hrow, World.grownBy.refl _ _⟩
    case round =>
      obtain ⟨k, rfl, hk, hr, hg⟩ := hrel
      by_cases hkn : k < n
      · obtain ⟨z, hz, hf⟩ := hr.cell hkn
        go_wp2
        go_roundw
        case rel => exact ⟨k + 1, by go_num, by omega, hr.set k _, grown_set hg k _⟩
        case measure => simp only [intOf]; omega
      · obtain rfl : k = n := by omega
        go_wp2
        go_end0
        exact ⟨rfl, hg⟩
end Go.Proofs.YtofjedecjlodmaaGreat.IInts
