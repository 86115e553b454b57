/- The document's Alone, refused. -/
import Derived.Test.YthjbknncbhkinaaGreatDoorSFit
import Derived.Test.YthjbknncbhkinaaGreatDoorSTx
import Derived.Test.YthjbknncbhkinaaGreatDoorUWord
import Derived.Test.YthjbknncbhkinaaGreatDoorUValid
import Derived.Deep.RegionWith
import Derived.Test.YthjbknncbhkinaaGreatDoorTak
import Derived.Deep.RegionHeld3
namespace Go.Proofs.YthjbknncbhkinaaGreatDoor.KQv
open Go.RowKit Go.Proofs.YthjbknncbhkinaaGreatDoor.Base Go.Proofs.YthjbknncbhkinaaGreatDoor.UBase Go.Proofs.YthjbknncbhkinaaGreatDoor.UValid Go.Proofs.YthjbknncbhkinaaGreatDoor.EPure
open Go.Proofs.YthjbknncbhkinaaGreatDoor.SFit (kd ret_int ret_bool ne)
open Go.Proofs.YthjbknncbhkinaaGreatDoor.STx (tg verr_cases)
open Go.Proofs.YthjbknncbhkinaaGreatDoor.XBase (four_box two_box frozen_box)
set_option linter.unusedVariables false

def lvl (o : Int) : Int := if o = 31 then -1 else if o = 10 ∨ o = 11 then 11 else if o = 30 then 0 else if o = 29 then 1 else if o = 27 ∨ o = 28 then 2 else if 23 ≤ o ∧ o ≤ 26 then 3 else if o = 22 then 4 else if o = 21 then 5 else if o = 20 then 6 else if o = 18 ∨ o = 19 then 7 else if o = 17 then 8 else if o = 15 ∨ o = 16 then 9 else if 12 ≤ o ∧ o ≤ 14 then 10 else 12
/-- One block behind the other. -/
def allocs (w : World) : List Obj → World
  | [] => w
  | o :: L => allocs (w.alloc o) L
theorem allocs_below : ∀ (L : List Obj) (w : World) (B : Nat), B ≤ w.heap.size → Below B w (allocs w L)
  | [], w, B, h => Below.refl B w
  | o :: L, w, B, h => ((Below.refl B w).alloc h o).trans (allocs_below L (w.alloc o) B (by rw [World.size_alloc]; omega))
theorem allocs_at : ∀ (L : List Obj) (w : World) (j : Nat), j < L.length → (allocs w L).heap[w.heap.size + j]? = L[j]?
  | o :: L, w, 0, _ => by
    rw [allocs, Nat.add_zero, (allocs_below L (w.alloc o) (w.heap.size + 1) (by rw [World.size_alloc]; omega)).block w.heap.size (by omega), heap_alloc_new]
    rfl
  | o :: L, w, j + 1, h => by
    have := allocs_at L (w.alloc o) j (by simpa using h)
    rw [World.size_alloc] at this
    rw [allocs, show w.heap.size + (j + 1) = w.heap.size + 1 + j by omega, this]
    rfl
def tb (k i : Nat) : Int := ((lvs.getD k []).getD i ([], 0)).2
def nb (k : Nat) : Nat := (lvs.getD k []).length
/-- The table of Ops, in memory. -/
def Ot (w : World) (g : Nat) : Prop := ∀ k, k < 11 → ∃ b, w.cell? ⟨g, k, none⟩ = some (.slice (some ⟨b, 0, none⟩) (nb k) (nb k)) ∧ ∀ i, i < nb k → w.cell? ⟨b, i, none⟩ = some (.int .i64 (tb k i))
theorem Ot.later {w w' : World} {g : Nat} (h : Ot w g) (hb : Below w.heap.size w w') : Ot w' g := by
  have keep : ∀ (B j : Nat) (v : Value), w.cell? ⟨B, j, none⟩ = some v → w'.cell? ⟨B, j, none⟩ = some v := by
    intro B j v hv
    have hlt : B < w.heap.size := by
      unfold World.cell? at hv
      rcases Nat.lt_or_ge B w.heap.size with h | h
      · exact h
      · simp only [Array.getElem?_eq_none h] at hv; cases hv
    unfold World.cell? at hv ⊢
    simp only at hv ⊢
    rw [hb.block B hlt]
    exact hv
  intro k hk
  obtain ⟨b, h1, h2⟩ := h k hk
  exact ⟨b, keep _ _ _ h1, fun i hi => keep _ _ _ (h2 i hi)⟩
set_option maxRecDepth 20000 in
set_option maxHeartbeats 3200000 in
theorem ops_c (w : World) : Calls Tryz.prog 146 #[] w fun e w' => Below w.heap.size w w' ∧ ∃ g, e = .returned (.slice (some ⟨g, 0, none⟩) 11 11) ∧ Ot w' g := by
  go_enter Tryz.func146, Tryz.ntmps146
  go_wp2_with fail
  go_ret
  obtain ⟨L, hL⟩ : ∃ L : List Obj, L = [.cells #[.int .i64 30] 3, .cells #[.int .i64 29] 3, .cells #[.int .i64 27, .int .i64 28] 3, .cells #[.int .i64 23, .int .i64 24, .int .i64 25, .int .i64 26] 3, .cells #[.int .i64 22] 3, .cells #[.int .i64 21] 3, .cells #[.int .i64 20] 3, .cells #[.int .i64 18, .int .i64 19] 3, .cells #[.int .i64 17] 3, .cells #[.int .i64 15, .int .i64 16] 3, .cells #[.int .i64 12, .int .i64 13, .int .i64 14] 3, .cells #[.slice (some ⟨w.heap.size, 0, none⟩) 1 1, .slice (some ⟨w.heap.size + 1, 0, none⟩) 1 1, .slice (some ⟨w.heap.size + 1 + 1, 0, none⟩) 2 2, .slice (some ⟨w.heap.size + 1 + 1 + 1, 0, none⟩) 4 4, .slice (some ⟨w.heap.size + 1 + 1 + 1 + 1, 0, none⟩) 1 1, .slice (some ⟨w.heap.size + 1 + 1 + 1 + 1 + 1, 0, none⟩) 1 1, .slice (some ⟨w.heap.size + 1 + 1 + 1 + 1 + 1 + 1, 0, none⟩) 1 1, .slice (some ⟨w.heap.size + 1 + 1 + 1 + 1 + 1 + 1 + 1, 0, none⟩) 2 2, .slice (some ⟨w.heap.size + 1 + 1 + 1 + 1 + 1 + 1 + 1 + 1, 0, none⟩) 1 1, .slice (some ⟨w.heap.size + 1 + 1 + 1 + 1 + 1 + 1 + 1 + 1 + 1, 0, none⟩) 2 2, .slice (some ⟨w.heap.size + 1 + 1 + 1 + 1 + 1 + 1 + 1 + 1 + 1 + 1, 0, none⟩) 3 3] 147] := ⟨_, rfl⟩
  have hlen : L.length = 12 := by rw [hL]; rfl
  have hW : ∀ j, j < 12 → (allocs w L).heap[w.heap.size + j]? = L[j]? := fun j hj => allocs_at L w j (by omega)
  have hb := allocs_below L w w.heap.size (Nat.le_refl _)
  have key : Ot (allocs w L) (w.heap.size + 11) := by
    have h0 : (allocs w L).heap[w.heap.size + 0]? = some (.cells #[.int .i64 30] 3 (0, 0)) := (hW 0 (by omega)).trans (by rw [hL]; rfl)
    have h1 : (allocs w L).heap[w.heap.size + 1]? = some (.cells #[.int .i64 29] 3 (0, 0)) := (hW 1 (by omega)).trans (by rw [hL]; rfl)
    have h2 : (allocs w L).heap[w.heap.size + 2]? = some (.cells #[.int .i64 27, .int .i64 28] 3 (0, 0)) := (hW 2 (by omega)).trans (by rw [hL]; rfl)
    have h3 : (allocs w L).heap[w.heap.size + 3]? = some (.cells #[.int .i64 23, .int .i64 24, .int .i64 25, .int .i64 26] 3 (0, 0)) := (hW 3 (by omega)).trans (by rw [hL]; rfl)
    have h4 : (allocs w L).heap[w.heap.size + 4]? = some (.cells #[.int .i64 22] 3 (0, 0)) := (hW 4 (by omega)).trans (by rw [hL]; rfl)
    have h5 : (allocs w L).heap[w.heap.size + 5]? = some (.cells #[.int .i64 21] 3 (0, 0)) := (hW 5 (by omega)).trans (by rw [hL]; rfl)
    have h6 : (allocs w L).heap[w.heap.size + 6]? = some (.cells #[.int .i64 20] 3 (0, 0)) := (hW 6 (by omega)).trans (by rw [hL]; rfl)
    have h7 : (allocs w L).heap[w.heap.size + 7]? = some (.cells #[.int .i64 18, .int .i64 19] 3 (0, 0)) := (hW 7 (by omega)).trans (by rw [hL]; rfl)
    have h8 : (allocs w L).heap[w.heap.size + 8]? = some (.cells #[.int .i64 17] 3 (0, 0)) := (hW 8 (by omega)).trans (by rw [hL]; rfl)
    have h9 : (allocs w L).heap[w.heap.size + 9]? = some (.cells #[.int .i64 15, .int .i64 16] 3 (0, 0)) := (hW 9 (by omega)).trans (by rw [hL]; rfl)
    have h10 : (allocs w L).heap[w.heap.size + 10]? = some (.cells #[.int .i64 12, .int .i64 13, .int .i64 14] 3 (0, 0)) := (hW 10 (by omega)).trans (by rw [hL]; rfl)
    have h11 : (allocs w L).heap[w.heap.size + 11]? = some (.cells #[.slice (some ⟨w.heap.size, 0, none⟩) 1 1, .slice (some ⟨w.heap.size + 1, 0, none⟩) 1 1, .slice (some ⟨w.heap.size + 1 + 1, 0, none⟩) 2 2, .slice (some ⟨w.heap.size + 1 + 1 + 1, 0, none⟩) 4 4, .slice (some ⟨w.heap.size + 1 + 1 + 1 + 1, 0, none⟩) 1 1, .slice (some ⟨w.heap.size + 1 + 1 + 1 + 1 + 1, 0, none⟩) 1 1, .slice (some ⟨w.heap.size + 1 + 1 + 1 + 1 + 1 + 1, 0, none⟩) 1 1, .slice (some ⟨w.heap.size + 1 + 1 + 1 + 1 + 1 + 1 + 1, 0, none⟩) 2 2, .slice (some ⟨w.heap.size + 1 + 1 + 1 + 1 + 1 + 1 + 1 + 1, 0, none⟩) 1 1, .slice (some ⟨w.heap.size + 1 + 1 + 1 + 1 + 1 + 1 + 1 + 1 + 1, 0, none⟩) 2 2, .slice (some ⟨w.heap.size + 1 + 1 + 1 + 1 + 1 + 1 + 1 + 1 + 1 + 1, 0, none⟩) 3 3] 147 (0, 0)) := (hW 11 (by omega)).trans (by rw [hL]; rfl)
    clear hW hb hlen hL
    generalize allocs w L = W at *
    rw [Nat.add_zero] at h0
    intro k hk
    match k, hk with
    | 0, _ =>
      refine ⟨w.heap.size + 0, by simp [World.cell?, h11, nb, lvs], fun i hi => ?_⟩
      match i, hi with
      | 0, _ => simp [World.cell?, h0, tb, lvs]
      | i + 1, h => exact absurd h (by simp [nb, lvs])
    | 1, _ =>
      refine ⟨w.heap.size + 1, by simp [World.cell?, h11, nb, lvs], fun i hi => ?_⟩
      match i, hi with
      | 0, _ => simp [World.cell?, h1, tb, lvs]
      | i + 1, h => exact absurd h (by simp [nb, lvs])
    | 2, _ =>
      refine ⟨w.heap.size + 2, by simp [World.cell?, h11, nb, lvs], fun i hi => ?_⟩
      match i, hi with
      | 0, _ => simp [World.cell?, h2, tb, lvs]
      | 1, _ => simp [World.cell?, h2, tb, lvs]
      | i + 2, h => exact absurd h (by simp [nb, lvs])
    | 3, _ =>
      refine ⟨w.heap.size + 3, by simp [World.cell?, h11, nb, lvs], fun i hi => ?_⟩
      match i, hi with
      | 0, _ => simp [World.cell?, h3, tb, lvs]
      | 1, _ => simp [World.cell?, h3, tb, lvs]
      | 2, _ => simp [World.cell?, h3, tb, lvs]
      | 3, _ => simp [World.cell?, h3, tb, lvs]
      | i + 4, h => exact absurd h (by simp [nb, lvs])
    | 4, _ =>
      refine ⟨w.heap.size + 4, by simp [World.cell?, h11, nb, lvs], fun i hi => ?_⟩
      match i, hi with
      | 0, _ => simp [World.cell?, h4, tb, lvs]
      | i + 1, h => exact absurd h (by simp [nb, lvs])
    | 5, _ =>
      refine ⟨w.heap.size + 5, by simp [World.cell?, h11, nb, lvs], fun i hi => ?_⟩
      match i, hi with
      | 0, _ => simp [World.cell?, h5, tb, lvs]
      | i + 1, h => exact absurd h (by simp [nb, lvs])
    | 6, _ =>
      refine ⟨w.heap.size + 6, by simp [World.cell?, h11, nb, lvs], fun i hi => ?_⟩
      match i, hi with
      | 0, _ => simp [World.cell?, h6, tb, lvs]
      | i + 1, h => exact absurd h (by simp [nb, lvs])
    | 7, _ =>
      refine ⟨w.heap.size + 7, by simp [World.cell?, h11, nb, lvs], fun i hi => ?_⟩
      match i, hi with
      | 0, _ => simp [World.cell?, h7, tb, lvs]
      | 1, _ => simp [World.cell?, h7, tb, lvs]
      | i + 2, h => exact absurd h (by simp [nb, lvs])
    | 8, _ =>
      refine ⟨w.heap.size + 8, by simp [World.cell?, h11, nb, lvs], fun i hi => ?_⟩
      match i, hi with
      | 0, _ => simp [World.cell?, h8, tb, lvs]
      | i + 1, h => exact absurd h (by simp [nb, lvs])
    | 9, _ =>
      refine ⟨w.heap.size + 9, by simp [World.cell?, h11, nb, lvs], fun i hi => ?_⟩
      match i, hi with
      | 0, _ => simp [World.cell?, h9, tb, lvs]
      | 1, _ => simp [World.cell?, h9, tb, lvs]
      | i + 2, h => exact absurd h (by simp [nb, lvs])
    | 10, _ =>
      refine ⟨w.heap.size + 10, by simp [World.cell?, h11, nb, lvs], fun i hi => ?_⟩
      match i, hi with
      | 0, _ => simp [World.cell?, h10, tb, lvs]
      | 1, _ => simp [World.cell?, h10, tb, lvs]
      | 2, _ => simp [World.cell?, h10, tb, lvs]
      | i + 3, h => exact absurd h (by simp [nb, lvs])
    | k + 11, h => exact absurd h (by omega)
  subst hL
  exact ⟨hb, _, rfl, key⟩
/-- The reference's level of an Op. -/
def rl (o : Int) : Int := if 12 ≤ o ∧ o ≤ 30 then lvl o + 1 else if o = 31 then 0 else if o = 10 ∨ o = 11 then 12 else if o = 7 ∨ o = 8 then 13 else if (1 ≤ o ∧ o ≤ 6) ∨ o = 9 then 14 else -1
theorem hit2 : ∀ k, k < 11 → ∀ i, i < nb k → rl (tb k i) = k + 1 := by decide
theorem there : ∀ n : Nat, n < 31 → 12 ≤ n → ∃ k, k < 11 ∧ ∃ i, i < nb k ∧ tb k i = (n : Int) := by decide
theorem nb_le : ∀ k, k < 11 → nb k ≤ 4 := by decide
set_option maxRecDepth 20000 in
set_option maxHeartbeats 3200000 in
theorem level_c (o : Int) (w : World) : Calls Tryz.prog 121 #[.int .i64 o] w fun e w' => e = .returned (.int .i64 (rl o)) ∧ Below w.heap.size w w' := by
  go_enter Tryz.func121, Tryz.ntmps121
  go_wp2_with fail
  refine (ops_c w).mono ?_
  rintro e W1 ⟨b1, g, rfl, hot⟩
  have HO : Hid (Ot W1 g) := hot
  have HB : Hid (Below w.heap.size w W1) := b1
  clear hot b1
  go_wp2_with fail
  go_loopw [4] (fun i wr => ∃ k : Nat, i = .int .i64 k ∧ k ≤ 11 ∧ wr = W1 ∧ ∀ k', k' < k → ∀ j, j < nb k' → tb k' j ≠ o) (fun i _ => 11 - (intOf i).toNat)
  case atStart => exact ⟨0, rfl, by omega, rfl, fun k' h => by omega⟩
  case round =>
    obtain ⟨k, rfl, hk, rfl, hno⟩ := hrel
    have HNO : Hid (∀ k', k' < k → ∀ j, j < nb k' → tb k' j ≠ o) := hno
    clear hno
    by_cases hk11 : k < 11
    · have d11 : decide ((k : Int) < 11) = true := by simp; omega
      obtain ⟨b, q1, q2⟩ := HO.out k hk11
      have hn4 := nb_le k hk11
      have HQ : Hid (∀ i, i < nb k → wr.cell? ⟨b, i, none⟩ = some (.int .i64 (tb k i))) := q2
      obtain ⟨n, hn⟩ : ∃ n, nb k = n := ⟨_, rfl⟩
      rw [hn] at q1 hn4
      have HN : Hid (nb k = n) := hn
      clear q2 hn
      go_wp2_with fail
      go_loopw [5] (fun i wy => ∃ j : Nat, i = .int .i64 j ∧ j ≤ n ∧ wy = wr ∧ ∀ j', j' < j → tb k j' ≠ o) (fun i _ => n - (intOf i).toNat)
      case atStart => exact ⟨0, rfl, by omega, rfl, fun j' h => by omega⟩
      case round =>
        rename_i W2 _ _
        obtain ⟨j, rfl, hj, rfl, hni⟩ := hrel
        have HNI : Hid (∀ j', j' < j → tb k j' ≠ o) := hni
        clear hni
        by_cases hjn : j < n
        · have dj : decide ((j : Int) < (n : Int)) = true := by simp; omega
          have q3 := HQ.out j (by rw [HN.out]; exact hjn)
          obtain ⟨t, ht⟩ : ∃ t, tb k j = t := ⟨_, rfl⟩
          have HTT : Hid (tb k j = t) := ht
          rw [ht] at q3
          clear ht
          by_cases ho : t = o
          · have eo : (t == o) = true := by simp [ho]
            have HR : Hid (rl o = k + 1) := by
              have := hit2 k hk11 j (by rw [HN.out]; exact hjn)
              rw [HTT.out, ho] at this
              exact this
            clear ho
            go_wp2_with fail
            go_ret
            rw [HR.out]
            exact ⟨by simp, HB.out⟩
          · have eo : (t == o) = false := by simp [ho]
            have HNI2 : Hid (∀ j', j' < j + 1 → tb k j' ≠ o) := by
              intro j' hj'
              by_cases e : j' = j
              · rw [e, HTT.out]; exact ho
              · exact HNI.out j' (by omega)
            clear ho
            go_wp2_with fail
            go_roundw
            case rel => exact ⟨j + 1, by go_num, by omega, by first | rfl | trivial, HNI2.out⟩
            case measure => simp only [intOf]; omega
        · have dj : decide ((j : Int) < (n : Int)) = false := by simp; omega
          have HNO2 : Hid (∀ k', k' < k + 1 → ∀ j, j < nb k' → tb k' j ≠ o) := by
            intro k' hk' j' hj'
            by_cases e : k' = k
            · subst e; exact HNI.out j' (by rw [HN.out] at hj'; omega)
            · exact HNO.out k' (by omega) j' hj'
          go_wp2_with fail
          go_roundw
          case rel => exact ⟨k + 1, by go_num, by omega, by first | rfl | trivial, HNO2.out⟩
          case measure => simp only [intOf]; omega
    · have d11 : decide ((k : Int) < 11) = false := by simp; omega
      have hr : ¬ (12 ≤ o ∧ o ≤ 30) := by
        rintro ⟨h1, h2⟩
        obtain ⟨k', hk', i, hi, e⟩ := there o.toNat (by omega) (by omega)
        exact HNO.out k' (by omega) i hi (by rw [e]; omega)
      have HR : Hid (¬ (12 ≤ o ∧ o ≤ 30)) := hr
      clear hr HNO
      go_wp2_with fail
      all_goals
        go_ret
        refine ⟨ret_int ?_, HB.out⟩
        unfold rl
        rw [if_neg HR.out]
        simp_all
        try omega
def rk (o : Int) : Int := if 1 ≤ o ∧ o ≤ 6 then 0 else if o = 7 ∨ o = 9 ∨ o = 10 ∨ o = 11 then 1 else if o = 31 then 3 else 2
set_option maxRecDepth 20000 in
set_option maxHeartbeats 1600000 in
theorem kids_c (o : Int) (w : World) : Calls Tryz.prog 122 #[.int .i64 o] w fun e w' => e = .returned (.int .i64 (rk o)) ∧ w' = w := by
  go_enter Tryz.func122, Tryz.ntmps122
  go_wp2_with fail
  all_goals
    go_ret
    refine ⟨ret_int ?_, rfl⟩
    unfold rk
    simp_all
    try omega
theorem rk_kd {o : Int} (h : 0 ≤ rl o) : rk o = kd o := by
  unfold rl at h
  unfold rk kd
  repeat' split at h
  all_goals (repeat' split) <;> omega
theorem rl_neg {o : Int} (h : rl o < 0) : kd o = -1 := by
  have hl : 12 ≤ o → o ≤ 30 → 0 ≤ lvl o := fun h1 h2 => by
    unfold lvl
    repeat' split
    all_goals omega
  unfold rl at h
  unfold kd
  repeat' split at h
  all_goals (repeat' split) <;> first | omega | (have := hl (by omega) (by omega); omega)
theorem name_c (s : ByteArray) (hs : s.size ≤ 140737488351232) (w : World) : Calls Tryz.prog 125 #[.string s] w fun e w' => e = .returned (.bool (word s 95)) ∧ w' = w := by
  have c := UWord.ref_c s (by omega) 95 w
  generalize word s 95 = b at *
  go_enter Tryz.func125, Tryz.ntmps125
  go_wp2_with (first | (go_at_call 147; refine c.mono ?_; rintro e w' ⟨rfl, rfl⟩))
  go_ret
  exact ⟨rfl, rfl⟩
theorem good_c (s : ByteArray) (hs : s.size ≤ 140737488351232) (w : World) :
    Calls Tryz.prog 95 #[.string s] w fun r w' => r = .returned (.bool (tg s)) ∧ w' = w := by
  have c72 := rvalid_c s (by omega) w
  by_cases h : s.size ≤ 4096
  · have e : tg s = (verr s == 0) := by simp [tg, h]
    rw [e]
    have hv := verr_cases s
    generalize verr s = x at *
    generalize vat s = y at *
    have h' : decide ((4096 : Int) < (s.size : Int)) = false := decide_eq_false (by omega)
    clear e
    rcases hv with rfl | rfl
    · go_enter Tryz.func95, Tryz.ntmps95
      go_wp2_with (first | (go_at_call 120; refine c72.mono ?_; rintro e w' ⟨rfl, rfl⟩))
      go_ret
      exact ⟨rfl, rfl⟩
    · go_enter Tryz.func95, Tryz.ntmps95
      go_wp2_with (first | (go_at_call 120; refine c72.mono ?_; rintro e w' ⟨rfl, rfl⟩))
      go_ret
      exact ⟨rfl, rfl⟩
  · have e : tg s = false := by simp [tg, h]
    rw [e]
    have h' : decide ((4096 : Int) < (s.size : Int)) = true := decide_eq_true (by omega)
    clear c72 e
    go_enter Tryz.func95, Tryz.ntmps95
    go_wp2_with fail
    go_ret
    exact ⟨rfl, rfl⟩
end Go.Proofs.YthjbknncbhkinaaGreatDoor.KQv

namespace Go.Proofs.YthjbknncbhkinaaGreatDoor.KQn
open Go.Proofs.YthjbknncbhkinaaGreatDoor.Tak
open Go.RowKit Go.Proofs.YthjbknncbhkinaaGreatDoor.Base Go.Proofs.YthjbknncbhkinaaGreatDoor.UBase Go.Proofs.YthjbknncbhkinaaGreatDoor.UValid Go.Proofs.YthjbknncbhkinaaGreatDoor.EPure
open Go.Proofs.YthjbknncbhkinaaGreatDoor.SFit (kd ret_int ret_bool ne)
open Go.Proofs.YthjbknncbhkinaaGreatDoor.STx (tg verr_cases)
open Go.Proofs.YthjbknncbhkinaaGreatDoor.XBase (four_box two_box frozen_box)
open Go.Proofs.YthjbknncbhkinaaGreatDoor.KQv
set_option linter.unusedVariables false

/-- Int and Str, as the Op asks for (of a text and a variable nothing is said). -/
def ft (o i : Int) (t : ByteArray) : Bool :=
  if o = 4 then decide (0 ≤ i) && (t.size == 0)
  else if o = 7 then (i == 0) && UBase.word t 95
  else if o = 9 then (decide (1 ≤ i) && decide (i ≤ 8)) && (t.size == 0)
  else (i == 0) && (t.size == 0)
theorem ft_eq {lf : Int → Int → ByteArray → Bool} {o i : Int} {t : ByteArray} (h5 : o ≠ 5) (h6 : o ≠ 6) : SFit.ft lf o i t = ft o i t := by
  unfold SFit.ft ft
  rw [if_neg (by omega)]
/-- May a node be, but for its kids? -/
def an (o i : Int) (t : ByteArray) (n : Nat) : Bool := decide ((n : Int) = kd o) && ft o i t
theorem an_neg {o i : Int} {t : ByteArray} {n : Nat} (h : rl o < 0) : an o i t n = false := by
  unfold an
  rw [rl_neg h, decide_eq_false (by omega)]
  rfl
theorem an_not {o i : Int} {t : ByteArray} {n : Nat} (h : (n : Int) ≠ kd o) : an o i t n = false := by
  unfold an
  rw [decide_eq_false h]
  rfl
theorem an_ok {o i : Int} {t : ByteArray} {n : Nat} (h : (n : Int) = kd o) : an o i t n = ft o i t := by
  unfold an
  rw [decide_eq_true h]
  rfl
set_option maxRecDepth 20000 in
set_option maxHeartbeats 3200000 in
theorem try_neg {o i : Int} {t : ByteArray} {a : Option Addr} {n c : Nat} (hrl : rl o < 0) (w : World) :
    Calls Tryz.prog 96 #[.agg #[.int .i64 o, .int .i64 i, .string t, .slice a n c]] w fun e w' => e = .returned (.bool false) ∧ Below w.heap.size w w' := by
  obtain ⟨W0, hW0⟩ : ∃ W0, w.alloc (.cells #[.int .i64 o, .int .i64 i, .string t, .slice a n c] 24) = W0 := ⟨_, rfl⟩
  have b0 : Below w.heap.size w W0 := by rw [← hW0]; exact (Below.refl _ w).alloc (Nat.le_refl _) _
  have s0 : W0.heap.size = w.heap.size + 1 := by rw [← hW0]; simp
  have hx : W0.heap[w.heap.size]? = some (.cells #[.int .i64 o, .int .i64 i, .string t, .slice a n c] 24 (0, 0)) := by rw [← hW0]; exact heap_alloc_new w _
  have HX : Hid (W0.heap[w.heap.size]? = some (.cells #[.int .i64 o, .int .i64 i, .string t, .slice a n c] 24 (0, 0)) ∧ W0.heap.size = w.heap.size + 1 ∧ Below w.heap.size w W0) := ⟨hx, s0, b0⟩
  obtain ⟨y0, y1, y2, y3⟩ := four_box hx
  have cL : ∀ W, Calls Tryz.prog 121 #[.int .i64 o] W fun e w' => e = .returned (.int .i64 (rl o)) ∧ Below W.heap.size W w' := fun W => level_c o W
  have cK : ∀ W, Calls Tryz.prog 122 #[.int .i64 o] W fun e w' => e = .returned (.int .i64 (rk o)) ∧ w' = W := kids_c o
  clear hx b0 s0
  obtain ⟨z, hz⟩ : ∃ z, rl o = z := ⟨_, rfl⟩
  rw [hz] at cL hrl
  obtain ⟨k, hk⟩ : ∃ k, rk o = k := ⟨_, rfl⟩
  rw [hk] at cK
  have HL : Hid (∀ W, Calls Tryz.prog 121 #[.int .i64 o] W fun e w' => e = .returned (.int .i64 z) ∧ Below W.heap.size W w') := cL
  have HK : Hid (∀ W, Calls Tryz.prog 122 #[.int .i64 o] W fun e w' => e = .returned (.int .i64 k) ∧ w' = W) := cK
  clear cL cK
  have d : decide (z < 0) = true := by simp; omega
  clear hz hk hrl
  go_enter Tryz.func96, Tryz.ntmps96
  go_wp2_with fail
  clear hW0
  refine wp_region_held_drew (S := fun w' => w'.cell? ⟨w.heap.size, 0, none⟩ = some (.int .i64 o) ∧ w'.cell? ⟨w.heap.size, 3, none⟩ = some (.slice a n c)) (by kernel_rfl) (by exact ⟨y0, y3⟩) (fun hHeld => ?_)
  refine wpAnyH_take (i := 0) (v := ?_) rfl (by kernel_rfl) (by kernel_rfl) (by kernel_rfl) (fun _ _ _ h => h) (Or.inl ⟨by rfl, ?_⟩) (by assumption) ?_
  rotate_left 1
  · intro w hSw; (try dsimp only at hSw); go_simp; first | done | with_reducible rfl
  try simp only [ptH]
  refine wpAnyH_take (i := 1) (v := ?_) rfl (by kernel_rfl) (by kernel_rfl) (by kernel_rfl) (fun _ _ _ h => h) (Or.inl ⟨by rfl, ?_⟩) (by assumption) ?_
  rotate_left 1
  · intro w hSw; (try dsimp only at hSw); go_simp; first | done | with_reducible rfl
  try simp only [ptH]
  refine rdH [2] ?_
  refine AllReadyH.cons rfl (fun K hK => ?_) AllReadyH.nil
  go_simp
  go_at_call 121
  refine (HL.out _).mono ?_
  rintro e W1 ⟨rfl, b1⟩
  have HB1 : Hid (Below W0.heap.size W0 W1) := (Below.refl W0.heap.size W0).drew.trans b1
  clear y0 y1 y2 y3 b1
  obtain ⟨y0, y1, y2, y3⟩ := four_box ((HB1.out.block w.heap.size (by have := HX.out.2.1; omega)).trans HX.out.1)
  refine hK.out _ _ (by exact ⟨y0, y3⟩) (fun hHeld => ?_)
  clear hK K
  try simp only [ptH]
  refine wpAnyH_take (i := 3) (v := ?_) rfl (by kernel_rfl) (by kernel_rfl) (by kernel_rfl) (fun _ _ _ h => h) (Or.inl ⟨by rfl, ?_⟩) (by assumption) ?_
  rotate_left 1
  · intro w hSw; (try dsimp only at hSw); go_simp; first | done | with_reducible rfl
  try simp only [ptH]
  refine wpAnyH_take (i := 4) (v := ?_) rfl (by kernel_rfl) (by kernel_rfl) (by kernel_rfl) (fun _ _ _ h => h) (Or.inl ⟨by rfl, ?_⟩) (by assumption) ?_
  rotate_left 1
  · intro w hSw; (try dsimp only at hSw); go_simp; first | done | with_reducible rfl
  try simp only [ptH]
  refine wpAnyH_take (i := 5) rfl (by kernel_rfl) (by kernel_rfl) (by kernel_rfl) (fun _ _ _ h => h) (Or.inr ⟨by rfl, rfl⟩) (by assumption) ?_
  try simp only [ptH]
  refine wpAnyH_take (i := 6) rfl (by kernel_rfl) (by kernel_rfl) (by kernel_rfl) (fun _ _ _ h => h) (Or.inr ⟨by rfl, rfl⟩) (by assumption) ?_
  try simp only [ptH]
  refine wpAnyH_take (i := 7) rfl (by kernel_rfl) (by kernel_rfl) (by kernel_rfl) (fun _ _ _ h => h) (Or.inr ⟨by rfl, rfl⟩) (by assumption) ?_
  try simp only [ptH]
  refine wpAnyH_take (i := 8) rfl (by kernel_rfl) (by kernel_rfl) (by kernel_rfl) (fun _ _ _ h => h) (Or.inr ⟨by rfl, rfl⟩) (by assumption) ?_
  try simp only [ptH]
  refine wpAnyH_take (i := 9) rfl (by kernel_rfl) (by kernel_rfl) (by kernel_rfl) (fun _ _ _ h => h) (Or.inr ⟨by rfl, rfl⟩) (by assumption) ?_
  try simp only [ptH]
  refine wpAnyH_take (i := 10) rfl (by kernel_rfl) (by kernel_rfl) (by kernel_rfl) (fun _ _ _ h => h) (Or.inr ⟨by rfl, rfl⟩) (by assumption) ?_
  try simp only [ptH]
  refine wpAnyH_take (i := 11) rfl (by kernel_rfl) (by kernel_rfl) (by kernel_rfl) (fun _ _ _ h => h) (Or.inr ⟨by rfl, rfl⟩) (by assumption) ?_
  try simp only [ptH]
  refine wpAnyH_take (i := 12) (v := ?_) rfl (by kernel_rfl) (by kernel_rfl) (by kernel_rfl) (fun _ _ _ h => h) (Or.inl ⟨by rfl, ?_⟩) (by assumption) ?_
  rotate_left 1
  · intro w hSw; (try dsimp only at hSw); go_simp; first | done | with_reducible rfl
  try simp only [ptH]
  refine dnH ?_
  clear hHeld
  go_wp2_with fail
  go_ret
  exact ⟨rfl, HX.out.2.2.trans (HB1.out.mono (by have := HX.out.2.1; omega))⟩
set_option maxRecDepth 20000 in
set_option maxHeartbeats 3200000 in
theorem try_not {o i : Int} {t : ByteArray} {a : Option Addr} {n c : Nat} (hrl : ¬ rl o < 0) (hne : (n : Int) ≠ rk o) (w : World) :
    Calls Tryz.prog 96 #[.agg #[.int .i64 o, .int .i64 i, .string t, .slice a n c]] w fun e w' => e = .returned (.bool false) ∧ Below w.heap.size w w' := by
  obtain ⟨W0, hW0⟩ : ∃ W0, w.alloc (.cells #[.int .i64 o, .int .i64 i, .string t, .slice a n c] 24) = W0 := ⟨_, rfl⟩
  have b0 : Below w.heap.size w W0 := by rw [← hW0]; exact (Below.refl _ w).alloc (Nat.le_refl _) _
  have s0 : W0.heap.size = w.heap.size + 1 := by rw [← hW0]; simp
  have hx : W0.heap[w.heap.size]? = some (.cells #[.int .i64 o, .int .i64 i, .string t, .slice a n c] 24 (0, 0)) := by rw [← hW0]; exact heap_alloc_new w _
  have HX : Hid (W0.heap[w.heap.size]? = some (.cells #[.int .i64 o, .int .i64 i, .string t, .slice a n c] 24 (0, 0)) ∧ W0.heap.size = w.heap.size + 1 ∧ Below w.heap.size w W0) := ⟨hx, s0, b0⟩
  obtain ⟨y0, y1, y2, y3⟩ := four_box hx
  have cL : ∀ W, Calls Tryz.prog 121 #[.int .i64 o] W fun e w' => e = .returned (.int .i64 (rl o)) ∧ Below W.heap.size W w' := fun W => level_c o W
  have cK : ∀ W, Calls Tryz.prog 122 #[.int .i64 o] W fun e w' => e = .returned (.int .i64 (rk o)) ∧ w' = W := kids_c o
  clear hx b0 s0
  obtain ⟨z, hz⟩ : ∃ z, rl o = z := ⟨_, rfl⟩
  rw [hz] at cL hrl
  obtain ⟨k, hk⟩ : ∃ k, rk o = k := ⟨_, rfl⟩
  rw [hk] at cK
  have HL : Hid (∀ W, Calls Tryz.prog 121 #[.int .i64 o] W fun e w' => e = .returned (.int .i64 z) ∧ Below W.heap.size W w') := cL
  have HK : Hid (∀ W, Calls Tryz.prog 122 #[.int .i64 o] W fun e w' => e = .returned (.int .i64 k) ∧ w' = W) := cK
  clear cL cK
  rw [hk] at hne
  have d : decide (z < 0) = false := by simp; omega
  have d2 : ((n : Int) != k) = true := by simp only [bne_iff_ne]; exact hne
  clear hz hk hrl hne
  go_enter Tryz.func96, Tryz.ntmps96
  go_wp2_with fail
  clear hW0
  refine wp_region_held_drew (S := fun w' => w'.cell? ⟨w.heap.size, 0, none⟩ = some (.int .i64 o) ∧ w'.cell? ⟨w.heap.size, 3, none⟩ = some (.slice a n c)) (by kernel_rfl) (by exact ⟨y0, y3⟩) (fun hHeld => ?_)
  refine wpAnyH_take (i := 0) (v := ?_) rfl (by kernel_rfl) (by kernel_rfl) (by kernel_rfl) (fun _ _ _ h => h) (Or.inl ⟨by rfl, ?_⟩) (by assumption) ?_
  rotate_left 1
  · intro w hSw; (try dsimp only at hSw); go_simp; first | done | with_reducible rfl
  try simp only [ptH]
  refine wpAnyH_take (i := 1) (v := ?_) rfl (by kernel_rfl) (by kernel_rfl) (by kernel_rfl) (fun _ _ _ h => h) (Or.inl ⟨by rfl, ?_⟩) (by assumption) ?_
  rotate_left 1
  · intro w hSw; (try dsimp only at hSw); go_simp; first | done | with_reducible rfl
  try simp only [ptH]
  refine rdH [2] ?_
  refine AllReadyH.cons rfl (fun K hK => ?_) AllReadyH.nil
  go_simp
  go_at_call 121
  refine (HL.out _).mono ?_
  rintro e W1 ⟨rfl, b1⟩
  have HB1 : Hid (Below W0.heap.size W0 W1) := (Below.refl W0.heap.size W0).drew.trans b1
  clear y0 y1 y2 y3 b1
  obtain ⟨y0, y1, y2, y3⟩ := four_box ((HB1.out.block w.heap.size (by have := HX.out.2.1; omega)).trans HX.out.1)
  refine hK.out _ _ (by exact ⟨y0, y3⟩) (fun hHeld => ?_)
  clear hK K
  try simp only [ptH]
  refine wpAnyH_take (i := 3) (v := ?_) rfl (by kernel_rfl) (by kernel_rfl) (by kernel_rfl) (fun _ _ _ h => h) (Or.inl ⟨by rfl, ?_⟩) (by assumption) ?_
  rotate_left 1
  · intro w hSw; (try dsimp only at hSw); go_simp; first | done | with_reducible rfl
  try simp only [ptH]
  refine wpAnyH_take (i := 4) (v := ?_) rfl (by kernel_rfl) (by kernel_rfl) (by kernel_rfl) (fun _ _ _ h => h) (Or.inl ⟨by rfl, ?_⟩) (by assumption) ?_
  rotate_left 1
  · intro w hSw; (try dsimp only at hSw); go_simp; first | done | with_reducible rfl
  try simp only [ptH]
  refine wpAnyH_take (i := 5) (v := ?_) rfl (by kernel_rfl) (by kernel_rfl) (by kernel_rfl) (fun _ _ _ h => h) (Or.inl ⟨by rfl, ?_⟩) (by assumption) ?_
  rotate_left 1
  · intro w hSw; (try dsimp only at hSw); go_simp; first | done | with_reducible rfl
  try simp only [ptH]
  refine wpAnyH_take (i := 6) (v := ?_) rfl (by kernel_rfl) (by kernel_rfl) (by kernel_rfl) (fun _ _ _ h => h) (Or.inl ⟨by rfl, ?_⟩) (by assumption) ?_
  rotate_left 1
  · intro w hSw; (try dsimp only at hSw); go_simp; first | done | with_reducible rfl
  try simp only [ptH]
  refine wpAnyH_take (i := 7) (v := ?_) rfl (by kernel_rfl) (by kernel_rfl) (by kernel_rfl) (fun _ _ _ h => h) (Or.inl ⟨by rfl, ?_⟩) (by assumption) ?_
  rotate_left 1
  · intro w hSw; (try dsimp only at hSw); go_simp; first | done | with_reducible rfl
  try simp only [ptH]
  refine wpAnyH_take (i := 8) (v := ?_) rfl (by kernel_rfl) (by kernel_rfl) (by kernel_rfl) (fun _ _ _ h => h) (Or.inl ⟨by rfl, ?_⟩) (by assumption) ?_
  rotate_left 1
  · intro w hSw; (try dsimp only at hSw); go_simp; first | done | with_reducible rfl
  try simp only [ptH]
  refine wpAnyH_take (i := 9) (v := ?_) rfl (by kernel_rfl) (by kernel_rfl) (by kernel_rfl) (fun _ _ _ h => h) (Or.inl ⟨by rfl, ?_⟩) (by assumption) ?_
  rotate_left 1
  · intro w hSw; (try dsimp only at hSw); go_simp; first | done | with_reducible rfl
  try simp only [ptH]
  refine rdH [10] ?_
  refine AllReadyH.cons rfl (fun K hK => ?_) AllReadyH.nil
  go_simp
  go_at_call 122
  refine (HK.out _).mono ?_
  rintro e w' ⟨rfl, hw'⟩
  subst w'
  refine hK.out _ _ (by exact ⟨y0, y3⟩) (fun hHeld => ?_)
  clear hK K
  try simp only [ptH]
  refine wpAnyH_take (i := 11) (v := ?_) rfl (by kernel_rfl) (by kernel_rfl) (by kernel_rfl) (fun _ _ _ h => h) (Or.inl ⟨by rfl, ?_⟩) (by assumption) ?_
  rotate_left 1
  · intro w hSw; (try dsimp only at hSw); go_simp; first | done | with_reducible rfl
  try simp only [ptH]
  refine wpAnyH_take (i := 12) (v := ?_) rfl (by kernel_rfl) (by kernel_rfl) (by kernel_rfl) (fun _ _ _ h => h) (Or.inl ⟨by rfl, ?_⟩) (by assumption) ?_
  rotate_left 1
  · intro w hSw; (try dsimp only at hSw); go_simp; first | done | with_reducible rfl
  try simp only [ptH]
  refine dnH ?_
  clear hHeld
  go_wp2_with fail
  go_ret
  exact ⟨rfl, HX.out.2.2.trans (HB1.out.mono (by have := HX.out.2.1; omega))⟩
end Go.Proofs.YthjbknncbhkinaaGreatDoor.KQn
