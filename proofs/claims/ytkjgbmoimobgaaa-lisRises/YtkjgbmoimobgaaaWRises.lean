/- The walk of the law LisRises. -/
import Derived.Test.YtkjgbmoimobgaaaIRefP
import Derived.Test.YtkjgbmoimobgaaaIAw
namespace Go.Proofs.Ytkjgbmoimobgaaa.WRises
open Go.RowKit Go.Proofs.Ytkjgbmoimobgaaa.IPure Go.Proofs.Ytkjgbmoimobgaaa.IBase Go.Proofs.Ytkjgbmoimobgaaa.IInts Go.Proofs.Ytkjgbmoimobgaaa.ILong Go.Proofs.Ytkjgbmoimobgaaa.IRefP Go.Proofs.Ytkjgbmoimobgaaa.IAw
set_option linter.unusedVariables false

/-- Nothing can be put between. -/
theorem between {L : List Int} {q k : Nat} (hq : q ≤ K L) (hk : k < L.length) (h1 : q = 0 ∨ fin L (q - 1) < k) (h2 : q = K L ∨ k < fin L q) (h3 : q = 0 ∨ va L (fin L (q - 1)) < va L k) (h4 : q = K L ∨ va L k < va L (fin L q)) : False := by
  have hj : q = 0 ∨ (fin L (q - 1) < k ∧ va L (fin L (q - 1)) < va L k) := by
    rcases h1 with h | h
    · exact .inl h
    · rcases h3 with h' | h'
      · exact .inl h'
      · exact .inr ⟨h, h'⟩
  by_cases e : q = K L
  · have := ri_le (join_front hq (Ri.one hk) hj)
    simp at this
    omega
  · have h5 : k < fin L q := by rcases h2 with h | h; exact absurd h e; exact h
    have h6 : va L k < va L (fin L q) := by rcases h4 with h | h; exact absurd h e; exact h
    have := ri_le (join_front hq (ri_cons (bst_from L q (by omega)) h5 h6) hj)
    simp at this
    omega
/-- With one element more. -/
theorem K_more (L : List Int) (y : Int) : K (L ++ [y]) = K L ∨ K (L ++ [y]) = K L + 1 := by
  unfold K tops
  rw [List.foldl_append]
  simp only [List.foldl_cons, List.foldl_nil]
  rw [put_len]
  have := pl_le (L.foldl put []) y
  omega
/-- Where the search begins. -/
def fr (L : List Int) (q : Nat) : Nat := if q = 0 then 0 else fin L (q - 1) + 1
def tt (L : List Int) (q : Nat) : Nat := if q < K L then fin L q else L.length
theorem fr_succ (L : List Int) (q : Nat) : fr L (q + 1) = fin L q + 1 := by simp [fr]
set_option maxRecDepth 40000 in
set_option maxHeartbeats 1000000 in
theorem walk {w : World} {v : Value} {L : List Int} {y : Int} (hv : Ix w v L) (hn : L.length * 8 ≤ 140737488351232) (hwf : ∀ y ∈ L, (Lit.int .i64 y).wf = true) (hy : (Lit.int .i64 y).wf = true) :
    Calls Try.prog 5 #[v, .int .i64 y] w fun e w' => e = .returned (.bool true) ∧ Below w.heap.size w w' := by
  obtain ⟨i0, hi, hz0, hz1, hz2⟩ := info_parts infoI
  have hKn := K_le L
  have HV : Hid (∀ w', Below w.heap.size w w' → Ix w' v L) := fun w' h => hv.below h
  have HX : Hid (L.length = 0 ∨ ∃ g o cap, v = .slice (some ⟨g, o, none⟩) L.length cap ∧ L.length ≤ cap ∧ cap ≤ 9223372036854775807 ∧ ∀ w', Below w.heap.size w w' → ∀ j, j < L.length → w'.cell? ⟨g, o + j, none⟩ = some (.int .i64 (va L j))) := by
    obtain ⟨a, cap, rfl, hl, hm, hnil, hL⟩ := hv
    rcases hL with rfl | ⟨g, o, rfl, hc⟩
    · exact .inl rfl
    · exact .inr ⟨g, o, cap, rfl, hl, hm, fun w' hb j hj => by rw [va_eq hj]; exact below_cell (hc j hj) hb⟩
  have hvs : ∃ a cap, v = .slice a L.length cap := by
    obtain ⟨a, cap, rfl, -⟩ := hv
    exact ⟨a, cap, rfl⟩
  obtain ⟨va0, vc0, rfl⟩ := hvs
  clear hv
  obtain ⟨n, hnn⟩ : ∃ n, L.length = n := ⟨_, rfl⟩
  have HN : Hid (L.length = n) := hnn
  rw [hnn] at hn hKn HV HX ⊢
  clear hnn
  go_enter Try.func5, Try.ntmps5
  go_wp2_with (first | (go_at_call 14; refine (awake_c _).mono ?_; rintro e w1 ⟨rfl, b1⟩))
  refine (copyI_c (HV.out w1 b1) (by rw [HN.out]; omega)).mono ?_
  rintro e w2 ⟨uc, rfl, -, hC, b2⟩
  go_wp2_with fail
  refine (long_c hC.ix (by rw [HN.out]; omega)).mono ?_
  rintro e w3 ⟨ua, rfl, hA, b3⟩
  have B3 := nx (nx b1 b2) b3
  have hAs := hA.shape
  rw [ro_len] at hAs
  obtain ⟨aa, ac, rfl⟩ := hAs
  have HA : Hid (0 < K L → ∃ ga, aa = some ⟨ga, 0, none⟩ ∧ K L ≤ ac ∧ ac ≤ 9223372036854775807 ∧ ∀ w', Below w3.heap.size w3 w' → ∀ j, j < K L → w'.cell? ⟨ga, j, none⟩ = some (.int .i64 (fin L j : Nat))) := fun h0 => by
    obtain ⟨ga, c, e, h1, h2⟩ := hA.pos (by rw [ro_len]; exact h0)
    rw [ro_len] at e h1
    cases e
    refine ⟨ga, rfl, h1, h2, fun w' hb j hj => ?_⟩
    have := (hA.at (k := j) (by rw [ro_len]; exact hj)).1
    rw [Nat.zero_add, ro_get] at this
    exact below_cell this hb
  clear hA hC
  go_wp2_with fail
  go_loopw [6] (fun i wr => ∃ q : Nat, i = .int .i64 (q : Nat) ∧ q ≤ K L ∧ Below w3.heap.size w3 wr) (fun i _ => K L - (intOf i).toNat)
  case atStart => exact ⟨0, rfl, by omega, Below.refl _ _⟩
  case round =>
    obtain ⟨q, rfl, hq, hb⟩ := hrel
    by_cases hlt : q < K L
    · obtain ⟨ga, rfl, hc1, hc2, hca⟩ := HA.out (by omega)
      rcases HX.out with h0 | ⟨g, o, cap, e, hl, hm, hcx⟩
      · omega
      cases e
      have hfn : fin L q < n := by have := (pk hlt).lt; rw [HN.out] at this; exact this
      have x1 := hca _ hb q hlt
      have x2 := hcx _ (nx B3 hb) (fin L q) hfn
      by_cases hq0 : q = 0
      · subst hq0
        clear hca hcx
        have dA : decide ((fin L 0 : Int) < 0) = false := decide_eq_false (by omega)
        have dB : decide (n ≤ fin L 0) = false := decide_eq_false (by omega)
        clear HV HX HA HN hwf hy i0 hi hz0 hz1 hz2 B3 b1 b2 b3
        generalize va L (fin L 0) = z1 at *
        generalize fin L 0 = z2 at *
        go_wp2_with fail
        go_quiet (fail)
        go_wp2_with fail
        go_roundw
        case rel => exact ⟨0 + 1, by go_num, by omega, below_drewN hb⟩
        case measure => simp only [intOf]; omega
      · have hf := fin_lt (L := L) q (q - 1) (by omega) hlt
        have x3 := hca _ hb (q - 1) (by omega)
        have x4 := hcx _ (nx B3 hb) (fin L (q - 1)) (by omega)
        obtain ⟨hf1, hf2⟩ := hf
        have d4 : decide (va L (fin L q) ≤ va L (fin L (q - 1))) = false := decide_eq_false (by omega)
        have dA : decide ((fin L q : Int) < 0) = false := decide_eq_false (by omega)
        have dB : decide (n ≤ fin L q) = false := decide_eq_false (by omega)
        have dC : decide (0 < q) = true := decide_eq_true (by omega)
        have d3 : decide (fin L q ≤ fin L (q - 1)) = false := decide_eq_false (by omega)
        clear hca hcx
        clear HV HX HA HN hwf hy i0 hi hz0 hz1 hz2 B3 b1 b2 b3
        generalize va L (fin L q) = z1 at *
        generalize va L (fin L (q - 1)) = z3 at *
        generalize fin L q = z2 at *
        generalize fin L (q - 1) = z4 at *
        go_wp2_with fail
        go_quiet (fail)
        go_wp2_with fail
        go_roundw
        case rel => exact ⟨q + 1, by go_num, by omega, below_drewN hb⟩
        case measure => simp only [intOf]; omega
    · obtain rfl : q = K L := by omega
      have hbw := nx B3 hb
      have hb3 := hb
      clear hb
      go_wp2_with fail
      go_loopw [7, 8] (fun f i wi => ∃ q F : Nat, i = .int .i64 (q : Nat) ∧ f = .int .i64 (F : Nat) ∧ q ≤ K L + 1 ∧ (q ≤ K L → F = fr L q ∧ F ≤ n) ∧ Below w3.heap.size w3 wi) (fun _ i _ => K L + 1 - (intOf i).toNat)
      case atStart => exact ⟨0, 0, rfl, rfl, by omega, fun _ => ⟨by simp [fr], by omega⟩, hb3⟩
      case round =>
        obtain ⟨q, F, rfl, rfl, hq, hfr, hb⟩ := hrel
        by_cases hle : q ≤ K L
        · obtain ⟨rfl, hfrn⟩ := hfr hle
          clear hfr
          rcases Nat.lt_or_ge q (K L) with hqK | hqK
          · obtain ⟨ga, rfl, hc1, hc2, hca0⟩ := HA.out (by omega)
            have hca : Hid (∀ w', Below w3.heap.size w3 w' → ∀ j, j < K L → w'.cell? ⟨ga, j, none⟩ = some (.int .i64 (fin L j : Nat))) := hca0
            clear hca0
            have hfn : fin L q < n := by have := (pk hqK).lt; rw [HN.out] at this; exact this
            have hfrT : fr L q ≤ fin L q := by
              unfold fr
              split
              · omega
              · have := fin_lt (L := L) q (q - 1) (by omega) hqK
                omega
            have x1 := hca.out _ hb q hqK
            obtain ⟨T, hT⟩ : ∃ T, fin L q = T := ⟨_, rfl⟩
            rw [hT] at x1 hfn hfrT
            have HT : Hid (fin L q = T) := hT
            clear hT
            go_wp2_with fail
            go_loopw [10] (fun kv wk => ∃ j : Nat, kv = .int .i64 (j : Nat) ∧ fr L q ≤ j ∧ j ≤ T ∧ Below w3.heap.size w3 wk) (fun kv _ => T - (intOf kv).toNat)
            case atStart => exact ⟨_, rfl, Nat.le_refl _, by omega, hb⟩
            case round =>
              obtain ⟨j, rfl, hj1, hj2, hbk⟩ := hrel
              by_cases hjlt : j < T
              · rcases HX.out with h0 | ⟨g, o, cap, e, hl, hm, hcx⟩
                · omega
                cases e
                have y1 := hcx _ (nx B3 hbk) j (by omega)
                have y2 := hcx _ (nx B3 hbk) T hfn
                have y3 := hca.out _ hbk q hqK
                rw [HT.out] at y3
                have hjn : j < L.length := by rw [HN.out]; omega
                have hbt := between (L := L) (q := q) (k := j) hle hjn
                have e1 : ((q : Int) == (K L : Int)) = false := by simp; omega
                by_cases hq0 : q = 0
                · have e0 : ((q : Int) == 0) = true := by simp [hq0]
                  have dN : decide (va L j < va L T) = false := decide_eq_false fun h => hbt (.inl hq0) (.inr (by rw [HT.out]; exact hjlt)) (.inl hq0) (.inr (by rw [HT.out]; exact h))
                  clear hbt hq0
                  generalize fr L q = z5 at *
                  clear HV HX HA HN hwf hy i0 hi hz0 hz1 hz2 B3 b1 b2 b3 hcx hca
                  generalize va L j = z1 at *
                  generalize va L T = z2 at *
                  go_wp2_with fail
                  go_quiet (fail)
                  go_wp2_with fail
                  go_roundw
                  case rel => exact ⟨j + 1, by go_num, by omega, by omega, below_drewN hbk⟩
                  case measure => simp only [intOf]; omega
                · have e0 : ((q : Int) == 0) = false := by simp; omega
                  have hfl : fr L q = fin L (q - 1) + 1 := if_neg hq0
                  have hf1 : fin L (q - 1) < n := by omega
                  have y4 := hca.out _ hbk (q - 1) (by omega)
                  have y5 := hcx _ (nx B3 hbk) (fin L (q - 1)) hf1
                  by_cases hV : va L (fin L (q - 1)) < va L j
                  · have dV : decide (va L (fin L (q - 1)) < va L j) = true := decide_eq_true hV
                    have dN : decide (va L j < va L T) = false := decide_eq_false fun h => hbt (.inr (by omega)) (.inr (by rw [HT.out]; exact hjlt)) (.inr hV) (.inr (by rw [HT.out]; exact h))
                    clear hbt hV hfl
                    clear HV HX HA HN hwf hy i0 hi hz0 hz1 hz2 B3 b1 b2 b3 hcx hca
                    generalize va L (fin L (q - 1)) = z3 at *
                    generalize fin L (q - 1) = z4 at *
                    generalize va L j = z1 at *
                    generalize va L T = z2 at *
                    generalize fr L q = z5 at *
                    go_wp2_with fail
                    go_quiet (fail)
                    go_wp2_with fail
                    go_roundw
                    case rel => exact ⟨j + 1, by go_num, by omega, by omega, below_drewN hbk⟩
                    case measure => simp only [intOf]; omega
                  · have dV : decide (va L (fin L (q - 1)) < va L j) = false := decide_eq_false hV
                    clear hbt hV hfl
                    clear HV HX HA HN hwf hy i0 hi hz0 hz1 hz2 B3 b1 b2 b3 hcx hca
                    generalize va L (fin L (q - 1)) = z3 at *
                    generalize fin L (q - 1) = z4 at *
                    generalize va L j = z1 at *
                    generalize va L T = z2 at *
                    generalize fr L q = z5 at *
                    go_wp2_with fail
                    go_quiet (fail)
                    go_wp2_with fail
                    go_roundw
                    case rel => exact ⟨j + 1, by go_num, by omega, by omega, below_drewN hbk⟩
                    case measure => simp only [intOf]; omega
              · obtain rfl : j = T := by omega
                have HF : Hid (fr L (q + 1) = j + 1) := by
                  show _ = _
                  rw [fr_succ, HT.out]
                clear hca
                go_wp2_with fail
                go_roundw
                case rel => exact ⟨q + 1, j + 1, by go_num, by go_num, by omega, fun _ => ⟨HF.out.symm, by omega⟩, hbk⟩
                case measure => simp only [intOf]; omega
          · obtain rfl : q = K L := by omega
            have hn1 : decide ((K L : Int) < (K L : Int)) = false := by simp
            go_wp2_with fail
            go_loopw [10] (fun kv wk => ∃ j : Nat, kv = .int .i64 (j : Nat) ∧ fr L (K L) ≤ j ∧ j ≤ n ∧ Below w3.heap.size w3 wk) (fun kv _ => n - (intOf kv).toNat)
            case atStart => exact ⟨_, rfl, Nat.le_refl _, by omega, hb⟩
            case round =>
              obtain ⟨j, rfl, hj1, hj2, hbk⟩ := hrel
              by_cases hjlt : j < n
              · rcases HX.out with h0 | ⟨g, o, cap, e, hl, hm, hcx⟩
                · omega
                cases e
                have hjn : j < L.length := by rw [HN.out]; omega
                have hbt := between (L := L) (q := K L) (k := j) hle hjn
                by_cases hq0 : K L = 0
                · exact (hbt (.inl hq0) (.inl rfl) (.inl hq0) (.inl rfl)).elim
                · obtain ⟨ga, rfl, hc1, hc2, hca⟩ := HA.out (by omega)
                  have hfl : fr L (K L) = fin L (K L - 1) + 1 := if_neg hq0
                  have hf1 : fin L (K L - 1) < n := by omega
                  have y1 := hcx _ (nx B3 hbk) j hjlt
                  have y4 := hca _ hbk (K L - 1) (by omega)
                  have y5 := hcx _ (nx B3 hbk) (fin L (K L - 1)) hf1
                  have e0 : ((K L : Int) == 0) = false := by simp; omega
                  have hV : ¬ va L (fin L (K L - 1)) < va L j := fun h => hbt (.inr (by omega)) (.inl rfl) (.inr h) (.inl rfl)
                  have dV : decide (va L (fin L (K L - 1)) < va L j) = false := decide_eq_false hV
                  clear hbt hV hfl
                  clear HV HX HA HN hwf hy i0 hi hz0 hz1 hz2 B3 b1 b2 b3 hcx hca
                  generalize va L (fin L (K L - 1)) = z3 at *
                  generalize fin L (K L - 1) = z4 at *
                  generalize va L j = z1 at *
                  generalize fr L (K L) = z5 at *
                  go_wp2_with fail
                  go_quiet (fail)
                  go_wp2_with fail
                  go_roundw
                  case rel => exact ⟨j + 1, by go_num, by omega, by omega, below_drewN hbk⟩
                  case measure => simp only [intOf]; omega
              · obtain rfl : j = n := by omega
                have hn2 : decide ((j : Int) < (j : Int)) = false := by simp
                go_wp2_with fail
                go_roundw
                case rel => exact ⟨K L + 1, j + 1, by go_num, by go_num, by omega, fun h => by omega, hbk⟩
                case measure => simp only [intOf]; omega
        · obtain rfl : q = K L + 1 := by omega
          have hbw2 := nx B3 hb
          have hn1 : decide (((K L + 1 : Nat) : Int) ≤ (K L : Int)) = false := by simp; omega
          have cC := copyI_c (HV.out _ hbw2) (by rw [HN.out]; omega)
          have HKm := K_more L y
          have HLL : Hid (L.length = n) := HN
          clear HX HA hfr
          go_wp2_with (first
            | (go_at_call 20; refine cC.mono ?_; clear cC; rintro e w5 ⟨u5, rfl, -, hO5, b5⟩; have hrow : w5.ownsRow wr.heap.size 3 1 u5 n (L.map (Value.int .i64)) := (by have h := hO5; unfold Oi at h; rw [HLL.out] at h; exact h))
            | (at_builtin; refine wpList_append_own _ rfl _ _ 22 rfl wr.heap.size 3 i0 (.int .i64 0) 1 8 Try.underlying22 hi hz0 hz1 hz2 rfl (by decide) _ _ _ rfl (World.ownsRow.alloc hrow _) ⟨w5.heap.size, 0, none⟩ 1 1 [.int .i64 y] rfl rfl (new_cells w5 _ 3) (one_ints [y]) (by simp [maxLen]; omega) (by omega) (by have := b5.size; simp; omega) ?_))
          intro v' w6 hown' hgrow hnn2
          have hO6 : Oi w6 wr.heap.size v' (L ++ [y]) := by
            unfold Oi
            rw [List.length_append, HLL.out]
            simpa using hown'
          have b6 : Below wr.heap.size wr w6 := (b5.alloc b5.size _).grown hgrow (by have := b5.size; simp; omega) (fun k hk => (World.ownsRow.lt hrow k hk).1)
          have cL := long_c hO6.ix (by rw [List.length_append, HLL.out]; simp; omega)
          have hK2 := K_le (L ++ [y])
          rw [List.length_append, HLL.out] at hK2
          simp only [List.length_cons, List.length_nil] at hK2
          clear hown' hgrow hnn2 hrow hO5
          go_wp2_with (first | (go_at_call 9; refine cL.mono ?_; clear cL; rintro e w7 ⟨u7, rfl, hO7, b7⟩; have hs7 := hO7.shape; rw [ro_len] at hs7; obtain ⟨a7, c7, rfl⟩ := hs7))
          · go_ret
            exact ⟨rfl, nx (nx hbw2 b6) b7⟩
          · go_ret
            have hh : ((K (L ++ [y]) : Int) == (K L : Int) || (K (L ++ [y]) : Int) == (K L : Int) + 1) = true := by
              rcases HKm with h | h <;> simp [h]
            exact ⟨congrArg (fun b => Ending.returned (.bool b)) hh, nx (nx hbw2 b6) b7⟩
end Go.Proofs.Ytkjgbmoimobgaaa.WRises
