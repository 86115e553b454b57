/- The walk of the law LisPiles. -/
import Derived.Test.YtkjgbmoimobgaaaIAw
namespace Go.Proofs.Ytkjgbmoimobgaaa.WPiles
open Go.RowKit Go.Proofs.Ytkjgbmoimobgaaa.IPure Go.Proofs.Ytkjgbmoimobgaaa.IBase Go.Proofs.Ytkjgbmoimobgaaa.IInts Go.Proofs.Ytkjgbmoimobgaaa.ILen Go.Proofs.Ytkjgbmoimobgaaa.ILong Go.Proofs.Ytkjgbmoimobgaaa.IAw
set_option linter.unusedVariables false

/-- Turned round, each element with the other sign: its first m elements. -/
def tf (L : List Int) (j : Nat) : Int := - va L (L.length - 1 - j)
def tn (L : List Int) : List Int := ro L.length (tf L)
theorem tn_len (L : List Int) : (tn L).length = L.length := ro_len _ _
theorem va_tn {L : List Int} {i : Nat} (h : i < L.length) : va (tn L) i = - va L (L.length - 1 - i) := by
  rw [va_eq (by rw [tn_len]; exact h)]
  unfold tn
  rw [ro_get]
  rfl
theorem ri_turn {L M : List Int} (hl : M.length = L.length) (hv : ∀ i, i < L.length → va M i = - va L (L.length - 1 - i)) {ps : List Nat} (h : Ri L ps) : Ri M ((ps.map fun p => L.length - 1 - p).reverse) := by
  refine ⟨fun p hp => ?_, ?_⟩
  · rw [List.mem_reverse] at hp
    obtain ⟨q, hq, rfl⟩ := List.mem_map.1 hp
    have := h.1 q hq
    omega
  · rw [List.pairwise_reverse, List.pairwise_map]
    refine h.2.imp_of_mem fun {a b} ha hb hab => ?_
    have h1 := h.1 a ha
    have h2 := h.1 b hb
    rw [hv _ (by omega), hv _ (by omega), show L.length - 1 - (L.length - 1 - b) = b by omega, show L.length - 1 - (L.length - 1 - a) = a by omega]
    omega
theorem K_turn (L : List Int) : K (tn L) = K L := by
  have h1 := ri_le (ri_turn (tn_len L) (fun i h => va_tn h) (bst_ri L))
  have h2 := ri_le (ri_turn (L := tn L) (M := L) (tn_len L).symm (fun i h => by
    rw [tn_len] at h ⊢
    rw [va_tn (by omega), show L.length - 1 - (L.length - 1 - i) = i by omega]
    omega) (bst_ri (tn L)))
  simp [bst_len] at h1 h2
  omega
theorem ro_succ (m : Nat) (f : Nat → Int) : ro (m + 1) f = ro m f ++ [f m] := by simp [ro, List.range_succ]
set_option maxRecDepth 40000 in
set_option maxHeartbeats 2000000 in
theorem walk {w : World} {v : Value} {L : List Int} (hv : Ix w v L) (hn : L.length * 8 ≤ 140737488351232) (hwf : ∀ y ∈ L, (Lit.int .i64 y).wf = true) :
    Calls Try.prog 6 #[v] w fun e w' => e = .returned (.bool true) ∧ Below w.heap.size w w' := by
  obtain ⟨i0, hi, hz0, hz1, hz2⟩ := info_parts infoI
  have hKn := K_le L
  have HV : Hid (∀ w', Below w.heap.size w w' → Ix w' v L) := fun w' h => hv.below h
  have HX : Hid (L.length = 0 ∨ ∃ g o cap, v = .slice (some ⟨g, o, none⟩) L.length cap ∧ L.length ≤ cap ∧ cap ≤ 9223372036854775807 ∧ ∀ w', Below w.heap.size w w' → ∀ j, j < L.length → w'.cell? ⟨g, o + j, none⟩ = some (.int .i64 (va L j))) := by
    obtain ⟨a, cap, rfl, hl, hm, hnil, hL⟩ := hv
    rcases hL with rfl | ⟨g, o, rfl, hc⟩
    · exact .inl rfl
    · exact .inr ⟨g, o, cap, rfl, hl, hm, fun w' hb j hj => by rw [va_eq hj]; exact below_cell (hc j hj) hb⟩
  have HW : Hid (∀ j, j < L.length → -9223372036854775808 ≤ va L j ∧ va L j ≤ 9223372036854775807) := fun j hj => by
    have := hwf _ (va_mem hj)
    simp [Lit.wf, IntKind.min, IntKind.max, IntKind.signed, IntKind.bits] at this
    exact this
  have hvs : ∃ a cap, v = .slice a L.length cap := by
    obtain ⟨a, cap, rfl, -⟩ := hv
    exact ⟨a, cap, rfl⟩
  obtain ⟨va0, vc0, rfl⟩ := hvs
  clear hv hwf
  obtain ⟨n, hnn⟩ : ∃ n, L.length = n := ⟨_, rfl⟩
  have HN : Hid (L.length = n) := hnn
  have HTN : Hid (tn L = ro n (tf L)) := by rw [← hnn]; rfl
  have HTF : Hid (∀ j, tf L j = - va L (n - 1 - j)) := fun j => by rw [← hnn]; rfl
  rw [hnn] at hn hKn HV HX HW ⊢
  clear hnn
  go_enter Try.func6, Try.ntmps6
  go_wp2_with (first | (go_at_call 14; refine (awake_c _).mono ?_; rintro e w1 ⟨rfl, b1⟩))
  go_loopw [3, 4] (fun tv i wr => ∃ r : Nat, i = .int .i64 ((r : Int) - 1) ∧ r ≤ n ∧ Oi wr w1.heap.size tv (ro (n - r) (tf L)) ∧ Below w1.heap.size w1 wr) (fun _ i _ => (intOf i + 1).toNat)
  case atStart => exact ⟨n, rfl, Nat.le_refl _, by rw [Nat.sub_self]; exact oi_nil _ _, Below.refl _ _⟩
  case round =>
    obtain ⟨r, rfl, hr, hO, hb⟩ := hrel
    have hsz := hb.size
    cases r with
    | zero =>
      rw [show (((0 : Nat) : Int) - 1) = -1 by omega]
      have hT : Oi wr w1.heap.size u3 (tn L) := by rw [HTN.out]; exact hO
      have B1 := nx b1 hb
      clear hO
      go_wp2_with fail
      refine (copyI_c (HV.out _ B1) (by rw [HN.out]; omega)).mono ?_
      rintro e w2 ⟨uc, rfl, -, hC, b2⟩
      go_wp2_with fail
      refine (long_c hC.ix (by rw [HN.out]; omega)).mono ?_
      rintro e w3 ⟨ua, rfl, hA, b3⟩
      go_wp2_with fail
      refine (long_c ((hT.below b2).below b3).ix (by rw [tn_len, HN.out]; omega)).mono ?_
      rintro e w4 ⟨ub, rfl, hB, b4⟩
      have hAs := hA.shape
      rw [ro_len] at hAs
      obtain ⟨aa, ac, rfl⟩ := hAs
      have hBs := hB.shape
      rw [ro_len, K_turn] at hBs
      obtain ⟨ba, bc, rfl⟩ := hBs
      have B4 := nx (nx (nx B1 b2) b3) b4
      clear hA hB hC hT hb
      go_wp2_with fail
      go_loopw [7, 8] (fun tv i wi => ∃ q : Nat, i = .int .i64 (q : Nat) ∧ q ≤ n ∧ Oi wi w4.heap.size tv (tops (L.take q)) ∧ Below w4.heap.size w4 wi) (fun _ i _ => n - (intOf i).toNat)
      case atStart => exact ⟨0, rfl, by omega, by rw [List.take_zero]; exact oi_nil _ _, Below.refl _ _⟩
      case round =>
        obtain ⟨q, rfl, hq, hT, hb⟩ := hrel
        have hsz := hb.size
        by_cases hlt : q < n
        · rcases HX.out with h0 | ⟨g, o, cap, e, hl, hm, hcx⟩
          · omega
          cases e
          have hlq : q < L.length := by rw [HN.out]; exact hlt
          have hts : (tops (L.take q)).Pairwise (· < ·) := (piles L q (by omega)).1
          have htl : (tops (L.take q)).length ≤ q := tops_len L q (by omega)
          have HNX : Hid (tops (L.take (q + 1)) = put (tops (L.take q)) (va L q)) := tops_succ hlq
          have HC : Hid (∀ w', Below w.heap.size w w' → w'.cell? ⟨g, o + q, none⟩ = some (.int .i64 (va L q))) := fun w' h => hcx w' h q hlt
          clear hcx
          generalize tops (L.take q) = T at *
          have hpl := pl_le T (va L q)
          have HP1 : Hid (∀ j, j < pl T (va L q) → va T j < va L q) := pl_lt T (va L q)
          have HP2 : Hid (pl T (va L q) < T.length → va L q ≤ va T (pl T (va L q))) := fun h => pl_ge T (va L q) _ hts (Nat.le_refl _) h
          have HP3 : Hid (pl T (va L q) < T.length → T.set (pl T (va L q)) (va L q) = put T (va L q)) := put_set T (va L q)
          have HP4 : Hid (pl T (va L q) = T.length → T ++ [va L q] = put T (va L q)) := put_end T (va L q)
          obtain ⟨ta, tc, rfl⟩ := hT.shape
          have HTs : Hid (0 < T.length → ∃ gt, ta = some ⟨gt, 0, none⟩ ∧ T.length ≤ tc ∧ tc ≤ 9223372036854775807 ∧ ∀ w', Below wr.heap.size wr w' → ∀ j, j < T.length → w'.cell? ⟨gt, j, none⟩ = some (.int .i64 (va T j))) := fun h0 => by
            obtain ⟨gt, c, e, h1, h2⟩ := hT.pos h0
            cases e
            refine ⟨gt, rfl, h1, h2, fun w' hb j hj => ?_⟩
            have := (hT.at (k := j) hj).1
            rw [Nat.zero_add] at this
            rw [va_eq hj]
            exact below_cell this hb
          have HT : Hid (∀ w', Below wr.heap.size wr w' → Oi w' w4.heap.size (.slice ta T.length tc) T) := fun w' h => hT.below h
          clear hT hts
          generalize va L q = x at *
          generalize pl T x = P at *
          generalize wr = W5 at *
          go_wp2_with fail
          go_loopw [9] (fun kv wk => ∃ j : Nat, kv = .int .i64 (j : Nat) ∧ j ≤ P ∧ Below W5.heap.size W5 wk) (fun kv _ => P - (intOf kv).toNat)
          case atStart => exact ⟨0, rfl, by omega, Below.refl _ _⟩
          case round =>
            obtain ⟨j, rfl, hj, hbk⟩ := hrel
            have hszk := hbk.size
            have hBk := nx (nx B4 hb) hbk
            have y1 := HC.out _ hBk
            by_cases hjP : j < P
            · obtain ⟨gt, rfl, t1, t2, t3⟩ := HTs.out (by omega)
              have y2 := t3 _ hbk j (by omega)
              have d1 : decide (j < T.length) = true := decide_eq_true (by omega)
              have d2 : decide (va T j < x) = true := decide_eq_true (HP1.out j hjP)
              clear t3 HTs HT HC HNX HP1 HP2 HP3 HP4 HX HV HW HTN HTF
              generalize va T j = z at *
              go_wp2_with fail
              go_quiet (fail)
              go_wp2_with fail
              go_roundw
              case rel => exact ⟨j + 1, by go_num, by omega, below_drewN hbk⟩
              case measure => simp only [intOf]; omega
            · obtain rfl : j = P := by omega
              by_cases hPl : j < T.length
              · obtain ⟨gt, rfl, t1, t2, t3⟩ := HTs.out (by omega)
                have y2 := t3 _ hbk j hPl
                have d1 : decide (j < T.length) = true := decide_eq_true hPl
                have d2 : decide (va T j < x) = false := decide_eq_false (by have := HP2.out hPl; omega)
                have e3 : ((j : Int) == (T.length : Int)) = false := by simp; omega
                have hO := HT.out _ hbk
                have hset := hO.set j x
                obtain ⟨hf1, hf2⟩ := hO.at hPl
                rw [Nat.zero_add] at hf1 hf2
                have hlt3 := hO.lt
                have HS : Hid (∀ m, Oi ((wr.drewN m).setCell ⟨gt, j, none⟩ (.int .i64 x)) w4.heap.size (.slice (some ⟨gt, 0, none⟩) T.length tc) (tops (L.take (q + 1)))) := fun m => by
                  show Oi _ _ _ _
                  rw [HNX.out, ← HP3.out hPl]
                  exact hset.1
                clear t3 HTs HT HC HNX HP1 HP2 HP3 HP4 HX HV HW HTN HTF hset hO hf1
                generalize va T j = z at *
                go_wp2_with fail
                go_quiet (fail)
                go_wp2_with fail
                go_roundw
                case rel => exact ⟨q + 1, by go_num, by omega, HS.out _, (below_drewN (hb.trans (hbk.mono hsz))).setCell (p := ⟨gt, j, none⟩) (by dsimp only; omega) _⟩
                case measure => simp only [intOf]; omega
              · obtain rfl : j = T.length := by omega
                have d1 : decide (T.length < T.length) = false := by simp
                have e3 : ((T.length : Int) == (T.length : Int)) = true := by simp
                have HO : Hid (∀ m, (wr.drewN m).ownsRow w4.heap.size 3 1 (.slice ta T.length tc) T.length (T.map (Value.int .i64))) := fun m => HT.out _ (below_drewN hbk)
                have HS : Hid (tops (L.take (q + 1)) = T ++ [x]) := by
                  show _ = _
                  rw [HNX.out, HP4.out rfl]
                clear HTs HT HC HNX HP1 HP2 HP3 HP4 HX HV HW HTN HTF
                go_wp2_with fail
                go_quiet (fail)
                go_wp2_with (first
                  | (at_builtin; refine wpList_append_own _ rfl _ _ 22 rfl w4.heap.size 3 i0 (.int .i64 0) 1 8 Try.underlying22 hi hz0 hz1 hz2 rfl (by decide) _ _ _ rfl (World.ownsRow.alloc (HO.out nq) _) ⟨wr.heap.size, 0, none⟩ 1 1 [.int .i64 x] rfl rfl (new_cells (wr.drewN nq) _ 3) (one_ints [x]) (by simp [maxLen]; omega) (by omega) (by simp; omega) ?_))
                intro v' w6 hown' hgrow hnn2
                have hT2 : Oi w6 w4.heap.size v' (T ++ [x]) := by
                  unfold Oi
                  simpa using hown'
                rw [← HS.out] at hT2
                have hb6 : Below w4.heap.size w4 w6 := ((below_drewN (hb.trans (hbk.mono hsz))).alloc (by simp; omega) _).grown hgrow (by simp; omega) (fun k hk => (World.ownsRow.lt (HO.out nq) k hk).1)
                clear hgrow hown' hnn2 HO
                go_wp2_with fail
                go_roundw
                case rel => exact ⟨q + 1, by go_num, by omega, hT2, hb6⟩
                case measure => simp only [intOf]; omega
        · obtain rfl : q = n := by omega
          have hnlt : decide ((q : Int) < (q : Int)) = false := by simp
          have hK : Oi wr w4.heap.size u7 (tops L) := by
            have := hT
            rw [← HN.out, List.take_length] at this
            exact this
          have hks := hK.shape
          rw [show (tops L).length = K L from rfl] at hks
          obtain ⟨ka, kc, rfl⟩ := hks
          have hbw := nx B4 hb
          have eK : ((K L : Int) == (K L : Int)) = true := by simp
          clear hT hK HX HV HW HTN HTF
          generalize K L = kk at *
          go_wp2_with fail
          go_ret
          exact ⟨rfl, hbw⟩
    | succ r =>
      rw [show (((r + 1 : Nat) : Int) - 1) = (r : Int) by omega]
      have d0 : decide ((0 : Int) ≤ (r : Int)) = true := decide_eq_true (by omega)
      rcases HX.out with h0 | ⟨g, o, cap, e, hl, hm, hcx⟩
      · omega
      cases e
      have x1 := hcx _ (nx b1 hb) r (by omega)
      obtain ⟨hw1, hw2⟩ := HW.out r (by omega)
      have HS : Hid (ro (n - r) (tf L) = ro (n - (r + 1)) (tf L) ++ [- va L r]) := by
        show _ = _
        rw [show n - r = (n - (r + 1)) + 1 by omega, ro_succ, HTF.out, show n - 1 - (n - (r + 1)) = r by omega]
      have hrl : (ro (n - (r + 1)) (tf L)).length + 1 ≤ n := by rw [ro_len]; omega
      by_cases hx : va L r = -9223372036854775808
      · have e1 : (va L r == -9223372036854775808) = true := by simp [hx]
        have hbw := nx b1 hb
        clear hcx hx HS hO HX HV
        generalize va L r = x at *
        go_wp2_with fail
        go_ret
        exact ⟨rfl, hbw⟩
      · have e1 : (va L r == -9223372036854775808) = false := by simp [hx]
        have hx2 : -9223372036854775807 ≤ va L r := by omega
        generalize ro (n - (r + 1)) (tf L) = R at *
        obtain ⟨ta, tc, rfl⟩ := hO.shape
        have hrow : wr.ownsRow w1.heap.size 3 1 (.slice ta R.length tc) R.length (R.map (Value.int .i64)) := hO
        clear hcx hx hO
        generalize va L r = x at *
        go_wp2_with (first
          | (at_builtin; refine wpList_append_own _ rfl _ _ 22 rfl w1.heap.size 3 i0 (.int .i64 0) 1 8 Try.underlying22 hi hz0 hz1 hz2 rfl (by decide) _ _ _ rfl (World.ownsRow.alloc hrow _) ⟨wr.heap.size, 0, none⟩ 1 1 [.int .i64 (-x)] rfl rfl (new_cells wr _ 3) (one_ints [-x]) (by simp [maxLen]; omega) (by omega) (by simp; omega) ?_))
        intro v' w2 hown' hgrow hnn2
        have hT2 : Oi w2 w1.heap.size v' (R ++ [-x]) := by
          unfold Oi
          simpa using hown'
        rw [← HS.out] at hT2
        have hb2 : Below w1.heap.size w1 w2 := (hb.alloc hb.size _).grown hgrow (by simp; omega) (fun k hk => (World.ownsRow.lt hrow k hk).1)
        clear hgrow hown' hnn2 hrow HX
        go_wp2_with fail
        go_roundw
        case rel => exact ⟨r, rfl, by omega, hT2, hb2⟩
        case measure => simp only [intOf]; omega
end Go.Proofs.Ytkjgbmoimobgaaa.WPiles
