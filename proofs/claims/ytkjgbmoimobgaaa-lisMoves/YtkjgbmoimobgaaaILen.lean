/- Of each number the length of the longest rise that ends there: contract of lengths. -/
import Derived.Test.YtkjgbmoimobgaaaISearch
import Derived.Test.YtkjgbmoimobgaaaIInts
namespace Go.Proofs.Ytkjgbmoimobgaaa.ILen
open Go.RowKit Go.Proofs.Ytkjgbmoimobgaaa.IPure Go.Proofs.Ytkjgbmoimobgaaa.IBase Go.Proofs.Ytkjgbmoimobgaaa.ISearch Go.Proofs.Ytkjgbmoimobgaaa.IInts
set_option linter.unusedVariables false

theorem put_end : ∀ (T : List Int) (x : Int), pl T x = T.length → T ++ [x] = put T x
  | [], x, _ => rfl
  | t :: r, x, h => by
    rw [pl] at h
    rw [put]
    split at h
    · rename_i ht
      rw [if_pos ht, ← put_end r x (by simpa using h)]
      rfl
    · simp at h
theorem put_set : ∀ (T : List Int) (x : Int), pl T x < T.length → T.set (pl T x) x = put T x
  | [], x, h => by simp at h
  | t :: r, x, h => by
    rw [pl] at h ⊢
    rw [put]
    split
    · rename_i ht
      rw [if_pos ht] at h
      rw [List.set_cons_succ, put_set r x (by simpa using h)]
    · simp
theorem set_end (T : List Int) (x : Int) : (T ++ [x]).set T.length x = T ++ [x] := by
  rw [List.set_append]
  simp
/-- What has been found so far. -/
def sofar (L : List Int) (q j : Nat) : Int := if j < q then (en L j : Int) else 0
theorem sofar_zero (L : List Int) (n : Nat) : ro n (sofar L 0) = ro n fun _ => 0 := ro_congr fun k hk => by simp [sofar]
theorem sofar_next (L : List Int) (n q : Nat) : (ro n (sofar L q)).set q ((en L q : Nat) : Int) = ro n (sofar L (q + 1)) := by
  rw [ro_set]
  apply ro_congr
  intro k hk
  unfold upd sofar
  by_cases e : k = q
  · subst e; simp
  · rw [if_neg e]
    by_cases h : k < q
    · rw [if_pos h, if_pos (by omega)]
    · rw [if_neg h, if_neg (by omega)]
theorem sofar_all (L : List Int) (n : Nat) : ro n (sofar L n) = ro n fun j => (en L j : Int) := ro_congr fun k hk => by simp [sofar, hk]
theorem set_at {w W : World} {tv : Value} {T R : List Int} {n : Nat} (hT : Oi W (w.heap.size + 1) tv T) (hO : Oi W w.heap.size (.slice (some ⟨w.heap.size, 0, none⟩) n n) R) (hb : Below w.heap.size w W) (hs : w.heap.size + 1 ≤ W.heap.size) (q : Nat) (y : Int) :
    Oi (W.setCell ⟨w.heap.size, q, none⟩ (.int .i64 y)) (w.heap.size + 1) tv T ∧ Oi (W.setCell ⟨w.heap.size, q, none⟩ (.int .i64 y)) w.heap.size (.slice (some ⟨w.heap.size, 0, none⟩) n n) (R.set q y) ∧
      Below w.heap.size w (W.setCell ⟨w.heap.size, q, none⟩ (.int .i64 y)) ∧ w.heap.size + 1 ≤ (W.setCell ⟨w.heap.size, q, none⟩ (.int .i64 y)).heap.size := by
  obtain ⟨h1, h2⟩ := hO.set q y
  refine ⟨hT.grown h2 (.inr fun e => ?_), h1, hb.setCell (p := ⟨w.heap.size, q, none⟩) (Nat.le_refl _) _, by simp [World.setCell]; omega⟩
  have := (World.ownsRow.lt hT w.heap.size e).1
  omega
set_option maxRecDepth 20000 in
set_option maxHeartbeats 1600000 in
theorem lengths_c {w : World} {v : Value} {L : List Int} (hv : Ix w v L) (hn : L.length ≤ 17592186044416) :
    Calls Try.prog 22 #[v] w fun e w' => e = .returned (.tuple #[.slice (some ⟨w.heap.size, 0, none⟩) L.length L.length, .int .i64 (K L)]) ∧ Oi w' w.heap.size (.slice (some ⟨w.heap.size, 0, none⟩) L.length L.length) (ro L.length fun j => (en L j : Int)) ∧ Below w.heap.size w w' := by
  obtain ⟨i0, hi, hz0, hz1, hz2⟩ := info_parts infoI
  obtain ⟨a, cap, rfl, hl, hm, hnil, hL⟩ := hv
  obtain ⟨n, hnn⟩ : ∃ n, L.length = n := ⟨_, rfl⟩
  rw [hnn] at hl hn ⊢
  have hmk := make_ints hn
  have ho0 := oi_made hn w
  have hb0 : Below w.heap.size w (w.alloc (.cells (mz n) 3)) := (Below.refl _ w).alloc (Nat.le_refl _) _
  have hs0 : (w.alloc (.cells (mz n) 3)).heap.size = w.heap.size + 1 := by simp
  go_enter Try.func22, Try.ntmps22
  go_wp2_with fail
  generalize w.alloc (.cells (mz n) 3) = w0 at *
  rw [← sofar_zero L n] at ho0
  go_loopw [5, 15] (fun tv i wr => ∃ q : Nat, i = .int .i64 q ∧ q ≤ n ∧ Oi wr (w.heap.size + 1) tv (tops (L.take q)) ∧ Oi wr w.heap.size (.slice (some ⟨w.heap.size, 0, none⟩) n n) (ro n (sofar L q)) ∧ Below w.heap.size w wr ∧ w.heap.size + 1 ≤ wr.heap.size) (fun _ i _ => n - (intOf i).toNat)
  case atStart => exact ⟨0, rfl, by omega, by rw [List.take_zero]; exact oi_nil _ _, ho0, hb0, by omega⟩
  case round =>
    obtain ⟨q, rfl, hq, hT, hO, hb, hsz⟩ := hrel
    by_cases hlt : q < n
    · rcases hL with rfl | ⟨g, o, rfl, hc⟩
      · simp at hnn; omega
      · have hcx := below_cell (hc q (by omega)) hb
        rw [← va_eq (by omega : q < L.length)] at hcx
        have hts : (tops (L.take q)).Pairwise (· < ·) := (piles L q (by omega)).1
        have htl : (tops (L.take q)).length ≤ q := tops_len L q (by omega)
        have hnext : tops (L.take (q + 1)) = put (tops (L.take q)) (va L q) := tops_succ (by omega)
        have hen : en L q = pl (tops (L.take q)) (va L q) + 1 := rfl
        have HS := sofar_next L n q
        have HN : Hid (tops (L.take (q + 1)) = put (tops (L.take q)) (va L q)) := hnext
        have HE : Hid ((ro n (sofar L q)).set q ((pl (tops (L.take q)) (va L q) : Int) + 1) = ro n (sofar L (q + 1))) := by
          show _ = _
          rw [← HS, hen]
          rfl
        clear hc hmk HS hnext hen hnil
        generalize va L q = x at *
        generalize tops (L.take q) = T at *
        have cS := search_c hT.ix hts (by omega) x
        have hpl := pl_le T x
        have hgA := (hO.at (k := q) (by rw [ro_len]; exact hlt))
        rw [Nat.zero_add] at hgA
        have hput := put_set T x
        have hend := put_end T x
        have HP1 : Hid (pl T x < T.length → T.set (pl T x) x = put T x) := hput
        have HP2 : Hid (pl T x = T.length → T ++ [x] = put T x) := hend
        clear hput hend hts
        generalize pl T x = P at *
        obtain ⟨ta, tc, rfl⟩ := hT.shape
        have hrow : wr.ownsRow (w.heap.size + 1) 3 1 (.slice ta T.length tc) T.length (T.map (Value.int .i64)) := hT
        by_cases hp : P = T.length
        · subst hp
          have HPe : Hid (T ++ [x] = put T x) := HP2.out rfl
          clear HP1 HP2
          have e1 : ((T.length : Int) == (T.length : Int)) = true := by simp
          go_wp2_with (first
            | (go_at_call 29; refine cS.mono ?_; rintro e w' ⟨⟨bb, rfl⟩, rfl⟩)
            | (at_builtin; refine wpList_append_own _ rfl _ _ 22 rfl (w.heap.size + 1) 3 i0 (.int .i64 0) 1 8 Try.underlying22 hi hz0 hz1 hz2 rfl (by decide) _ _ _ rfl (World.ownsRow.alloc hrow _) ⟨w'.heap.size, 0, none⟩ 1 1 [.int .i64 x] rfl rfl (new_cells w' _ 3) (one_ints [x]) (by simp [maxLen]; omega) (by omega) (by simp; omega) ?_))
          intro v' w2 hown' hgrow hnn2
          have hT2 : Oi w2 (w.heap.size + 1) v' (T ++ [x]) := by
            unfold Oi
            simpa using hown'
          have hne : (Value.slice (some ⟨w.heap.size, 0, none⟩) n n).ownBlock ≠ (Value.slice ta T.length tc).ownBlock := fun e => by
            have := (World.ownsRow.lt hrow w.heap.size (by rw [← e]; rfl)).1
            omega
          have hO2 : Oi w2 w.heap.size (.slice (some ⟨w.heap.size, 0, none⟩) n n) (ro n (sofar L q)) := World.ownsRow.kept (World.ownsRow.alloc hO _) hgrow (.inr hne)
          have hb2 : Below w.heap.size w w2 := (hb.alloc hb.size _).grown hgrow (by simp; omega) (fun k hk => by have := (World.ownsRow.lt hrow k hk).1; omega)
          have hs2 : w.heap.size + 1 ≤ w2.heap.size := by have := hgrow.size; simp at this; omega
          clear hgrow hown' hnn2 hrow hne hT hO cS hgA
          obtain ⟨g2, c2, rfl, hl2, hm2⟩ := hT2.pos (by simp)
          have hlt2 := hT2.lt
          have hA2 := hT2.at (k := T.length) (by simp)
          rw [Nat.zero_add] at hA2
          obtain ⟨ha1, ha2⟩ := hA2
          have hlen : (T ++ [x]).length = T.length + 1 := by simp
          rw [hlen] at hl2 hT2 ⊢
          obtain ⟨hT3, hg3⟩ := hT2.set T.length x
          have hO3 := hO2.grown hg3 (.inr (by simp [Value.ownBlock]; omega))
          have hb3 : Below w.heap.size w (w2.setCell ⟨g2, T.length, none⟩ (.int .i64 x)) := hb2.setCell (p := ⟨g2, T.length, none⟩) (by dsimp only; omega) _
          rw [set_end, HPe.out] at hT3
          have hs3 : w.heap.size + 1 ≤ (w2.setCell ⟨g2, T.length, none⟩ (.int .i64 x)).heap.size := by simp [World.setCell]; omega
          obtain ⟨hq1, hq2⟩ := hO3.at (k := q) (by rw [ro_len]; exact hlt)
          rw [Nat.zero_add] at hq1 hq2
          have HF := set_at hT3 hO3 hb3 hs3 q ((T.length : Int) + 1)
          rw [HE.out] at HF
          clear hT3 hO3 hT2 hO2 hg3 HPe HE hb3 hs3 hlen
          go_wp2_with fail
          go_roundw
          case rel => exact ⟨q + 1, by go_num, by omega, by rw [HN.out]; exact HF.1, HF.2.1, HF.2.2.1, HF.2.2.2⟩
          case measure => simp only [intOf]; omega
        · have hp2 : P < T.length := by omega
          have HPe : Hid (T.set P x = put T x) := HP1.out hp2
          clear HP1 HP2
          have e1 : ((P : Int) == (T.length : Int)) = false := by simp; omega
          obtain ⟨g2, c2, e, hl2, hm2⟩ := hT.pos (by omega)
          cases e
          have hlt2 := hT.lt
          have hA2 := hT.at (k := P) hp2
          rw [Nat.zero_add] at hA2
          obtain ⟨ha1, ha2⟩ := hA2
          obtain ⟨hT3, hg3⟩ := hT.set P x
          have hO3 := hO.grown hg3 (.inr (by simp [Value.ownBlock]; omega))
          have hb3 : Below w.heap.size w (wr.setCell ⟨g2, P, none⟩ (.int .i64 x)) := hb.setCell (p := ⟨g2, P, none⟩) (by dsimp only; omega) _
          rw [HPe.out] at hT3
          have hs3 : w.heap.size + 1 ≤ (wr.setCell ⟨g2, P, none⟩ (.int .i64 x)).heap.size := by simp [World.setCell]; omega
          obtain ⟨hq1, hq2⟩ := hO3.at (k := q) (by rw [ro_len]; exact hlt)
          rw [Nat.zero_add] at hq1 hq2
          have HF := set_at hT3 hO3 hb3 hs3 q ((P : Int) + 1)
          rw [HE.out] at HF
          clear hT3 hO3 hT hO hg3 HPe HE hb3 hs3 hrow hgA
          go_wp2_with (first
            | (go_at_call 29; refine cS.mono ?_; rintro e w' ⟨⟨bb, rfl⟩, rfl⟩))
          go_roundw
          case rel => exact ⟨q + 1, by go_num, by omega, by rw [HN.out]; exact HF.1, HF.2.1, HF.2.2.1, HF.2.2.2⟩
          case measure => simp only [intOf]; omega
    · obtain rfl : q = n := by omega
      have hnlt : decide ((q : Int) < (q : Int)) = false := by simp
      rw [← hnn, List.take_length] at hT
      obtain ⟨ta, tc, rfl⟩ := hT.shape
      have HO : Hid (Oi wr w.heap.size (.slice (some ⟨w.heap.size, 0, none⟩) q q) (ro q fun j => (en L j : Int))) := by rw [← sofar_all]; exact hO
      clear hO hT hL hmk
      go_wp2_with fail
      refine bodyPost_ret (v := .tuple #[.slice (some ⟨w.heap.size, 0, none⟩) q q, .int .i64 (K L)]) (by simp [results, Try.results22, go_sem, K]) rfl ⟨rfl, HO.out, hb⟩
end Go.Proofs.Ytkjgbmoimobgaaa.ILen
