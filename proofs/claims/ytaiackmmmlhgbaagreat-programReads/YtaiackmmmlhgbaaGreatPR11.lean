import Derived.Laws.BytesArg
import Derived.Test.YtaiackmmmlhgbaaGreatPR00
import Derived.Test.YtaiackmmmlhgbaaGreatPR02
open Go.Proofs.Tryz
set_option linter.unusedVariables false
set_option maxRecDepth 20000
set_option maxHeartbeats 3200000
namespace Go.Proofs.YtaiackmmmlhgbaaGreat.Leb
open Go.ChangeShapes Go.WideShapes Go.ChangeAt Go.RowKit
theorem rtake_out (v : Value) (L : List UInt8) (s : Int) (w : World) (hS : Seen w v L) (h : s < 0 \/ L.length < s) :
    Calls prog 66 #[v, .int .i64 s] w fun e w' => e = .returned (tkV (tk L s)) /\ w' = w := by
  obtain ⟨a, cap, rfl, hlc, hm, hnil, hcell⟩ := hS
  rw [tk_out h]
  by_cases hn : s < 0
  · go_enter func66, ntmps66
    go_wp2
    go_ret3
    exact ⟨rfl, rfl⟩
  · have h2 : (L.length : Int) < s := by omega
    go_enter func66, ntmps66
    go_wp2
    go_ret3
    exact ⟨rfl, rfl⟩
theorem rtake_end (a : Option Addr) (n cap : Nat) (w : World) (hlc : n <= cap) (hm : cap <= 9223372036854775807) :
    Calls prog 66 #[.slice a n cap, .int .i64 n] w fun e w' => e = .returned (tkV (0, 0, 200)) /\ w' = w := by
  go_enter func66, ntmps66
  go_wp2
  refine wp_loop_rounds 1 ?_
  rw [rounds_succ]
  go_wp2
  go_ret3
  exact ⟨rfl, rfl⟩
theorem rtake_in (g o cap m n : Nat) (R : List UInt8) (w : World) (hR : R.length = m) (h0 : 0 < m) (hlc : n + m <= cap) (hm : cap <= 9223372036854775807)
    (hcell : Hid (∀ j (hj : j < R.length), w.cell? ⟨g, o + (n + j), none⟩ = some (.int .u8 (R[j].toNat : Int)))) :
    Calls prog 66 #[.slice (some ⟨g, o, none⟩) (n + m) cap, .int .i64 n] w fun e w' => e = .returned (tkV (takeGo n R 0 0)) /\ w' = w := by
  go_enter func66, ntmps66
  go_wp2
  go_loop [7, 8, 9] (fun x p t => ∃ (i X P : Nat), x = .int .u64 X /\ p = .int .u64 P /\ t = .int .i64 i /\ i <= m /\ i <= 9 /\ X < P /\ P <= 9223372036854775808 /\ Hid (P = 2 ^ (7 * i)) /\ Hid (takeGo n (R.drop i) i X = takeGo n R 0 0)) (fun _ _ t => m - (intOf t).toNat)
  case atStart => exact ⟨0, 0, 1, rfl, rfl, rfl, by omega, by omega, by omega, by omega, by show _ = _; simp, by show _ = _; simp⟩
  case round =>
    obtain ⟨i, X, P, rfl, rfl, rfl, him, hi9, hX, hP, HP, HT⟩ := hrel
    by_cases hi : i < m
    · obtain ⟨c, hc⟩ : ∃ c : UInt8, c = R[i] := ⟨_, rfl⟩
      have hcl := hcell.out i (by omega)
      rw [<- hc] at hcl
      have hd : R.drop i = c :: R.drop (i + 1) := by rw [List.drop_eq_getElem_cons (by omega), hc]
      rw [hd, takeGo_cons] at HT
      have hclt : c.toNat < 256 := c.toNat_lt
      clear hc hd
      by_cases h1 : i = 9 /\ 1 < c.toNat
      · rw [if_pos h1] at HT
        obtain ⟨rfl, h1⟩ := h1
        have h1' : (1 : Int) < (c.toNat : Int) := by omega
        go_wp2
        go_ret3
        rw [<- HT.out]
        exact ⟨rfl, rfl⟩
      · rw [if_neg h1] at HT
        by_cases h2 : 0 < i /\ c.toNat = 0
        · rw [if_pos h2] at HT
          obtain ⟨h2, h3⟩ := h2
          have h9 : ¬ ((1 : Int) < (c.toNat : Int)) := by omega
          have h2' : (0 : Int) < (i : Int) := by omega
          have h3' : ((c.toNat : Int) == 0) = true := by simp; omega
          go_wp2
          all_goals go_ret3
          all_goals rw [<- HT.out]
          all_goals exact ⟨rfl, rfl⟩
        · rw [if_neg h2] at HT
          rw [<- HP.out] at HT
          obtain ⟨Q, hQ⟩ : ∃ Q, Q = c.toNat % 128 * P := ⟨_, rfl⟩
          by_cases h9 : i = 9
          · subst h9
            have hc1 : c.toNat = 1 := by omega
            rw [if_pos (by omega)] at HT
            have hQ1 : c.toNat * P = Q := by rw [hQ, hc1]
            have hQ2 : Q = P := by rw [hQ, hc1]; omega
            rw [hQ1] at HT
            have hmul : IntKind.u64.wrap ((P : Int) * ((c.toNat : Int) % 128)) = (Q : Int) := by
              rw [IntKind.wrap_u64, hc1, hQ2]; omega
            have hQb : X + Q < 18446744073709551616 := by omega
            have g1 : ¬ ((1 : Int) < (c.toNat : Int)) := by omega
            have g2 : ((c.toNat : Int) == 0) = false := by simp; omega
            have g3 : (c.toNat : Int) < 128 := by omega
            clear hc1 hQ hQ1 hQ2 h1 h2
            go_wp2
            go_ret3
            rw [<- HT.out]
            exact ⟨rfl, rfl⟩
          · have hP8 : P <= 72057594037927936 := by rw [HP.out]; exact Nat.pow_le_pow_right (n := 2) (j := 56) (by omega) (by omega)
            have hQb : Q <= 127 * P := by rw [hQ]; exact Nat.mul_le_mul_right _ (by omega)
            have hmul : IntKind.u64.wrap ((P : Int) * ((c.toNat : Int) % 128)) = (Q : Int) := by
              have e2 : (P : Int) * ((c.toNat : Int) % 128) = (Q : Int) := by rw [hQ, Int.mul_comm]; simp
              rw [e2, IntKind.wrap_u64]; omega
            have HP2 : Hid (P * 128 = 2 ^ (7 * (i + 1))) := by show _ = _; rw [pow_step, <- HP.out]
            by_cases h3 : c.toNat < 128
            · rw [if_pos h3] at HT
              have hm128 : c.toNat % 128 = c.toNat := Nat.mod_eq_of_lt h3
              rw [hm128] at hQ
              rw [<- hQ] at HT
              clear hm128 hQ
              by_cases hz : c.toNat = 0
              · have hi0 : ¬ 0 < i := by omega
                have g2 : ((c.toNat : Int) == 0) = true := by simp; omega
                clear hz
                go_wp2
                all_goals go_ret3
                all_goals rw [<- HT.out]
                all_goals exact ⟨rfl, rfl⟩
              · have g2 : ((c.toNat : Int) == 0) = false := by simp; omega
                go_wp2
                all_goals go_ret3
                all_goals rw [<- HT.out]
                all_goals exact ⟨rfl, rfl⟩
            · rw [if_neg h3, <- hQ] at HT
              clear hQ
              go_wp2
              all_goals go_round
              all_goals first | exact ⟨i + 1, X + Q, P * 128, by go_num, by go_num, by go_num, by omega, by omega, by omega, by omega, HP2, HT⟩ | (simp only [intOf]; omega)
    · obtain rfl : i = m := by omega
      have hd : R.drop i = [] := by rw [List.drop_eq_nil_iff]; omega
      rw [hd] at HT
      go_wp2
      go_ret3
      rw [<- HT.out]
      exact ⟨rfl, rfl⟩
theorem rtake_c (v : Value) (L : List UInt8) (s : Int) (w : World) (hS : Seen w v L) :
    Calls prog 66 #[v, .int .i64 s] w fun e w' => e = .returned (tkV (tk L s)) /\ w' = w := by
  by_cases h : s < 0 \/ L.length < s
  · exact rtake_out v L s w hS h
  · obtain ⟨a, cap, rfl, hlc, hm, hnil, hcell⟩ := hS
    have hm' : cap <= 9223372036854775807 := by unfold maxLen at hm; omega
    obtain ⟨n, rfl⟩ : ∃ n : Nat, s = (n : Int) := ⟨s.toNat, by omega⟩
    have et : tk L (n : Int) = takeGo n (L.drop n) 0 0 := by unfold tk; rw [if_pos (by omega)]; simp
    rw [et]
    by_cases hn : n = L.length
    · subst hn
      rw [List.drop_eq_nil_of_le (Nat.le_refl _)]
      exact rtake_end a _ cap w hlc hm'
    · cases a with
      | none => have := hnil rfl; omega
      | some x =>
        obtain ⟨g, o, sp⟩ := x
        obtain rfl : sp = none := (hcell g o sp rfl 0 (by omega)).1
        have hl : L.length = n + (L.length - n) := by omega
        have := rtake_in g o cap (L.length - n) n (L.drop n) w (List.length_drop) (by omega) (by omega) hm' (by
          intro j hj
          rw [List.length_drop] at hj
          have := (hcell g o none rfl (n + j) (by omega)).2
          rw [this, List.getElem_drop])
        rw [<- hl] at this
        exact this
def tkI (r : Nat × Nat × Nat) : Value := .tuple #[.int .i64 (unz r.1), .int .i64 (r.2.1 : Int), .int .i64 (r.2.2 : Int)]
theorem rtakei_c (v : Value) (L : List UInt8) (s : Int) (w : World) (hS : Seen w v L) :
    Calls prog 68 #[v, .int .i64 s] w fun e w' => e = .returned (tkI (tk L s)) /\ w' = w := by
  have hlt := tk_lt L s
  have herr := tk_err (L := L) (s := s)
  obtain ⟨r, hr⟩ : ∃ r, r = tk L s := ⟨_, rfl⟩
  have c18 := rtake_c v L s w hS
  rw [<- hr] at c18 hlt herr ⊢
  obtain ⟨x, t, k⟩ := r
  clear hr
  unfold tkV at c18
  unfold tkI
  simp only at c18 hlt herr ⊢
  by_cases hk : k = 0
  · subst hk
    clear herr
    by_cases hy : x % 2 = 0
    · have hu : unz x = (x : Int) / 2 := by unfold unz; rw [if_pos hy]; omega
      have g : ((x : Int) % 2 == 0) = true := by simp; omega
      rw [hu]
      clear hu
      go_enter func68, ntmps68
      go_wp2_with (first | (go_at_call 66; refine c18.mono ?_; rintro e w' ⟨rfl, rfl⟩))
      go_ret3
      exact ⟨rfl, rfl⟩
    · have hu : unz x = -((x : Int) / 2) - 1 := by unfold unz; rw [if_neg hy]; omega
      have g : ((x : Int) % 2 == 0) = false := by simp; omega
      rw [hu]
      clear hu
      go_enter func68, ntmps68
      go_wp2_with (first | (go_at_call 66; refine c18.mono ?_; rintro e w' ⟨rfl, rfl⟩))
      go_ret3
      exact ⟨rfl, rfl⟩
  · have hz := herr hk
    have g : ((k : Int) == 0) = false := by simp; omega
    have g' : ((k : Int) != 0) = true := by simp; omega
    obtain ⟨rfl, rfl⟩ : x = 0 /\ t = 0 := by rcases hz with h | h <;> simp only [Prod.mk.injEq] at h <;> exact ⟨h.1, h.2.1⟩
    have hu : unz 0 = 0 := by decide
    rw [hu]
    clear hz herr hu
    go_enter func68, ntmps68
    go_wp2_with (first | (go_at_call 66; refine c18.mono ?_; rintro e w' ⟨rfl, rfl⟩))
    go_ret3
    exact ⟨rfl, rfl⟩
end Go.Proofs.YtaiackmmmlhgbaaGreat.Leb
namespace Go.Proofs.YtaiackmmmlhgbaaGreat.YCb
open Go.RowKit
theorem block_set {w : World} {B j : Nat} {cs : Array Value} {t : TypeId} {fz : Nat × Nat} (h : w.heap[B]? = some (.cells cs t fz)) (u : Value) : (w.setCell ⟨B, j, none⟩ u).heap[B]? = some (.cells (cs.setIfInBounds j u) t fz) := by
  simp [World.setCell, Array.getElem?_modify, h]
end Go.Proofs.YtaiackmmmlhgbaaGreat.YCb
namespace Go.Proofs.YtaiackmmmlhgbaaGreat.TShallow
open Go.RowKit TBase
def depL : List T -> Nat
  | [] => 0
  | .mk _ _ _ l :: cs => max (depL l + 1) (depL cs)
theorem depL_cons (c : T) (cs : List T) : depL (c :: cs) = max (depL c.l + 1) (depL cs) := by
  obtain ⟨g, s, n, l⟩ := c
  rw [depL]
  rfl
end Go.Proofs.YtaiackmmmlhgbaaGreat.TShallow
namespace Go.Proofs.YtaiackmmmlhgbaaGreat.Leb
open Go.ChangeShapes Go.WideShapes Go.ChangeAt Go.RowKit
theorem seen_conv {w : World} {v : Value} {L : List UInt8} (h : Seen w v L) : (convert 22 9 v).run prog w = .ok (.string ⟨L.toArray⟩) w := by
  obtain ⟨a, cap, rfl, hlc, hm, hnil, hcell⟩ := h
  cases a with
  | none =>
    have := hnil rfl
    obtain rfl : L = [] := List.eq_nil_of_length_eq_zero (by omega)
    exact run_convert_bytes_nil (P := prog) w 22 5 underlying22 underlying5 _ _ 9 underlying9
  | some x =>
    obtain ⟨g, o, sp⟩ := x
    refine run_convert_bytes_back (P := prog) w 22 9 5 ⟨g, o, sp⟩ cap L underlying22 underlying5 underlying9 fun j hj => ?_
    obtain ⟨rfl, hc⟩ := hcell g o sp rfl j hj
    rw [add_none]
    exact hc
theorem same_c (v u : Value) (L : List UInt8) (w : World) (h1 : Seen w v L) (h2 : Seen w u L) :
    Calls prog 33 #[v, u] w fun e w' => e = .returned (.bool true) /\ w' = w := by
  have c1 := seen_conv h1
  have c2 := seen_conv h2
  go_enter func33, ntmps33
  go_wp2
  go_ret
  exact ⟨rfl, rfl⟩
theorem num_c (k : Int) (w : World) : Calls prog 8 #[.int .i64 k] w fun e w' => e = .returned (.int .i64 k) /\ w' = w := by
  go_enter func8, ntmps8
  go_wp2
  go_ret
  exact ⟨rfl, rfl⟩
theorem cellsL_seen {w : World} {g o : Nat} {L : List UInt8} (h : ∀ j (hj : j < L.length), w.cell? ⟨g, o + j, none⟩ = some (.int .u8 (L[j].toNat : Int))) (j : Nat) (u : Value) (hj : (cellsL L)[j]? = some u) : w.cell? ((⟨g, o, none⟩ : Addr).add j) = some u := by
  have hl : j < L.length := by
    have := (List.getElem?_eq_some_iff.1 hj).1
    rwa [cellsL_length] at this
  rw [add_none, h j hl]
  simp [cellsL, List.getElem?_eq_getElem hl] at hj
  rw [hj]
theorem copy_c (v : Value) (L : List UInt8) (w : World) (h : Seen w v L) (hl : L.length <= 140737488355328) :
    Calls prog 19 #[v] w fun e w' => ∃ u, e = .returned u /\ u ≠ .slice none 0 0 /\ Own w' w.heap.size u L /\ Below w.heap.size w w' := by
  obtain ⟨i0, hi, hz0, hz1, hz2⟩ := info_parts info5
  obtain ⟨a, cap, rfl, hlc, hm, hnil, hcell⟩ := h
  have hb := (Below.refl w.heap.size w).alloc (Nat.le_refl _) (.cells #[] 5)
  have ho : Own (w.alloc (.cells #[] 5)) w.heap.size (.slice (some ⟨w.heap.size, 0, none⟩) 0 0) [] :=
    ⟨rfl, .inr ⟨w.heap.size, 0, #[], rfl, Nat.le_refl _, heap_alloc_new w _, Nat.le_refl _, by unfold maxLen; omega, rfl, rfl⟩⟩
  cases a with
  | none =>
    obtain rfl := hnil rfl
    obtain rfl : L = [] := List.eq_nil_of_length_eq_zero (by omega)
    go_enter func19, ntmps19
    go_wp2
    go_ret
    exact ⟨_, rfl, (fun h => by cases h), ho, hb⟩
  | some x =>
    obtain ⟨g, o, sp⟩ := x
    have hnews : ∀ j u, (cellsL L)[j]? = some u -> (w.alloc (.cells #[] 5)).cell? ((⟨g, o, sp⟩ : Addr).add j) = some u := by
      intro j u hj
      have hl : j < L.length := by
        have := (List.getElem?_eq_some_iff.1 hj).1
        rwa [cellsL_length] at this
      obtain ⟨rfl, _⟩ := hcell g o sp rfl j hl
      exact (World.grownBy_alloc w _ none).cell (cellsL_seen (fun j hj => (hcell g o none rfl j hj).2) j u hj) (by simp)
    clear hcell
    go_enter func19, ntmps19
    go_wp2_with (first
      | (at_builtin; refine wpList_append_own _ rfl _ _ 22 rfl w.heap.size 5 i0 (.int .u8 0) 1 1 underlying22 hi hz0 hz1 hz2 rfl (by decide) _ _ _ rfl ho ⟨g, o, sp⟩ L.length cap (cellsL L) rfl (by rw [cellsL_length]; omega) hnews (one_cells L) (by unfold maxLen; simp; omega) (by simp; omega) (by simp) ?_))
    intro v' w2 hown' hgrow hnn
    have hb3 := hb.grown hgrow (by simp) (fun k hk => by cases hk; exact Nat.le_refl _)
    have ho2 : Own w2 w.heap.size v' L := by
      unfold Own
      simpa [cellsL] using hown'
    clear hown' hgrow ho hb hnews
    go_wp2
    go_ret
    exact ⟨_, rfl, hnn, ho2, hb3⟩
end Go.Proofs.YtaiackmmmlhgbaaGreat.Leb
