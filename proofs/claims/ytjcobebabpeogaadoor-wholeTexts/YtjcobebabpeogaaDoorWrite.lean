/- The contract of the Text of package stencilref1. -/
import Derived.Test.YtjcobebabpeogaaDoorDigits
namespace Go.Proofs.YtjcobebabpeogaaDoor.Base
set_option linter.unusedVariables false
open Go.ChangeShapes Go.WideShapes Go.ChangeAt Go.RowKit Go.Proofs.YtjcobebabpeogaaDoor.Sums

theorem info5 : (Tryd.prog.info? 5).map (fun i => (i.zero, i.size, i.bytes)) = some (some (.int .u8 0), 1, 1) := by kernel_rfl
theorem row_open {w : World} {base n : Nat} {v : Value} {L : List UInt8} (h : w.ownsRow base 5 1 v n (cellsL L)) (hl : L ≠ []) :
    ∃ g cap, v = .slice (some ⟨g, 0, none⟩) n cap ∧ base ≤ g ∧ (∀ j u, (cellsL L)[j]? = some u → w.cell? ((⟨g, 0, none⟩ : Addr).add j) = some u) ∧ ∀ j (hj : j < L.length), w.cell? ((⟨g, 0, none⟩ : Addr).add j) = some (.int .u8 (L[j].toNat : Int)) := by
  have h2 := h.2
  have hn := h.1
  rw [cellsL_length] at hn
  rcases h2 with ⟨_, h0⟩ | ⟨g, cap, cur, rfl, hb, _⟩
  · exact absurd (List.eq_nil_of_length_eq_zero (by omega)) hl
  · have hc := h.cells (g := g) rfl
    exact ⟨g, cap, rfl, hb, hc, fun j hj => hc j _ (by simp [cellsL, hj])⟩
theorem one_cells (L : List UInt8) : ∀ u ∈ cellsL L, u.oneCell' = true := by
  intro u hu
  obtain ⟨_, _, rfl⟩ := List.mem_map.1 hu
  rfl
set_option maxHeartbeats 800000 in
theorem rtext (a : Int) (a0 : -9223372036854775808 ≤ a) (a1 : a ≤ 9223372036854775807) (w : World) :
    Calls Tryd.prog 33 #[.int .i64 a] w fun e w' => e = .returned (.string ⟨(Lib.itoa a).toArray⟩) ∧ Below w.heap.size w w' := by
  obtain ⟨i0, hi, hz0, hz1, hz2⟩ := info_parts info5
  go_enter Tryd.func33, Tryd.ntmps33
  go_wp2_with (first | (go_at_call 37; refine (rsize _ (by omega) (by omega) _).mono ?_; rintro e w1 ⟨rfl, rfl⟩))
  go_loopw [3, 4] (fun x v wr => ∃ (X : Nat) (L : List UInt8), x = .int .u64 X ∧ X ≤ 9223372036854775808 ∧ Below w1.heap.size w1 wr ∧ wr.ownsRow w1.heap.size 5 1 v L.length (cellsL L) ∧ (L = [] → v = .slice none 0 0) ∧ Hid (Wrote a.natAbs X L)) (fun x v _ => 2 * (intOf x).toNat + (1 - slen v))
  case atStart => exact ⟨a.natAbs, [], rfl, by omega, Below.refl _ _, World.ownsRow_nil _ _ _ _, fun _ => rfl, Wrote.start _⟩
  case round =>
    obtain ⟨X, L, rfl, hX, hb, hown, hnil, HW⟩ := hrel
    have hlen := HW.out.length (by omega)
    cases L with
    | nil =>
      obtain rfl := hnil rfl
      clear hown hnil hlen
      have hbw := hb.alloc hb.size (.cells #[.int .u8 (48 + (X : Int) % 10)] 5)
      have hbu := built w1 wr hb (48 + (X : Int) % 10)
      by_cases hx : X = 0
      · subst hx
        go_wp2
        go_roundw
        case rel => exact ⟨0, [dig 0], rfl, by omega, hbw, hbu, (fun h => by cases h), HW.out.step (.inl rfl)⟩
        case measure => simp [intOf, slen]
      · go_wp2
        go_roundw
        case rel =>
          refine ⟨X / 10, [dig X], by go_num, by omega, hbw, ?_, (fun h => by cases h), HW.out.step (.inl rfl)⟩
          have e : cellsL [dig X] = [.int .u8 (48 + (X : Int) % 10)] := by simp only [cellsL, List.map_cons, List.map_nil, dig_toNat]
          rw [e]
          exact hbu
        case measure => simp only [intOf, slen]; omega
    | cons c r =>
      clear hnil
      obtain ⟨g, cap, rfl, hg, hc, hcj⟩ := row_open hown (by simp)
      have hgl : g < wr.heap.size := (hown.lt g rfl).2
      clear hown
      by_cases hx : X = 0
      · subst hx
        have hdone := HW.out.done (by simp)
        clear HW
        by_cases ha : a < 0
        · have hbu := built w1 wr hb 45
          have hb2 := hb.alloc hb.size (.cells #[.int .u8 45] 5)
          have HD : Hid (c :: r = Lib.decDigits a.natAbs) := hdone
          clear hdone hcj
          go_wp2_with (first
            | (at_builtin; refine wpList_append_own _ rfl _ _ 53 rfl w1.heap.size 5 i0 (.int .u8 0) 1 1 Tryd.underlying53 hi hz0 hz1 hz2 rfl (by decide) _ _ _ rfl hbu ⟨g, 0, none⟩ (r.length + 1) cap (cellsL (c :: r)) rfl ?c0 ?c1 ?c2 ?c3 ?c4 ?c5 ?_))
          case c0 => rw [cellsL_length]; simp
          case c1 => exact fun j u hj => (World.grownBy_alloc wr _ none).cell (hc j u hj) (by simp)
          case c2 => exact one_cells _
          case c3 => unfold maxLen; simp at hlen; omega
          case c4 => simp at hlen; omega
          case c5 => have := hb2.size; omega
          intro v' w2 hown' hgrow _
          have hown2 : w2.ownsRow w1.heap.size 5 1 v' (1 + (r.length + 1)) (cellsL (45 :: c :: r)) := hown'
          have hb3 := hb2.grown hgrow (by have := hb2.size; omega) (fun k hk => by cases hk; exact hb.size)
          clear hown' hgrow hbu hb2 hc
          obtain ⟨g', cap', rfl, hg', _, hcj'⟩ := row_open hown2 (by simp)
          have hconv : (convert 53 9 (.slice (some ⟨g', 0, none⟩) (1 + (r.length + 1)) cap')).run Tryd.prog w2 = .ok (.string ⟨(45 :: c :: r).toArray⟩) w2 := by
            have h := run_convert_bytes_back (P := Tryd.prog) w2 53 9 5 ⟨g', 0, none⟩ cap' (45 :: c :: r) Tryd.underlying53 Tryd.underlying5 Tryd.underlying9 hcj'
            rw [List.length_cons, List.length_cons, Nat.add_comm (r.length + 1) 1] at h
            exact h
          clear hown2 hcj'
          go_wp2
          go_ret
          have e : Lib.itoa a = 45 :: c :: r := by rw [Lib.itoa, if_pos ha, HD.out]
          rw [e]
          exact ⟨rfl, hb3⟩
        · have hconv : (convert 53 9 (.slice (some ⟨g, 0, none⟩) (r.length + 1) cap)).run Tryd.prog wr = .ok (.string ⟨(c :: r).toArray⟩) wr := run_convert_bytes_back (P := Tryd.prog) wr 53 9 5 ⟨g, 0, none⟩ cap (c :: r) Tryd.underlying53 Tryd.underlying5 Tryd.underlying9 hcj
          have HD : Hid (c :: r = Lib.decDigits a.natAbs) := hdone
          clear hdone hcj hc
          go_wp2
          go_ret
          have e : Lib.itoa a = c :: r := by rw [Lib.itoa, if_neg (by omega), HD.out]; congr 1; omega
          rw [e]
          exact ⟨rfl, hb⟩
      · have hbu := built w1 wr hb (48 + (X : Int) % 10)
        have hb2 := hb.alloc hb.size (.cells #[.int .u8 (48 + (X : Int) % 10)] 5)
        clear hcj
        go_wp2_with (first
          | (at_builtin; refine wpList_append_own _ rfl _ _ 53 rfl w1.heap.size 5 i0 (.int .u8 0) 1 1 Tryd.underlying53 hi hz0 hz1 hz2 rfl (by decide) _ _ _ rfl hbu ⟨g, 0, none⟩ (r.length + 1) cap (cellsL (c :: r)) rfl ?c0 ?c1 ?c2 ?c3 ?c4 ?c5 ?_))
        case c0 => rw [cellsL_length]; simp
        case c1 => exact fun j u hj => (World.grownBy_alloc wr _ none).cell (hc j u hj) (by simp)
        case c2 => exact one_cells _
        case c3 => unfold maxLen; simp at hlen; omega
        case c4 => simp at hlen; omega
        case c5 => have := hb2.size; omega
        intro v' w2 hown' hgrow _
        have e : cellsL (dig X :: c :: r) = [.int .u8 (48 + (X : Int) % 10)] ++ cellsL (c :: r) := by simp only [cellsL, List.map_cons, dig_toNat, List.cons_append, List.nil_append]
        have hown2 : w2.ownsRow w1.heap.size 5 1 v' (dig X :: c :: r).length (cellsL (dig X :: c :: r)) := by
          rw [e, List.length_cons, List.length_cons, Nat.add_comm (r.length + 1) 1]
          exact hown'
        have hb3 := hb2.grown hgrow (by have := hb2.size; omega) (fun k hk => by cases hk; exact hb.size)
        have hsl : Hid (slen v' = 1 + (r.length + 1)) := by
          rcases hown'.2 with ⟨_, h0⟩ | ⟨_, _, _, rfl, _⟩
          · omega
          · rfl
        clear hown' hgrow hbu hb2 hc e
        go_wp2
        go_roundw
        case rel => exact ⟨X / 10, dig X :: c :: r, by go_num, by omega, hb3, hown2, (fun h => by cases h), HW.out.step (.inr (by omega))⟩
        case measure => rw [hsl.out]; simp only [intOf, slen]; omega
end Go.Proofs.YtjcobebabpeogaaDoor.Base
