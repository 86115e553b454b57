/- Numbers as texts: contracts of the Text of packages whole and stencilref1. -/
import Derived.Test.YtmoblfdepcjgfaaDoorBase
import Derived.Test.YtmoblfdepcjgfaaDoorShelf
import Derived.WalkLawsBesides
import Derived.OpenShut
import Derived.LoopTactic
import Derived.LoopN
import Derived.Lib.ItoaMem
import Derived.Laws.BytesArg
namespace Go.Proofs.YtmoblfdepcjgfaaDoor.Digits
set_option linter.unusedVariables false
open Go.ChangeShapes Go.WideShapes Go.ChangeAt Go.RowKit

/-- The library's table of powers of ten holds what it is laid with. -/
def Tab (w : World) : Prop := Lib.TabIs Tryd.prog w "internal/strconv.uint64pow10" .u64 Lib.pow10Tab
theorem gPow : ∃ g, Tryd.prog.globalNamed "internal/strconv.uint64pow10" = some g := ⟨0, by kernel_rfl⟩
theorem Tab.later {w w' : World} (h : Tab w) (hb : Below w.heap.size w w') : Tab w' := by
  obtain ⟨g, hg⟩ := gPow
  unfold Tab Lib.TabIs at h ⊢
  unfold World.var? at h ⊢
  rw [hg] at h ⊢
  simp only [Option.bind_some] at h ⊢
  have hlt : g < w.heap.size := by
    rcases Nat.lt_or_ge g w.heap.size with h' | h'
    · exact h'
    · rw [Array.getElem?_eq_none h'] at h; cases h
  rw [hb.block g hlt]
  exact h
theorem below_grow (w : World) (k : Nat) (os : Array Obj) : Below w.heap.size w (Sort.grow (w.drewN k) os) := by
  refine ⟨rfl, rfl, rfl, ?_, fun j hj => ?_⟩
  · show w.heap.size ≤ (w.heap ++ os).size
    rw [Array.size_append]; omega
  · show (w.heap ++ os)[j]? = w.heap[j]?
    rw [Array.getElem?_append_left hj]
theorem text (n : Int) (h0 : -9223372036854775808 ≤ n) (h1 : n ≤ 9223372036854775807) (w : World) (ht : Tab w) :
    Calls Tryd.prog 46 #[.int .i64 n] w fun e w' => e = .returned (.string ⟨(Lib.itoa n).toArray⟩) ∧ Below w.heap.size w w' := by
  have H := Tryd.strconv_Itoa n h0 h1 w ht
  clear ht
  go_enter Tryd.func46, Tryd.ntmps46
  go_wp2_with (first | (go_at_call 58; refine H.mono ?_; rintro e w' ⟨rfl, k, os, rfl⟩))
  go_ret
  exact ⟨rfl, below_grow _ _ _⟩
theorem ret1 {k : IntKind} {x y : Int} (h : x = y) : Ending.returned (.int k x) = Ending.returned (.int k y) := by rw [h]
theorem rsize (a : Int) (h0 : -9223372036854775808 ≤ a) (h1 : a ≤ 9223372036854775807) (w : World) :
    Calls Tryd.prog 59 #[.int .i64 a] w fun e w' => e = .returned (.int .u64 (a.natAbs : Int)) ∧ w' = w := by
  by_cases c : a < 0
  · go_enter Tryd.func59, Tryd.ntmps59
    go_wp2
    go_ret
    exact ⟨ret1 (by omega), rfl⟩
  · go_enter Tryd.func59, Tryd.ntmps59
    go_wp2
    go_ret
    exact ⟨ret1 (by omega), rfl⟩
/-- Bytes as cells. -/
def cellsL (l : List UInt8) : List Value := l.map fun c => Value.int .u8 (c.toNat : Int)
theorem cellsL_length (l : List UInt8) : (cellsL l).length = l.length := List.length_map _
/-- The length of a slice. -/
def slen : Value → Nat | .slice _ n _ => n | _ => 0
/-- The last digit of X, as a byte. -/
def dig (X : Nat) : UInt8 := UInt8.ofNat (48 + X % 10)
theorem dig_toNat (X : Nat) : ((dig X).toNat : Int) = 48 + (X : Int) % 10 := by
  have : (dig X).toNat = 48 + X % 10 := by
    unfold dig
    rw [UInt8.toNat_ofNat']
    exact Nat.mod_eq_of_lt (by omega)
  rw [this]; omega
/-- What is written so far (L), and what is left (X), of N's digits. -/
def Wrote (N X : Nat) (L : List UInt8) : Prop := (L = [] ∧ X = N) ∨ (L ≠ [] ∧ (X = 0 → L = Lib.decDigits N) ∧ (0 < X → Lib.decDigits X ++ L = Lib.decDigits N))
theorem Wrote.start (N : Nat) : Wrote N N [] := .inl ⟨rfl, rfl⟩
theorem Wrote.step {N X : Nat} {L : List UInt8} (h : Wrote N X L) (hx : L = [] ∨ 0 < X) : Wrote N (X / 10) (dig X :: L) := by
  refine .inr ⟨by simp, fun h0 => ?_, fun h0 => ?_⟩
  · have hlt : X < 10 := by omega
    have ed : Lib.decDigits X = [dig X] := by rw [Lib.decDigits_one hlt, dig, Nat.mod_eq_of_lt hlt]
    rcases h with ⟨rfl, rfl⟩ | ⟨hl, _, h2⟩
    · rw [ed]
    · have := h2 (by rcases hx with h | h; exact absurd h hl; exact h)
      rw [ed] at this
      exact this
  · have ed : Lib.decDigits X = Lib.decDigits (X / 10) ++ [dig X] := by rw [Lib.decDigits, dif_neg (by omega)]; rfl
    rcases h with ⟨rfl, rfl⟩ | ⟨hl, _, h2⟩
    · rw [ed]
    · have := h2 (by omega)
      rw [ed, List.append_assoc] at this
      exact this
theorem Wrote.done {N : Nat} {L : List UInt8} (h : Wrote N 0 L) (hl : L ≠ []) : L = Lib.decDigits N := by
  rcases h with ⟨h, _⟩ | ⟨_, h1, _⟩
  · exact absurd h hl
  · exact h1 rfl
theorem nDigits_le {N k : Nat} (hk : 1 ≤ k) (h : N < 10 ^ k) : Lib.nDigits N ≤ k := by
  induction k generalizing N with
  | zero => omega
  | succ k ih =>
    by_cases hlt : N < 10
    · rw [Lib.nDigits_small hlt]; omega
    · rw [Lib.nDigits_big hlt]
      have : N / 10 < 10 ^ k := by rw [Nat.pow_succ] at h; omega
      by_cases hk0 : k = 0
      · subst hk0; simp at this; omega
      · have := ih (by omega) this
        omega
theorem Wrote.length {N X : Nat} {L : List UInt8} (h : Wrote N X L) (hN : N ≤ 9223372036854775808) : L.length ≤ 20 := by
  have hd : (Lib.decDigits N).length ≤ 20 := by rw [Lib.decDigits_length]; exact nDigits_le (by omega) (by omega)
  rcases h with ⟨rfl, _⟩ | ⟨hl, h1, h2⟩
  · simp
  · by_cases hx : X = 0
    · rw [h1 hx]; exact hd
    · have := h2 (by omega)
      rw [← this, List.length_append] at hd
      omega
theorem built (w wr : World) (hb : Below w.heap.size w wr) (x : Int) :
    (wr.alloc (.cells #[.int .u8 x] 5)).ownsRow w.heap.size 5 1 (.slice (some ⟨wr.heap.size, 0, none⟩) 1 1) 1 [.int .u8 x] :=
  ⟨rfl, .inr ⟨wr.heap.size, 1, #[.int .u8 x], rfl, hb.size, heap_alloc_new wr _, Nat.le_refl _, by unfold maxLen; omega, rfl, rfl⟩⟩
theorem info5 : (Tryd.prog.info? 5).map (fun i => (i.zero, i.size, i.bytes)) = some (some (.int .u8 0), 1, 1) := by kernel_rfl
theorem row_open {w : World} {base n : Nat} {v : Value} {L : List UInt8} (h : w.ownsRow base 5 1 v n (cellsL L)) (hl : L ≠ []) :
    ∃ g cap, v = .slice (some ⟨g, 0, none⟩) n cap ∧ base ≤ g ∧ (∀ j u, (cellsL L)[j]? = some u → w.cell? ((⟨g, 0, none⟩ : Addr).add j) = some u) ∧ ∀ j (hj : j < L.length), w.cell? ((⟨g, 0, none⟩ : Addr).add j) = some (.int .u8 (L[j].toNat : Int)) := by
  have h2 := h.2
  have hn := h.1
  rw [cellsL_length] at hn
  rcases h2 with ⟨_, h0⟩ | ⟨g, cap, cur, rfl, hb, _⟩
  · exact absurd (List.eq_nil_of_length_eq_zero (by omega)) hl
  · have hc := h.cells (g := g) rfl
    exact ⟨g, cap, rfl, hb, hc, fun j hj => hc j _ (by simp [cellsL, hj])⟩
theorem one_cells (L : List UInt8) : ∀ u ∈ cellsL L, u.oneCell' = true := by
  intro u hu
  obtain ⟨_, _, rfl⟩ := List.mem_map.1 hu
  rfl
set_option maxRecDepth 20000 in
set_option maxHeartbeats 800000 in
theorem rtext (a : Int) (a0 : -9223372036854775808 ≤ a) (a1 : a ≤ 9223372036854775807) (w : World) :
    Calls Tryd.prog 47 #[.int .i64 a] w fun e w' => e = .returned (.string ⟨(Lib.itoa a).toArray⟩) ∧ Below w.heap.size w w' := by
  obtain ⟨i0, hi, hz0, hz1, hz2⟩ := info_parts info5
  go_enter Tryd.func47, Tryd.ntmps47
  go_wp2_with (first | (go_at_call 59; refine (rsize _ (by omega) (by omega) _).mono ?_; rintro e w1 ⟨rfl, rfl⟩))
  go_loopw [3, 4] (fun x v wr => ∃ (X : Nat) (L : List UInt8), x = .int .u64 X ∧ X ≤ 9223372036854775808 ∧ Below w1.heap.size w1 wr ∧ wr.ownsRow w1.heap.size 5 1 v L.length (cellsL L) ∧ (L = [] → v = .slice none 0 0) ∧ Hid (Wrote a.natAbs X L)) (fun x v _ => 2 * (intOf x).toNat + (1 - slen v))
  case atStart => exact ⟨a.natAbs, [], rfl, by omega, Below.refl _ _, World.ownsRow_nil _ _ _ _, fun _ => rfl, Wrote.start _⟩
  case round =>
    obtain ⟨X, L, rfl, hX, hb, hown, hnil, HW⟩ := hrel
    have hlen := HW.out.length (by omega)
    cases L with
    | nil =>
      obtain rfl := hnil rfl
      clear hown hnil hlen
      have hbw := hb.alloc hb.size (.cells #[.int .u8 (48 + (X : Int) % 10)] 5)
      have hbu := built w1 wr hb (48 + (X : Int) % 10)
      by_cases hx : X = 0
      · subst hx
        go_wp2
        go_roundw
        case rel => exact ⟨0, [dig 0], rfl, by omega, hbw, hbu, (fun h => by cases h), HW.out.step (.inl rfl)⟩
        case measure => simp [intOf, slen]
      · go_wp2
        go_roundw
        case rel =>
          refine ⟨X / 10, [dig X], by go_num, by omega, hbw, ?_, (fun h => by cases h), HW.out.step (.inl rfl)⟩
          have e : cellsL [dig X] = [.int .u8 (48 + (X : Int) % 10)] := by simp only [cellsL, List.map_cons, List.map_nil, dig_toNat]
          rw [e]
          exact hbu
        case measure => simp only [intOf, slen]; omega
    | cons c r =>
      clear hnil
      obtain ⟨g, cap, rfl, hg, hc, hcj⟩ := row_open hown (by simp)
      have hgl : g < wr.heap.size := (hown.lt g rfl).2
      clear hown
      by_cases hx : X = 0
      · subst hx
        have hdone := HW.out.done (by simp)
        clear HW
        by_cases ha : a < 0
        · have hbu := built w1 wr hb 45
          have hb2 := hb.alloc hb.size (.cells #[.int .u8 45] 5)
          have HD : Hid (c :: r = Lib.decDigits a.natAbs) := hdone
          clear hdone hcj
          go_wp2_with (first
            | (at_builtin; refine wpList_append_own _ rfl _ _ 75 rfl w1.heap.size 5 i0 (.int .u8 0) 1 1 Tryd.underlying75 hi hz0 hz1 hz2 rfl (by decide) _ _ _ rfl hbu ⟨g, 0, none⟩ (r.length + 1) cap (cellsL (c :: r)) rfl ?c0 ?c1 ?c2 ?c3 ?c4 ?c5 ?_))
          case c0 => rw [cellsL_length]; simp
          case c1 => exact fun j u hj => (World.grownBy_alloc wr _ none).cell (hc j u hj) (by simp)
          case c2 => exact one_cells _
          case c3 => unfold maxLen; simp at hlen; omega
          case c4 => simp at hlen; omega
          case c5 => have := hb2.size; omega
          intro v' w2 hown' hgrow _
          have hown2 : w2.ownsRow w1.heap.size 5 1 v' (1 + (r.length + 1)) (cellsL (45 :: c :: r)) := hown'
          have hb3 := hb2.grown hgrow (by have := hb2.size; omega) (fun k hk => by cases hk; exact hb.size)
          clear hown' hgrow hbu hb2 hc
          obtain ⟨g', cap', rfl, hg', _, hcj'⟩ := row_open hown2 (by simp)
          have hconv : (convert 75 9 (.slice (some ⟨g', 0, none⟩) (1 + (r.length + 1)) cap')).run Tryd.prog w2 = .ok (.string ⟨(45 :: c :: r).toArray⟩) w2 := by
            have h := run_convert_bytes_back (P := Tryd.prog) w2 75 9 5 ⟨g', 0, none⟩ cap' (45 :: c :: r) Tryd.underlying75 Tryd.underlying5 Tryd.underlying9 hcj'
            rw [List.length_cons, List.length_cons, Nat.add_comm (r.length + 1) 1] at h
            exact h
          clear hown2 hcj'
          go_wp2
          go_ret
          have e : Lib.itoa a = 45 :: c :: r := by rw [Lib.itoa, if_pos ha, HD.out]
          rw [e]
          exact ⟨rfl, hb3⟩
        · have hconv : (convert 75 9 (.slice (some ⟨g, 0, none⟩) (r.length + 1) cap)).run Tryd.prog wr = .ok (.string ⟨(c :: r).toArray⟩) wr := run_convert_bytes_back (P := Tryd.prog) wr 75 9 5 ⟨g, 0, none⟩ cap (c :: r) Tryd.underlying75 Tryd.underlying5 Tryd.underlying9 hcj
          have HD : Hid (c :: r = Lib.decDigits a.natAbs) := hdone
          clear hdone hcj hc
          go_wp2
          go_ret
          have e : Lib.itoa a = c :: r := by rw [Lib.itoa, if_neg (by omega), HD.out]; congr 1; omega
          rw [e]
          exact ⟨rfl, hb⟩
      · have hbu := built w1 wr hb (48 + (X : Int) % 10)
        have hb2 := hb.alloc hb.size (.cells #[.int .u8 (48 + (X : Int) % 10)] 5)
        clear hcj
        go_wp2_with (first
          | (at_builtin; refine wpList_append_own _ rfl _ _ 75 rfl w1.heap.size 5 i0 (.int .u8 0) 1 1 Tryd.underlying75 hi hz0 hz1 hz2 rfl (by decide) _ _ _ rfl hbu ⟨g, 0, none⟩ (r.length + 1) cap (cellsL (c :: r)) rfl ?c0 ?c1 ?c2 ?c3 ?c4 ?c5 ?_))
        case c0 => rw [cellsL_length]; simp
        case c1 => exact fun j u hj => (World.grownBy_alloc wr _ none).cell (hc j u hj) (by simp)
        case c2 => exact one_cells _
        case c3 => unfold maxLen; simp at hlen; omega
        case c4 => simp at hlen; omega
        case c5 => have := hb2.size; omega
        intro v' w2 hown' hgrow _
        have e : cellsL (dig X :: c :: r) = [.int .u8 (48 + (X : Int) % 10)] ++ cellsL (c :: r) := by simp only [cellsL, List.map_cons, dig_toNat, List.cons_append, List.nil_append]
        have hown2 : w2.ownsRow w1.heap.size 5 1 v' (dig X :: c :: r).length (cellsL (dig X :: c :: r)) := by
          rw [e, List.length_cons, List.length_cons, Nat.add_comm (r.length + 1) 1]
          exact hown'
        have hb3 := hb2.grown hgrow (by have := hb2.size; omega) (fun k hk => by cases hk; exact hb.size)
        have hsl : Hid (slen v' = 1 + (r.length + 1)) := by
          rcases hown'.2 with ⟨_, h0⟩ | ⟨_, _, _, rfl, _⟩
          · omega
          · rfl
        clear hown' hgrow hbu hb2 hc e
        go_wp2
        go_roundw
        case rel => exact ⟨X / 10, dig X :: c :: r, by go_num, by omega, hb3, hown2, (fun h => by cases h), HW.out.step (.inr (by omega))⟩
        case measure => rw [hsl.out]; simp only [intOf, slen]; omega
end Go.Proofs.YtmoblfdepcjgfaaDoor.Digits
