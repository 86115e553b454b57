/- Numbers as texts: contracts of the Text of packages whole and stencilref1. -/
import Derived.Test.YthjbknncbhkinaaGreatDoorBase
import Derived.Test.YthjbknncbhkinaaGreatDoorShelf
import Derived.WalkLawsBesides
import Derived.OpenShut
import Derived.LoopTactic
import Derived.LoopN
import Derived.Lib.ItoaMem
import Derived.Laws.BytesArg
namespace Go.Proofs.YthjbknncbhkinaaGreatDoor.Digits
set_option linter.unusedVariables false
open Go.ChangeShapes Go.WideShapes Go.ChangeAt Go.RowKit

/-- The library's table of powers of ten holds what it is laid with. -/
def Tab (w : World) : Prop := Lib.TabIs Tryz.prog w "internal/strconv.uint64pow10" .u64 Lib.pow10Tab
theorem gPow : ∃ g, Tryz.prog.globalNamed "internal/strconv.uint64pow10" = some g := ⟨1, by kernel_rfl⟩
theorem Tab.later {w w' : World} (h : Tab w) (hb : Below w.heap.size w w') : Tab w' := by
  obtain ⟨g, hg⟩ := gPow
  unfold Tab Lib.TabIs at h ⊢
  unfold World.var? at h ⊢
  rw [hg] at h ⊢
  simp only [Option.bind_some] at h ⊢
  have hlt : g < w.heap.size := by
    rcases Nat.lt_or_ge g w.heap.size with h' | h'
    · exact h'
    · rw [Array.getElem?_eq_none h'] at h; cases h
  rw [hb.block g hlt]
  exact h
theorem below_grow (w : World) (k : Nat) (os : Array Obj) : Below w.heap.size w (Sort.grow (w.drewN k) os) := by
  refine ⟨rfl, rfl, rfl, ?_, fun j hj => ?_⟩
  · show w.heap.size ≤ (w.heap ++ os).size
    rw [Array.size_append]; omega
  · show (w.heap ++ os)[j]? = w.heap[j]?
    rw [Array.getElem?_append_left hj]
theorem text (n : Int) (h0 : -9223372036854775808 ≤ n) (h1 : n ≤ 9223372036854775807) (w : World) (ht : Tab w) :
    Calls Tryz.prog 154 #[.int .i64 n] w fun e w' => e = .returned (.string ⟨(Lib.itoa n).toArray⟩) ∧ Below w.heap.size w w' := by
  have H := Tryz.strconv_Itoa n h0 h1 w ht
  clear ht
  go_enter Tryz.func154, Tryz.ntmps154
  go_wp2_with (first | (go_at_call 156; refine H.mono ?_; rintro e w' ⟨rfl, k, os, rfl⟩))
  go_ret
  exact ⟨rfl, below_grow _ _ _⟩
theorem ret1 {k : IntKind} {x y : Int} (h : x = y) : Ending.returned (.int k x) = Ending.returned (.int k y) := by rw [h]
/-- Bytes as cells. -/
def cellsL (l : List UInt8) : List Value := l.map fun c => Value.int .u8 (c.toNat : Int)
theorem cellsL_length (l : List UInt8) : (cellsL l).length = l.length := List.length_map _
/-- The length of a slice. -/
def slen : Value → Nat | .slice _ n _ => n | _ => 0
/-- The last digit of X, as a byte. -/
def dig (X : Nat) : UInt8 := UInt8.ofNat (48 + X % 10)
theorem dig_toNat (X : Nat) : ((dig X).toNat : Int) = 48 + (X : Int) % 10 := by
  have : (dig X).toNat = 48 + X % 10 := by
    unfold dig
    rw [UInt8.toNat_ofNat']
    exact Nat.mod_eq_of_lt (by omega)
  rw [this]; omega
/-- What is written so far (L), and what is left (X), of N's digits. -/
def Wrote (N X : Nat) (L : List UInt8) : Prop := (L = [] ∧ X = N) ∨ (L ≠ [] ∧ (X = 0 → L = Lib.decDigits N) ∧ (0 < X → Lib.decDigits X ++ L = Lib.decDigits N))
theorem Wrote.start (N : Nat) : Wrote N N [] := .inl ⟨rfl, rfl⟩
theorem Wrote.step {N X : Nat} {L : List UInt8} (h : Wrote N X L) (hx : L = [] ∨ 0 < X) : Wrote N (X / 10) (dig X :: L) := by
  refine .inr ⟨by simp, fun h0 => ?_, fun h0 => ?_⟩
  · have hlt : X < 10 := by omega
    have ed : Lib.decDigits X = [dig X] := by rw [Lib.decDigits_one hlt, dig, Nat.mod_eq_of_lt hlt]
    rcases h with ⟨rfl, rfl⟩ | ⟨hl, _, h2⟩
    · rw [ed]
    · have := h2 (by rcases hx with h | h; exact absurd h hl; exact h)
      rw [ed] at this
      exact this
  · have ed : Lib.decDigits X = Lib.decDigits (X / 10) ++ [dig X] := by rw [Lib.decDigits, dif_neg (by omega)]; rfl
    rcases h with ⟨rfl, rfl⟩ | ⟨hl, _, h2⟩
    · rw [ed]
    · have := h2 (by omega)
      rw [ed, List.append_assoc] at this
      exact this
theorem Wrote.done {N : Nat} {L : List UInt8} (h : Wrote N 0 L) (hl : L ≠ []) : L = Lib.decDigits N := by
  rcases h with ⟨h, _⟩ | ⟨_, h1, _⟩
  · exact absurd h hl
  · exact h1 rfl
theorem nDigits_le {N k : Nat} (hk : 1 ≤ k) (h : N < 10 ^ k) : Lib.nDigits N ≤ k := by
  induction k generalizing N with
  | zero => omega
  | succ k ih =>
    by_cases hlt : N < 10
    · rw [Lib.nDigits_small hlt]; omega
    · rw [Lib.nDigits_big hlt]
      have : N / 10 < 10 ^ k := by rw [Nat.pow_succ] at h; omega
      by_cases hk0 : k = 0
      · subst hk0; simp at this; omega
      · have := ih (by omega) this
        omega
theorem Wrote.length {N X : Nat} {L : List UInt8} (h : Wrote N X L) (hN : N ≤ 9223372036854775808) : L.length ≤ 20 := by
  have hd : (Lib.decDigits N).length ≤ 20 := by rw [Lib.decDigits_length]; exact nDigits_le (by omega) (by omega)
  rcases h with ⟨rfl, _⟩ | ⟨hl, h1, h2⟩
  · simp
  · by_cases hx : X = 0
    · rw [h1 hx]; exact hd
    · have := h2 (by omega)
      rw [← this, List.length_append] at hd
      omega
theorem built (w wr : World) (hb : Below w.heap.size w wr) (x : Int) :
    (wr.alloc (.cells #[.int .u8 x] 5)).ownsRow w.heap.size 5 1 (.slice (some ⟨wr.heap.size, 0, none⟩) 1 1) 1 [.int .u8 x] :=
  ⟨rfl, .inr ⟨wr.heap.size, 1, #[.int .u8 x], rfl, hb.size, heap_alloc_new wr _, Nat.le_refl _, by unfold maxLen; omega, rfl, rfl⟩⟩
theorem info5 : (Tryz.prog.info? 5).map (fun i => (i.zero, i.size, i.bytes)) = some (some (.int .u8 0), 1, 1) := by kernel_rfl
theorem row_open {w : World} {base n : Nat} {v : Value} {L : List UInt8} (h : w.ownsRow base 5 1 v n (cellsL L)) (hl : L ≠ []) :
    ∃ g cap, v = .slice (some ⟨g, 0, none⟩) n cap ∧ base ≤ g ∧ (∀ j u, (cellsL L)[j]? = some u → w.cell? ((⟨g, 0, none⟩ : Addr).add j) = some u) ∧ ∀ j (hj : j < L.length), w.cell? ((⟨g, 0, none⟩ : Addr).add j) = some (.int .u8 (L[j].toNat : Int)) := by
  have h2 := h.2
  have hn := h.1
  rw [cellsL_length] at hn
  rcases h2 with ⟨_, h0⟩ | ⟨g, cap, cur, rfl, hb, _⟩
  · exact absurd (List.eq_nil_of_length_eq_zero (by omega)) hl
  · have hc := h.cells (g := g) rfl
    exact ⟨g, cap, rfl, hb, hc, fun j hj => hc j _ (by simp [cellsL, hj])⟩
theorem one_cells (L : List UInt8) : ∀ u ∈ cellsL L, u.oneCell' = true := by
  intro u hu
  obtain ⟨_, _, rfl⟩ := List.mem_map.1 hu
  rfl
end Go.Proofs.YthjbknncbhkinaaGreatDoor.Digits
