/- Code that is checked, plainly. -/
import Derived.Test.YtgknjjaemjkloaaIPure
import Derived.WalkKit
import Derived.ProofKit
import Derived.Below
import Derived.Laws.AppendOwn
import Derived.Laws.OwnMore
import Derived.Maps.AppendAt
import Derived.LoopTactic
import Derived.LoopN
import Derived.BigQuiet
namespace Go.Proofs.Ytgknjjaemjkloaa.IBase
open Go.RowKit Go.Proofs.Ytgknjjaemjkloaa.IPure
set_option linter.unusedVariables false

theorem cell_lt {w : World} {a : Addr} {v : Value} (h : w.cell? a = some v) : a.block < w.heap.size := by
  unfold World.cell? at h
  split at h
  · next hh => exact (Array.getElem?_eq_some_iff.1 hh).1
  · cases h
theorem below_cell {w w' : World} {g o : Nat} {u : Value} (h : w.cell? ⟨g, o, none⟩ = some u) (hb : Below w.heap.size w w') : w'.cell? ⟨g, o, none⟩ = some u :=
  (World.cell?_of_block (w := w) (hb.block g (cell_lt h))).trans h
theorem nx {a b c : World} (h : Below a.heap.size a b) (k : Below b.heap.size b c) : Below a.heap.size a c := h.trans (k.mono h.size)
theorem add_none (g o j : Nat) : (⟨g, o, none⟩ : Addr).add j = ⟨g, o + j, none⟩ := by
  unfold Addr.add
  split
  · simp_all
  · rfl
theorem heap_alloc_new (w : World) (o : Obj) : (w.alloc o).heap[w.heap.size]? = some o := by
  show (w.heap.push o)[w.heap.size]? = _
  simp
theorem below_drewN {w wr : World} {k n : Nat} (h : Below k w wr) : Below k w (wr.drewN n) := ⟨h.os, h.tape, h.output, h.size, h.block⟩
theorem infoI : (Try.prog.info? 3).map (fun i => (i.zero, i.size, i.bytes)) = some (some (.int .i64 0), 1, 8) := by kernel_rfl
/-- A row of integers that is read. -/
def Ix (w : World) (v : Value) (L : List Int) : Prop :=
  ∃ a cap, v = .slice a L.length cap ∧ L.length ≤ cap ∧ cap ≤ 9223372036854775807 ∧ (a = none → cap = 0) ∧ (L = [] ∨ ∃ g o, a = some ⟨g, o, none⟩ ∧ ∀ j (h : j < L.length), w.cell? ⟨g, o + j, none⟩ = some (.int .i64 L[j]))
theorem Ix.below {w w' : World} {v : Value} {L : List Int} (h : Ix w v L) (hb : Below w.heap.size w w') : Ix w' v L := by
  obtain ⟨a, cap, h1, h2, h3, h4, h5⟩ := h
  refine ⟨a, cap, h1, h2, h3, h4, ?_⟩
  rcases h5 with h5 | ⟨g, o, ha, hc⟩
  · exact .inl h5
  · exact .inr ⟨g, o, ha, fun j hj => below_cell (hc j hj) hb⟩
/-- A row of integers of one's own. -/
def Oi (w : World) (B : Nat) (v : Value) (L : List Int) : Prop := w.ownsRow B 3 1 v L.length (L.map (Value.int .i64))
theorem Oi.shape {w : World} {B : Nat} {v : Value} {L : List Int} (h : Oi w B v L) : ∃ a cap, v = .slice a L.length cap := by
  rcases h.2 with ⟨rfl, e⟩ | ⟨g, cap, cur, rfl, -⟩
  · exact ⟨none, 0, by rw [e]⟩
  · exact ⟨_, _, rfl⟩
theorem Oi.below {w w' : World} {B : Nat} {v : Value} {L : List Int} (h : Oi w B v L) (hb : Below w.heap.size w w') : Oi w' B v L := by
  refine ⟨h.1, ?_⟩
  rcases h.2 with h2 | ⟨g, cap, cur, h1, h2, h3, h4⟩
  · exact .inl h2
  · exact .inr ⟨g, cap, cur, h1, h2, (hb.block g (Array.getElem?_eq_some_iff.1 h3).1).trans h3, h4⟩
theorem Oi.ix {w : World} {B : Nat} {v : Value} {L : List Int} (h : Oi w B v L) : Ix w v L := by
  have h0 := h
  rcases h.2 with ⟨rfl, e⟩ | ⟨g, cap, cur, rfl, h1, h2, h3, h4, -⟩
  · have := List.eq_nil_of_length_eq_zero e
    subst this
    exact ⟨none, 0, rfl, by simp, by simp, fun _ => rfl, .inl rfl⟩
  · refine ⟨_, cap, rfl, h3, h4, (fun h => by cases h), .inr ⟨g, 0, rfl, fun j hj => ?_⟩⟩
    have := World.ownsRow.cells (g := g) h0 rfl j (.int .i64 L[j]) (by simp [hj])
    rwa [add_none] at this
theorem Oi.mono {w : World} {B B' : Nat} {v : Value} {L : List Int} (h : Oi w B v L) (hb : B' ≤ B) : Oi w B' v L := by
  refine ⟨h.1, ?_⟩
  rcases h.2 with h2 | ⟨g, cap, cur, h1, h2, h3⟩
  · exact .inl h2
  · exact .inr ⟨g, cap, cur, h1, by omega, h3⟩
theorem Oi.lt {w : World} {B g n cap : Nat} {L : List Int} (h : Oi w B (.slice (some ⟨g, 0, none⟩) n cap) L) : B ≤ g ∧ g < w.heap.size := World.ownsRow.lt h g rfl
/-- Blocks other than its own may change. -/
theorem Oi.grown {w w' : World} {B : Nat} {row : Option Nat} {v : Value} {L : List Int} (h : Oi w B v L) (hg : w.grownBy w' row) (hne : v.ownBlock = none ∨ v.ownBlock ≠ row) : Oi w' B v L := World.ownsRow.kept h hg hne
theorem Oi.set {w : World} {B g n cap : Nat} {L : List Int} (h : Oi w B (.slice (some ⟨g, 0, none⟩) n cap) L) (k : Nat) (x : Int) :
    Oi (w.setCell ⟨g, k, none⟩ (.int .i64 x)) B (.slice (some ⟨g, 0, none⟩) n cap) (L.set k x) ∧ w.grownBy (w.setCell ⟨g, k, none⟩ (.int .i64 x)) (some g) := by
  obtain ⟨a, c, e⟩ := h.shape
  cases e
  obtain ⟨h1, h2⟩ := World.ownsRow.stored h k (.int .i64 x)
  refine ⟨?_, h2⟩
  unfold Oi
  rw [List.length_set, List.map_set]
  exact h1
theorem Oi.at {w : World} {B g n cap : Nat} {L : List Int} (h : Oi w B (.slice (some ⟨g, 0, none⟩) n cap) L) {k : Nat} (hk : k < L.length) : w.cell? ⟨g, 0 + k, none⟩ = some (.int .i64 L[k]) ∧ w.frozen? ⟨g, 0 + k, none⟩ = false := by
  obtain ⟨a, c, e⟩ := h.shape
  cases e
  have := World.ownsRow.cells (g := g) h rfl k (.int .i64 L[k]) (by simp [hk])
  rw [add_none] at this
  exact ⟨this, World.ownsRow.frozenAt h _⟩
theorem Oi.pos {w : World} {B : Nat} {v : Value} {L : List Int} (h : Oi w B v L) (hl : 0 < L.length) : ∃ g cap, v = .slice (some ⟨g, 0, none⟩) L.length cap ∧ L.length ≤ cap ∧ cap ≤ 9223372036854775807 := by
  rcases h.2 with ⟨rfl, e⟩ | ⟨g, cap, cur, rfl, h1, h2, h3, h4, -⟩
  · omega
  · exact ⟨g, cap, rfl, h3, h4⟩
/-- A row by its places. -/
def ro (n : Nat) (f : Nat → Int) : List Int := (List.range n).map f
theorem ro_len (n : Nat) (f : Nat → Int) : (ro n f).length = n := by simp [ro]
theorem ro_get (n : Nat) (f : Nat → Int) (k : Nat) (h : k < (ro n f).length) : (ro n f)[k] = f k := by simp [ro]
theorem ro_congr {n : Nat} {f g : Nat → Int} (h : ∀ k, k < n → f k = g k) : ro n f = ro n g := by
  unfold ro
  apply List.map_congr_left
  intro k hk
  exact h k (by simpa using hk)
theorem ro_set (n : Nat) (f : Nat → Int) (k : Nat) (x : Int) : (ro n f).set k x = ro n (upd f k x) := by
  apply List.ext_getElem
  · simp [ro]
  · intro i h1 h2
    rw [List.getElem_set, ro_get, ro_get]
    by_cases e : k = i
    · rw [if_pos e, upd, if_pos e.symm]
    · rw [if_neg e, upd, if_neg (fun h => e h.symm)]
theorem ro_va (L : List Int) : L = ro L.length (va L) := by
  apply List.ext_getElem
  · simp [ro]
  · intro i h1 h2
    rw [ro_get, va_eq h1]
/-- A new row of zeros. -/
def mz (n : Nat) : Array Value := madeCells (Value.int .i64 0).cells (n * 1)
theorem mz_list (n : Nat) : (mz n).toList = (ro n fun _ => 0).map (Value.int .i64) := by
  apply List.ext_getElem
  · simp [mz, size_madeCells, ro]
  · intro i h1 h2
    simp [mz, madeCells, ro, Value.cells, Nat.mod_one]
theorem make_ints {n : Nat} (h : n ≤ 17592186044416) (w : World) : (Instr.makeSlice 41 (.int .i64 n) (.int .i64 n)).run Try.prog w = .ok (.slice (some ⟨w.heap.size, 0, none⟩) n n) (w.alloc (.cells (mz n) 3)) := by
  obtain ⟨i0, hi, hz0, hz1, hz2⟩ := info_parts infoI
  have := run_make (P := Try.prog) w 41 3 i0 _ Try.underlying41 hi hz0 .i64 .i64 n n (by omega) (by omega) (by rw [hz2]; omega) (by omega)
  rw [Int.toNat_natCast, hz1] at this
  exact this
theorem oi_made {n : Nat} (h : n ≤ 17592186044416) (w : World) : Oi (w.alloc (.cells (mz n) 3)) w.heap.size (.slice (some ⟨w.heap.size, 0, none⟩) n n) (ro n fun _ => 0) := by
  refine ⟨by simp, .inr ⟨w.heap.size, n, mz n, by rw [ro_len], Nat.le_refl _, heap_alloc_new w _, by rw [ro_len]; exact Nat.le_refl _, by simp [maxLen]; omega, by simp [mz, size_madeCells], ?_⟩⟩
  rw [mz_list, ro_len]
  apply List.take_of_length_le
  simp [ro]
/-- The cells of a new block. -/
theorem new_cells (w : World) (cs : List Value) (t : TypeId) : ∀ j u, cs[j]? = some u → (w.alloc (.cells cs.toArray t)).cell? ((⟨w.heap.size, 0, none⟩ : Addr).add j) = some u := by
  intro j u hu
  rw [add_none, Nat.zero_add]
  have h := heap_alloc_new w (.cells cs.toArray t)
  have e : (w.alloc (.cells cs.toArray t)).cell? ⟨w.heap.size, j, none⟩ = cs.toArray[j]? := by
    unfold World.cell?
    rw [h]
    rfl
  rw [e]
  simpa using hu
theorem oi_nil (w : World) (B : Nat) : Oi w B (.slice none 0 0) [] := World.ownsRow_nil _ _ _ _
end Go.Proofs.Ytgknjjaemjkloaa.IBase

namespace Go.Proofs.Ytgknjjaemjkloaa.CPu
open Go.Proofs.Ytgknjjaemjkloaa.IPure
set_option linter.unusedVariables false

/-- An instruction: Op and A. -/
abbrev Ins := Int × Int
/-- How many values an instruction takes or looks at. -/
def nd (o : Int) : Int := bif decide (o ≤ 6) || (o == 33) then 0 else bif (o == 8) || (decide (12 ≤ o) && decide (o ≤ 28)) then 2 else 1
def fmd (o a : Int) : Bool := bif (o == 4) || ((o == 5) || ((o == 6) || ((o == 7) || ((o == 30) || ((o == 31) || ((o == 32) || (o == 33))))))) then true else bif (o == 9) then decide (1 ≤ a) && decide (a ≤ 8) else (decide (1 ≤ o) && decide (o ≤ 33)) && (a == 0)
def ijp (o : Int) : Bool := decide (30 ≤ o) && decide (o ≤ 33)
def hnm (t d o a : Int) : Bool := bif (o == 5) || (o == 7) then decide (0 ≤ a) && decide (a < t) else bif (o == 6) then decide (0 ≤ a) && decide (a < d) else true
/-- A way leads to k with h values: may it, and the heights behind it. -/
def ldb (H : Nat → Int) (k : Nat) (h : Int) : Bool := bif decide (H k < 0) then true else H k == h
def ld (H : Nat → Int) (k : Nat) (h : Int) : Nat → Int := if H k < 0 then upd H k h else H
def both (H : Nat → Int) (k : Nat) (h : Int) (k' : Nat) (h' : Int) : Option (Nat → Int) := if ldb H k h = true then (if ldb (ld H k h) k' h' = true then some (ld (ld H k h) k' h') else none) else none
def one (H : Nat → Int) (k : Nat) (h : Int) : Option (Nat → Int) := if ldb H k h = true then some (ld H k h) else none
/-- Where an instruction leads to. -/
def lon (H : Nat → Int) (i : Nat) (o a : Int) : Option (Nat → Int) :=
  if H i - nd o < 0 then none
  else if o = 30 ∨ o = 31 then both H a.toNat (H i - nd o + 1) (i + 1) (H i - nd o)
  else if o = 32 then both H a.toNat (H i - nd o) (i + 1) (H i - nd o)
  else if o = 33 then one H a.toNat (H i - nd o)
  else one H (i + 1) (H i - nd o + 1)
/-- One instruction: its fault, or the heights behind it. -/
def fl (n : Nat) (t d : Int) (H : Nat → Int) (i : Nat) (x : Ins) : Except Int (Nat → Int) :=
  if H i < 0 then .error 2001
  else if fmd x.1 x.2 = false then .error 2000
  else if hnm t d x.1 x.2 = false then .error 2003
  else if ijp x.1 = true ∧ (x.2 ≤ i ∨ (n : Int) < x.2) then .error 2002
  else match lon H i x.1 x.2 with
    | none => .error 2001
    | some H' => .ok H'
/-- All of them from number i on. -/
def fls (n : Nat) (t d : Int) : (Nat → Int) → Nat → List Ins → Int
  | H, _, [] => if H n = 1 then 0 else 2001
  | H, i, x :: r => match fl n t d H i x with
    | .error e => e
    | .ok H' => fls n t d H' (i + 1) r
def h0 : Nat → Int := fun k => if k = 0 then 0 else -1
/-- What Check answers. -/
def ck (L : List Ins) (t d : Int) : Int := if 8192 < L.length then 2004 else fls L.length t d h0 0 L
/-- Heights that may be. -/
def Hb (H : Nat → Int) : Prop := ∀ k, -1 ≤ H k ∧ H k ≤ k
theorem hb0 : Hb h0 := fun k => by unfold h0; split <;> omega
theorem ld_hb {H : Nat → Int} (h : Hb H) {k : Nat} {x : Int} (h1 : 0 ≤ x) (h2 : x ≤ k) : Hb (ld H k x) := by
  intro j
  unfold ld
  split
  · unfold upd
    split
    · next e => subst e; omega
    · exact h j
  · exact h j
theorem ld_at {H : Nat → Int} {k : Nat} {x : Int} (h : ldb H k x = true) : ld H k x k = x := by
  unfold ldb at h
  unfold ld
  by_cases hk : H k < 0
  · simp [hk, upd]
  · simp [hk] at h ⊢
    exact h
theorem nd_range (o : Int) : 0 ≤ nd o ∧ nd o ≤ 2 := by
  unfold nd
  cases decide (o ≤ 6) || (o == 33) <;> cases (o == 8) || (decide (12 ≤ o) && decide (o ≤ 28)) <;> simp
theorem both_hb {H H' : Nat → Int} (h : Hb H) {k k' : Nat} {x x' : Int} (h1 : 0 ≤ x) (h2 : x ≤ k) (h3 : 0 ≤ x') (h4 : x' ≤ k') (e : both H k x k' x' = some H') : Hb H' := by
  unfold both at e
  split at e
  · split at e
    · cases e; exact ld_hb (ld_hb h h1 h2) h3 h4
    · cases e
  · cases e
theorem one_hb {H H' : Nat → Int} (h : Hb H) {k : Nat} {x : Int} (h1 : 0 ≤ x) (h2 : x ≤ k) (e : one H k x = some H') : Hb H' := by
  unfold one at e
  split at e
  · cases e; exact ld_hb h h1 h2
  · cases e
theorem nd30 : nd 30 = 1 := by decide
theorem nd31 : nd 31 = 1 := by decide
theorem nd32 : nd 32 = 1 := by decide
theorem nd33 : nd 33 = 0 := by decide
theorem lon_hb {H H' : Nat → Int} (h : Hb H) {i : Nat} {o a : Int} (ha : ijp o = true → (i : Int) < a) (e : lon H i o a = some H') : Hb H' := by
  have hi := h i
  have hn := nd_range o
  have hj : o = 30 ∨ o = 31 ∨ o = 32 ∨ o = 33 → (i : Int) < a := fun hh => ha (by unfold ijp; rcases hh with rfl | rfl | rfl | rfl <;> decide)
  unfold lon at e
  split at e
  · cases e
  · next h1 =>
    split at e
    · next h2 =>
      have hk := hj (by omega)
      have : nd o = 1 := by rcases h2 with rfl | rfl; exact nd30; exact nd31
      exact both_hb h (by omega) (by omega) (by omega) (by omega) e
    · split at e
      · next h2 =>
        have hk := hj (by omega)
        exact both_hb h (by omega) (by omega) (by omega) (by omega) e
      · split at e
        · next h2 =>
          have hk := hj (by omega)
          exact one_hb h (by omega) (by omega) e
        · exact one_hb h (by omega) (by omega) e
theorem fl_hb {n : Nat} {t d : Int} {H H' : Nat → Int} (h : Hb H) {i : Nat} {x : Ins} (e : fl n t d H i x = .ok H') : Hb H' := by
  unfold fl at e
  split at e
  · cases e
  split at e
  · cases e
  split at e
  · cases e
  split at e
  · cases e
  next hj =>
    split at e
    · cases e
    · next hl =>
      cases e
      refine lon_hb h (fun hp => ?_) hl
      exact Int.lt_of_not_ge fun hh => hj ⟨hp, .inl hh⟩
end Go.Proofs.Ytgknjjaemjkloaa.CPu
