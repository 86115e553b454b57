/- Rows of integers: read, and of one's own. -/
import Derived.Test.YtenhljiibfdckaaIPure
import Derived.WalkKit
import Derived.ProofKit
import Derived.Below
import Derived.Laws.AppendOwn
import Derived.Laws.OwnMore
import Derived.Maps.AppendAt
import Derived.LoopTactic
import Derived.LoopN
import Derived.BigQuiet
namespace Go.Proofs.Ytenhljiibfdckaa.IBase
open Go.RowKit Go.Proofs.Ytenhljiibfdckaa.IPure
set_option linter.unusedVariables false

theorem cell_lt {w : World} {a : Addr} {v : Value} (h : w.cell? a = some v) : a.block < w.heap.size := by
  unfold World.cell? at h
  split at h
  · next hh => exact (Array.getElem?_eq_some_iff.1 hh).1
  · cases h
theorem below_cell {w w' : World} {g o : Nat} {u : Value} (h : w.cell? ⟨g, o, none⟩ = some u) (hb : Below w.heap.size w w') : w'.cell? ⟨g, o, none⟩ = some u :=
  (World.cell?_of_block (w := w) (hb.block g (cell_lt h))).trans h
theorem nx {a b c : World} (h : Below a.heap.size a b) (k : Below b.heap.size b c) : Below a.heap.size a c := h.trans (k.mono h.size)
theorem add_none (g o j : Nat) : (⟨g, o, none⟩ : Addr).add j = ⟨g, o + j, none⟩ := by
  unfold Addr.add
  split
  · simp_all
  · rfl
theorem heap_alloc_new (w : World) (o : Obj) : (w.alloc o).heap[w.heap.size]? = some o := by
  show (w.heap.push o)[w.heap.size]? = _
  simp
theorem below_drewN {w wr : World} {k n : Nat} (h : Below k w wr) : Below k w (wr.drewN n) := ⟨h.os, h.tape, h.output, h.size, h.block⟩
theorem infoI : (Try.prog.info? 3).map (fun i => (i.zero, i.size, i.bytes)) = some (some (.int .i64 0), 1, 8) := by kernel_rfl
/-- A row of integers that is read. -/
def Ix (w : World) (v : Value) (L : List Int) : Prop :=
  ∃ a cap, v = .slice a L.length cap ∧ L.length ≤ cap ∧ cap ≤ 9223372036854775807 ∧ (a = none → cap = 0) ∧ (L = [] ∨ ∃ g o, a = some ⟨g, o, none⟩ ∧ ∀ j (h : j < L.length), w.cell? ⟨g, o + j, none⟩ = some (.int .i64 L[j]))
theorem Ix.below {w w' : World} {v : Value} {L : List Int} (h : Ix w v L) (hb : Below w.heap.size w w') : Ix w' v L := by
  obtain ⟨a, cap, h1, h2, h3, h4, h5⟩ := h
  refine ⟨a, cap, h1, h2, h3, h4, ?_⟩
  rcases h5 with h5 | ⟨g, o, ha, hc⟩
  · exact .inl h5
  · exact .inr ⟨g, o, ha, fun j hj => below_cell (hc j hj) hb⟩
/-- A row of integers of one's own. -/
def Oi (w : World) (B : Nat) (v : Value) (L : List Int) : Prop := w.ownsRow B 3 1 v L.length (L.map (Value.int .i64))
theorem Oi.shape {w : World} {B : Nat} {v : Value} {L : List Int} (h : Oi w B v L) : ∃ a cap, v = .slice a L.length cap := by
  rcases h.2 with ⟨rfl, e⟩ | ⟨g, cap, cur, rfl, -⟩
  · exact ⟨none, 0, by rw [e]⟩
  · exact ⟨_, _, rfl⟩
theorem Oi.below {w w' : World} {B : Nat} {v : Value} {L : List Int} (h : Oi w B v L) (hb : Below w.heap.size w w') : Oi w' B v L := by
  refine ⟨h.1, ?_⟩
  rcases h.2 with h2 | ⟨g, cap, cur, h1, h2, h3, h4⟩
  · exact .inl h2
  · exact .inr ⟨g, cap, cur, h1, h2, (hb.block g (Array.getElem?_eq_some_iff.1 h3).1).trans h3, h4⟩
theorem Oi.ix {w : World} {B : Nat} {v : Value} {L : List Int} (h : Oi w B v L) : Ix w v L := by
  have h0 := h
  rcases h.2 with ⟨rfl, e⟩ | ⟨g, cap, cur, rfl, h1, h2, h3, h4, -⟩
  · have := List.eq_nil_of_length_eq_zero e
    subst this
    exact ⟨none, 0, rfl, by simp, by simp, fun _ => rfl, .inl rfl⟩
  · refine ⟨_, cap, rfl, h3, h4, (fun h => by cases h), .inr ⟨g, 0, rfl, fun j hj => ?_⟩⟩
    have := World.ownsRow.cells (g := g) h0 rfl j (.int .i64 L[j]) (by simp [hj])
    rwa [add_none] at this
theorem Oi.mono {w : World} {B B' : Nat} {v : Value} {L : List Int} (h : Oi w B v L) (hb : B' ≤ B) : Oi w B' v L := by
  refine ⟨h.1, ?_⟩
  rcases h.2 with h2 | ⟨g, cap, cur, h1, h2, h3⟩
  · exact .inl h2
  · exact .inr ⟨g, cap, cur, h1, by omega, h3⟩
theorem Oi.lt {w : World} {B g n cap : Nat} {L : List Int} (h : Oi w B (.slice (some ⟨g, 0, none⟩) n cap) L) : B ≤ g ∧ g < w.heap.size := World.ownsRow.lt h g rfl
/-- Blocks other than its own may change. -/
theorem Oi.grown {w w' : World} {B : Nat} {row : Option Nat} {v : Value} {L : List Int} (h : Oi w B v L) (hg : w.grownBy w' row) (hne : v.ownBlock = none ∨ v.ownBlock ≠ row) : Oi w' B v L := World.ownsRow.kept h hg hne
theorem Oi.set {w : World} {B g n cap : Nat} {L : List Int} (h : Oi w B (.slice (some ⟨g, 0, none⟩) n cap) L) (k : Nat) (x : Int) :
    Oi (w.setCell ⟨g, k, none⟩ (.int .i64 x)) B (.slice (some ⟨g, 0, none⟩) n cap) (L.set k x) ∧ w.grownBy (w.setCell ⟨g, k, none⟩ (.int .i64 x)) (some g) := by
  obtain ⟨a, c, e⟩ := h.shape
  cases e
  obtain ⟨h1, h2⟩ := World.ownsRow.stored h k (.int .i64 x)
  refine ⟨?_, h2⟩
  unfold Oi
  rw [List.length_set, List.map_set]
  exact h1
theorem Oi.at {w : World} {B g n cap : Nat} {L : List Int} (h : Oi w B (.slice (some ⟨g, 0, none⟩) n cap) L) {k : Nat} (hk : k < L.length) : w.cell? ⟨g, 0 + k, none⟩ = some (.int .i64 L[k]) ∧ w.frozen? ⟨g, 0 + k, none⟩ = false := by
  obtain ⟨a, c, e⟩ := h.shape
  cases e
  have := World.ownsRow.cells (g := g) h rfl k (.int .i64 L[k]) (by simp [hk])
  rw [add_none] at this
  exact ⟨this, World.ownsRow.frozenAt h _⟩
theorem Oi.pos {w : World} {B : Nat} {v : Value} {L : List Int} (h : Oi w B v L) (hl : 0 < L.length) : ∃ g cap, v = .slice (some ⟨g, 0, none⟩) L.length cap ∧ L.length ≤ cap ∧ cap ≤ 9223372036854775807 := by
  rcases h.2 with ⟨rfl, e⟩ | ⟨g, cap, cur, rfl, h1, h2, h3, h4, -⟩
  · omega
  · exact ⟨g, cap, rfl, h3, h4⟩
/-- A row by its places. -/
def ro (n : Nat) (f : Nat → Int) : List Int := (List.range n).map f
theorem ro_len (n : Nat) (f : Nat → Int) : (ro n f).length = n := by simp [ro]
theorem ro_get (n : Nat) (f : Nat → Int) (k : Nat) (h : k < (ro n f).length) : (ro n f)[k] = f k := by simp [ro]
theorem ro_congr {n : Nat} {f g : Nat → Int} (h : ∀ k, k < n → f k = g k) : ro n f = ro n g := by
  unfold ro
  apply List.map_congr_left
  intro k hk
  exact h k (by simpa using hk)
theorem ro_set (n : Nat) (f : Nat → Int) (k : Nat) (x : Int) : (ro n f).set k x = ro n (upd f k x) := by
  apply List.ext_getElem
  · simp [ro]
  · intro i h1 h2
    rw [List.getElem_set, ro_get, ro_get]
    by_cases e : k = i
    · rw [if_pos e, upd, if_pos e.symm]
    · rw [if_neg e, upd, if_neg (fun h => e h.symm)]
theorem ro_va (L : List Int) : L = ro L.length (va L) := by
  apply List.ext_getElem
  · simp [ro]
  · intro i h1 h2
    rw [ro_get, va_eq h1]
/-- A new row of zeros. -/
def mz (n : Nat) : Array Value := madeCells (Value.int .i64 0).cells (n * 1)
theorem mz_list (n : Nat) : (mz n).toList = (ro n fun _ => 0).map (Value.int .i64) := by
  apply List.ext_getElem
  · simp [mz, size_madeCells, ro]
  · intro i h1 h2
    simp [mz, madeCells, ro, Value.cells, Nat.mod_one]
theorem make_ints {n : Nat} (h : n ≤ 17592186044416) (w : World) : (Instr.makeSlice 30 (.int .i64 n) (.int .i64 n)).run Try.prog w = .ok (.slice (some ⟨w.heap.size, 0, none⟩) n n) (w.alloc (.cells (mz n) 3)) := by
  obtain ⟨i0, hi, hz0, hz1, hz2⟩ := info_parts infoI
  have := run_make (P := Try.prog) w 30 3 i0 _ Try.underlying30 hi hz0 .i64 .i64 n n (by omega) (by omega) (by rw [hz2]; omega) (by omega)
  rw [Int.toNat_natCast, hz1] at this
  exact this
theorem oi_made {n : Nat} (h : n ≤ 17592186044416) (w : World) : Oi (w.alloc (.cells (mz n) 3)) w.heap.size (.slice (some ⟨w.heap.size, 0, none⟩) n n) (ro n fun _ => 0) := by
  refine ⟨by simp, .inr ⟨w.heap.size, n, mz n, by rw [ro_len], Nat.le_refl _, heap_alloc_new w _, by rw [ro_len]; exact Nat.le_refl _, by simp [maxLen]; omega, by simp [mz, size_madeCells], ?_⟩⟩
  rw [mz_list, ro_len]
  apply List.take_of_length_le
  simp [ro]
/-- The cells of a new block. -/
theorem new_cells (w : World) (cs : List Value) (t : TypeId) : ∀ j u, cs[j]? = some u → (w.alloc (.cells cs.toArray t)).cell? ((⟨w.heap.size, 0, none⟩ : Addr).add j) = some u := by
  intro j u hu
  rw [add_none, Nat.zero_add]
  have h := heap_alloc_new w (.cells cs.toArray t)
  have e : (w.alloc (.cells cs.toArray t)).cell? ⟨w.heap.size, j, none⟩ = cs.toArray[j]? := by
    unfold World.cell?
    rw [h]
    rfl
  rw [e]
  simpa using hu
theorem oi_nil (w : World) (B : Nat) : Oi w B (.slice none 0 0) [] := World.ownsRow_nil _ _ _ _
end Go.Proofs.Ytenhljiibfdckaa.IBase
