/- Rows of instructions lent, kept, compared: contracts of CopyInsts, SameInsts, LendInsts, KeptInsts. -/
import Derived.Test.YtpaigpijaifeoaaGreatDoorCBx
import Derived.DeepKeys4
import Derived.Laws.StructEq
import Derived.Deep.RegionHeld3
namespace Go.Proofs.YtpaigpijaifeoaaGreatDoor.CIn
open Go.RowKit Go.Proofs.YtpaigpijaifeoaaGreatDoor.IPure Go.Proofs.YtpaigpijaifeoaaGreatDoor.IBase Go.Proofs.YtpaigpijaifeoaaGreatDoor.CPu Go.Proofs.YtpaigpijaifeoaaGreatDoor.CBx
set_option linter.unusedVariables false

def iv (x : Ins) : Value := .agg #[.int .i64 x.1, .int .i64 x.2]
def Ok (x : Ins) : Prop := (Lit.int .i64 x.1).wf = true ∧ (Lit.int .i64 x.2).wf = true
theorem cellsI : Tryz.prog.cellsOf 78 = 2 := by kernel_rfl
theorem cells3 : Tryz.prog.cellsOf 3 = 1 := by kernel_rfl
theorem lits_of {x : Ins} (h : Ok x) : Tryz.prog.keyLits 2 78 (iv x).cells.toList = some [.int .i64 x.1, .int .i64 x.2] := by
  simp [Program.keyLits, Tryz.underlying78, Tryz.underlying3, cellsI, cells3, iv, Value.cells, h.1, h.2]
theorem formed_iv (x : Ins) : (iv x).formed Tryz.prog 78 = true := by
  simp [iv, Value.formed, Tryz.underlying78, cellsI]
theorem eq_same {x : Ins} (hx : Ok x) (w : World) : (Op.equal 78 (iv x) (iv x)).run Tryz.prog w = .ok true w := by
  obtain ⟨r, hr, hiff⟩ := run_equalIn_deep (P := Tryz.prog) 9997 3 78 (by kernel_rfl) w 2 2 (iv x) (iv x) _ _ (formed_iv x) (formed_iv x) (lits_of hx) (lits_of hx)
  have e : r = true := hiff.2 rfl
  rw [← e]
  exact hr
theorem guard_no : Tryz.prog.eqGuardType Tryz.prog.depth 78 = false := by kernel_rfl
theorem guard_ins (op : BinOp) (xo yo : Operand) (k0 k1 x0 x1 : Int) (w : World) : (eqGuard op 78 xo yo (.agg #[.int .i64 k0, .int .i64 k1]) (.agg #[.int .i64 x0, .int .i64 x1])).run Tryz.prog w = .ok () w := by
  unfold eqGuard
  cases op <;> simp [go_sem]
theorem bin_eq {x0 x1 : Int} (hx : Ok (x0, x1)) (w : World) : (binOp .eql 78 (.agg #[.int .i64 x0, .int .i64 x1]) (.agg #[.int .i64 x0, .int .i64 x1])).run Tryz.prog w = .ok (.bool true) w := by
  have h := eq_same hx w
  unfold iv at h
  simp [binOp, h]
theorem bin_ne {x0 x1 : Int} (hx : Ok (x0, x1)) (w : World) : (binOp .neq 78 (.agg #[.int .i64 x0, .int .i64 x1]) (.agg #[.int .i64 x0, .int .i64 x1])).run Tryz.prog w = .ok (.bool false) w := by
  have h := eq_same hx w
  unfold iv at h
  simp [binOp, h]
def OkL (L : List Ins) : Prop := (∀ x ∈ L, Ok x) ∧ L.length + 2 ≤ 8796093022208
def flat (L : List Ins) : List Value := L.flatMap fun x => [.int .i64 x.1, .int .i64 x.2]
theorem flat_append (a b : List Ins) : flat (a ++ b) = flat a ++ flat b := by simp [flat]
theorem flat_len (L : List Ins) : (flat L).length = L.length * 2 := by
  induction L with
  | nil => rfl
  | cons t L ih =>
    simp only [flat, List.flatMap_cons, List.length_append, List.length_cons] at ih ⊢
    rw [ih]
    simp
    omega
theorem flat_get (L : List Ins) : ∀ (j : Nat) (hj : j < L.length), (flat L)[j * 2]? = some (.int .i64 L[j].1) ∧ (flat L)[j * 2 + 1]? = some (.int .i64 L[j].2) := by
  induction L with
  | nil => intro j hj; simp at hj
  | cons t L ih =>
    intro j hj
    have e : flat (t :: L) = [.int .i64 t.1, .int .i64 t.2] ++ flat L := by simp [flat]
    rw [e]
    cases j with
    | zero => simp
    | succ j =>
      rw [List.getElem?_append_right (by simp; omega), List.getElem?_append_right (by simp; omega)]
      have h := ih j (by simpa using hj)
      simp only [List.length_cons, List.length_nil]
      rw [show (j + 1) * 2 - (0 + 1 + 1) = j * 2 by omega, show (j + 1) * 2 + 1 - (0 + 1 + 1) = j * 2 + 1 by omega]
      exact h
theorem one_ins (L : List Ins) : ∀ u ∈ flat L, u.oneCell' = true := by
  intro u hu
  obtain ⟨t, _, h⟩ := List.mem_flatMap.1 hu
  simp at h
  rcases h with rfl | rfl <;> rfl
theorem infoN : (Tryz.prog.info? 78).map (fun i => (i.zero, i.size, i.bytes)) = some (some (.agg #[.int .i64 0, .int .i64 0]), 2, 16) := by kernel_rfl
/-- A row of instructions of one's own. -/
def Oc (w : World) (B : Nat) (v : Value) (L : List Ins) : Prop := w.ownsRow B 78 2 v L.length (flat L)
def room : Ins := (-7, 0)
/-- A row that was lent: with marked room behind it. -/
def Lk (B : Nat) (w : World) (v : Value) (L : List Ins) : Prop := ∃ g cap, v = .slice (some ⟨g, 0, none⟩) L.length cap ∧ B ≤ g ∧ g < w.heap.size ∧ L.length + 2 ≤ cap ∧ cap ≤ 9223372036854775807 ∧
  (∀ j (h : j < L.length), w.cell? ⟨g, 0 + j * 2, none⟩ = some (.int .i64 L[j].1) ∧ w.cell? ⟨g, 0 + j * 2 + 1, none⟩ = some (.int .i64 L[j].2)) ∧
  (w.cell? ⟨g, L.length * 2, none⟩ = some (.int .i64 (-7)) ∧ w.cell? ⟨g, L.length * 2 + 1, none⟩ = some (.int .i64 0)) ∧ w.cell? ⟨g, (L.length + 1) * 2, none⟩ = some (.int .i64 (-7)) ∧ w.cell? ⟨g, (L.length + 1) * 2 + 1, none⟩ = some (.int .i64 0)
theorem Lk.cx {B : Nat} {w : World} {v : Value} {L : List Ins} (h : Lk B w v L) : Cx w.heap.size w v L := by
  obtain ⟨g, cap, rfl, -, hg, h1, h2, h3, -⟩ := h
  exact ⟨_, cap, rfl, by omega, h2, (fun h => by cases h), .inr ⟨g, 0, rfl, hg, h3⟩⟩
theorem Lk.below {B : Nat} {w w' : World} {v : Value} {L : List Ins} (h : Lk B w v L) (hb : Below w.heap.size w w') : Lk B w' v L := by
  obtain ⟨g, cap, rfl, h0, hg, h1, h2, h3, h4, h5⟩ := h
  have := hb.size
  exact ⟨g, cap, rfl, h0, by omega, h1, h2, fun j hj => ⟨below_cell (h3 j hj).1 hb, below_cell (h3 j hj).2 hb⟩, ⟨below_cell h4.1 hb, below_cell h4.2 hb⟩, below_cell h5.1 hb, below_cell h5.2 hb⟩
theorem ok_room : Ok (-7, 0) := ⟨by decide, by decide⟩
end Go.Proofs.YtpaigpijaifeoaaGreatDoor.CIn
