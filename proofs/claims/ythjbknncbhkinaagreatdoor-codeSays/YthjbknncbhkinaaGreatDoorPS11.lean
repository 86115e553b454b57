import Derived.Deep.RegionHeld3
import Derived.DeepKeys4
import Derived.Laws.StructEq
import Derived.Test.YthjbknncbhkinaaGreatDoorPS10
open Go.Proofs.Tryz
set_option linter.unusedVariables false
namespace Go.Proofs.YthjbknncbhkinaaGreatDoor.CIn
open Go.RowKit CPu
def Ok (x : Ins) : Prop := (Lit.int .i64 x.1).wf = true /\ (Lit.int .i64 x.2).wf = true
def OkL (L : List Ins) : Prop := (∀ x ∈ L, Ok x) /\ L.length + 2 <= 8796093022208
def flat (L : List Ins) : List Value := L.flatMap fun x => [.int .i64 x.1, .int .i64 x.2]
theorem flat_append (a b : List Ins) : flat (a ++ b) = flat a ++ flat b := by simp [flat]
theorem flat_len (L : List Ins) : (flat L).length = L.length * 2 := by
 induction L with
 | nil => rfl
 | cons t L ih =>
  simp only [flat, List.flatMap_cons, List.length_append, List.length_cons] at ih ⊢
  rw [ih]
  simp
  omega
theorem flat_get (L : List Ins) : ∀ (j : Nat) (hj : j < L.length), (flat L)[j * 2]? = some (.int .i64 L[j].1) /\ (flat L)[j * 2 + 1]? = some (.int .i64 L[j].2) := by
 induction L with
 | nil => intro j hj; simp at hj
 | cons t L ih =>
  intro j hj
  have e : flat (t :: L) = [.int .i64 t.1, .int .i64 t.2] ++ flat L := by simp [flat]
  rw [e]
  cases j with
  | zero => simp
  | succ j =>
   rw [List.getElem?_append_right (by simp; omega), List.getElem?_append_right (by simp; omega)]
   have h := ih j (by simpa using hj)
   simp only [List.length_cons, List.length_nil]
   rw [show (j + 1) * 2 - (0 + 1 + 1) = j * 2 by omega, show (j + 1) * 2 + 1 - (0 + 1 + 1) = j * 2 + 1 by omega]
   exact h
theorem one_ins (L : List Ins) : ∀ u ∈ flat L, u.oneCell' = true := by
 intro u hu
 obtain ⟨t, _, h⟩ := List.mem_flatMap.1 hu
 simp at h
 rcases h with rfl | rfl <;> rfl
theorem infoN : (prog.info? 57).map (fun i => (i.zero, i.size, i.bytes)) = some (some (.agg #[.int .i64 0, .int .i64 0]), 2, 16) := by kernel_rfl
def Oc (w : World) (B : Nat) (v : Value) (L : List Ins) : Prop := w.ownsRow B 57 2 v L.length (flat L)
end Go.Proofs.YthjbknncbhkinaaGreatDoor.CIn
