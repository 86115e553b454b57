/- Expressions: a name in so many parentheses, behind so many signs (no walk). -/
import Derived.Test.YtofpdnhnlkocoaaDoorPX04
namespace Go.Proofs.YtofpdnhnlkocoaaDoor.ENst
open Go.Proofs.YtofpdnhnlkocoaaDoor.EPure
set_option linter.unusedVariables false

def wrp (q : Nat) (x : List UInt8) : List UInt8 := if q = 0 then [40] ++ x ++ [41] else if q = 1 then [45] ++ x else if q = 2 then [98, 91] ++ x ++ [93] else [99, 32, 63, 32, 98, 32, 58, 32] ++ x
/-- The text of kind q, wrapped k times. -/
def nst (q : Nat) : Nat → List UInt8
  | 0 => [97]
  | k + 1 => wrp q (nst q k)
def okk (k : Nat) (t : List UInt8) : Bool := match prs ⟨t.toArray⟩ with
  | .ok _ => decide (k < 32)
  | .error (c, a) => decide (32 ≤ k) && (c == 1001 && (decide (0 < a) && decide (a < t.length)))
def run (q b n : Nat) : Bool := (List.range n).all fun d => okk (b + d) (nst q (b + d))
theorem of_run {q b n k : Nat} (h : run q b n = true) (h1 : b ≤ k) (h2 : k < b + n) : okk k (nst q k) = true := by
  have := List.all_eq_true.1 h (k - b) (List.mem_range.2 (by omega))
  rwa [show b + (k - b) = k by omega] at this
theorem nst_len (q : Nat) : ∀ k, (nst q k).length ≤ 8 * k + 1
  | 0 => by simp [nst]
  | k + 1 => by
    have := nst_len q k
    rw [nst, wrp]
    split
    · simp; omega
    split
    · simp; omega
    split
    · simp; omega
    · simp; omega
end Go.Proofs.YtofpdnhnlkocoaaDoor.ENst
