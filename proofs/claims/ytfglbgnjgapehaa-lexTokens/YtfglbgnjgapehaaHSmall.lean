/- Contracts of the small functions: entity, the program's and the document's; Num. -/
import Derived.Test.YtfglbgnjgapehaaHBase
namespace Go.Proofs.Ytfglbgnjgapehaa.HSmall
open Go.ChangeShapes Go.WideShapes Go.ChangeAt Go.RowKit Go.Proofs.Ytfglbgnjgapehaa.HBase
set_option linter.unusedVariables false

theorem num_c (a : Int) (w : World) :
    Calls Try.prog 9 #[.int .i64 a] w fun r w' => r = .returned (.int .i64 a) ∧ w' = w := by
  go_enter Try.func9, Try.ntmps9
  go_wp2
  go_ret
  exact ⟨rfl, rfl⟩
theorem entity_c (a : Int) (c : Nat) (h : a = c) (w : World) :
    Calls Try.prog 35 #[.int .u8 a] w fun r w' => r = .returned (.string (entB c)) ∧ w' = w := by
  subst h
  by_cases h38 : c = 38
  · subst h38
    go_enter Try.func35, Try.ntmps35
    go_wp2
    go_ret
    exact ⟨rfl, rfl⟩
  by_cases h60 : c = 60
  · subst h60
    go_enter Try.func35, Try.ntmps35
    go_wp2
    go_ret
    exact ⟨rfl, rfl⟩
  by_cases h62 : c = 62
  · subst h62
    go_enter Try.func35, Try.ntmps35
    go_wp2
    go_ret
    exact ⟨rfl, rfl⟩
  by_cases h123 : c = 123
  · subst h123
    go_enter Try.func35, Try.ntmps35
    go_wp2
    go_ret
    exact ⟨rfl, rfl⟩
  by_cases h34 : c = 34
  · subst h34
    go_enter Try.func35, Try.ntmps35
    go_wp2
    go_ret
    exact ⟨rfl, rfl⟩
  have e : entB c = ⟨#[]⟩ := by rw [entB, ent_none h38 h60 h62 h123 h34]
  rw [e]
  have i38 : ((c : Int) == 38) = false := by simp; omega
  have i60 : ((c : Int) == 60) = false := by simp; omega
  have i62 : ((c : Int) == 62) = false := by simp; omega
  have i123 : ((c : Int) == 123) = false := by simp; omega
  have i34 : ((c : Int) == 34) = false := by simp; omega
  go_enter Try.func35, Try.ntmps35
  go_wp2
  go_ret
  exact ⟨rfl, rfl⟩
/-- The document's entity of a byte. -/
def rentB (c : Nat) (q : Bool) : ByteArray := if c = 34 ∧ q = false then ⟨#[]⟩ else entB c
theorem rentity_c (a : Int) (c : Nat) (h : a = c) (q : Bool) (w : World) :
    Calls Try.prog 64 #[.int .u8 a, .bool q] w fun r w' => r = .returned (.string (rentB c q)) ∧ w' = w := by
  subst h
  by_cases h38 : c = 38
  · subst h38
    go_enter Try.func64, Try.ntmps64
    go_wp2
    go_ret
    exact ⟨rfl, rfl⟩
  by_cases h60 : c = 60
  · subst h60
    go_enter Try.func64, Try.ntmps64
    go_wp2
    go_ret
    exact ⟨rfl, rfl⟩
  by_cases h62 : c = 62
  · subst h62
    go_enter Try.func64, Try.ntmps64
    go_wp2
    go_ret
    exact ⟨rfl, rfl⟩
  by_cases h123 : c = 123
  · subst h123
    go_enter Try.func64, Try.ntmps64
    go_wp2
    go_ret
    exact ⟨rfl, rfl⟩
  by_cases h34 : c = 34
  · subst h34
    cases q
    · go_enter Try.func64, Try.ntmps64
      go_wp2
      go_ret
      exact ⟨rfl, rfl⟩
    · go_enter Try.func64, Try.ntmps64
      go_wp2
      go_ret
      exact ⟨rfl, rfl⟩
  have e : rentB c q = ⟨#[]⟩ := by rw [rentB, entB, ent_none h38 h60 h62 h123 h34]; simp
  rw [e]
  have i38 : ((c : Int) == 38) = false := by simp; omega
  have i60 : ((c : Int) == 60) = false := by simp; omega
  have i62 : ((c : Int) == 62) = false := by simp; omega
  have i123 : ((c : Int) == 123) = false := by simp; omega
  have i34 : ((c : Int) == 34) = false := by simp; omega
  go_enter Try.func64, Try.ntmps64
  go_wp2
  go_ret
  exact ⟨rfl, rfl⟩
end Go.Proofs.Ytfglbgnjgapehaa.HSmall
