/- What is written of a value, and its key: contracts of Text and KeyOf, the program's and the document's. -/
import Derived.Test.YthjbknncbhkinaaGreatDoorDigits
import Derived.Laws.ResultCell
namespace Go.Proofs.YthjbknncbhkinaaGreatDoor.TextKey
open Go.RowKit Go.Proofs.YthjbknncbhkinaaGreatDoor.Base Go.Proofs.YthjbknncbhkinaaGreatDoor.Digits
set_option linter.unusedVariables false

def tx : C → ByteArray
  | .mk k b i s _ _ => if k = 1 then ⟨#[]⟩ else if k = 2 then (if b = true then ⟨#[116, 114, 117, 101]⟩ else ⟨#[102, 97, 108, 115, 101]⟩) else if k = 3 then ⟨(Lib.itoa i).toArray⟩ else if k = 4 then s else ⟨#[]⟩
def te : C → Int
  | .mk k _ _ _ _ _ => if k = 1 ∨ k = 2 ∨ k = 3 ∨ k = 4 then 0 else 504
def kk : C → Int
  | .mk k _ _ _ _ _ => if k = 3 ∨ k = 4 then k else 0
def ki : C → Int
  | .mk k _ i _ _ _ => if k = 3 then i else 0
def ks : C → ByteArray
  | .mk k _ _ s _ _ => if k = 4 then s else ⟨#[]⟩
def ke : C → Int
  | .mk k _ _ _ _ _ => if k = 3 ∨ k = 4 then 0 else 505
theorem text_c {m : Nat} {v : Value} {c : C} {w : World} (h : In false All w m v c) (ht : Tab w) :
    Calls Tryz.prog 148 #[v] w fun e w' => e = .returned (.tuple #[.string (tx c), .int .i64 (te c)]) ∧ Below w.heap.size w w' := by
  obtain ⟨m', nv, lv, -, rfl, -, hi, -, -, -⟩ := h.shape
  clear h
  obtain ⟨k, b, i, s, n, l⟩ := c
  simp only [C.k, C.b, C.i, C.s] at *
  have hb : Below w.heap.size w (w.alloc (.cells #[.int .i64 k, .bool b, .int .i64 i, .string s, nv, lv] 46)) := (Below.refl _ w).alloc (Nat.le_refl _) _
  have c46 := text i hi.1 hi.2 (w.alloc (.cells #[.int .i64 k, .bool b, .int .i64 i, .string s, nv, lv] 46)) (ht.later hb)
  by_cases h1 : k = 1
  · subst h1
    go_enter Tryz.func148, Tryz.ntmps148
    go_wp2_with fail
    go_ret2
    exact ⟨rfl, hb⟩
  by_cases h2 : k = 2
  · subst h2
    cases b
    · go_enter Tryz.func148, Tryz.ntmps148
      go_wp2_with fail
      go_ret2
      exact ⟨rfl, hb⟩
    · go_enter Tryz.func148, Tryz.ntmps148
      go_wp2_with fail
      go_ret2
      exact ⟨rfl, hb⟩
  by_cases h3 : k = 3
  · subst h3
    go_enter Tryz.func148, Tryz.ntmps148
    go_wp2_with (first | (go_at_call 154; refine c46.mono ?_; rintro e w1 ⟨rfl, b1⟩))
    go_ret2
    exact ⟨rfl, nx hb b1⟩
  by_cases h4 : k = 4
  · subst h4
    go_enter Tryz.func148, Tryz.ntmps148
    go_wp2_with fail
    go_ret2
    exact ⟨rfl, hb⟩
  have e1 : tx (.mk k b i s n l) = ⟨#[]⟩ := by simp [tx, h1, h2, h3, h4]
  have e2 : te (.mk k b i s n l) = 504 := by simp [te, h1, h2, h3, h4]
  rw [e1, e2]
  have h1' : (k == 1) = false := by simp [h1]
  have h2' : (k == 2) = false := by simp [h2]
  have h3' : (k == 3) = false := by simp [h3]
  have h4' : (k == 4) = false := by simp [h4]
  go_enter Tryz.func148, Tryz.ntmps148
  go_wp2_with fail
  go_ret2
  exact ⟨rfl, hb⟩
end Go.Proofs.YthjbknncbhkinaaGreatDoor.TextKey
