/- Two kids made neighbours: contract of join. -/
import Derived.Test.YtnpamcgbnimdkaaDBase
namespace Go.Proofs.Ytnpamcgbnimdkaa.DJoin
open Go.RowKit Go.Proofs.Ytnpamcgbnimdkaa.TBase Go.Proofs.Ytnpamcgbnimdkaa.DBase
set_option linter.unusedVariables false

/-- What join makes of the cells. -/
def j1 (c : Nat → Nd) (p : Nat) (a b : Option Nat) : Nat → Nd := match a with
  | none => up c p { c p with fi := b }
  | some k => up c k { c k with ne := b }
def j2 (c : Nat → Nd) (p : Nat) (a b : Option Nat) : Nat → Nd := match b with
  | none => up c p { c p with la := a }
  | some k => up c k { c k with pr := a }
def jn (c : Nat → Nd) (p : Nat) (a b : Option Nat) : Nat → Nd := j2 (j1 c p a b) p a b
def Ok (n : Nat) (a : Option Nat) : Prop := ∀ k, a = some k → k < n

set_option maxRecDepth 20000 in
theorem join_c {w : World} {p gc n : Nat} {fv : Value} {q : Nat → Int} {c : Nat → Nd} (hb : Bx w p gc n fv q) (hc : Cr w gc n c) (x : Nat) (a b : Option Nat) (hx : x < n) (ha : Ok n a) (hbb : Ok n b) (hn : n ≤ 8192) :
    Calls Try.prog 74 #[.pointer (some ⟨p, 0, none⟩), .int .i64 x, .int .i64 (en a), .int .i64 (en b)] w fun e w' => (∃ r, e = .returned r) ∧ Cr w' gc n (jn c x a b) ∧ w.grownBy w' (some gc) := by
  have hne := ne_of hb hc
  have hne2 : gc ≠ p := fun e => hne e.symm
  have k0 := hb.at0
  cases a with
  | none =>
    cases b with
    | none =>
      have h1 : Cr (w.setCell ⟨gc, x * 9 + 5, none⟩ (.int .i64 (-1))) gc n (j1 c x none none) := hc.sfi hx none
      have h2 : Cr ((w.setCell ⟨gc, x * 9 + 5, none⟩ (.int .i64 (-1))).setCell ⟨gc, x * 9 + 6, none⟩ (.int .i64 (-1))) gc n (jn c x none none) := h1.sla hx none
      have g5 := hc.at hx (k := 5) (by omega)
      have f5 := hc.frozen (x * 9 + 5)
      have g6 := h1.at hx (k := 6) (by omega)
      have f6 := h1.frozen (x * 9 + 6)
      have k1 := (hb.keep (w' := w.setCell ⟨gc, x * 9 + 5, none⟩ (.int .i64 (-1))) (heap_setCell_other w ⟨gc, _, none⟩ p _ hne)).at0
      have H2 : Hid (Cr _ _ _ _) := h2
      clear h1 h2 hc hb
      simp only [en_none]
      go_enter Try.func74, Try.ntmps74
      go_wp2_with fail
      go_end0
      exact ⟨⟨_, rfl⟩, H2.out, grown_set (grown_set (World.grownBy.refl _ _) _ _) _ _⟩
    | some kb =>
      have h1 : Cr (w.setCell ⟨gc, x * 9 + 5, none⟩ (.int .i64 (kb : Int))) gc n (j1 c x none (some kb)) := hc.sfi hx (some kb)
      have h2 : Cr ((w.setCell ⟨gc, x * 9 + 5, none⟩ (.int .i64 (kb : Int))).setCell ⟨gc, kb * 9 + 7, none⟩ (.int .i64 (-1))) gc n (jn c x none (some kb)) := h1.spr (hbb kb rfl) none
      have g5 := hc.at hx (k := 5) (by omega)
      have f5 := hc.frozen (x * 9 + 5)
      have g6 := h1.at (hbb kb rfl) (k := 7) (by omega)
      have f6 := h1.frozen (kb * 9 + 7)
      have k1 := (hb.keep (w' := w.setCell ⟨gc, x * 9 + 5, none⟩ (.int .i64 (kb : Int))) (heap_setCell_other w ⟨gc, _, none⟩ p _ hne)).at0
      have H2 : Hid (Cr _ _ _ _) := h2
      have eb : ((kb : Int) == -1) = false := by simp
      have rb := hbb kb rfl
      clear h1 h2 hc hb
      simp only [en_none, en_some]
      go_enter Try.func74, Try.ntmps74
      go_wp2_with fail
      go_end0
      exact ⟨⟨_, rfl⟩, H2.out, grown_set (grown_set (World.grownBy.refl _ _) _ _) _ _⟩
  | some ka =>
    cases b with
    | none =>
      have h1 : Cr (w.setCell ⟨gc, ka * 9 + 8, none⟩ (.int .i64 (-1))) gc n (j1 c x (some ka) none) := hc.sne (ha ka rfl) none
      have h2 : Cr ((w.setCell ⟨gc, ka * 9 + 8, none⟩ (.int .i64 (-1))).setCell ⟨gc, x * 9 + 6, none⟩ (.int .i64 (ka : Int))) gc n (jn c x (some ka) none) := h1.sla hx (some ka)
      have g5 := hc.at (ha ka rfl) (k := 8) (by omega)
      have f5 := hc.frozen (ka * 9 + 8)
      have g6 := h1.at hx (k := 6) (by omega)
      have f6 := h1.frozen (x * 9 + 6)
      have k1 := (hb.keep (w' := w.setCell ⟨gc, ka * 9 + 8, none⟩ (.int .i64 (-1))) (heap_setCell_other w ⟨gc, _, none⟩ p _ hne)).at0
      have H2 : Hid (Cr _ _ _ _) := h2
      have ea : ((ka : Int) == -1) = false := by simp
      have ra := ha ka rfl
      clear h1 h2 hc hb
      simp only [en_none, en_some]
      go_enter Try.func74, Try.ntmps74
      go_wp2_with fail
      go_end0
      exact ⟨⟨_, rfl⟩, H2.out, grown_set (grown_set (World.grownBy.refl _ _) _ _) _ _⟩
    | some kb =>
      have h1 : Cr (w.setCell ⟨gc, ka * 9 + 8, none⟩ (.int .i64 (kb : Int))) gc n (j1 c x (some ka) (some kb)) := hc.sne (ha ka rfl) (some kb)
      have h2 : Cr ((w.setCell ⟨gc, ka * 9 + 8, none⟩ (.int .i64 (kb : Int))).setCell ⟨gc, kb * 9 + 7, none⟩ (.int .i64 (ka : Int))) gc n (jn c x (some ka) (some kb)) := h1.spr (hbb kb rfl) (some ka)
      have g5 := hc.at (ha ka rfl) (k := 8) (by omega)
      have f5 := hc.frozen (ka * 9 + 8)
      have g6 := h1.at (hbb kb rfl) (k := 7) (by omega)
      have f6 := h1.frozen (kb * 9 + 7)
      have k1 := (hb.keep (w' := w.setCell ⟨gc, ka * 9 + 8, none⟩ (.int .i64 (kb : Int))) (heap_setCell_other w ⟨gc, _, none⟩ p _ hne)).at0
      have H2 : Hid (Cr _ _ _ _) := h2
      have ea : ((ka : Int) == -1) = false := by simp
      have ra := ha ka rfl
      have eb : ((kb : Int) == -1) = false := by simp
      have rb := hbb kb rfl
      clear h1 h2 hc hb
      simp only [en_some]
      go_enter Try.func74, Try.ntmps74
      go_wp2_with fail
      go_end0
      exact ⟨⟨_, rfl⟩, H2.out, grown_set (grown_set (World.grownBy.refl _ _) _ _) _ _⟩
end Go.Proofs.Ytnpamcgbnimdkaa.DJoin
