/- Leaving a switch out of many blocks, a layer at a time. -/
import Derived.Test.YtpaigpijaifeoaaGreatDoorVIn
import Derived.Deep.CutRange
namespace Go.Proofs.YtpaigpijaifeoaaGreatDoor.VEx
open Go.RowKit
set_option linter.unusedVariables false

theorem ex_then {K : Act → World → Prop} {Q : Exit → Act → World → Prop} {n : Nat} {a : Act} {w : World} (h : Q (.exit n) a w) : Exit.then K Q (.exit n) a w := h
theorem ex_skip {m n : Nat} {Q : Exit → Act → World → Prop} {a : Act} {w : World} (hn : ¬ n = m) (h : Q (.exit n) a w) : Exit.inBlock m Q (.exit n) a w := by
  show (if n = m then Q .normal a w else Q (.exit n) a w)
  rw [if_neg hn]
  exact h
theorem ex_hit {n : Nat} {Q : Exit → Act → World → Prop} {a : Act} {w : World} (h : Q .normal a w) : Exit.inBlock n Q (.exit n) a w := by
  show (if n = n then Q .normal a w else Q (.exit n) a w)
  rw [if_pos rfl]
  exact h
theorem ex_norm {K : Act → World → Prop} {Q : Exit → Act → World → Prop} {a : Act} {w : World} (h : K a w) : Exit.then K Q .normal a w := h
theorem rt_then {K : Act → World → Prop} {Q : Exit → Act → World → Prop} {a : Act} {w : World} (h : Q .ret a w) : Exit.then K Q .ret a w := h
theorem rt_blk {m : Nat} {Q : Exit → Act → World → Prop} {a : Act} {w : World} (h : Q .ret a w) : Exit.inBlock m Q .ret a w := h
theorem pn_then {K : Act → World → Prop} {Q : Exit → Act → World → Prop} {c : List PanicEntry} {a : Act} {w : World} (h : Q (.panic c) a w) : Exit.then K Q (.panic c) a w := h
theorem pn_blk {m : Nat} {Q : Exit → Act → World → Prop} {c : List PanicEntry} {a : Act} {w : World} (h : Q (.panic c) a w) : Exit.inBlock m Q (.panic c) a w := h
/-- Only by returning or by a panic. -/
def Out (B : Exit → Act → World → Prop) : Exit → Act → World → Prop
  | .ret, a, w => B .ret a w
  | .panic c, a, w => B (.panic c) a w
  | _, _, _ => False
theorem out_mono {B Q : Exit → Act → World → Prop} (hr : ∀ a w, B .ret a w → Q .ret a w) (hp : ∀ c a w, B (.panic c) a w → Q (.panic c) a w) : ∀ e a w, Out B e a w → Q e a w := by
  intro e a w h
  cases e with
  | ret => exact hr a w h
  | panic c => exact hp c a w h
  | _ => exact h.elim
theorem out_ret {P : Program} {fn : Func} {R : Ending → World → Prop} {a : Act} {w : World} {v : Value} (hr : (results fn a.tmps).run P w = .ok v w) (hd : a.defers = []) (hR : R (.returned v) w) : Out (bodyPost P fn R) .ret a w := bodyPost_ret hr hd hR
end Go.Proofs.YtpaigpijaifeoaaGreatDoor.VEx
