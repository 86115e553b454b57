import Derived.Test.YtaiackmmmlhgbaaGreatProg
set_option linter.unusedVariables false
namespace Go.Proofs.YtaiackmmmlhgbaaGreat.IPure
def upd {α : Type} (f : Nat -> α) (k : Nat) (x : α) : Nat -> α := fun j => if j = k then x else f j
end Go.Proofs.YtaiackmmmlhgbaaGreat.IPure
