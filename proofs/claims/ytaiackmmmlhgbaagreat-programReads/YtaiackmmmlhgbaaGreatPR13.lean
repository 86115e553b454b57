import Derived.Deep.RegionHeld3
import Derived.Test.YtaiackmmmlhgbaaGreatPR05
import Derived.Test.YtaiackmmmlhgbaaGreatPR10
set_option linter.unusedVariables false
namespace Go.Proofs.YtaiackmmmlhgbaaGreat.ZQd
open Go.RowKit YRr
section
variable {P : Program} {ops : Array Oper} {o : Oper} {y : Act} {K : Act -> World -> Prop} {Q : Exit -> Act -> World -> Prop} {E : Prop} {w : World}
theorem step_any (hgd : o.guard = none) (x z : Operand) (t : TypeId) (ho : o.op = .call { callee := .builtin .append, args := #[x, z], argTypes := #[t, t] })
    (base : Nat) (e : TypeId) (i : TypeInfo) (zv : Value) (size bytes : Nat) (ht : P.underlying t = some (.slice e)) (hi : P.info? e = some i) (hz : i.zero = some zv)
    (hsize : i.size = size) (hby : i.bytes = bytes) (hzs : zv.cells.size = size) (hsz : 0 < size)
    (v : Value) (n : Nat) (xs : List Value) (hx : y.eval x = v) (hown : w.ownsRow base e size v n xs)
    (ad : Addr) (c : Nat) (news : List Value) (hzz : y.eval z = .slice (some ad) 1 c) (hl : news.length = 1 * size) (hnews : ∀ j u, news[j]? = some u -> w.cell? (ad.add j) = some u) (h1 : ∀ u ∈ news, u.oneCell' = true)
    (h63 : n + 1 <= maxLen) (hbytes : (n + 1) * bytes <= 140737488355328) (hbase : base <= w.heap.size)
    (hk : ∀ v' W, W.ownsRow base e size v' (n + 1) (xs ++ news) -> w.grownBy W v.ownBlock -> (v'.ownBlock = v.ownBlock \/ v'.ownBlock = some w.heap.size) -> K (y.put o.dst v') W) : if Region.wanted o (yielded ops y.tmps) = true then Oper.wp P o y w K Q else E := by
  have hw : Region.wanted o (yielded ops y.tmps) = true := by simp [Region.wanted, hgd]
  rw [if_pos hw]
  obtain ⟨v', W, hrun, h3, h4, -, h5⟩ := run_append_own_at (P := P) w base t o.type e i zv size bytes ht hi hz hsize hby hzs hsz v n xs hown ad 1 c news hl hnews h1 h63 hbytes hbase
  unfold Oper.wp execOp
  simp only [ho, resolve, invoke, builtin, Sem.run_bind, Sem.run_pure, Result.andThen_ok, List.map_toArray, List.map_cons, List.map_nil, hx, hzz, hrun]
  exact hk v' W h3 h4 h5
end
theorem src_cells {W : World} {B : Nat} {c : List Value} {t : TypeId} (h : W.heap[B]? = some (.cells c.toArray t (0, 0))) : ∀ j u, c[j]? = some u -> W.cell? ((⟨B, 0, none⟩ : Addr).add j) = some u :=
  fun j u hu => by rw [Leb.add_none, Nat.zero_add]; exact cell_of h j u (by simpa using hu)
end Go.Proofs.YtaiackmmmlhgbaaGreat.ZQd
