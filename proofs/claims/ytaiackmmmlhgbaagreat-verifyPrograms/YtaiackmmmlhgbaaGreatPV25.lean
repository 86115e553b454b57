import Derived.BigQuiet
import Derived.Deep.CutBlock
import Derived.Deep.CutRange
import Derived.Test.YtaiackmmmlhgbaaGreatPV17
import Derived.Test.YtaiackmmmlhgbaaGreatPV24
open Go.Proofs.Tryz
set_option linter.unusedVariables false
set_option maxHeartbeats 8000000
namespace Go.Proofs.YtaiackmmmlhgbaaGreat.BQe
open BPl BQa BQb
open YPl (Oq Bk Pg)
def r1 (p : Nat) (o : Oq) : Bool := decide (8192 <= p) || (!uK o.k || ((!uA o.k && (o.a != 0)) || ((!uB o.k && (o.b != 0)) || ((!uC o.k && (o.c != 0)) || ((!uL o.k && decide (0 < o.l.length)) || decide (64 < o.l.length))))))
def okk (S : Sh) (o : Oq) : Bool :=
 if o.k = 1 then isN o.a S.t.length
 else if o.k = 3 \/ o.k = 5 then isTg S o.a
 else if o.k = 4 then (bif isTg S o.a then isN o.b S.t.length else false)
 else if o.k = 7 then isN o.a S.d.length
 else if o.k = 12 then decide (1 <= o.a)
 else true
theorem zr_eq (x : Bool) (a b c : Int) (l : Nat) : zr x a b c l = (x && (!(a != 0) && (!(b != 0) && (!(c != 0) && !decide (0 < l))))) := by
 unfold zr
 cases x
 ·rfl
 by_cases ha : a = 0
 ·by_cases hb : b = 0
  ·by_cases hc : c = 0
   ·by_cases hl : l = 0
    ·subst ha hb hc hl; rfl
    ·have : decide (0 < l) = true := by simp; omega
     have h2 : ((l : Int) == 0) = false := by simp; omega
     subst ha hb hc
     rw [this, h2]
     rfl
   ·have h2 : (c == 0) = false := by simp [hc]
    have h3 : (c != 0) = true := by simp [hc]
    subst ha hb
    rw [h2, h3]
    rfl
  ·have h2 : (b == 0) = false := by simp [hb]
   have h3 : (b != 0) = true := by simp [hb]
   subst ha
   rw [h2, h3]
   rfl
 ·have h2 : (a == 0) = false := by simp [ha]
  have h3 : (a != 0) = true := by simp [ha]
  rw [h2, h3]
  rfl
theorem any_all (n : Nat) : ∀ l : List Int, (!(l.any fun i => !isN i n)) = l.all fun i => isN i n
 | [] => rfl
 | x :: r => by
  rw [List.any_cons, List.all_cons, <- any_all n r]
  cases isN x n <;> simp
theorem fits_rop (S : Sh) (p : Nat) (o : Oq) : (decide (8192 <= p) || !fits S o) = (r1 p o || !(okk S o && (cdl o).1.all fun i => isN i S.n.length)) := by
 unfold r1
 cases decide (8192 <= p) with
 | true => rfl
 | false =>
 rw [Bool.false_or, Bool.false_or]
 obtain ⟨k, a, b, c, l⟩ := o
 dsimp only
 have h64 : decide (0 < l.length) = false -> decide (64 < l.length) = false := fun h => by
  have : ¬ 0 < l.length := by simpa using h
  simp
  omega
 have h10 : decide ((l.length : Int) <= 64) = !decide (64 < l.length) := by
  by_cases h : 64 < l.length
  ·have e : decide (64 < l.length) = true := by simp [h]
   rw [e]; simp; omega
  ·have e : decide (64 < l.length) = false := by simp [h]
   rw [e]; simp; omega
 by_cases hk : 1 <= k /\ k <= 12
 ·have : k = 1 \/ k = 2 \/ k = 3 \/ k = 4 \/ k = 5 \/ k = 6 \/ k = 7 \/ k = 8 \/ k = 9 \/ k = 10 \/ k = 11 \/ k = 12 := by omega
  clear hk
  rcases this with rfl | rfl | rfl | rfl | rfl | rfl | rfl | rfl | rfl | rfl | rfl | rfl
  all_goals
   unfold fits okk cdl uK uA uB uC uL
   simp only [zr_eq, any_all, h10, isV]
   try (simp only [Int.reduceEq, Int.reduceLE, Int.reduceBEq, or_true, or_false, or_self, and_self, if_true, if_false, decide_true, decide_false, cond_true, cond_false, List.all_cons, List.all_nil, Bool.not_true, Bool.not_false, Bool.true_and, Bool.and_true, Bool.false_and, Bool.or_false, Bool.false_or])
   generalize (l.all fun i => isN i S.n.length) = X4
   generalize isN a S.t.length = X1
   generalize isN b S.t.length = X2
   generalize isN a S.n.length = X6
   generalize isN b S.n.length = X7
   generalize isN a S.d.length = X8
   generalize isTg S a = X3
   generalize decide (1 <= a) = X5
   generalize (a != 0) = da
   generalize (b != 0) = db
   generalize (c != 0) = dc
   cases hL : decide (0 < l.length)
   ·rw [h64 hL]
    cases da <;> cases db <;> cases dc <;> (first | rfl | (cases X1 <;> (first | rfl | (cases X2 <;> (first | rfl | (cases X6 <;> (first | rfl | (cases X7 <;> (first | rfl | (cases X8 <;> (first | rfl | (cases X3 <;> (first | rfl | (cases X5 <;> (first | rfl | (cases X4 <;> rfl))))))))))))))))
   ·generalize decide (64 < l.length) = d64
    cases da <;> cases db <;> cases dc <;> cases d64 <;> (first | rfl | (cases X1 <;> (first | rfl | (cases X2 <;> (first | rfl | (cases X6 <;> (first | rfl | (cases X7 <;> (first | rfl | (cases X8 <;> (first | rfl | (cases X3 <;> (first | rfl | (cases X5 <;> (first | rfl | (cases X4 <;> rfl))))))))))))))))
 ·have e5 : uK k = false := by unfold uK; simp; omega
  have ef : fits S ⟨k, a, b, c, l⟩ = false := by
   unfold fits
   dsimp only
   repeat (rw [if_neg (by omega)])
  rw [e5, ef]
  rfl
end Go.Proofs.YtaiackmmmlhgbaaGreat.BQe
namespace Go.Proofs.YtaiackmmmlhgbaaGreat.BQg
open Go.RowKit BPl YRr BQb BRn
open YPl (Oq Bk Pg)
open BSf (hid)
open BPs (Xl)
open BVf (cell_set)
open TBase (Keep heap_alloc_new)
section
variable {o : Oper} {y : Act} {K : Act -> World -> Prop} {Q : Exit -> Act -> World -> Prop} {w : World} {base n m c : Nat} {v : Value} {xs news : List Value} {ad : Addr}
theorem infoS : (prog.info? 9).map (fun i => (i.zero, i.size, i.bytes)) = some (some (.string ⟨#[]⟩), 1, 16) := by kernel_rfl
theorem wp_str (x z : Operand) (ho : o.op = .call { callee := .builtin .append, args := #[x, z], argTypes := #[24, 24] }) (hown : w.ownsRow base 9 1 v n xs) (hl : news.length = m * 1) (hnews : ∀ j u, news[j]? = some u -> w.cell? (ad.add j) = some u) (h1 : ∀ u ∈ news, u.oneCell' = true) (hb : n + m <= 100000) (hbase : base <= w.heap.size)
  (hx : y.eval x = v) (hz : y.eval z = .slice (some ad) m c) (hk : ∀ v' W, W.ownsRow base 9 1 v' (n + m) (xs ++ news) -> w.grownBy W v.ownBlock -> (v'.ownBlock = v.ownBlock \/ v'.ownBlock = some w.heap.size) -> K (y.put o.dst v') W) : o.wp prog y w K Q := by
 obtain ⟨ij, hij, hj0, hj1, hj2⟩ := BPs.info_parts infoS
 obtain ⟨v', W, hrun, h3, h4, -, h5⟩ := run_append_own_at (P := prog) w base 24 o.type 9 ij _ 1 16 underlying24 hij hj0 hj1 hj2 rfl (by decide) v n xs hown ad m c news hl hnews h1 (by unfold maxLen; omega) (by omega) hbase
 unfold Oper.wp execOp
 simp only [ho, resolve, invoke, builtin, Sem.run_bind, Sem.run_pure, Result.andThen_ok, List.map_toArray, List.map_cons, List.map_nil, hx, hz, hrun]
 exact hk v' W h3 h4 h5
end
theorem one_cell {w : World} {c : Value} {t : TypeId} : ∀ j u, [c][j]? = some u -> (w.alloc (.cells #[c] t)).cell? ((⟨w.heap.size, 0, none⟩ : Addr).add j) = some u := by
 intro j u hu
 cases j with
 | zero =>
  simp at hu
  subst hu
  exact cell_of (heap_alloc_new w _) 0 _ rfl
 | succ j => simp at hu
def ci (l : List Int) : List Value := l.map (Value.int .i64)
def cst (l : List ByteArray) : List Value := l.map Value.string
theorem own_sh {w : World} {ty : TypeId} {lo n : Nat} {v : Value} {xs : List Value} (h : w.ownsRow lo ty 1 v n xs) : ∃ a cap, v = .slice a n cap /\ n <= cap /\ cap <= 9223372036854775807 := by
 rcases h.2 with ⟨rfl, rfl⟩ | ⟨g, cap, cur, rfl, -, -, h1, h2, -⟩
 ·exact ⟨none, 0, rfl, Nat.le_refl _, by omega⟩
 ·exact ⟨_, _, rfl, h1, by unfold maxLen at h2; omega⟩
theorem own_kp {w w' : World} {ty : TypeId} {lo n : Nat} {v : Value} {xs : List Value} (h : w.ownsRow lo ty 1 v n xs) (hk : ∀ g, v.ownBlock = some g -> w'.heap[g]? = w.heap[g]?) : w'.ownsRow lo ty 1 v n xs := by
 refine ⟨h.1, ?_⟩
 rcases h.2 with h | ⟨g, cap, cur, h1, h2, h3, h4⟩
 ·exact .inl h
 ·exact .inr ⟨g, cap, cur, h1, h2, (hk g (by rw [h1]; rfl)).trans h3, h4⟩
theorem own_end {w : World} {ty : TypeId} {lo n : Nat} {v : Value} {xs : List Value} {x : Value} (h : w.ownsRow lo ty 1 v (n + 1) (xs ++ [x])) (hn : xs.length = n) : ∃ g cap, v = .slice (some ⟨g, 0, none⟩) (n + 1) cap /\ n + 1 <= cap /\ cap <= 9223372036854775807 /\ lo <= g /\ g < w.heap.size /\ w.cell? ⟨g, n, none⟩ = some x /\ w.frozen? ⟨g, n, none⟩ = false /\ w.ownsRow lo ty 1 (.slice (some ⟨g, 0, none⟩) n cap) n xs /\ ∀ u, (w.setCell ⟨g, n, none⟩ u).ownsRow lo ty 1 v (n + 1) (xs ++ [u]) := by
 rcases h.2 with ⟨-, e⟩ | ⟨g, cap, cur, rfl, hb, hc, hle, hm, hsz, htk⟩
 ·omega
 ·refine ⟨g, cap, rfl, hle, by unfold maxLen at hm; omega, hb, (World.ownsRow.lt h g rfl).2, ?_, BIn.frz hc n, ⟨by simp [hn], .inr ⟨g, cap, cur, rfl, hb, hc, by omega, hm, hsz, ?_⟩⟩, fun u => ⟨by simp [hn], .inr ⟨g, cap, cur.setIfInBounds n u, rfl, hb, ?_, hle, hm, by simpa using hsz, ?_⟩⟩⟩
  ·rw [h.cellAt n (by omega)]
   rw [List.getElem?_append_right (by omega), hn]
   simp
  ·have e2 := congrArg (List.take (n * 1)) htk
   rw [List.take_take, Nat.min_eq_left (by omega), List.take_append_of_le_length (by omega)] at e2
   rw [e2]
   exact List.take_of_length_le (by omega)
  ·simp [World.setCell, Array.getElem?_modify, hc]
  ·rw [Array.toList_setIfInBounds, List.take_set, htk, <- hn, List.set_append_right _ _ (Nat.le_refl _)]
   simp
def Xe (X L E : Nat) (w w' : World) : Prop := Below X w w' /\ ∀ g, (g < L \/ g = E) -> g < w.heap.size -> g ≠ X -> w'.heap[g]? = w.heap[g]?
structure Lv (w : World) (X L E : Nat) (tv cv sv bv iv : Value) (bk pl ft at' : Int) (s : Lk) (lv nv : Value) : Prop where
 box : Lw w X tv cv sv bv iv bk pl ft at' s.dep lv nv
 lets : w.ownsRow L 3 1 lv s.lets.length (ci s.lets)
 names : w.ownsRow L 9 1 nv s.names.length (cst s.names)
 two : ∀ g, lv.ownBlock = some g -> nv.ownBlock = some g -> False
 ex : E < w.heap.size
 nl : lv.ownBlock ≠ some E
 nn : nv.ownBlock ≠ some E
section
variable {w w' : World} {X L E : Nat} {tv cv sv bv iv : Value} {bk pl ft at' : Int} {s : Lk} {lv nv : Value}
theorem Lv.lt (h : Lv w X L E tv cv sv bv iv bk pl ft at' s lv nv) : X < w.heap.size := (Array.getElem?_eq_some_iff.1 h.box).1
theorem Lv.keep (h : Lv w X L E tv cv sv bv iv bk pl ft at' s lv nv) (hx : w'.heap[X]? = w.heap[X]?) (hk : ∀ g, L <= g -> g < w.heap.size -> w'.heap[g]? = w.heap[g]?) (hsz : w.heap.size <= w'.heap.size) : Lv w' X L E tv cv sv bv iv bk pl ft at' s lv nv :=
 ⟨hx.trans h.box, own_kp h.lets fun g hg => hk g (World.ownsRow.lt h.lets g hg).1 (World.ownsRow.lt h.lets g hg).2, own_kp h.names fun g hg => hk g (World.ownsRow.lt h.names g hg).1 (World.ownsRow.lt h.names g hg).2, h.two, by have := h.ex; omega, h.nl, h.nn⟩
theorem Lv.below (h : Lv w X L E tv cv sv bv iv bk pl ft at' s lv nv) (hb : Below w.heap.size w w') : Lv w' X L E tv cv sv bv iv bk pl ft at' s lv nv :=
 h.keep (hb.block X h.lt) (fun g _ hg => hb.block g hg) hb.size
theorem xl_trans {a b c : World} (h : Xe X L E a b) (k : Xe X L E b c) : Xe X L E a c := ⟨h.1.trans k.1, fun g hg hs hq => (k.2 g hg (Nat.lt_of_lt_of_le hs h.1.size) hq).trans (h.2 g hg hs hq)⟩
theorem xl_below (hX : X < L) (hL : L <= w.heap.size) (hb : Below w.heap.size w w') : Xe X L E w w' := ⟨hb.mono (by omega), fun g hg hs _ => hb.block g hs⟩
theorem xl_set (hX : X < L) (j : Nat) (u : Value) : Xe X L E w (w.setCell ⟨X, j, none⟩ u) := ⟨(Below.refl X w).setCell (p := ⟨X, j, none⟩) (Nat.le_refl _) _, fun g hg _ hq => Below.heap_setCell _ _ _ _ hq⟩
theorem xl_set2 (hX : X < L) {g : Nat} (hg : L <= g) (hE : g ≠ E) (j : Nat) (u : Value) : Xe X L E w (w.setCell ⟨g, j, none⟩ u) := ⟨(Below.refl X w).setCell (p := ⟨g, j, none⟩) (by show X <= g; omega) _, fun q hq _ _ => Below.heap_setCell _ _ _ _ (by show q ≠ g; omega)⟩
theorem xl_grown (hX : X < L) (hL : L <= w.heap.size) {o : Option Nat} (hg : w.grownBy w' o) (ho : ∀ g, o = some g -> L <= g /\ g ≠ E) : Xe X L E w w' :=
 ⟨(Below.refl X w).grown hg (by omega) (fun k hk => by have := ho k hk; omega), fun q hq hs hqX => hg.block q hs (fun e => by have := ho q e.symm; omega)⟩
theorem Lv.names_grow (h : Lv w X L E tv cv sv bv iv bk pl ft at' s lv nv) (hX : X < L) (hL : L <= w.heap.size) {v' : Value} {t : ByteArray} (hown : w'.ownsRow L 9 1 v' (s.names.length + 1) (cst s.names ++ [.string t])) (hg : w.grownBy w' nv.ownBlock) (hat : v'.ownBlock = nv.ownBlock \/ v'.ownBlock = some w.heap.size) :
  Lv (w'.setCell ⟨X, 11, none⟩ v') X L E tv cv sv bv iv bk pl ft at' ⟨s.dep, s.lets, s.names ++ [t]⟩ lv v' /\ Xe X L E w (w'.setCell ⟨X, 11, none⟩ v') := by
 have ho : ∀ g, nv.ownBlock = some g -> L <= g /\ g ≠ E := fun g e => ⟨(World.ownsRow.lt h.names g e).1, fun e2 => h.nn (by rw [e, e2])⟩
 have hb := xl_grown hX hL hg ho
 have hbx : Lw w' X tv cv sv bv iv bk pl ft at' s.dep lv nv := (hg.block X (by have := h.lt; omega) (fun e => by have := ho X e.symm; omega)).trans h.box
 refine ⟨⟨cell_set hbx 11 v', own_kp (own_kp h.lets fun g e => hg.block g (World.ownsRow.lt h.lets g e).2 (fun e2 => h.two g e e2.symm)) fun g e => Below.heap_setCell _ _ _ _ ?_, ?_, fun g e e2 => ?_, by have := h.ex; have := hg.size; simp [World.setCell]; omega, h.nl, fun e => ?_⟩, xl_trans hb (xl_set hX _ _)⟩
 ·have := (World.ownsRow.lt h.lets g e).1
  show g ≠ X
  omega
 ·have e : (s.names ++ [t]).length = s.names.length + 1 := by simp
  show (w'.setCell ⟨X, 11, none⟩ v').ownsRow L 9 1 v' (s.names ++ [t]).length (cst (s.names ++ [t]))
  rw [e, show cst (s.names ++ [t]) = cst s.names ++ [.string t] by simp [cst]]
  exact own_kp hown fun g e => Below.heap_setCell _ _ _ _ (by have := (World.ownsRow.lt hown g e).1; show g ≠ X; omega)
 ·rcases hat with hat | hat
  ·exact h.two g e (hat ▸ e2)
  ·rw [hat] at e2
   cases e2
   have := (World.ownsRow.lt h.lets _ e).2
   omega
 ·rcases hat with hat | hat
  ·exact h.nn (hat ▸ e)
  ·rw [hat] at e
   have := h.ex
   cases e
   omega
theorem Lv.lets_grow (h : Lv w X L E tv cv sv bv iv bk pl ft at' s lv nv) (hX : X < L) (hL : L <= w.heap.size) {v' : Value} {t : Int} (hown : w'.ownsRow L 3 1 v' (s.lets.length + 1) (ci s.lets ++ [.int .i64 t])) (hg : w.grownBy w' lv.ownBlock) (hat : v'.ownBlock = lv.ownBlock \/ v'.ownBlock = some w.heap.size) :
  Lv (w'.setCell ⟨X, 10, none⟩ v') X L E tv cv sv bv iv bk pl ft at' ⟨s.dep, s.lets ++ [t], s.names⟩ v' nv /\ Xe X L E w (w'.setCell ⟨X, 10, none⟩ v') := by
 have ho : ∀ g, lv.ownBlock = some g -> L <= g /\ g ≠ E := fun g e => ⟨(World.ownsRow.lt h.lets g e).1, fun e2 => h.nl (by rw [e, e2])⟩
 have hb := xl_grown hX hL hg ho
 have hbx : Lw w' X tv cv sv bv iv bk pl ft at' s.dep lv nv := (hg.block X (by have := h.lt; omega) (fun e => by have := ho X e.symm; omega)).trans h.box
 refine ⟨⟨cell_set hbx 10 v', ?_, own_kp (own_kp h.names fun g e => hg.block g (World.ownsRow.lt h.names g e).2 (fun e2 => h.two g e2.symm e)) fun g e => Below.heap_setCell _ _ _ _ ?_, fun g e e2 => ?_, by have := h.ex; have := hg.size; simp [World.setCell]; omega, fun e => ?_, h.nn⟩, xl_trans hb (xl_set hX _ _)⟩
 ·have e : (s.lets ++ [t]).length = s.lets.length + 1 := by simp
  show (w'.setCell ⟨X, 10, none⟩ v').ownsRow L 3 1 v' (s.lets ++ [t]).length (ci (s.lets ++ [t]))
  rw [e, show ci (s.lets ++ [t]) = ci s.lets ++ [.int .i64 t] by simp [ci]]
  exact own_kp hown fun g e => Below.heap_setCell _ _ _ _ (by have := (World.ownsRow.lt hown g e).1; show g ≠ X; omega)
 ·have := (World.ownsRow.lt h.names g e).1
  show g ≠ X
  omega
 ·rcases hat with hat | hat
  ·exact h.two g (hat ▸ e) e2
  ·rw [hat] at e
   cases e
   have := (World.ownsRow.lt h.names _ e2).2
   omega
 ·rcases hat with hat | hat
  ·exact h.nl (hat ▸ e)
  ·rw [hat] at e
   have := h.ex
   cases e
   omega
theorem Lv.names_last {m : List ByteArray} {x : ByteArray} (h : Lv w X L E tv cv sv bv iv bk pl ft at' s lv nv) (hX : X < L) (hm : s.names = m ++ [x]) : ∃ g cap, nv = .slice (some ⟨g, 0, none⟩) (m.length + 1) cap /\ m.length + 1 <= cap /\ cap <= 9223372036854775807 /\ g ≠ X /\ w.cell? ⟨g, m.length, none⟩ = some (.string x) /\ w.frozen? ⟨g, m.length, none⟩ = false /\
  (∀ t, Lv (w.setCell ⟨g, m.length, none⟩ (.string t)) X L E tv cv sv bv iv bk pl ft at' ⟨s.dep, s.lets, m ++ [t]⟩ lv nv /\ Xe X L E w (w.setCell ⟨g, m.length, none⟩ (.string t))) /\
  Lv (w.setCell ⟨X, 11, none⟩ (.slice (some ⟨g, 0, none⟩) m.length cap)) X L E tv cv sv bv iv bk pl ft at' ⟨s.dep, s.lets, m⟩ lv (.slice (some ⟨g, 0, none⟩) m.length cap) := by
 have hn := h.names
 rw [hm, show (m ++ [x]).length = m.length + 1 by simp, show cst (m ++ [x]) = cst m ++ [.string x] by simp [cst]] at hn
 obtain ⟨g, cap, rfl, h1, h2, h3, h4, h5, h6, h7, h8⟩ := own_end hn (by simp [cst])
 have hgE : g ≠ E := fun e => h.nn (by rw [e]; rfl)
 refine ⟨g, cap, rfl, h1, h2, by omega, h5, h6, fun t => ⟨⟨?_, own_kp h.lets fun q e => Below.heap_setCell _ _ _ _ ?_, ?_, h.two, by have := h.ex; simpa [World.setCell] using this, h.nl, h.nn⟩, xl_set2 hX h3 hgE _ _⟩, ⟨cell_set h.box 11 _, own_kp h.lets fun q e => Below.heap_setCell _ _ _ _ ?_, own_kp h7 fun q e => Below.heap_setCell _ _ _ _ ?_, h.two, by have := h.ex; simpa [World.setCell] using this, h.nl, h.nn⟩⟩
 ·exact (Below.heap_setCell _ _ _ _ (by show X ≠ g; omega)).trans h.box
 ·intro e2
  have : q = g := e2
  subst this
  exact h.two q e rfl
 ·show (w.setCell _ _).ownsRow L 9 1 _ (m ++ [t]).length (cst (m ++ [t]))
  rw [show (m ++ [t]).length = m.length + 1 by simp, show cst (m ++ [t]) = cst m ++ [.string t] by simp [cst]]
  exact h8 _
 ·have := (World.ownsRow.lt h.lets q e).1
  show q ≠ X
  omega
 ·have := (World.ownsRow.lt h7 q e).1
  show q ≠ X
  omega
theorem Lv.lets_last {m : List Int} {x : Int} (h : Lv w X L E tv cv sv bv iv bk pl ft at' s lv nv) (hX : X < L) (hm : s.lets = m ++ [x]) : ∃ g cap, lv = .slice (some ⟨g, 0, none⟩) (m.length + 1) cap /\ m.length + 1 <= cap /\ cap <= 9223372036854775807 /\ g ≠ X /\ w.cell? ⟨g, m.length, none⟩ = some (.int .i64 x) /\ w.frozen? ⟨g, m.length, none⟩ = false /\
  (∀ t, Lv (w.setCell ⟨g, m.length, none⟩ (.int .i64 t)) X L E tv cv sv bv iv bk pl ft at' ⟨s.dep, m ++ [t], s.names⟩ lv nv /\ Xe X L E w (w.setCell ⟨g, m.length, none⟩ (.int .i64 t))) /\
  Lv (w.setCell ⟨X, 10, none⟩ (.slice (some ⟨g, 0, none⟩) m.length cap)) X L E tv cv sv bv iv bk pl ft at' ⟨s.dep, m, s.names⟩ (.slice (some ⟨g, 0, none⟩) m.length cap) nv := by
 have hn := h.lets
 rw [hm, show (m ++ [x]).length = m.length + 1 by simp, show ci (m ++ [x]) = ci m ++ [.int .i64 x] by simp [ci]] at hn
 obtain ⟨g, cap, rfl, h1, h2, h3, h4, h5, h6, h7, h8⟩ := own_end hn (by simp [ci])
 have hgE : g ≠ E := fun e => h.nl (by rw [e]; rfl)
 refine ⟨g, cap, rfl, h1, h2, by omega, h5, h6, fun t => ⟨⟨?_, ?_, own_kp h.names fun q e => Below.heap_setCell _ _ _ _ ?_, h.two, by have := h.ex; simpa [World.setCell] using this, h.nl, h.nn⟩, xl_set2 hX h3 hgE _ _⟩, ⟨cell_set h.box 10 _, own_kp h7 fun q e => Below.heap_setCell _ _ _ _ ?_, own_kp h.names fun q e => Below.heap_setCell _ _ _ _ ?_, h.two, by have := h.ex; simpa [World.setCell] using this, h.nl, h.nn⟩⟩
 ·exact (Below.heap_setCell _ _ _ _ (by show X ≠ g; omega)).trans h.box
 ·show (w.setCell _ _).ownsRow L 3 1 _ (m ++ [t]).length (ci (m ++ [t]))
  rw [show (m ++ [t]).length = m.length + 1 by simp, show ci (m ++ [t]) = ci m ++ [.int .i64 t] by simp [ci]]
  exact h8 _
 ·intro e2
  have : q = g := e2
  subst this
  exact h.two q rfl e
 ·have := (World.ownsRow.lt h7 q e).1
  show q ≠ X
  omega
 ·have := (World.ownsRow.lt h.names q e).1
  show q ≠ X
  omega
theorem Lv.dep_set (h : Lv w X L E tv cv sv bv iv bk pl ft at' s lv nv) (hX : X < L) (d : Int) : Lv (w.setCell ⟨X, 9, none⟩ (.int .i64 d)) X L E tv cv sv bv iv bk pl ft at' ⟨d, s.lets, s.names⟩ lv nv :=
 ⟨cell_set h.box 9 _, own_kp h.lets fun q e => Below.heap_setCell _ _ _ _ (by have := (World.ownsRow.lt h.lets q e).1; show q ≠ X; omega), own_kp h.names fun q e => Below.heap_setCell _ _ _ _ (by have := (World.ownsRow.lt h.names q e).1; show q ≠ X; omega), h.two, by have := h.ex; simpa [World.setCell] using this, h.nl, h.nn⟩
end
def hd (A : Ar) : List Value := [.int .i64 A.st, .int .i64 A.el, .int .i64 A.ls, .bool A.ow, .bool A.lp]
def hds : List Ar -> List Value
 | [] => []
 | A :: r => hd A ++ hds r
theorem hds_len : ∀ H : List Ar, (hds H).length = H.length * 5
 | [] => rfl
 | A :: r => by rw [hds, List.length_append, hds_len r, List.length_cons]; simp [hd]; omega
theorem hds_at : ∀ (H : List Ar) (q j : Nat) (hq : q < H.length), j < 5 -> (hds H)[q * 5 + j]? = (hd H[q])[j]?
 | A :: r, 0, j, _, hj => by
  rw [hds, List.getElem?_append_left (by simp [hd]; omega)]
  simp
 | A :: r, q + 1, j, hq, hj => by
  rw [hds, List.getElem?_append_right (by simp [hd]; omega)]
  have e : (q + 1) * 5 + j - (hd A).length = q * 5 + j := by simp [hd]; omega
  rw [e, hds_at r q j (by simpa using hq) hj]
  rfl
theorem hds_set : ∀ (H : List Ar) (q : Nat) (B : Ar), q < H.length -> (((((hds H).set (q * 5) (.int .i64 B.st)).set (q * 5 + 1) (.int .i64 B.el)).set (q * 5 + 2) (.int .i64 B.ls)).set (q * 5 + 3) (.bool B.ow)).set (q * 5 + 4) (.bool B.lp) = hds (H.set q B)
 | A :: r, 0, B, _ => by simp [hds, hd]
 | A :: r, q + 1, B, hq => by
  have h := hds_set r q B (by simpa using hq)
  have e : (q + 1) * 5 = q * 5 + 1 + 1 + 1 + 1 + 1 := by omega
  rw [List.set_cons_succ, hds, hds, <- h]
  simp only [hd, e, List.cons_append, List.nil_append, List.set_cons_succ, Nat.add_assoc, Nat.reduceAdd]
def Hq (w : World) (Q : Nat) (H : List Ar) : Prop := w.heap[Q]? = some (.cells (hds H).toArray 109 (0, 0))
theorem Hq.cell {w : World} {Q : Nat} {H : List Ar} (h : Hq w Q H) {q : Nat} (hq : q < H.length) {j : Nat} (hj : j < 5) {v : Value} (hv : (hd H[q])[j]? = some v) : w.cell? ⟨Q, q * 5 + j, none⟩ = some v := by
 unfold Hq at h
 have := (hds_at H q j hq hj).trans hv
 simp only [World.cell?, h]
 simpa using this
theorem Hq.set {w : World} {Q : Nat} {H : List Ar} (h : Hq w Q H) {q : Nat} (hq : q < H.length) (B : Ar) : Hq (((((w.setCell ⟨Q, q * 5, none⟩ (.int .i64 B.st)).setCell ⟨Q, q * 5 + 1, none⟩ (.int .i64 B.el)).setCell ⟨Q, q * 5 + 2, none⟩ (.int .i64 B.ls)).setCell ⟨Q, q * 5 + 3, none⟩ (.bool B.ow)).setCell ⟨Q, q * 5 + 4, none⟩ (.bool B.lp)) Q (H.set q B) := by
 unfold Hq at *
 rw [<- hds_set H q B hq]
 simp [World.setCell, Array.getElem?_modify, h]
end Go.Proofs.YtaiackmmmlhgbaaGreat.BQg
namespace Go.Proofs.YtaiackmmmlhgbaaGreat.BQm
open Go.RowKit BPl YRr BQb BRn BRo BQg
open YPl (Oq Bk Pg)
open BSf (hid)
open BPs (Xl)
open TBase (Keep heap_alloc_new)
def Xq (X Q L E : Nat) (w w' : World) : Prop := Below X w w' /\ ∀ g, (g < L \/ g = E) -> g < w.heap.size -> g ≠ X -> g ≠ Q -> w'.heap[g]? = w.heap[g]?
theorem xq_trans {X Q L E : Nat} {a b c : World} (h : Xq X Q L E a b) (k : Xq X Q L E b c) : Xq X Q L E a c := ⟨h.1.trans k.1, fun g h1 hs h2 h3 => (k.2 g h1 (Nat.lt_of_lt_of_le hs h.1.size) h2 h3).trans (h.2 g h1 hs h2 h3)⟩
theorem xq_below {X Q L E : Nat} {w w' : World} (hX : X < L) (hL : L <= w.heap.size) (hb : Below w.heap.size w w') : Xq X Q L E w w' := ⟨hb.mono (by omega), fun g hg hs _ _ => hb.block g hs⟩
theorem xq_xl {X Q L E : Nat} {w w' : World} (h : Xe X L E w w') : Xq X Q L E w w' := ⟨h.1, fun g h1 hs h2 _ => h.2 g h1 hs h2⟩
theorem xq_xb {X Q L E : Nat} {w w' : World} (h : BHm.Xb X w w') (hL : L <= w.heap.size) : Xq X Q L E w w' := ⟨h.1, fun g h1 hs h2 _ => h.2 g hs h2⟩
theorem Lv.failed {w w' : World} {X L E : Nat} {tv cv sv bv iv : Value} {bk pl ft at' pl' ft' : Int} {s : Lk} {lv nv : Value} (h : Lv w X L E tv cv sv bv iv bk pl ft at' s lv nv) (hX : X < L) (hb : Lw w' X tv cv sv bv iv bk pl' ft' at' s.dep lv nv) (hx : BHm.Xb X w w') : Lv w' X L E tv cv sv bv iv bk pl' ft' at' s lv nv :=
 ⟨hb, own_kp h.lets fun g e => hx.2 g (World.ownsRow.lt h.lets g e).2 (by have := (World.ownsRow.lt h.lets g e).1; omega), own_kp h.names fun g e => hx.2 g (World.ownsRow.lt h.names g e).2 (by have := (World.ownsRow.lt h.names g e).1; omega), h.two, by have := h.ex; have := hx.1.size; omega, h.nl, h.nn⟩
theorem own_at {w : World} {lo n : Nat} {v : Value} {l : List Int} (h : w.ownsRow lo 3 1 v n (l.map (Value.int .i64))) (hn : l.length = n) {j : Nat} (hj : j < l.length) : ∃ g cap, v = .slice (some ⟨g, 0, none⟩) n cap /\ n <= cap /\ lo <= g /\ g < w.heap.size /\ w.cell? ⟨g, j, none⟩ = some (.int .i64 l[j]) := by
 rcases h.2 with ⟨-, e⟩ | ⟨g, cap, cur, rfl, hb, hc, hle, hm, hsz, htk⟩
 ·omega
 ·refine ⟨g, cap, rfl, hle, hb, (World.ownsRow.lt h g rfl).2, ?_⟩
  rw [h.cellAt j (by omega)]
  simp [hj]
def okq (nb : Nat) (H : List Ar) (l : List Int) (q : Nat) : Prop := (∀ j (h : j < l.length), j < q -> rbad nb H l[j] = false) /\ (l.length = 2 -> 2 <= q -> ¬ l.getD 0 0 = l.getD 1 0)
def bdq (nb : Nat) (H : List Ar) (l : List Int) (q : Nat) : Bool := rbad nb H (l.getD q 0) || (decide (q = 1) && decide (l.getD 0 0 = l.getD 1 0))
theorem bdq_t {nb : Nat} {H : List Ar} {l : List Int} {q : Nat} (hl : l.length <= 2) (hq : q < l.length) (h : bdq nb H l q = true) : rno nb H l = true := by
 unfold bdq at h
 unfold rno
 rcases (Bool.or_eq_true _ _).mp h with h | h
 ·rw [Bool.or_eq_true]
  refine .inl (List.any_eq_true.2 ⟨l[q], List.getElem_mem hq, ?_⟩)
  rwa [List.getD_eq_getElem?_getD, List.getElem?_eq_getElem hq] at h
 ·rw [Bool.and_eq_true] at h
  rw [Bool.or_eq_true]
  have := of_decide_eq_true h.1
  exact .inr (decide_eq_true ⟨by omega, of_decide_eq_true h.2⟩)
theorem okq_next {nb : Nat} {H : List Ar} {l : List Int} {q : Nat} (hl : l.length <= 2) (hq : q < l.length) (hk : okq nb H l q) (h : bdq nb H l q = false) : okq nb H l (q + 1) := by
 unfold bdq at h
 rw [Bool.or_eq_false_iff] at h
 refine ⟨fun j hj hjq => ?_, fun h2 hq2 he => ?_⟩
 ·by_cases e : j = q
  ·subst e
   have := h.1
   rwa [List.getD_eq_getElem?_getD, List.getElem?_eq_getElem hj] at this
  ·exact hk.1 j hj (by omega)
 ·have e1 : q = 1 := by omega
  have := h.2
  rw [decide_eq_true e1, decide_eq_true he] at this
  cases this
theorem okq_rno {nb : Nat} {H : List Ar} {l : List Int} (h : okq nb H l l.length) : rno nb H l = false := by
 unfold rno
 rw [Bool.or_eq_false_iff]
 refine ⟨?_, decide_eq_false fun h2 => h.2 h2.1 (by omega) h2.2⟩
 rw [<- Bool.not_eq_true]
 intro ha
 obtain ⟨x, hx, hb⟩ := List.any_eq_true.1 ha
 obtain ⟨j, hj, rfl⟩ := List.getElem_of_mem hx
 rw [h.1 j hj hj] at hb
 cases hb
theorem put_len (A : Ar) : ∀ (l : List Int) (H : List Ar), (put A H l).length = H.length
 | [], H => rfl
 | x :: r, H => by
  show (put A (H.set x.toNat A) r).length = _
  rw [put_len A r, List.length_set]
theorem put_snoc (A : Ar) (H : List Ar) (l : List Int) (x : Int) : put A H (l ++ [x]) = (put A H l).set x.toNat A := by unfold put; rw [List.foldl_append]; rfl
theorem put_get (A : Ar) {nb : Nat} : ∀ (l : List Int) (H : List Ar), (∀ x ∈ l, x.toNat ≠ nb) -> (put A H l)[nb]? = H[nb]?
 | [], H, _ => rfl
 | x :: r, H, h => by
  show (put A (H.set x.toNat A) r)[nb]? = _
  rw [put_get A r _ (fun y hy => h y (by simp [hy])), List.getElem?_set_ne (h x (by simp))]
def owf (A : Ar) (s : Lk) (o : Oq) : Int := if 64 < s.dep + grows o then 2208 else if 8 < (if o.k = 9 then A.ls + 1 else A.ls) then 2206 else 0
end Go.Proofs.YtaiackmmmlhgbaaGreat.BQm
namespace Go.Proofs.YtaiackmmmlhgbaaGreat.BQs
open BPl
open YPl (Oq Bk Pg)
def fw2 {α : Type} (lim : Nat) (f : α -> Bool) : Nat -> List α -> Int
 | _, [] => -1
 | i, x :: r => if lim <= i \/ f x = false then (i : Int) else fw2 lim f (i + 1) r
theorem ixf_take {α : Type} (lim : Nat) (f : α -> Bool) : ∀ (l : List α) (i : Nat), i <= lim -> fw2 lim f i l = if ixf f i (l.take (lim - i)) < 0 /\ lim - i < l.length then (lim : Int) else ixf f i (l.take (lim - i))
 | [], i, hi => by
  rw [fw2, List.take_nil, ixf, if_neg (by simp)]
 | x :: r, i, hi => by
  rw [fw2]
  by_cases h : lim = i
  ·subst h
   rw [if_pos (.inl (Nat.le_refl _)), Nat.sub_self, List.take_zero, ixf, if_pos ⟨by omega, by simp⟩]
  ·obtain ⟨k, hk⟩ : ∃ k, lim - i = k + 1 := ⟨lim - i - 1, by omega⟩
   rw [hk, List.take_succ_cons, ixf]
   cases hf : f x with
   | false =>
    rw [if_pos (.inr rfl)]
    show (i : Int) = if (i : Int) < 0 /\ _ then (lim : Int) else (i : Int)
    rw [if_neg (fun h => by have := h.1; omega)]
   | true =>
    have ih := ixf_take lim f r (i + 1) (by omega)
    have ek : lim - (i + 1) = k := by omega
    rw [ek] at ih
    rw [if_neg (by simp; omega), if_pos rfl, ih, List.length_cons]
    by_cases hc : ixf f (i + 1) (List.take k r) < 0 /\ k < r.length
    ·rw [if_pos hc, if_pos ⟨hc.1, by omega⟩]
    ·rw [if_neg hc, if_neg (fun hh => hc ⟨hh.1, by omega⟩)]
theorem fwr_eq {α : Type} (lim : Nat) (f : α -> Bool) (l : List α) : fwr lim f l = fw2 lim f 0 l := by
 rw [ixf_take lim f l 0 (Nat.zero_le _), Nat.sub_zero]
 rfl
theorem fw2_drop {α : Type} (lim : Nat) (f : α -> Bool) {l : List α} {q : Nat} (h : q < l.length) : fw2 lim f q (l.drop q) = if lim <= q \/ f l[q] = false then (q : Int) else fw2 lim f (q + 1) (l.drop (q + 1)) := by
 rw [List.drop_eq_getElem_cons h, fw2]
def r1t (x : Pg) : Int := fw2 16384 STx.tg 0 x.t
def r1c (x : Pg) : Int := fw2 8192 (fun L => decide (CPu.ck L (x.t.length : Int) 64 = 0)) 0 x.c
def r1s (x : Pg) : Int := fw2 4096 elm 0 x.s
theorem shf_eq (x : Pg) : shf x = if 0 <= r1t x then (r1t x, 2200) else if 0 <= r1c x then (r1c x, 2201) else if 0 <= r1s x then (r1s x, 2202) else (0, 0) := by
 unfold shf r1t r1c r1s
 rw [fwr_eq, fwr_eq, fwr_eq]
end Go.Proofs.YtaiackmmmlhgbaaGreat.BQs
