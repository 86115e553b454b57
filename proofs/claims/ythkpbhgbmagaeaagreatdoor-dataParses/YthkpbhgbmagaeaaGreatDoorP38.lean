import Derived.Test.YthkpbhgbmagaeaaGreatDoorP22
import Derived.Test.YthkpbhgbmagaeaaGreatDoorP37
namespace Go.Proofs.YthkpbhgbmagaeaaGreatDoor.RJx
open Go.RowKit Go.Proofs.YthkpbhgbmagaeaaGreatDoor.Base Go.Proofs.YthkpbhgbmagaeaaGreatDoor.UBase Go.Proofs.YthkpbhgbmagaeaaGreatDoor.Spec Go.Proofs.YthkpbhgbmagaeaaGreatDoor.Rdr Go.Proofs.YthkpbhgbmagaeaaGreatDoor.RowR Go.Proofs.YthkpbhgbmagaeaaGreatDoor.Own Go.Proofs.YthkpbhgbmagaeaaGreatDoor.LState Go.Proofs.YthkpbhgbmagaeaaGreatDoor.Copied Go.Proofs.YthkpbhgbmagaeaaGreatDoor.RRd Go.Proofs.YthkpbhgbmagaeaaGreatDoor.RWd Go.Proofs.YthkpbhgbmagaeaaGreatDoor.RSt
set_option linter.unusedVariables false
/-- One more value behind a row of one's own. -/
theorem app1 (w1 : World) {lo : Nat} {lv : Value} {us : List Value} (x0 x1 x2 x3 x4 x5 : Value) (h : OwnV w1 lo lv us) (hlo : lo ≤ w1.heap.size) (hul : us.length ≤ 65536) (h1 : ∀ x ∈ [x0, x1, x2, x3, x4, x5], x.oneCell' = true) :
  ∃ g cap w3, (Builtin.append_ #[25, 25] 25 #[lv, .slice (some ⟨w1.heap.size, 0, none⟩) 1 1]).run Tryz.prog (w1.alloc (.cells #[x0, x1, x2, x3, x4, x5] 27)) = .ok (.slice (some ⟨g, 0, none⟩) (us.length + 1) cap) w3 ∧
   OwnV w3 lo (.slice (some ⟨g, 0, none⟩) (us.length + 1) cap) (us ++ [.agg #[x0, x1, x2, x3, x4, x5]]) ∧ w1.heap.size + 1 ≤ w3.heap.size ∧ (∀ k, k < w1.heap.size → lv.ownBlock ≠ some k → w3.heap[k]? = w1.heap[k]?) ∧ (lv.ownBlock = some g ∨ g = w1.heap.size + 1) ∧ (∀ a k, k ≤ lo → Below k a w1 → Below k a w3) ∧ lo ≤ g ∧ g < w3.heap.size := by
 obtain ⟨i0, hi0, hz0, hz1, hz2⟩ := info_parts info25
 have bA : Below w1.heap.size w1 (w1.alloc (.cells #[x0, x1, x2, x3, x4, x5] 27)) := (Below.refl _ w1).alloc (Nat.le_refl _) _
 have hown2 : (w1.alloc (.cells #[x0, x1, x2, x3, x4, x5] 27)).ownsRow lo 27 6 lv us.length (flat us) := Fresh.own_keep h.1 fun g hg => bA.block g (World.ownsRow.lt h.1 g hg).2
 have hzc := new_cells w1 [x0, x1, x2, x3, x4, x5] 27
 obtain ⟨lv', w3, hrun, hown3, hgrow, -, hat⟩ := run_append_own_at (P := Tryz.prog) (w1.alloc (.cells #[x0, x1, x2, x3, x4, x5] 27)) lo 25 25 27 i0 (.agg #[.int .i64 0, .bool false, .int .i64 0, .string ⟨#[]⟩, .slice none 0 0, .slice none 0 0]) 6 88 Tryz.underlying25 hi0 hz0 hz1 hz2 rfl (by decide) _ _ _ hown2 ⟨w1.heap.size, 0, none⟩ 1 1 [x0, x1, x2, x3, x4, x5] rfl hzc h1 (by unfold maxLen; omega) (by omega) (by simp; omega)
 obtain ⟨g, cap, rfl⟩ : ∃ g cap, lv' = .slice (some ⟨g, 0, none⟩) (us.length + 1) cap := by
  rcases hown3.2 with ⟨_, e⟩ | ⟨g, cap, cur, e, _⟩
  ·omega
  ·exact ⟨g, cap, e⟩
 have hlt := World.ownsRow.lt hown3 g rfl
 have hgs := hgrow.size
 rw [World.size_alloc] at hgs
 refine ⟨g, cap, w3, hrun, ⟨?_, sixes_snoc h.2 ⟨_, _, _, _, _, _, rfl, h1⟩⟩, by omega, fun k hk hne => ?_, ?_, fun a k hk hb => ?_, hlt.1, hlt.2⟩
 ·rw [flat_append, List.length_append]
  exact hown3
 ·exact (hgrow.block k (by simp; omega) (fun e => hne e.symm)).trans (bA.block k hk)
 ·rcases hat with e | e
  ·exact .inl (by rw [← e]; rfl)
  ·right
   have : g = (w1.alloc (.cells #[x0, x1, x2, x3, x4, x5] 27)).heap.size := by simpa [Value.ownBlock] using e
   rw [this, World.size_alloc]
 ·exact (hb.trans (bA.mono (by omega))).grown hgrow (by simp; omega) (fun q hq => by have := (World.ownsRow.lt hown2 q hq).1; omega)
/-- Amid a list or a record: the result's box B, its own box B + 1. -/
structure Jx (w : World) (R B m : Nat) (k : Int) (s : ByteArray) (i b : Nat) (nv lv : Value) (us : List Value) (T : Nat → Nat → Prop) (ns : List ByteArray) (acc : List C) : Prop where
 rr : Rr w R s i 0 0 b
 RB : R < B
 res : w.heap[B]? = some (.cells #[.int .i64 0, .bool false, .int .i64 0, .string ⟨#[]⟩, .slice none 0 0, .slice none 0 0] 27 (0, 0))
 box : w.heap[B + 1]? = some (.cells #[.int .i64 k, .bool false, .int .i64 0, .string ⟨#[]⟩, nv, lv] 27 (0, 0))
 own : OwnT w (B + 2) nv ns
 els : Els w m (B + 2) lv us acc T
 d1 : ∀ g, nv.ownBlock = some g → lv.ownBlock ≠ some g
 d2 : ∀ j, j < acc.length → ∀ g, T j g → nv.ownBlock ≠ some g
theorem Jx.lt {w : World} {R B m : Nat} {k : Int} {s : ByteArray} {i b : Nat} {nv lv : Value} {us : List Value} {T : Nat → Nat → Prop} {ns : List ByteArray} {acc : List C} (h : Jx w R B m k s i b nv lv us T ns acc) : B + 2 ≤ w.heap.size :=
 (Array.getElem?_eq_some_iff.1 h.box).1
theorem Jx.kr {w w' : World} {R B m : Nat} {k : Int} {s : ByteArray} {i b j b' : Nat} {nv lv : Value} {us : List Value} {T : Nat → Nat → Prop} {ns : List ByteArray} {acc : List C} (h : Jx w R B m k s i b nv lv us T ns acc) (hk : Kr R w w') (hr : Rr w' R s j 0 0 b') : Jx w' R B m k s j b' nv lv us T ns acc := by
 have hRB := h.RB
 have hlt := h.lt
 exact ⟨hr, h.RB, (hk.other B (by omega) (by omega)).trans h.res, (hk.other (B + 1) (by omega) (by omega)).trans h.box, Byts.own_kr h.own hk (by omega), h.els.kr hk (by omega), h.d1, h.d2⟩
theorem Jx.shape {w : World} {R B m : Nat} {k : Int} {s : ByteArray} {i b : Nat} {nv lv : Value} {us : List Value} {T : Nat → Nat → Prop} {ns : List ByteArray} {acc : List C} (h : Jx w R B m k s i b nv lv us T ns acc) : (∃ a cap, lv = .slice a us.length cap) ∧ ∃ a cap, nv = .slice a ns.length cap := by
 constructor
 ·rcases h.els.own.1.2 with ⟨e, e0⟩ | ⟨g, cap, cur, e, _⟩
  ·exact ⟨none, 0, by rw [e, e0]⟩
  ·exact ⟨_, cap, e⟩
 ·rcases h.own.2 with ⟨e, e0⟩ | ⟨g, cap, cur, e, _⟩
  ·exact ⟨none, 0, by rw [e, e0]⟩
  ·exact ⟨_, cap, e⟩
/-- Behind the append, ahead of the store; w1 is the world behind the call. -/
structure Ap (w w1 w3 : World) (B g : Nat) (lv : Value) (us : List Value) (u : Value) (cap : Nat) : Prop where
 own : OwnV w3 (B + 2) (.slice (some ⟨g, 0, none⟩) (us.length + 1) cap) (us ++ [u])
 sz : w1.heap.size + 1 ≤ w3.heap.size
 oth : ∀ k, k < w1.heap.size → lv.ownBlock ≠ some k → w3.heap[k]? = w1.heap[k]?
 gs : lv.ownBlock = some g ∨ g = w1.heap.size + 1
 bel : ∀ a k, k ≤ B + 2 → Below k a w1 → Below k a w3
 lo : B + 2 ≤ g
 hi : g < w3.heap.size
theorem Jx.app {w w1 : World} {R B m : Nat} {k : Int} {s : ByteArray} {i b : Nat} {nv lv : Value} {us : List Value} {T : Nat → Nat → Prop} {ns : List ByteArray} {acc : List C} (h : Jx w R B m k s i b nv lv us T ns acc) (hk : Kr R w w1) (hul : us.length ≤ 65536) (x0 x1 x2 x3 x4 x5 : Value) (h1 : ∀ x ∈ [x0, x1, x2, x3, x4, x5], x.oneCell' = true) :
  ∃ g cap w3, (Builtin.append_ #[25, 25] 25 #[lv, .slice (some ⟨w1.heap.size, 0, none⟩) 1 1]).run Tryz.prog (w1.alloc (.cells #[x0, x1, x2, x3, x4, x5] 27)) = .ok (.slice (some ⟨g, 0, none⟩) (us.length + 1) cap) w3 ∧ Ap w w1 w3 B g lv us (.agg #[x0, x1, x2, x3, x4, x5]) cap := by
 have hlt := h.lt
 have hs := hk.below.size
 have hRB := h.RB
 obtain ⟨g, cap, w3, q1, q2, q3, q4, q5, q6, q7, q8⟩ := app1 w1 x0 x1 x2 x3 x4 x5 (h.els.kr hk (by omega)).own (by omega) hul h1
 exact ⟨g, cap, w3, q1, q2, q3, q4, q5, q6, q7, q8⟩
theorem Ap.keep {w w1 w3 : World} {R B g cap m : Nat} {k : Int} {s : ByteArray} {i b : Nat} {nv lv : Value} {us : List Value} {u : Value} {T : Nat → Nat → Prop} {ns : List ByteArray} {acc : List C} (h : Jx w R B m k s i b nv lv us T ns acc) (hk : Kr R w w1) (a : Ap w w1 w3 B g lv us u cap) :
  w3.heap[B + 1]? = some (.cells #[.int .i64 k, .bool false, .int .i64 0, .string ⟨#[]⟩, nv, lv] 27 (0, 0)) ∧ w3.heap[B]? = some (.cells #[.int .i64 0, .bool false, .int .i64 0, .string ⟨#[]⟩, .slice none 0 0, .slice none 0 0] 27 (0, 0)) ∧ w3.heap[R]? = w1.heap[R]? := by
 have hlt := h.lt
 have hs := hk.below.size
 have hRB := h.RB
 have hlo : ∀ q, lv.ownBlock = some q → B + 2 ≤ q := fun q hq => (World.ownsRow.lt h.els.own.1 q hq).1
 have hne : ∀ q, q < B + 2 → lv.ownBlock ≠ some q := fun q hq e => by have := hlo q e; omega
 exact ⟨(a.oth _ (by omega) (hne _ (by omega))).trans ((hk.other _ (by omega) (by omega)).trans h.box), (a.oth _ (by omega) (hne _ (by omega))).trans ((hk.other _ (by omega) (by omega)).trans h.res), a.oth _ (by omega) (hne _ (by omega))⟩
/-- Behind the store. -/
theorem Ap.kb {w w1 w3 : World} {R B g cap m : Nat} {k : Int} {s : ByteArray} {i b : Nat} {nv lv : Value} {us : List Value} {u : Value} {T : Nat → Nat → Prop} {ns : List ByteArray} {acc : List C} (h : Jx w R B m k s i b nv lv us T ns acc) (hk : Kr R w w1) (a : Ap w w1 w3 B g lv us u cap) (y : Value) :
  Kb R B w (w3.setCell ⟨B + 1, 5, none⟩ y) := by
 have hlt := h.lt
 have hs := hk.below.size
 have hRB := h.RB
 have hlo : ∀ q, lv.ownBlock = some q → B + 2 ≤ q := fun q hq => (World.ownsRow.lt h.els.own.1 q hq).1
 have hne : ∀ q, q < B + 2 → lv.ownBlock ≠ some q := fun q hq e => by have := hlo q e; omega
 refine ⟨(a.bel w R (by omega) hk.below).setCell (p := ⟨B + 1, 5, none⟩) (by simp; omega) _, fun q hq hqB => ?_⟩
 rw [Below.heap_setCell _ _ _ _ (by simp; omega)]
 exact (a.oth q (by omega) (hne q (by omega))).trans (hk.other q hq (by omega))
theorem Ap.box {w w1 w3 : World} {R B g cap m : Nat} {k : Int} {s : ByteArray} {i b : Nat} {nv lv : Value} {us : List Value} {u : Value} {T : Nat → Nat → Prop} {ns : List ByteArray} {acc : List C} (h : Jx w R B m k s i b nv lv us T ns acc) (hk : Kr R w w1) (a : Ap w w1 w3 B g lv us u cap) (y : Value) :
  (w3.setCell ⟨B + 1, 5, none⟩ y).heap[B + 1]? = some (.cells #[.int .i64 k, .bool false, .int .i64 0, .string ⟨#[]⟩, nv, y] 27 (0, 0)) ∧ (w3.setCell ⟨B + 1, 5, none⟩ y).heap[B]? = some (.cells #[.int .i64 0, .bool false, .int .i64 0, .string ⟨#[]⟩, .slice none 0 0, .slice none 0 0] 27 (0, 0)) ∧ (w3.setCell ⟨B + 1, 5, none⟩ y).heap[R]? = w1.heap[R]? := by
 obtain ⟨h1, h2, h3⟩ := a.keep h hk
 have hRB := h.RB
 refine ⟨by rw [bset h1]; rfl, ?_, ?_⟩
 ·rw [Below.heap_setCell _ _ _ _ (by simp)]; exact h2
 ·rw [Below.heap_setCell _ _ _ _ (by simp; omega)]; exact h3
theorem Ap.jx {w w1 w3 : World} {R B g cap m l1 : Nat} {k : Int} {s : ByteArray} {i b j b' : Nat} {nv lv : Value} {us : List Value} {u : Value} {c : C} {T : Nat → Nat → Prop} {ns : List ByteArray} {acc : List C} (h : Jx w R B m k s i b nv lv us T ns acc) (hk : Kr R w w1) (a : Ap w w1 w3 B g lv us u cap)
  (hl1 : w.heap.size ≤ l1) (hu : Fs w1 m (Rg l1 w1.heap.size) u c) (hr : Rr w1 R s j 0 0 b') :
  Jx (w3.setCell ⟨B + 1, 5, none⟩ (.slice (some ⟨g, 0, none⟩) (us.length + 1) cap)) R B m k s j b' nv (.slice (some ⟨g, 0, none⟩) (us.length + 1) cap) (us ++ [u]) (fun q => if q < acc.length then T q else Rg l1 w1.heap.size) ns (acc ++ [c]) := by
 have hlt := h.lt
 have hs := hk.below.size
 have hRB := h.RB
 have hsz := a.sz
 have hlo := a.lo
 obtain ⟨y1, y2, y3⟩ := a.box h hk (.slice (some ⟨g, 0, none⟩) (us.length + 1) cap)
 have oth : ∀ q, q < w1.heap.size → q ≠ B + 1 → lv.ownBlock ≠ some q → (w3.setCell ⟨B + 1, 5, none⟩ (.slice (some ⟨g, 0, none⟩) (us.length + 1) cap)).heap[q]? = w1.heap[q]? := fun q hq hB hne => by
  rw [Below.heap_setCell _ _ _ _ (by simpa using hB)]
  exact a.oth q hq hne
 have hs4 : (w3.setCell ⟨B + 1, 5, none⟩ (.slice (some ⟨g, 0, none⟩) (us.length + 1) cap)).heap.size = w3.heap.size := by simp [World.setCell]
 have hnlt := World.ownsRow.lt h.own
 have hllt := World.ownsRow.lt h.els.own.1
 have hgb : (Value.slice (some ⟨g, 0, none⟩) (us.length + 1) cap).ownBlock = some g := rfl
 refine ⟨hr.keep y3, h.RB, y2, y1, Fresh.own_keep h.own fun q hq => ?_, ?_, fun q hq e => ?_, fun q hq x hx e => ?_⟩
 ·have := hnlt q hq
  exact (oth q (by omega) (by omega) (h.d1 q hq)).trans (hk.other q (by omega) (by omega))
 ·refine h.els.more hu hlt hl1 (by omega) (by omega) ⟨Fresh.own_keep a.own.1 fun q hq => ?_, a.own.2⟩ (fun q hq => ?_) (fun q hq => ?_) (fun q hq hq2 hne => (oth q (by omega) (by omega) hne).trans (hk.other q (by omega) (by omega))) (fun q hq hq2 => ?_)
  ·have e : g = q := by simpa [Value.ownBlock] using hq
   exact Below.heap_setCell _ _ _ _ (by simp; omega)
  ·have e : g = q := by simpa [Value.ownBlock] using hq
   rcases a.gs with h3 | h3
   ·exact .inl (by rw [h3, e])
   ·exact .inr (by omega)
  ·have e : g = q := by simpa [Value.ownBlock] using hq
   rcases a.gs with h3 | h3
   ·exact .inl (by rw [h3, e])
   ·exact .inr (by omega)
  ·have := hq.1
   have := hq.2
   exact oth q hq2 (by omega) (fun e => by have := (hllt q e).2; omega)
 ·have e' : g = q := by simpa [Value.ownBlock] using e
  rcases a.gs with h3 | h3
  ·exact h.d1 q hq (by rw [h3, e'])
  ·have := (hnlt q hq).2; omega
 ·by_cases e' : q < acc.length
  ·rw [if_pos e'] at hx
   exact h.d2 q e' x hx e
  ·rw [if_neg e'] at hx
   have := (hnlt x e).2
   have := hx.1
   omega
/-- The value that is handed out, once it stands in the result's box. -/
theorem Jx.fs {w W : World} {R B m : Nat} {k : Int} {s : ByteArray} {i b : Nat} {nv lv : Value} {us : List Value} {T : Nat → Nat → Prop} {ns : List ByteArray} {acc : List C} (h : Jx w R B m k s i b nv lv us T ns acc) (hk : -9223372036854775808 ≤ k ∧ k ≤ 9223372036854775807) (hn : ns.length ≤ 65536) (hs : ∀ t ∈ ns, t.size ≤ 4096) (hl : acc.length ≤ 65536) (hW : ∀ q, q ≠ B → W.heap[q]? = w.heap[q]?) (hz : W.heap.size = w.heap.size) :
  Fs W (m + 1) (Rg B W.heap.size) (.agg #[.int .i64 k, .bool false, .int .i64 0, .string ⟨#[]⟩, nv, lv]) (.mk k false 0 ⟨#[]⟩ ns acc) := by
 rw [Fs]
 have hE6 : Els W m (B + 2) lv us acc T := h.els.keep (fun g hg hs => hW g (by omega)) (by omega)
 have hlen := h.els.len
 have hO : OwnT W (B + 2) nv ns := Fresh.own_keep h.own fun g hg => hW g (by have := (World.ownsRow.lt h.own g hg).1; omega)
 refine ⟨nv, lv, us, T, rfl, hk, by decide, by decide, by omega, fun t ht => by have := hs t ht; omega, by omega, row0 hO, fun g hg => ?_, ⟨row0 hE6.own.1, hE6.own.2⟩, fun g hg => ⟨?_, fun e => h.d1 g e hg⟩, hlen, fun q hq g hg => ?_, hE6.dis, hE6.fs⟩
 ·have := World.ownsRow.lt hO g hg
  exact ⟨by omega, by omega⟩
 ·have := World.ownsRow.lt hE6.own.1 g hg
  exact ⟨by omega, by omega⟩
 ·have := hE6.out q hq g hg
  exact ⟨⟨by omega, by omega⟩, h.d2 q hq g hg, this.2.2⟩
end Go.Proofs.YthkpbhgbmagaeaaGreatDoor.RJx
namespace Go.Proofs.YthkpbhgbmagaeaaGreatDoor.RJn
open Go.RowKit Go.Proofs.YthkpbhgbmagaeaaGreatDoor.Base Go.Proofs.YthkpbhgbmagaeaaGreatDoor.UBase Go.Proofs.YthkpbhgbmagaeaaGreatDoor.Spec Go.Proofs.YthkpbhgbmagaeaaGreatDoor.Rdr Go.Proofs.YthkpbhgbmagaeaaGreatDoor.RowR Go.Proofs.YthkpbhgbmagaeaaGreatDoor.Own Go.Proofs.YthkpbhgbmagaeaaGreatDoor.LState Go.Proofs.YthkpbhgbmagaeaaGreatDoor.RRd Go.Proofs.YthkpbhgbmagaeaaGreatDoor.RWd Go.Proofs.YthkpbhgbmagaeaaGreatDoor.RSt Go.Proofs.YthkpbhgbmagaeaaGreatDoor.RJx
set_option linter.unusedVariables false
/-- An append in a row of operations, by what it answers. -/
theorem list_app {ops : Array Oper} {Q : Exit → Act → World → Prop} {rest : List Oper} {o : Oper} {a : Act} {w w' : World} (hgd : o.guard = none) (s x : Operand) (t : TypeId) (ho : o.op = .call { callee := .builtin .append, args := #[s, x], argTypes := #[t, t] })
  {v v' : Value} {ad : Addr} {m c : Nat} (hs : a.eval s = v) (hx : a.eval x = .slice (some ad) m c) (hr : (Builtin.append_ #[t, t] o.type #[v, .slice (some ad) m c]).run Tryz.prog w = .ok v' w') (hk : wpList Tryz.prog ops Q rest (a.put o.dst v') w') : wpList Tryz.prog ops Q (o :: rest) a w :=
 wpList_plain hgd fun K hK => by
  unfold Oper.wp execOp
  simp only [ho, resolve, invoke, builtin, Sem.run_bind, Sem.run_pure, Result.andThen_ok, List.map_toArray, List.map_cons, List.map_nil, hs, hx, hr]
  exact hK _ _ hk
theorem one_text (w : World) (t : ByteArray) : ∀ j u, [Value.string t][j]? = some u → (w.alloc (.cells #[.string t] 9)).cell? ((⟨w.heap.size, 0, none⟩ : Addr).add j) = some u := new_cells w [.string t] 9
/-- Behind the append of a name, ahead of the store. -/
structure An (w w3 : World) (B g : Nat) (nv : Value) (ns : List ByteArray) (t : ByteArray) (cap : Nat) : Prop where
 own : OwnT w3 (B + 2) (.slice (some ⟨g, 0, none⟩) (ns.length + 1) cap) (ns ++ [t])
 sz : w.heap.size + 1 ≤ w3.heap.size
 oth : ∀ k, k < w.heap.size → nv.ownBlock ≠ some k → w3.heap[k]? = w.heap[k]?
 gs : nv.ownBlock = some g ∨ g = w.heap.size + 1
 bel : ∀ a k, k ≤ B + 2 → Below k a w → Below k a w3
 lo : B + 2 ≤ g
 hi : g < w3.heap.size
theorem Jx.appN {w : World} {R B m : Nat} {k : Int} {s : ByteArray} {i b : Nat} {nv lv : Value} {us : List Value} {T : Nat → Nat → Prop} {ns : List ByteArray} {acc : List C} (h : Jx w R B m k s i b nv lv us T ns acc) (hn : ns.length ≤ 65536) (t : ByteArray) :
  ∃ g cap w3, (Builtin.append_ #[24, 24] 24 #[nv, .slice (some ⟨w.heap.size, 0, none⟩) 1 1]).run Tryz.prog (w.alloc (.cells #[.string t] 9)) = .ok (.slice (some ⟨g, 0, none⟩) (ns.length + 1) cap) w3 ∧ An w w3 B g nv ns t cap := by
 have hlt := h.lt
 obtain ⟨i0, hi0, hz0, hz1, hz2⟩ := info_parts info9
 have bA : Below w.heap.size w (w.alloc (.cells #[.string t] 9)) := (Below.refl _ w).alloc (Nat.le_refl _) _
 have hown2 : (w.alloc (.cells #[.string t] 9)).ownsRow (B + 2) 9 1 nv ns.length (ns.map Value.string) := Fresh.own_keep h.own fun g hg => bA.block g (World.ownsRow.lt h.own g hg).2
 obtain ⟨nv', w3, hrun, hown3, hgrow, -, hat⟩ := run_append_own_at (P := Tryz.prog) (w.alloc (.cells #[.string t] 9)) (B + 2) 24 24 9 i0 (.string ⟨#[]⟩) 1 16 Tryz.underlying24 hi0 hz0 hz1 hz2 rfl (by decide) _ _ _ hown2 ⟨w.heap.size, 0, none⟩ 1 1 [.string t] rfl (one_text w t) (fun u hu => by simp at hu; subst hu; rfl) (by unfold maxLen; omega) (by omega) (by simp; omega)
 obtain ⟨g, cap, rfl⟩ : ∃ g cap, nv' = .slice (some ⟨g, 0, none⟩) (ns.length + 1) cap := by
  rcases hown3.2 with ⟨_, e⟩ | ⟨g, cap, cur, e, _⟩
  ·omega
  ·exact ⟨g, cap, e⟩
 have hlt3 := World.ownsRow.lt hown3 g rfl
 have hgs := hgrow.size
 rw [World.size_alloc] at hgs
 refine ⟨g, cap, w3, hrun, ?_, by omega, fun k hk hne => ?_, ?_, fun a k hk hb => ?_, hlt3.1, hlt3.2⟩
 ·show w3.ownsRow _ _ _ _ _ _
  rw [List.length_append, List.map_append]
  exact hown3
 ·exact (hgrow.block k (by simp; omega) (fun e => hne e.symm)).trans (bA.block k hk)
 ·rcases hat with e | e
  ·exact .inl (by rw [← e]; rfl)
  ·right
   have : g = (w.alloc (.cells #[.string t] 9)).heap.size := by simpa [Value.ownBlock] using e
   rw [this, World.size_alloc]
 ·exact (hb.trans (bA.mono (by omega))).grown hgrow (by simp; omega) (fun q hq => by have := (World.ownsRow.lt hown2 q hq).1; omega)
theorem An.keep {w w3 : World} {R B g cap m : Nat} {k : Int} {s : ByteArray} {i b : Nat} {nv lv : Value} {us : List Value} {t : ByteArray} {T : Nat → Nat → Prop} {ns : List ByteArray} {acc : List C} (h : Jx w R B m k s i b nv lv us T ns acc) (a : An w w3 B g nv ns t cap) :
  w3.heap[B + 1]? = some (.cells #[.int .i64 k, .bool false, .int .i64 0, .string ⟨#[]⟩, nv, lv] 27 (0, 0)) := by
 have hlt := h.lt
 have hne : ∀ q, q < B + 2 → nv.ownBlock ≠ some q := fun q hq e => by have := (World.ownsRow.lt h.own q e).1; omega
 exact (a.oth _ (by omega) (hne _ (by omega))).trans h.box
theorem An.jx {w w3 : World} {R B g cap m : Nat} {k : Int} {s : ByteArray} {i b : Nat} {nv lv : Value} {us : List Value} {t : ByteArray} {T : Nat → Nat → Prop} {ns : List ByteArray} {acc : List C} (h : Jx w R B m k s i b nv lv us T ns acc) (a : An w w3 B g nv ns t cap) :
  Jx (w3.setCell ⟨B + 1, 4, none⟩ (.slice (some ⟨g, 0, none⟩) (ns.length + 1) cap)) R B m k s i b (.slice (some ⟨g, 0, none⟩) (ns.length + 1) cap) lv us T (ns ++ [t]) acc ∧ Kb R B w (w3.setCell ⟨B + 1, 4, none⟩ (.slice (some ⟨g, 0, none⟩) (ns.length + 1) cap)) := by
 have hlt := h.lt
 have hRB := h.RB
 have hsz := a.sz
 have hlo := a.lo
 have hnlt := World.ownsRow.lt h.own
 have hllt := World.ownsRow.lt h.els.own.1
 have hne : ∀ q, q < B + 2 → nv.ownBlock ≠ some q := fun q hq e => by have := (hnlt q e).1; omega
 have oth : ∀ q, q < w.heap.size → q ≠ B + 1 → nv.ownBlock ≠ some q → (w3.setCell ⟨B + 1, 4, none⟩ (.slice (some ⟨g, 0, none⟩) (ns.length + 1) cap)).heap[q]? = w.heap[q]? := fun q hq hB hne => by
  rw [Below.heap_setCell _ _ _ _ (by simpa using hB)]
  exact a.oth q hq hne
 have hs4 : (w3.setCell ⟨B + 1, 4, none⟩ (.slice (some ⟨g, 0, none⟩) (ns.length + 1) cap)).heap.size = w3.heap.size := by simp [World.setCell]
 refine ⟨⟨h.rr.keep (oth R (by omega) (by omega) (hne R (by omega))), hRB, (oth B (by omega) (by omega) (hne B (by omega))).trans h.res, by rw [bset (An.keep h a)]; rfl, Fresh.own_keep a.own fun q hq => ?_, ?_, fun q hq e => ?_, fun q hq x hx e => ?_⟩, (a.bel w R (by omega) (Below.refl _ _)).setCell (p := ⟨B + 1, 4, none⟩) (by simp; omega) _, fun q hq hqB => oth q (by omega) (by omega) (hne q (by omega))⟩
 ·have e : g = q := by simpa [Value.ownBlock] using hq
  exact Below.heap_setCell _ _ _ _ (by simp; omega)
 ·have hE := h.els
  refine ⟨⟨Fresh.own_keep hE.own.1 fun q hq => oth q (hllt q hq).2 (by have := (hllt q hq).1; omega) (fun e => h.d1 q e hq), hE.own.2⟩, hE.len, fun j h1 h2 => (hE.fs j h1 h2).keep fun q hq hq2 => ?_, fun j hj q hq => ?_, hE.dis⟩
  ·have := hE.out j h2 q hq
   exact oth q this.2.1 (by omega) (h.d2 j h2 q hq)
  ·have := hE.out j hj q hq
   exact ⟨this.1, by omega, this.2.2⟩
 ·have e' : g = q := by simpa [Value.ownBlock] using hq
  rcases a.gs with h3 | h3
  ·exact h.d1 q (by rw [h3, e']) e
  ·have := (hllt q e).2; omega
 ·have e' : g = x := by simpa [Value.ownBlock] using e
  have h4 := h.els.out q hq x hx
  rcases a.gs with h3 | h3
  ·exact h.d2 q hq x hx (by rw [h3, e'])
  ·omega
end Go.Proofs.YthkpbhgbmagaeaaGreatDoor.RJn
