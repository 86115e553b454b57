import Derived.Deep.AppendLies
import Derived.Lib.ItoaLen
import Derived.LoopN
import Derived.LoopTactic
import Derived.Maps.AppendAt
import Derived.Test.YthkpbhgbmagaeaaGreatDoorP00
import Derived.Test.YthkpbhgbmagaeaaGreatDoorP04
import Derived.Test.YthkpbhgbmagaeaaGreatDoorP05
import Derived.Test.YthkpbhgbmagaeaaGreatDoorP10
import Derived.Test.YthkpbhgbmagaeaaGreatDoorP11
namespace Go.Proofs.YthkpbhgbmagaeaaGreatDoor.WPk
open Go.RowKit Go.Proofs.YthkpbhgbmagaeaaGreatDoor.Base Go.Proofs.YthkpbhgbmagaeaaGreatDoor.Byts Go.Proofs.YthkpbhgbmagaeaaGreatDoor.ABy
set_option linter.unusedVariables false
theorem size_list (s : ByteArray) : s.data.toList.length = s.size := by rw [Array.length_toList]; rfl
/-- v is a row of one's own that holds L; older blocks and blocks of other things than bytes are as in w0; lits: blocks of bytes that were laid out since. -/
structure Pk (B : Nat) (w0 W : World) (v : Value) (L : List UInt8) (lits : List (Nat × List UInt8)) : Prop where
 own : Own W B v L
 bel : Below B w0 W
 ty : ∀ (k : Nat) (cs : Array Value) (t : TypeId) (fz : Nat × Nat), w0.heap[k]? = some (Obj.cells cs t fz) → t ≠ 5 → W.heap[k]? = some (Obj.cells cs t fz)
 le : B ≤ W.heap.size
 lit : ∀ p ∈ lits, v.ownBlock ≠ some p.1 ∧ p.1 < W.heap.size ∧ ∀ j u, (Lib.byteCells p.2)[j]? = some u → W.cell? ⟨p.1, j, none⟩ = some u
 nil : v = .slice none 0 0 ↔ L = []
theorem Pk.start {B : Nat} {W : World} {v : Value} {L : List UInt8} (h : Own W B v L) (hB : B ≤ W.heap.size) (hn : v = .slice none 0 0 ↔ L = []) : Pk B W W v L [] :=
 ⟨h, Below.refl _ _, fun _ _ _ _ h _ => h, hB, (fun p hp => by cases hp), hn⟩
theorem Pk.below {B : Nat} {w0 W W' : World} {v : Value} {L : List UInt8} {lits : List (Nat × List UInt8)} (h : Pk B w0 W v L lits) (hb : Below W.heap.size W W') : Pk B w0 W' v L lits :=
 ⟨own_below h.own hb, h.bel.trans (hb.mono h.le), fun k cs t fz hk ht => (hb.block k (Array.getElem?_eq_some_iff.1 (h.ty k cs t fz hk ht)).1).trans (h.ty k cs t fz hk ht), by have := hb.size; have := h.le; omega,
  (fun p hp => ⟨(h.lit p hp).1, by have := (h.lit p hp).2.1; have := hb.size; omega, fun j u hu => (World.cell?_of_block (w := W) (hb.block p.1 (h.lit p hp).2.1)).trans ((h.lit p hp).2.2 j u hu)⟩), h.nil⟩
theorem Pk.drew {B : Nat} {w0 W : World} {v : Value} {L : List UInt8} {lits : List (Nat × List UInt8)} (h : Pk B w0 W v L lits) : Pk B w0 W.drew v L lits := h.below (Below.refl _ _).drew
theorem Pk.put {B : Nat} {w0 W : World} {v : Value} {L : List UInt8} {lits : List (Nat × List UInt8)} (h : Pk B w0 W v L lits) (x : List UInt8) : Pk B w0 (W.alloc (.cells (Lib.byteCells x).toArray 5)) v L ((W.heap.size, x) :: lits) := by
 have k := h.below ((Below.refl _ _).alloc (Nat.le_refl _) (.cells (Lib.byteCells x).toArray 5))
 refine ⟨k.own, k.bel, k.ty, k.le, fun p hp => ?_, h.nil⟩
 rcases List.mem_cons.1 hp with rfl | hp
 ·refine ⟨fun e => by have := (World.ownsRow.lt h.own _ e).2; omega, by simp, fun j u hu => ?_⟩
  have h2 := Base.heap_alloc_new W (.cells (Lib.byteCells x).toArray 5)
  unfold World.cell?
  rw [h2]
  simpa using hu
 ·exact k.lit p hp
theorem Pk.more {B : Nat} {w0 W W' : World} {v v' : Value} {L : List UInt8} {lits : List (Nat × List UInt8)} {n : Nat} {x : List UInt8} (h : Pk B w0 W v L lits) (hown : W'.ownsRow B 5 1 v' (L.length + n) (Lib.byteCells L ++ Lib.byteCells x)) (hn : n = x.length)
  (hgrow : W.grownBy W' v.ownBlock) (hnil : v' = .slice none 0 0 ↔ v = .slice none 0 0 ∧ n = 0) (hat : v'.ownBlock = v.ownBlock ∨ v'.ownBlock = some W.heap.size) : Pk B w0 W' v' (L ++ x) lits := by
 subst hn
 refine ⟨?_, h.bel.grown hgrow h.le (fun k hk => (World.ownsRow.lt h.own k hk).1), fun k cs t fz hk ht => ?_, by have := hgrow.size; have := h.le; omega, fun p hp => ?_, ?_⟩
 ·unfold Own
  rw [Lib.byteCells_append, List.length_append]
  exact hown
 ·have hk1 := h.ty k cs t fz hk ht
  have hne := Lib.ownBlock_ne h.own hk1 ht
  rw [hgrow.block k (Array.getElem?_eq_some_iff.1 hk1).1 (fun e => hne e.symm)]
  exact hk1
 ·obtain ⟨h1, hlt, h2⟩ := h.lit p hp
  refine ⟨?_, by have := hgrow.size; omega, fun j u hu => (World.cell?_of_block (w := W) (hgrow.block p.1 hlt (fun e => h1 e.symm))).trans (h2 j u hu)⟩
  rcases hat with e | e
  ·rw [e]; exact h1
  ·rw [e]
   intro e2
   have := Option.some.inj e2
   omega
 ·rw [hnil, h.nil, List.length_eq_zero_iff, List.append_eq_nil_iff]
theorem Pk.shape {B : Nat} {w0 W : World} {v : Value} {L : List UInt8} {lits : List (Nat × List UInt8)} (h : Pk B w0 W v L lits) : ∃ ao n c, v = .slice ao n c := by
 rcases h.own.2 with ⟨hv, _⟩ | ⟨g, cap, cur, hv, _⟩
 ·exact ⟨_, _, _, hv⟩
 ·exact ⟨_, _, _, hv⟩
theorem bytes_one (x : List UInt8) : ∀ u ∈ Lib.byteCells x, u.oneCell' = true := by
 intro u hu
 obtain ⟨b, _, rfl⟩ := List.mem_map.1 hu
 rfl
theorem Pk.lay {B : Nat} {w0 W : World} {v : Value} {L : List UInt8} {lits : List (Nat × List UInt8)} (h : Pk B w0 W v L lits) (x : List UInt8) (cs : Array Value) (hx : (Lib.byteCells x).toArray = cs) : Pk B w0 (W.alloc (.cells cs 5)) v L ((W.heap.size, x) :: lits) := by
 subst hx
 exact h.put x
theorem Pk.trans {B : Nat} {w0 W1 W : World} {v v' : Value} {L L' : List UInt8} {l1 lits : List (Nat × List UInt8)} (h : Pk B w0 W1 v L l1) (k : Pk B W1 W v' L' lits) : Pk B w0 W v' L' [] :=
 ⟨k.own, h.bel.trans k.bel, fun n cs t fz hn ht => k.ty n cs t fz (h.ty n cs t fz hn ht) ht, k.le, (fun p hp => by cases hp), k.nil⟩
theorem Pk.bare {B : Nat} {w0 W : World} {v : Value} {L : List UInt8} {lits : List (Nat × List UInt8)} (h : Pk B w0 W v L lits) : Pk B w0 W v L [] :=
 ⟨h.own, h.bel, h.ty, h.le, (fun p hp => by cases hp), h.nil⟩
/-- Bytes that a callee has laid out. -/
theorem Pk.row {B : Nat} {w0 W W' : World} {v : Value} {L : List UInt8} {lits : List (Nat × List UInt8)} (h : Pk B w0 W v L lits) (hb : Below W.heap.size W W') {g : Nat} {x : List UInt8} (hg : W.heap.size ≤ g) (hg2 : g < W'.heap.size) (hx : ∀ j u, (Lib.byteCells x)[j]? = some u → W'.cell? ⟨g, j, none⟩ = some u) : Pk B w0 W' v L ((g, x) :: lits) := by
 have k := h.below hb
 refine ⟨k.own, k.bel, k.ty, k.le, fun p hp => ?_, k.nil⟩
 rcases List.mem_cons.1 hp with rfl | hp
 ·exact ⟨fun e => by have := (World.ownsRow.lt h.own _ e).2; omega, hg2, hx⟩
 ·exact k.lit p hp
set_option maxRecDepth 20000 in
/-- A text appended. -/
theorem run_text (ty : TypeId) {B : Nat} {w0 W : World} {v : Value} {L : List UInt8} {lits : List (Nat × List UInt8)} (h : Pk B w0 W v L lits) (y : ByteArray) (hlen : L.length + y.size ≤ 140737488355328) :
  ∃ v' W', (Builtin.append_ #[22, 9] ty #[v, .string y]).run Tryz.prog W = .ok v' W' ∧ Pk B w0 W' v' (L ++ y.data.toList) lits := by
 obtain ⟨i0, hi, hz0, hz1, hz2⟩ := info_parts info5
 obtain ⟨v', W', hr, h2, h3, h4⟩ := Lib.run_append_own_string (P := Tryz.prog) W B 22 9 ty 5 i0 Tryz.underlying22 Tryz.underlying9 hi hz0 hz1 hz2 v L.length (Lib.byteCells L) h.own y (by unfold maxLen; omega) hlen h.le
 refine ⟨v', W', hr, h.more h2 (size_list y).symm h3 h4 ?_⟩
 rcases h.own.2 with ⟨rfl, h0⟩ | ⟨g, cap, cur, rfl, _, hh, hn, hm, hcs, _⟩
 ·by_cases hy : y.size = 0
  ·left
   rw [h4.2 ⟨rfl, hy⟩]
  ·right
   have hr2 := run_append_nil_string (P := Tryz.prog) W 22 9 ty 5 i0 (.int .u8 0) Tryz.underlying22 Tryz.underlying9 hi hz0 y (by omega) (by omega) (by rw [hz2]; omega)
   have e := hr.symm.trans hr2
   injection e with e1 e2
   rw [e1]
   rfl
 ·by_cases hroom : L.length + y.size ≤ cap
  ·left
   have hcs' : cur.size = cap := by simpa using hcs
   have hr2 := Lib.run_append_room_string (P := Tryz.prog) W 22 9 ty 5 i0 Tryz.underlying22 Tryz.underlying9 hi hz1 g L.length cap cur hh y hroom (by omega)
   have e := hr.symm.trans hr2
   injection e with e1 e2
   rw [e1]
   rfl
  ·right
   have hr2 := Lib.run_append_grow_string (P := Tryz.prog) W 22 9 ty 5 i0 (.int .u8 0) Tryz.underlying22 Tryz.underlying9 hi hz0 ⟨g, 0, none⟩ L.length cap (Lib.byteCells L) (by rw [hz1, Lib.byteCells_length]; omega) (World.ownsRow.cells (g := g) h.own rfl) y (by omega) (by omega) (by rw [hz2]; exact growslice_fits (by omega) (by omega))
   have e := hr.symm.trans hr2
   injection e with e1 e2
   rw [e1]
   rfl
/-- Bytes that lie somewhere appended. -/
theorem run_bytes (ty : TypeId) {B : Nat} {w0 W : World} {v : Value} {L : List UInt8} {lits : List (Nat × List UInt8)} (h : Pk B w0 W v L lits) (g c : Nat) (x : List UInt8) (hx : ∀ j u, (Lib.byteCells x)[j]? = some u → W.cell? ((⟨g, 0, none⟩ : Addr).add j) = some u) (hlen : L.length + x.length ≤ 140737488355328) :
  ∃ v' W', (Builtin.append_ #[22, 22] ty #[v, .slice (some ⟨g, 0, none⟩) x.length c]).run Tryz.prog W = .ok v' W' ∧ Pk B w0 W' v' (L ++ x) lits := by
 obtain ⟨i0, hi, hz0, hz1, hz2⟩ := info_parts info5
 obtain ⟨v', W', hr, h2, h3, h4, h5⟩ := run_append_own_at (P := Tryz.prog) W B 22 ty 5 i0 (.int .u8 0) 1 1 Tryz.underlying22 hi hz0 hz1 hz2 rfl (by decide) v L.length (Lib.byteCells L) h.own ⟨g, 0, none⟩ x.length c (Lib.byteCells x) (by rw [Lib.byteCells_length]; omega) hx (bytes_one x) (by unfold maxLen; omega) (by omega) h.le
 exact ⟨v', W', hr, h.more h2 rfl h3 h4 h5⟩
theorem lit_cells {B : Nat} {w0 W : World} {v : Value} {L : List UInt8} {lits : List (Nat × List UInt8)} (h : Pk B w0 W v L lits) {g : Nat} {x : List UInt8} (hm : (g, x) ∈ lits) : ∀ j u, (Lib.byteCells x)[j]? = some u → W.cell? ((⟨g, 0, none⟩ : Addr).add j) = some u := by
 intro j u hu
 rw [add_none, Nat.zero_add]
 exact (h.lit _ hm).2.2 j u hu
/-- Behind appendByte. -/
theorem Pk.gw {B : Nat} {w0 W W' : World} {v v' : Value} {L x : List UInt8} (h : Pk B w0 W v L []) (hx : x ≠ []) (ho : Own W' B v' (L ++ x)) (hg : Gw W W' v.ownBlock) : Pk B w0 W' v' (L ++ x) [] := by
 refine ⟨ho, h.bel.trans (hg.below B h.le (fun k hk => (World.ownsRow.lt h.own k hk).1)), fun k cs t fz hk ht => ?_, by have := hg.size; have := h.le; omega, (fun p hp => by cases hp), ?_⟩
 ·have hk1 := h.ty k cs t fz hk ht
  have hne := Lib.ownBlock_ne h.own hk1 ht
  rw [hg.other k (Array.getElem?_eq_some_iff.1 hk1).1 hne]
  exact hk1
 ·constructor
  ·intro e
   rcases ho.2 with ⟨_, h0⟩ | ⟨g, cap, cur, hv, _⟩
   ·exact List.eq_nil_of_length_eq_zero h0
   ·rw [e] at hv; cases hv
  ·intro e
   exact (hx (List.append_eq_nil_iff.1 e).2).elim
section
variable {ops : Array Oper} {o : Oper} {a : Act} {K : Act → World → Prop} {Q : Exit → Act → World → Prop} {E : Prop} {B : Nat} {w0 W : World} {v : Value} {L : List UInt8} {lits : List (Nat × List UInt8)}
theorem wp_text (s x : Operand) (ho : o.op = .call { callee := .builtin .append, args := #[s, x], argTypes := #[22, 9] }) (h : Pk B w0 W v L lits) (hs : a.eval s = v) (y : ByteArray) (hx : a.eval x = .string y) (hlen : L.length + y.size ≤ 140737488355328)
  (hk : ∀ v' W', Pk B w0 W' v' (L ++ y.data.toList) lits → K (a.put o.dst v') W') : o.wp Tryz.prog a W K Q := by
 obtain ⟨v', W', hr, h2⟩ := run_text o.type h y hlen
 unfold Oper.wp execOp
 simp only [ho, resolve, invoke, builtin, Sem.run_bind, Sem.run_pure, Result.andThen_ok, List.map_toArray, List.map_cons, List.map_nil, hs, hx, hr]
 exact hk v' W' h2
theorem wp_bytes (s x : Operand) (ho : o.op = .call { callee := .builtin .append, args := #[s, x], argTypes := #[22, 22] }) (h : Pk B w0 W v L lits) (hs : a.eval s = v) (g c : Nat) (y : List UInt8) (hx : a.eval x = .slice (some ⟨g, 0, none⟩) y.length c)
  (hy : ∀ j u, (Lib.byteCells y)[j]? = some u → W.cell? ((⟨g, 0, none⟩ : Addr).add j) = some u) (hlen : L.length + y.length ≤ 140737488355328)
  (hk : ∀ v' W', Pk B w0 W' v' (L ++ y) lits → K (a.put o.dst v') W') : o.wp Tryz.prog a W K Q := by
 obtain ⟨v', W', hr, h2⟩ := run_bytes o.type h g c y hy hlen
 unfold Oper.wp execOp
 simp only [ho, resolve, invoke, builtin, Sem.run_bind, Sem.run_pure, Result.andThen_ok, List.map_toArray, List.map_cons, List.map_nil, hs, hx, hr]
 exact hk v' W' h2
/-- At a step of a statement that draws its order. -/
theorem step_text (hgd : o.guard = none) (s x : Operand) (ho : o.op = .call { callee := .builtin .append, args := #[s, x], argTypes := #[22, 9] }) (h : Pk B w0 W v L lits) (hs : a.eval s = v) (y : ByteArray) (hx : a.eval x = .string y) (hlen : L.length + y.size ≤ 140737488355328)
  (hk : ∀ v' W', Pk B w0 W' v' (L ++ y.data.toList) lits → K (a.put o.dst v') W') : if Region.wanted o (yielded ops a.tmps) = true then Oper.wp Tryz.prog o a W K Q else E := by
 have hw : Region.wanted o (yielded ops a.tmps) = true := by simp [Region.wanted, hgd]
 rw [if_pos hw]
 exact wp_text s x ho h hs y hx hlen hk
theorem list_text {rest : List Oper} (hgd : o.guard = none) (s x : Operand) (ho : o.op = .call { callee := .builtin .append, args := #[s, x], argTypes := #[22, 9] }) (h : Pk B w0 W v L lits) (hs : a.eval s = v) (y : ByteArray) (hx : a.eval x = .string y) (hlen : L.length + y.size ≤ 140737488355328)
  (hk : ∀ v' W', Pk B w0 W' v' (L ++ y.data.toList) lits → wpList Tryz.prog ops Q rest (a.put o.dst v') W') : wpList Tryz.prog ops Q (o :: rest) a W :=
 wpList_plain hgd fun _ hK => wp_text s x ho h hs y hx hlen fun v' W' h2 => hK _ _ (hk v' W' h2)
theorem list_bytes {rest : List Oper} (hgd : o.guard = none) (s x : Operand) (ho : o.op = .call { callee := .builtin .append, args := #[s, x], argTypes := #[22, 22] }) (h : Pk B w0 W v L lits) (hs : a.eval s = v) (g c : Nat) (y : List UInt8) (hx : a.eval x = .slice (some ⟨g, 0, none⟩) y.length c)
  (hm : (g, y) ∈ lits) (hlen : L.length + y.length ≤ 140737488355328)
  (hk : ∀ v' W', Pk B w0 W' v' (L ++ y) lits → wpList Tryz.prog ops Q rest (a.put o.dst v') W') : wpList Tryz.prog ops Q (o :: rest) a W :=
 wpList_plain hgd fun _ hK => wp_bytes s x ho h hs g c y hx (lit_cells h hm) hlen fun v' W' h2 => hK _ _ (hk v' W' h2)
end
end Go.Proofs.YthkpbhgbmagaeaaGreatDoor.WPk
namespace Go.Proofs.YthkpbhgbmagaeaaGreatDoor.ATx
open Go.RowKit Go.Proofs.YthkpbhgbmagaeaaGreatDoor.Base Go.Proofs.YthkpbhgbmagaeaaGreatDoor.UBase Go.Proofs.YthkpbhgbmagaeaaGreatDoor.Spec Go.Proofs.YthkpbhgbmagaeaaGreatDoor.Byts
set_option linter.unusedVariables false
theorem qb_len (c : UInt8) : (qb c).length ≤ 6 := by
 unfold qb
 repeat' split
 all_goals simp
theorem fm_len : ∀ l : List UInt8, (l.flatMap qb).length ≤ 6 * l.length
 | [] => by simp
 | c :: l => by
  have := qb_len c
  have := fm_len l
  rw [List.flatMap_cons, List.length_append, List.length_cons]
  omega
end Go.Proofs.YthkpbhgbmagaeaaGreatDoor.ATx
namespace Go.Proofs.YthkpbhgbmagaeaaGreatDoor.WTx
open Go.RowKit Go.Proofs.YthkpbhgbmagaeaaGreatDoor.Base Go.Proofs.YthkpbhgbmagaeaaGreatDoor.UBase Go.Proofs.YthkpbhgbmagaeaaGreatDoor.Spec Go.Proofs.YthkpbhgbmagaeaaGreatDoor.Byts Go.Proofs.YthkpbhgbmagaeaaGreatDoor.WPk Go.Proofs.YthkpbhgbmagaeaaGreatDoor.ATx
set_option linter.unusedVariables false
theorem qb_ne (c : UInt8) : qb c ≠ [] := by
 unfold qb
 repeat' split
 all_goals simp
theorem wbyte_c {B : Nat} {w0 W : World} {v : Value} {L : List UInt8} (c : UInt8) (h : Pk B w0 W v L []) (hl : L.length ≤ 1000000000000) :
  Calls Tryz.prog 67 #[v, .int .u8 (c.toNat : Nat)] W fun e W' => ∃ v', e = .returned v' ∧ Pk B w0 W' v' (L ++ qb c) [] :=
 (ABy.byte_c c h.own h.le hl).mono fun e W' ⟨v', he, ho, hg⟩ => ⟨v', he, h.gw (qb_ne c) ho hg⟩
set_option maxRecDepth 20000 in
set_option maxHeartbeats 800000 in
theorem wtext_c {B : Nat} {w0 W : World} {v : Value} {L : List UInt8} {s : ByteArray} (h : Pk B w0 W v L []) (hl : L.length ≤ 100000000000) (hs : s.size ≤ 1000000000) :
  Calls Tryz.prog 50 #[v, .string s] W fun e W' => ∃ v', e = .returned v' ∧ Pk B w0 W' v' (L ++ qt s) [] := by
 have hp1 := h.lay [34] #[.int .u8 34] rfl
 obtain ⟨ao, no, co, rfl⟩ := h.shape
 clear h
 go_enter Tryz.func50, Tryz.ntmps50
 go_wp2_with (first | (at_builtin; refine list_bytes rfl _ _ rfl hp1 rfl _ _ [34] rfl (by simp) (by simp only [List.length_cons, List.length_nil]; omega) ?_))
 intro v1 W1 hp2
 have HP : Hid (Pk B w0 W1 v1 (L ++ [34]) []) := hp2.bare
 obtain ⟨a1, n1, c1, rfl⟩ := hp2.shape
 clear hp1 hp2
 go_wp2_with fail
 go_loopw [0, 11] (fun out ii wr => ∃ q : Nat, q ≤ s.size ∧ ii = .int .i64 q ∧ Pk B w0 wr out (L ++ 34 :: (s.data.toList.take q).flatMap qb) []) (fun _ ii _ => s.size - (intOf ii).toNat)
 case atStart => exact ⟨0, by omega, rfl, by simpa using HP.out⟩
 case round =>
  obtain ⟨q, hq, rfl, hp⟩ := hrel
  have hfl := fm_len (s.data.toList.take q)
  have hfl2 : (s.data.toList.take q).length ≤ q := by rw [List.length_take]; omega
  by_cases hlt : q < s.size
  ·have cb := wbyte_c s[q] hp (by simp only [List.length_append, List.length_cons]; omega)
   clear hp hfl hfl2
   go_wp2_with fail
   refine cb.mono ?_
   rintro e w2 ⟨v2, rfl, hp2⟩
   have HP2 : Hid (Pk B w0 w2 v2 (L ++ 34 :: (s.data.toList.take (q + 1)).flatMap qb) []) := by
    have e1 : s.data.toList.take (q + 1) = s.data.toList.take q ++ [s[q]] := by
     rw [List.take_succ_eq_append_getElem (by simpa using hlt)]
     rfl
    show Pk B w0 w2 v2 _ []
    rw [e1, List.flatMap_append]
    simpa [List.append_assoc] using hp2
   obtain ⟨a2, n2, c2, rfl⟩ := hp2.shape
   clear hp2 cb
   go_wp2_with fail
   go_roundw
   case rel => exact ⟨q + 1, by omega, by go_num, HP2.out⟩
   case measure => simp only [intOf]; omega
  ·obtain rfl : q = s.size := by omega
   have e1 : s.data.toList.take s.size = s.data.toList := List.take_of_length_le (show s.data.toList.length ≤ s.data.size from Nat.le_of_eq Array.length_toList)
   rw [e1] at hp hfl hfl2
   have hp3 := hp.lay [34] #[.int .u8 34] rfl
   have hlen : (L ++ 34 :: s.data.toList.flatMap qb).length ≤ 1000000000000 := by simp only [List.length_append, List.length_cons]; omega
   clear hp hfl hfl2
   go_wp2_with (first | (at_builtin; refine list_bytes rfl _ _ rfl hp3 rfl _ _ [34] rfl (by simp) (by simp only [List.length_cons, List.length_nil]; omega) ?_))
   intro v4 W4 hp4
   have HP4 : Hid (Pk B w0 W4 v4 (L ++ qt s) []) := by
    show Pk B w0 W4 v4 _ []
    unfold qt
    simpa [List.append_assoc] using hp4.bare
   obtain ⟨a4, n4, c4, rfl⟩ := hp4.shape
   clear hp4 hp3
   go_wp2_with fail
   go_ret
   exact ⟨_, rfl, HP4.out⟩
end Go.Proofs.YthkpbhgbmagaeaaGreatDoor.WTx
namespace Go.Proofs.YthkpbhgbmagaeaaGreatDoor.WRow
open Go.RowKit Go.Proofs.YthkpbhgbmagaeaaGreatDoor.Base Go.Proofs.YthkpbhgbmagaeaaGreatDoor.UBase Go.Proofs.YthkpbhgbmagaeaaGreatDoor.Spec Go.Proofs.YthkpbhgbmagaeaaGreatDoor.Byts Go.Proofs.YthkpbhgbmagaeaaGreatDoor.WPk Go.Proofs.YthkpbhgbmagaeaaGreatDoor.WTx Go.Proofs.YthkpbhgbmagaeaaGreatDoor.Digits
set_option linter.unusedVariables false
/-- Kinds 1 to 6, a name for each part of a record, texts of at most 4096 bytes: in every part. -/
def wfL : List C → Bool
 | [] => true
 | .mk k b i s n l :: cs => (decide (1 ≤ k ∧ k ≤ 6 ∧ (k = 6 → n.length = l.length) ∧ s.size ≤ 4096 ∧ ∀ t ∈ n, t.size ≤ 4096) && wfL l) && wfL cs
def wf : C → Bool
 | .mk k b i s n l => decide (1 ≤ k ∧ k ≤ 6 ∧ (k = 6 → n.length = l.length) ∧ s.size ≤ 4096 ∧ ∀ t ∈ n, t.size ≤ 4096) && wfL l
theorem wfL_cons (c : C) (cs : List C) : wfL (c :: cs) = (wf c && wfL cs) := by
 obtain ⟨k, b, i, s, n, l⟩ := c
 rw [wfL, wf]
theorem wfL_get {l : List C} (h : wfL l = true) : ∀ j (hj : j < l.length), wf l[j] = true := by
 induction l with
 | nil => intro j hj; simp at hj
 | cons c cs ih =>
  rw [wfL_cons, Bool.and_eq_true] at h
  intro j hj
  cases j with
  | zero => exact h.1
  | succ j => exact ih h.2 j (by simpa using hj)
theorem wf_parts {k : Int} {b : Bool} {i : Int} {s : ByteArray} {n : List ByteArray} {l : List C} (h : wf (.mk k b i s n l) = true) : 1 ≤ k ∧ k ≤ 6 ∧ (k = 6 → n.length = l.length) ∧ s.size ≤ 4096 ∧ (∀ t ∈ n, t.size ≤ 4096) ∧ wfL l = true := by
 rw [wf, Bool.and_eq_true] at h
 have h1 := of_decide_eq_true h.1
 exact ⟨h1.1, h1.2.1, h1.2.2.1, h1.2.2.2.1, h1.2.2.2.2, h.2⟩
theorem pvL_map (l : List C) : pvL l = l.map pv := by
 induction l with
 | nil => rw [pvL]; rfl
 | cons c cs ih =>
  obtain ⟨k, b, i, s, n, l⟩ := c
  rw [pvL, ih, List.map_cons, pv]
/-- What stands between the commas. -/
def its (k : Int) (n : List ByteArray) (l : List C) : List (List UInt8) := if k = 6 then List.zipWith (fun t p => qt t ++ 58 :: p) n (pvL l) else pvL l
theorem its_len {k : Int} {n : List ByteArray} {l : List C} (h : k = 6 → n.length = l.length) : (its k n l).length = l.length := by
 unfold its
 split
 ·rename_i h6
  rw [List.length_zipWith, pvL_map, List.length_map, h h6]
  omega
 ·rw [pvL_map, List.length_map]
theorem its_get {k : Int} {n : List ByteArray} {l : List C} (h : k = 6 → n.length = l.length) {q : Nat} (hq : q < l.length) (hq2 : q < (its k n l).length) :
  (its k n l)[q] = if h6 : k = 6 then qt (n[q]'(by rw [h h6]; exact hq)) ++ 58 :: pv l[q] else pv l[q] := by
 unfold its
 by_cases h6 : k = 6
 ·simp only [h6, if_true, dif_pos]
  rw [List.getElem_zipWith]
  simp only [pvL_map, List.getElem_map]
 ·simp only [h6, if_false, dif_neg, not_false_eq_true]
  simp only [pvL_map, List.getElem_map]
theorem jn_snoc : ∀ (xs : List (List UInt8)) (x : List UInt8), jn (xs ++ [x]) = if xs.length = 0 then x else jn xs ++ 44 :: x
 | [], x => rfl
 | [a], x => rfl
 | a :: b :: xs, x => by
  have ih := jn_snoc (b :: xs) x
  rw [if_neg (by simp)] at ih ⊢
  show a ++ 44 :: jn ((b :: xs) ++ [x]) = (a ++ 44 :: jn (b :: xs)) ++ 44 :: x
  rw [ih]
  simp
theorem jn_take {xs : List (List UInt8)} {q : Nat} (h : q < xs.length) : jn (xs.take (q + 1)) = jn (xs.take q) ++ ((if q = 0 then [] else [44]) ++ xs[q]) := by
 rw [List.take_succ_eq_append_getElem h, jn_snoc]
 cases q with
 | zero => simp [jn]
 | succ q =>
  rw [if_neg (by rw [List.length_take]; omega), if_neg (by omega)]
  rfl
theorem jn_le (xs : List (List UInt8)) : ∀ q, q ≤ xs.length → (jn (xs.take q)).length ≤ (jn xs).length := by
 intro q hq
 obtain ⟨d, hd⟩ : ∃ d, d = xs.length - q := ⟨_, rfl⟩
 induction d generalizing q with
 | zero => rw [List.take_of_length_le (by omega)]; omega
 | succ d ih =>
  have h1 := ih (q + 1) (by omega) (by omega)
  rw [jn_take (by omega)] at h1
  simp only [List.length_append] at h1
  omega
theorem pv_row (k : Int) (b : Bool) (i : Int) (s : ByteArray) (n : List ByteArray) (l : List C) :
  (k = 5 → pv (.mk k b i s n l) = 91 :: (jn (its k n l) ++ [93])) ∧ (k = 6 → pv (.mk k b i s n l) = 123 :: (jn (its k n l) ++ [125])) := by
 constructor
 ·rintro rfl
  simp [pv, bd, its]
 ·rintro rfl
  simp [pv, bd, its]
/-- Blocks ahead of B. -/
def Lo (B : Nat) : Nat → Prop := fun b => b < B
theorem keep_lo {B : Nat} {w w' : World} (h : Below B w w') : Keep (Lo B) w w' := fun b hb _ => h.block b hb
theorem bx {w : World} {o : Obj} : Below w.heap.size w (w.alloc o) := (Below.refl _ _).alloc (Nat.le_refl _) _
def Puts (m : Nat) : Prop := ∀ (u : Value) (c : C) (B : Nat) (w1 W : World) (v : Value) (L : List UInt8), In false (Lo B) W m u c → wf c = true → (∀ W', Below B W W' → Tab W') → Pk B w1 W v L [] → L.length + (pv c).length ≤ 100000000000 →
  Calls Tryz.prog 35 #[v, u] W fun e W' => ∃ v', e = .returned v' ∧ Pk B w1 W' v' (L ++ pv c) []
def RowsP (m : Nat) : Prop := ∀ (u : Value) (c : C) (B : Nat) (w1 W : World) (v : Value) (L : List UInt8) (o1 o2 : UInt8), In false (Lo B) W (m + 1) u c → wf c = true → (∀ W', Below B W W' → Tab W') → Pk B w1 W v L [] → L.length + (jn (its c.k c.n c.l)).length + 2 ≤ 100000000000 →
  Calls Tryz.prog 51 #[v, .int .u8 (o1.toNat : Nat), u, .int .u8 (o2.toNat : Nat)] W fun e W' => ∃ v', e = .returned v' ∧ Pk B w1 W' v' (L ++ o1 :: (jn (its c.k c.n c.l) ++ [o2])) []
theorem lay_byte {B : Nat} {w0 W : World} {v : Value} {L : List UInt8} (h : Pk B w0 W v L []) (c : UInt8) : Pk B w0 (W.alloc (.cells #[.int .u8 (c.toNat : Nat)] 5)) v L [(W.heap.size, [c])] := h.lay [c] #[.int .u8 (c.toNat : Nat)] rfl
set_option maxRecDepth 20000 in
set_option maxHeartbeats 3200000 in
theorem row_of (m : Nat) (hm : Puts m) : RowsP m := by
 intro u c B w1 W v L o1 o2 hin hwf hT hp hlen
 obtain ⟨k, b, i, s, n, l⟩ := c
 obtain ⟨r1, r2, r3, r4, r5, r6⟩ := wf_parts hwf
 have hlen : L.length + (jn (its k n l)).length + 2 ≤ 100000000000 := hlen
 show Calls _ _ _ _ fun e W' => ∃ v', e = .returned v' ∧ Pk B w1 W' v' (L ++ o1 :: (jn (its k n l) ++ [o2])) []
 rw [in_iff] at hin
 obtain ⟨nv, lv, rfl, hk, hi, hs, hn, hl⟩ := hin
 obtain ⟨an, cn, rfl, hn1, hn2, hn3, hn4, hn5, hN⟩ := hn.out
 obtain ⟨al, cl, rfl, hl1, hl2, hl3, hl4, hLL⟩ := hl.out
 have HN : Hid (NAt false (Lo B) W an cn n) := hN
 have HL : Hid (LAt false (Lo B) W m al cl l) := hLL
 obtain ⟨X, hX⟩ : ∃ X, its k n l = X := ⟨_, rfl⟩
 have hXl : X.length = l.length := by rw [← hX]; exact its_len r3
 have HX6 : Hid (k = 6 → ∀ q (hq : q < l.length) (hq2 : q < X.length) (hq3 : q < n.length), X[q] = qt n[q] ++ 58 :: pv l[q]) := by
  subst hX
  intro h6 q hq hq2 hq3
  rw [its_get r3 hq hq2, dif_pos h6]
 have HX5 : Hid (¬ k = 6 → ∀ q (hq : q < l.length) (hq2 : q < X.length), X[q] = pv l[q]) := by
  subst hX
  intro h6 q hq hq2
  rw [its_get r3 hq hq2, dif_neg h6]
 rw [hX] at hlen ⊢
 clear hX
 have Hm : Hid (Puts m) := hm
 have HT : Hid (∀ W', Below B W W' → Tab W') := hT
 have Hw3 : Hid (k = 6 → n.length = l.length) := r3
 have Hw5 : Hid (∀ t ∈ n, t.size ≤ 4096) := r5
 have Hw6 : Hid (wfL l = true) := r6
 have HXl : Hid (X.length = l.length) := hXl
 clear hm hT hn hl hN hLL hwf r3 r5 r6 hXl hn4
 obtain ⟨W1, hW1⟩ : ∃ W1, W.alloc (.cells #[.int .i64 k, .bool b, .int .i64 i, .string s, .slice an n.length cn, .slice al l.length cl] 27) = W1 := ⟨_, rfl⟩
 have hb0 : Below W.heap.size W W1 := by rw [← hW1]; exact bx
 have hbB : Below B W W1 := hb0.mono hp.le
 have hbx : W1.heap[W.heap.size]? = some (.cells #[.int .i64 k, .bool b, .int .i64 i, .string s, .slice an n.length cn, .slice al l.length cl] 27 (0, 0)) := by rw [← hW1]; exact heap_alloc_new W _
 have HB1 : Hid (Pk B w1 W1 v L []) := hp.below hb0
 have hq0 := lay_byte (Pk.start HB1.out.own HB1.out.le HB1.out.nil) o1
 obtain ⟨a0, n0, c0, rfl⟩ := hp.shape
 have HX : Hid (W1.heap[W.heap.size]? = some (.cells #[.int .i64 k, .bool b, .int .i64 i, .string s, .slice an n.length cn, .slice al l.length cl] 27 (0, 0))) := hbx
 clear hp hbx
 go_enter Tryz.func51, Tryz.ntmps51
 go_wp2_with (first | (at_builtin; refine list_bytes rfl _ _ rfl hq0 rfl _ _ [o1] rfl (by simp) (by simp only [List.length_cons, List.length_nil]; omega) ?_))
 intro v1 W2 hp2
 have HP2 : Hid (Pk B W1 W2 v1 (L ++ [o1]) []) := hp2.bare
 have hx2 := hp2.ty _ _ _ _ HX.out (by decide)
 obtain ⟨y0, y1, y2, y3, y4, y5⟩ := six_box hx2
 obtain ⟨a1, n1, c1, rfl⟩ := hp2.shape
 clear hp2 hq0 hW1
 go_wp2_with fail
 go_loopw [0, 18] (fun out ii wr => ∃ q : Nat, q ≤ l.length ∧ ii = .int .i64 q ∧ Pk B W1 wr out (L ++ o1 :: jn (X.take q)) []) (fun _ ii _ => l.length - (intOf ii).toNat)
 case atStart => exact ⟨0, by omega, rfl, by simpa [jn] using HP2.out⟩
 case round =>
  obtain ⟨q, hq, rfl, hp⟩ := hrel
  have hxx := hp.ty _ _ _ _ HX.out (by decide)
  obtain ⟨z0, z1, z2, z3, z4, z5⟩ := six_box hxx
  have hjl := jn_le X q (by have := HXl.out; omega)
  by_cases hlt : q < l.length
  ·have hqX : q < X.length := by have := HXl.out; omega
   have hj1 := jn_take hqX
   have hj2 := jn_le X (q + 1) (by omega)
   rw [hj1] at hj2
   have Hj1 : Hid (jn (X.take (q + 1)) = jn (X.take q) ++ ((if q = 0 then [] else [44]) ++ X[q])) := hj1
   clear hj1
   obtain ⟨J, hJ⟩ : ∃ J, jn (X.take q) = J := ⟨_, rfl⟩
   rw [hJ] at hp hjl hj2
   have HJ : Hid (jn (X.take q) = J) := hJ
   clear hJ
   obtain ⟨g, o, x, rfl, hgB, hx, hin⟩ := elem_at HL.out hlt
   have hbr : Below B W wr := hbB.trans hp.bel
   have hx := (keep_lo hbr).six hgB hx
   have hin := hin.keep (keep_lo hbr)
   obtain ⟨x0, x1, x2, x3, x4, x5, rfl, d0, d1, d2, d3, d4, d5⟩ := hx
   have hinr : Hid (In false (Lo B) wr m (.agg #[x0, x1, x2, x3, x4, x5]) l[q]) := hin
   obtain ⟨f1, f2, f3, f4, f5, f6, rfl, rfl, rfl, rfl, rfl, rfl⟩ := hin.kinds
   clear hin
   obtain ⟨ro, hro⟩ : ∃ ro, ro = wr := ⟨_, rfl⟩
   subst hro
   obtain ⟨W5, hW5⟩ : ∃ W5, ro.alloc (.cells #[.int .i64 l[q].k, .bool l[q].b, .int .i64 l[q].i, .string l[q].s, .slice f1 f2 f3, .slice f4 f5 f6] 27) = W5 := ⟨_, rfl⟩
   have hb5 : Below ro.heap.size ro W5 := by rw [← hW5]; exact bx
   have hP5 : W5.heap[ro.heap.size]? = some (.cells #[.int .i64 l[q].k, .bool l[q].b, .int .i64 l[q].i, .string l[q].s, .slice f1 f2 f3, .slice f4 f5 f6] 27 (0, 0)) := by rw [← hW5]; exact heap_alloc_new ro _
   have HPA : Hid (Pk B W1 W5 u0 (L ++ o1 :: J) []) := hp.below hb5
   have HXa := HPA.out.ty _ _ _ _ HX.out (by decide)
   have hq5 := Pk.start HPA.out.own HPA.out.le HPA.out.nil
   have HV5 : Hid (W5.heap[W.heap.size]? = some (.cells #[.int .i64 k, .bool b, .int .i64 i, .string s, .slice an n.length cn, .slice (some ⟨g, o, none⟩) l.length cl] 27 (0, 0))) := HXa
   have HP5 : Hid (W5.heap[ro.heap.size]? = some (.cells #[.int .i64 l[q].k, .bool l[q].b, .int .i64 l[q].i, .string l[q].s, .slice f1 f2 f3, .slice f4 f5 f6] 27 (0, 0))) := hP5
   have hbW5 : Below B W W5 := hbr.trans (hb5.mono hp.le)
   obtain ⟨m0, m1, m2, m3, m4, m5⟩ := six_box HXa
   obtain ⟨t0, t1, t2, t3, t4, t5⟩ := six_box hP5
   have hwq := wfL_get Hw6.out q hlt
   have hB5 : B ≤ ro.heap.size := hp.le
   clear hp HXa hP5
   by_cases h6 : k = 6
   ·have hk6 : (k == 6) = true := by simp [h6]
    have H6 : Hid (k = 6) := h6
    clear h6
    by_cases hq0 : q = 0
    ·subst hq0
     have Hq0 : Hid (0 = 0) := rfl
     rw [if_pos rfl] at hj2
     simp only [Nat.zero_mul, Nat.add_zero] at d0 d1 d2 d3 d4 d5
     have hqn : 0 < n.length := by rw [Hw3.out H6.out]; exact hlt
     obtain ⟨gn, on, rfl, hgn, hcn⟩ := name_at HN.out hqn
     have hcn := (keep_lo (hbW5.trans hq5.bel)).cell hgn hcn
     rw [Nat.add_zero] at hcn
     have hsn := Hw5.out n[0] (List.getElem_mem hqn)
     have hXq := HX6.out H6.out 0 hlt hqX hqn
     rw [hXq] at hj2
     have HXq : Hid (X[0] = qt n[0] ++ 58 :: pv l[0]) := hXq
     have ct := wtext_c (s := n[0]) hq5 (by simp only [List.length_append, List.length_cons, List.length_nil] at *; omega) (by omega)
     obtain ⟨ad, nd, cd, hsd⟩ := hq5.shape
     subst hsd
     clear hXq
     go_wp2_with fail
     refine ct.mono ?_
     rintro e Wt ⟨vt, rfl, hqt⟩
     have hqu := hqt.lay [58] #[.int .u8 58] rfl
     obtain ⟨at2, nt, ct2, rfl⟩ := hqt.shape
     clear hqt ct hq5
     go_wp2_with (first | (at_builtin; refine list_bytes rfl _ _ rfl hqu rfl _ _ [58] rfl (by simp) (by simp only [List.length_cons, List.length_nil, List.length_append] at *; omega) ?_))
     intro v6 W6 hq6
     clear hqu
     have HQ6 : Hid (Pk B W5 W6 v6 ((L ++ o1 :: J) ++ qt n[0] ++ [58]) []) := by
      show Pk B W5 W6 v6 _ []
      first | exact hq6.bare | simpa using hq6.bare
     obtain ⟨e0, e1, e2, e3, e4, e5⟩ := six_box (hq6.ty _ _ _ _ HP5.out (by decide))
     have hbW6 : Below B ro W6 := (hb5.mono hB5).trans hq6.bel
     have cv := Hm.out _ l[0] B W1 W6 v6 ((L ++ o1 :: J) ++ qt n[0] ++ [58]) (hinr.out.keep (keep_lo hbW6)) hwq (fun W' h => HT.out W' ((hbr.trans hbW6).trans h)) (HPA.out.trans HQ6.out) (by simp only [List.length_append, List.length_cons, List.length_nil] at *; omega)
     obtain ⟨a6, n6, c6, rfl⟩ := hq6.shape
     clear hq6
     go_wp2_with fail
     refine cv.mono ?_
     rintro e W7 ⟨v7, rfl, hp7⟩
     have HP7 : Hid (Pk B W1 W7 v7 (L ++ o1 :: jn (X.take (0 + 1))) []) := by
      show Pk B W1 W7 v7 _ []
      rw [Hj1.out, HJ.out, HXq.out, if_pos Hq0.out]
      simpa [List.append_assoc] using hp7
     obtain ⟨a7, n7, c7, rfl⟩ := hp7.shape
     clear hp7 cv
     go_wp2_with fail
     go_roundw
     case rel => exact ⟨0 + 1, by omega, by go_num, HP7.out⟩
     case measure => simp only [intOf]; omega
    ·have Hq0 : Hid (¬ q = 0) := hq0
     have hz : 0 < q := by omega
     rw [if_neg hq0] at hj2
     clear hq0
     have hqc := hq5.lay [44] #[.int .u8 44] rfl
     obtain ⟨ac, nc, cc, hsc⟩ := hq5.shape
     subst hsc
     clear hq5
     go_wp2_with (first | (at_builtin; refine list_bytes rfl _ _ rfl hqc rfl _ _ [44] rfl (by simp) (by simp only [List.length_cons, List.length_nil, List.length_append] at *; omega) ?_))
     intro vc Wc hqc2
     obtain ⟨e0, e1, e2, e3, e4, e5⟩ := six_box (hqc2.ty _ _ _ _ HV5.out (by decide))
     obtain ⟨e6, e7, e8, e9, e10, e11⟩ := six_box (hqc2.ty _ _ _ _ HP5.out (by decide))
     have hqd := hqc2.bare
     clear hqc hqc2
     have hqn : q < n.length := by rw [Hw3.out H6.out]; exact hlt
     obtain ⟨gn, on, rfl, hgn, hcn⟩ := name_at HN.out hqn
     have hcn := (keep_lo (hbW5.trans hqd.bel)).cell hgn hcn
     have hsn := Hw5.out n[q] (List.getElem_mem hqn)
     have hXq := HX6.out H6.out q hlt hqX hqn
     rw [hXq] at hj2
     have HXq : Hid (X[q] = qt n[q] ++ 58 :: pv l[q]) := hXq
     have ct := wtext_c (s := n[q]) hqd (by simp only [List.length_append, List.length_cons, List.length_nil] at *; omega) (by omega)
     obtain ⟨ad, nd, cd, hsd⟩ := hqd.shape
     subst hsd
     clear hXq
     go_wp2_with fail
     refine ct.mono ?_
     rintro e Wt ⟨vt, rfl, hqt⟩
     have hqu := hqt.lay [58] #[.int .u8 58] rfl
     obtain ⟨at2, nt, ct2, rfl⟩ := hqt.shape
     clear hqt ct hqd
     go_wp2_with (first | (at_builtin; refine list_bytes rfl _ _ rfl hqu rfl _ _ [58] rfl (by simp) (by simp only [List.length_cons, List.length_nil, List.length_append] at *; omega) ?_))
     intro v6 W6 hq6
     clear hqu
     have HQ6 : Hid (Pk B W5 W6 v6 ((L ++ o1 :: J ++ [44]) ++ qt n[q] ++ [58]) []) := by
      show Pk B W5 W6 v6 _ []
      first | exact hq6.bare | simpa using hq6.bare
     obtain ⟨e0, e1, e2, e3, e4, e5⟩ := six_box (hq6.ty _ _ _ _ HP5.out (by decide))
     have hbW6 : Below B ro W6 := (hb5.mono hB5).trans hq6.bel
     have cv := Hm.out _ l[q] B W1 W6 v6 ((L ++ o1 :: J ++ [44]) ++ qt n[q] ++ [58]) (hinr.out.keep (keep_lo hbW6)) hwq (fun W' h => HT.out W' ((hbr.trans hbW6).trans h)) (HPA.out.trans HQ6.out) (by simp only [List.length_append, List.length_cons, List.length_nil] at *; omega)
     obtain ⟨a6, n6, c6, rfl⟩ := hq6.shape
     clear hq6
     go_wp2_with fail
     refine cv.mono ?_
     rintro e W7 ⟨v7, rfl, hp7⟩
     have HP7 : Hid (Pk B W1 W7 v7 (L ++ o1 :: jn (X.take (q + 1))) []) := by
      show Pk B W1 W7 v7 _ []
      rw [Hj1.out, HJ.out, HXq.out, if_neg Hq0.out]
      simpa [List.append_assoc] using hp7
     obtain ⟨a7, n7, c7, rfl⟩ := hp7.shape
     clear hp7 cv
     go_wp2_with fail
     go_roundw
     case rel => exact ⟨q + 1, by omega, by go_num, HP7.out⟩
     case measure => simp only [intOf]; omega
   ·have hk6 : (k == 6) = false := by simp [h6]
    by_cases hq0 : q = 0
    ·subst hq0
     have Hq0 : Hid (0 = 0) := rfl
     rw [if_pos rfl] at hj2
     simp only [Nat.zero_mul, Nat.add_zero] at d0 d1 d2 d3 d4 d5
     have hXq := HX5.out h6 0 hlt hqX
     rw [hXq] at hj2
     have HXq : Hid (X[0] = pv l[0]) := hXq
     clear hXq
     have hq6 := hq5
     have HQ6 : Hid (Pk B W5 W5 u0 (L ++ o1 :: J) []) := by
      show Pk B W5 W5 u0 _ []
      first | exact hq6.bare | simpa using hq6.bare
     obtain ⟨e0, e1, e2, e3, e4, e5⟩ := six_box (hq6.ty _ _ _ _ HP5.out (by decide))
     have hbW6 : Below B ro W5 := (hb5.mono hB5).trans hq6.bel
     have cv := Hm.out _ l[0] B W1 W5 u0 (L ++ o1 :: J) (hinr.out.keep (keep_lo hbW6)) hwq (fun W' h => HT.out W' ((hbr.trans hbW6).trans h)) (HPA.out.trans HQ6.out) (by simp only [List.length_append, List.length_cons, List.length_nil] at *; omega)
     obtain ⟨a6, n6, c6, rfl⟩ := hq6.shape
     clear hq6
     go_wp2_with fail
     refine cv.mono ?_
     rintro e W7 ⟨v7, rfl, hp7⟩
     have HP7 : Hid (Pk B W1 W7 v7 (L ++ o1 :: jn (X.take (0 + 1))) []) := by
      show Pk B W1 W7 v7 _ []
      rw [Hj1.out, HJ.out, HXq.out, if_pos Hq0.out]
      simpa [List.append_assoc] using hp7
     obtain ⟨a7, n7, c7, rfl⟩ := hp7.shape
     clear hp7 cv
     go_wp2_with fail
     go_roundw
     case rel => exact ⟨0 + 1, by omega, by go_num, HP7.out⟩
     case measure => simp only [intOf]; omega
    ·have Hq0 : Hid (¬ q = 0) := hq0
     have hz : 0 < q := by omega
     rw [if_neg hq0] at hj2
     clear hq0
     have hqc := hq5.lay [44] #[.int .u8 44] rfl
     obtain ⟨ac, nc, cc, hsc⟩ := hq5.shape
     subst hsc
     clear hq5
     go_wp2_with (first | (at_builtin; refine list_bytes rfl _ _ rfl hqc rfl _ _ [44] rfl (by simp) (by simp only [List.length_cons, List.length_nil, List.length_append] at *; omega) ?_))
     intro vc Wc hqc2
     obtain ⟨e0, e1, e2, e3, e4, e5⟩ := six_box (hqc2.ty _ _ _ _ HV5.out (by decide))
     obtain ⟨e6, e7, e8, e9, e10, e11⟩ := six_box (hqc2.ty _ _ _ _ HP5.out (by decide))
     have hqd := hqc2.bare
     clear hqc hqc2
     have hXq := HX5.out h6 q hlt hqX
     rw [hXq] at hj2
     have HXq : Hid (X[q] = pv l[q]) := hXq
     clear hXq
     have hq6 := hqd
     have HQ6 : Hid (Pk B W5 Wc vc (L ++ o1 :: J ++ [44]) []) := by
      show Pk B W5 Wc vc _ []
      first | exact hq6.bare | simpa using hq6.bare
     obtain ⟨e0, e1, e2, e3, e4, e5⟩ := six_box (hq6.ty _ _ _ _ HP5.out (by decide))
     have hbWc : Below B ro Wc := (hb5.mono hB5).trans hq6.bel
     have cv := Hm.out _ l[q] B W1 Wc vc (L ++ o1 :: J ++ [44]) (hinr.out.keep (keep_lo hbWc)) hwq (fun W' h => HT.out W' ((hbr.trans hbWc).trans h)) (HPA.out.trans HQ6.out) (by simp only [List.length_append, List.length_cons, List.length_nil] at *; omega)
     obtain ⟨a6, n6, c6, rfl⟩ := hq6.shape
     clear hq6
     go_wp2_with fail
     refine cv.mono ?_
     rintro e W7 ⟨v7, rfl, hp7⟩
     have HP7 : Hid (Pk B W1 W7 v7 (L ++ o1 :: jn (X.take (q + 1))) []) := by
      show Pk B W1 W7 v7 _ []
      rw [Hj1.out, HJ.out, HXq.out, if_neg Hq0.out]
      simpa [List.append_assoc] using hp7
     obtain ⟨a7, n7, c7, rfl⟩ := hp7.shape
     clear hp7 cv
     go_wp2_with fail
     go_roundw
     case rel => exact ⟨q + 1, by omega, by go_num, HP7.out⟩
     case measure => simp only [intOf]; omega
  ·have hlt' : decide ((q : Int) < (l.length : Int)) = false := by simp; omega
   rw [List.take_of_length_le (by have := HXl.out; omega)] at hp
   have hp3 := lay_byte hp o2
   obtain ⟨a3, n3, c3, hsh⟩ := hp.shape
   subst hsh
   clear hp
   go_wp2_with (first | (at_builtin; refine list_bytes rfl _ _ rfl hp3 rfl _ _ [o2] rfl (by simp) (by simp; omega) ?_))
   intro v4 W4 hp4
   have HP4 : Hid (Pk B w1 W4 v4 (L ++ o1 :: (jn X ++ [o2])) []) := by
    show Pk B w1 W4 v4 _ []
    have := HB1.out.trans hp4
    simpa [List.append_assoc] using this
   obtain ⟨a4, n4, c4, rfl⟩ := hp4.shape
   clear hp4 hp3
   go_wp2_with fail
   go_ret
   exact ⟨_, rfl, HP4.out⟩
end Go.Proofs.YthkpbhgbmagaeaaGreatDoor.WRow
