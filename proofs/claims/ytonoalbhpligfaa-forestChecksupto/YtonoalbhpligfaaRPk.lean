/- A row of bytes that grows, what stays beside it, and bytes laid out ahead: for statements that draw their order. -/
import Derived.Test.YtonoalbhpligfaaTWrite
import Derived.Test.YtonoalbhpligfaaRow
import Derived.Maps.AppendAt
import Derived.Deep.AppendLies
namespace Go.Proofs.Ytonoalbhpligfaa.RPk
open Go.RowKit Go.Proofs.Ytonoalbhpligfaa.TBase Go.Proofs.Ytonoalbhpligfaa.TSpecH Go.Proofs.Ytonoalbhpligfaa.Base Go.Proofs.Ytonoalbhpligfaa.Row
set_option linter.unusedVariables false

/-- v is a row of one's own that holds L; older blocks and blocks of other things than bytes are as in w0; lits: blocks of bytes that were laid out since. -/
structure Pk (B : Nat) (w0 W : World) (v : Value) (L : List UInt8) (lits : List (Nat × List UInt8)) : Prop where
  own : Own W B v L
  bel : Below B w0 W
  ty : ∀ (k : Nat) (cs : Array Value) (t : TypeId) (fz : Nat × Nat), w0.heap[k]? = some (Obj.cells cs t fz) → t ≠ 5 → W.heap[k]? = some (Obj.cells cs t fz)
  le : B ≤ W.heap.size
  lit : ∀ p ∈ lits, v.ownBlock ≠ some p.1 ∧ p.1 < W.heap.size ∧ ∀ j u, (Lib.byteCells p.2)[j]? = some u → W.cell? ⟨p.1, j, none⟩ = some u
  nil : v = .slice none 0 0 ↔ L = []
theorem Pk.start {B : Nat} {W : World} {v : Value} {L : List UInt8} (h : Own W B v L) (hB : B ≤ W.heap.size) (hn : v = .slice none 0 0 ↔ L = []) : Pk B W W v L [] :=
  ⟨h, Below.refl _ _, fun _ _ _ _ h _ => h, hB, (fun p hp => by cases hp), hn⟩
theorem Pk.below {B : Nat} {w0 W W' : World} {v : Value} {L : List UInt8} {lits : List (Nat × List UInt8)} (h : Pk B w0 W v L lits) (hb : Below W.heap.size W W') : Pk B w0 W' v L lits :=
  ⟨own_below h.own hb, h.bel.trans (hb.mono h.le), fun k cs t fz hk ht => (hb.block k (Array.getElem?_eq_some_iff.1 (h.ty k cs t fz hk ht)).1).trans (h.ty k cs t fz hk ht), by have := hb.size; have := h.le; omega,
    (fun p hp => ⟨(h.lit p hp).1, by have := (h.lit p hp).2.1; have := hb.size; omega, fun j u hu => (World.cell?_of_block (w := W) (hb.block p.1 (h.lit p hp).2.1)).trans ((h.lit p hp).2.2 j u hu)⟩), h.nil⟩
theorem Pk.drew {B : Nat} {w0 W : World} {v : Value} {L : List UInt8} {lits : List (Nat × List UInt8)} (h : Pk B w0 W v L lits) : Pk B w0 W.drew v L lits := h.below (Below.refl _ _).drew
theorem Pk.put {B : Nat} {w0 W : World} {v : Value} {L : List UInt8} {lits : List (Nat × List UInt8)} (h : Pk B w0 W v L lits) (x : List UInt8) : Pk B w0 (W.alloc (.cells (Lib.byteCells x).toArray 5)) v L ((W.heap.size, x) :: lits) := by
  have k := h.below ((Below.refl _ _).alloc (Nat.le_refl _) (.cells (Lib.byteCells x).toArray 5))
  refine ⟨k.own, k.bel, k.ty, k.le, fun p hp => ?_, h.nil⟩
  rcases List.mem_cons.1 hp with rfl | hp
  · refine ⟨fun e => by have := (World.ownsRow.lt h.own _ e).2; omega, by simp, fun j u hu => ?_⟩
    have h2 := TBase.heap_alloc_new W (.cells (Lib.byteCells x).toArray 5)
    unfold World.cell?
    rw [h2]
    simpa using hu
  · exact k.lit p hp
theorem Pk.more {B : Nat} {w0 W W' : World} {v v' : Value} {L : List UInt8} {lits : List (Nat × List UInt8)} {n : Nat} {x : List UInt8} (h : Pk B w0 W v L lits) (hown : W'.ownsRow B 5 1 v' (L.length + n) (Lib.byteCells L ++ Lib.byteCells x)) (hn : n = x.length)
    (hgrow : W.grownBy W' v.ownBlock) (hnil : v' = .slice none 0 0 ↔ v = .slice none 0 0 ∧ n = 0) (hat : v'.ownBlock = v.ownBlock ∨ v'.ownBlock = some W.heap.size) : Pk B w0 W' v' (L ++ x) lits := by
  subst hn
  refine ⟨?_, h.bel.grown hgrow h.le (fun k hk => (World.ownsRow.lt h.own k hk).1), fun k cs t fz hk ht => ?_, by have := hgrow.size; have := h.le; omega, fun p hp => ?_, ?_⟩
  · unfold Own
    rw [Lib.byteCells_append, List.length_append]
    exact hown
  · have hk1 := h.ty k cs t fz hk ht
    have hne := Lib.ownBlock_ne h.own hk1 ht
    rw [hgrow.block k (Array.getElem?_eq_some_iff.1 hk1).1 (fun e => hne e.symm)]
    exact hk1
  · obtain ⟨h1, hlt, h2⟩ := h.lit p hp
    refine ⟨?_, by have := hgrow.size; omega, fun j u hu => (World.cell?_of_block (w := W) (hgrow.block p.1 hlt (fun e => h1 e.symm))).trans (h2 j u hu)⟩
    rcases hat with e | e
    · rw [e]; exact h1
    · rw [e]
      intro e2
      have := Option.some.inj e2
      omega
  · rw [hnil, h.nil, List.length_eq_zero_iff, List.append_eq_nil_iff]
theorem Pk.shape {B : Nat} {w0 W : World} {v : Value} {L : List UInt8} {lits : List (Nat × List UInt8)} (h : Pk B w0 W v L lits) : ∃ ao n c, v = .slice ao n c := by
  rcases h.own.2 with ⟨hv, _⟩ | ⟨g, cap, cur, hv, _⟩
  · exact ⟨_, _, _, hv⟩
  · exact ⟨_, _, _, hv⟩
theorem bytes_one (x : List UInt8) : ∀ u ∈ Lib.byteCells x, u.oneCell' = true := by
  intro u hu
  obtain ⟨b, _, rfl⟩ := List.mem_map.1 hu
  rfl
theorem Pk.lay {B : Nat} {w0 W : World} {v : Value} {L : List UInt8} {lits : List (Nat × List UInt8)} (h : Pk B w0 W v L lits) (x : List UInt8) (cs : Array Value) (hx : (Lib.byteCells x).toArray = cs) : Pk B w0 (W.alloc (.cells cs 5)) v L ((W.heap.size, x) :: lits) := by
  subst hx
  exact h.put x
theorem Pk.trans {B : Nat} {w0 W1 W : World} {v v' : Value} {L L' : List UInt8} {l1 lits : List (Nat × List UInt8)} (h : Pk B w0 W1 v L l1) (k : Pk B W1 W v' L' lits) : Pk B w0 W v' L' [] :=
  ⟨k.own, h.bel.trans k.bel, fun n cs t fz hn ht => k.ty n cs t fz (h.ty n cs t fz hn ht) ht, k.le, (fun p hp => by cases hp), k.nil⟩
theorem Pk.bare {B : Nat} {w0 W : World} {v : Value} {L : List UInt8} {lits : List (Nat × List UInt8)} (h : Pk B w0 W v L lits) : Pk B w0 W v L [] :=
  ⟨h.own, h.bel, h.ty, h.le, (fun p hp => by cases hp), h.nil⟩
/-- Bytes that a callee has laid out. -/
theorem Pk.row {B : Nat} {w0 W W' : World} {v : Value} {L : List UInt8} {lits : List (Nat × List UInt8)} (h : Pk B w0 W v L lits) (hb : Below W.heap.size W W') {g : Nat} {x : List UInt8} (hg : W.heap.size ≤ g) (hg2 : g < W'.heap.size) (hx : ∀ j u, (Lib.byteCells x)[j]? = some u → W'.cell? ⟨g, j, none⟩ = some u) : Pk B w0 W' v L ((g, x) :: lits) := by
  have k := h.below hb
  refine ⟨k.own, k.bel, k.ty, k.le, fun p hp => ?_, k.nil⟩
  rcases List.mem_cons.1 hp with rfl | hp
  · exact ⟨fun e => by have := (World.ownsRow.lt h.own _ e).2; omega, hg2, hx⟩
  · exact k.lit p hp
/-- A text appended. -/
theorem run_text (ty : TypeId) {B : Nat} {w0 W : World} {v : Value} {L : List UInt8} {lits : List (Nat × List UInt8)} (h : Pk B w0 W v L lits) (y : ByteArray) (hlen : L.length + y.size ≤ 140737488355328) :
    ∃ v' W', (Builtin.append_ #[49, 9] ty #[v, .string y]).run Try.prog W = .ok v' W' ∧ Pk B w0 W' v' (L ++ y.data.toList) lits := by
  obtain ⟨i0, hi, hz0, hz1, hz2⟩ := info_parts info5
  obtain ⟨v', W', hr, h2, h3, h4⟩ := Lib.run_append_own_string (P := Try.prog) W B 49 9 ty 5 i0 Try.underlying49 Try.underlying9 hi hz0 hz1 hz2 v L.length (Lib.byteCells L) h.own y (by unfold maxLen; omega) hlen h.le
  refine ⟨v', W', hr, h.more h2 (size_list y).symm h3 h4 ?_⟩
  rcases h.own.2 with ⟨rfl, h0⟩ | ⟨g, cap, cur, rfl, _, hh, hn, hm, hcs, _⟩
  · by_cases hy : y.size = 0
    · left
      rw [h4.2 ⟨rfl, hy⟩]
    · right
      have hr2 := run_append_nil_string (P := Try.prog) W 49 9 ty 5 i0 (.int .u8 0) Try.underlying49 Try.underlying9 hi hz0 y (by omega) (by omega) (by rw [hz2]; omega)
      have e := hr.symm.trans hr2
      injection e with e1 e2
      rw [e1]
      rfl
  · by_cases hroom : L.length + y.size ≤ cap
    · left
      have hcs' : cur.size = cap := by simpa using hcs
      have hr2 := Lib.run_append_room_string (P := Try.prog) W 49 9 ty 5 i0 Try.underlying49 Try.underlying9 hi hz1 g L.length cap cur hh y hroom (by omega)
      have e := hr.symm.trans hr2
      injection e with e1 e2
      rw [e1]
      rfl
    · right
      have hr2 := Lib.run_append_grow_string (P := Try.prog) W 49 9 ty 5 i0 (.int .u8 0) Try.underlying49 Try.underlying9 hi hz0 ⟨g, 0, none⟩ L.length cap (Lib.byteCells L) (by rw [hz1, Lib.byteCells_length]; omega) (World.ownsRow.cells (g := g) h.own rfl) y (by omega) (by omega) (by rw [hz2]; exact growslice_fits (by omega) (by omega))
      have e := hr.symm.trans hr2
      injection e with e1 e2
      rw [e1]
      rfl
/-- Bytes that lie somewhere appended. -/
theorem run_bytes (ty : TypeId) {B : Nat} {w0 W : World} {v : Value} {L : List UInt8} {lits : List (Nat × List UInt8)} (h : Pk B w0 W v L lits) (g c : Nat) (x : List UInt8) (hx : ∀ j u, (Lib.byteCells x)[j]? = some u → W.cell? ((⟨g, 0, none⟩ : Addr).add j) = some u) (hlen : L.length + x.length ≤ 140737488355328) :
    ∃ v' W', (Builtin.append_ #[49, 49] ty #[v, .slice (some ⟨g, 0, none⟩) x.length c]).run Try.prog W = .ok v' W' ∧ Pk B w0 W' v' (L ++ x) lits := by
  obtain ⟨i0, hi, hz0, hz1, hz2⟩ := info_parts info5
  obtain ⟨v', W', hr, h2, h3, h4, h5⟩ := run_append_own_at (P := Try.prog) W B 49 ty 5 i0 (.int .u8 0) 1 1 Try.underlying49 hi hz0 hz1 hz2 rfl (by decide) v L.length (Lib.byteCells L) h.own ⟨g, 0, none⟩ x.length c (Lib.byteCells x) (by rw [Lib.byteCells_length]; omega) hx (bytes_one x) (by unfold maxLen; omega) (by omega) h.le
  exact ⟨v', W', hr, h.more h2 rfl h3 h4 h5⟩
theorem lit_cells {B : Nat} {w0 W : World} {v : Value} {L : List UInt8} {lits : List (Nat × List UInt8)} (h : Pk B w0 W v L lits) {g : Nat} {x : List UInt8} (hm : (g, x) ∈ lits) : ∀ j u, (Lib.byteCells x)[j]? = some u → W.cell? ((⟨g, 0, none⟩ : Addr).add j) = some u := by
  intro j u hu
  rw [add_none, Nat.zero_add]
  exact (h.lit _ hm).2.2 j u hu
/-- Nothing appended. -/
theorem run_none (ty : TypeId) {B : Nat} {w0 W : World} {v : Value} {L : List UInt8} {lits : List (Nat × List UInt8)} (h : Pk B w0 W v L lits) :
    (Builtin.append_ #[49, 49] ty #[v, .slice none 0 0]).run Try.prog W = .ok v W := by
  obtain ⟨i0, hi, hz0, hz1, hz2⟩ := info_parts info5
  have hf : (Builtin.firstCells 1 0 (Value.slice none 0 0)).run Try.prog W = .ok #[] W := by simp [Builtin.firstCells]
  rcases h.own.2 with ⟨rfl, h0⟩ | ⟨g, cap, cur, rfl, _, hh, hn, hm, hcs, _⟩
  · simp [Builtin.append_, run_underlying Try.underlying49, sizeOf, typeInfo, hi, hz1, Builtin.lenOf, hf]
  · simp [Builtin.append_, run_underlying Try.underlying49, sizeOf, typeInfo, hi, hz1, Builtin.lenOf, hn, hf, storeCells]
section
variable {ops : Array Oper} {o : Oper} {a : Act} {K : Act → World → Prop} {Q : Exit → Act → World → Prop} {E : Prop} {B : Nat} {w0 W : World} {v : Value} {L : List UInt8} {lits : List (Nat × List UInt8)}
theorem wp_text (s x : Operand) (ho : o.op = .call { callee := .builtin .append, args := #[s, x], argTypes := #[49, 9] }) (h : Pk B w0 W v L lits) (hs : a.eval s = v) (y : ByteArray) (hx : a.eval x = .string y) (hlen : L.length + y.size ≤ 140737488355328)
    (hk : ∀ v' W', Pk B w0 W' v' (L ++ y.data.toList) lits → K (a.put o.dst v') W') : o.wp Try.prog a W K Q := by
  obtain ⟨v', W', hr, h2⟩ := run_text o.type h y hlen
  unfold Oper.wp execOp
  simp only [ho, resolve, invoke, builtin, Sem.run_bind, Sem.run_pure, Result.andThen_ok, List.map_toArray, List.map_cons, List.map_nil, hs, hx, hr]
  exact hk v' W' h2
theorem wp_bytes (s x : Operand) (ho : o.op = .call { callee := .builtin .append, args := #[s, x], argTypes := #[49, 49] }) (h : Pk B w0 W v L lits) (hs : a.eval s = v) (g c : Nat) (y : List UInt8) (hx : a.eval x = .slice (some ⟨g, 0, none⟩) y.length c)
    (hy : ∀ j u, (Lib.byteCells y)[j]? = some u → W.cell? ((⟨g, 0, none⟩ : Addr).add j) = some u) (hlen : L.length + y.length ≤ 140737488355328)
    (hk : ∀ v' W', Pk B w0 W' v' (L ++ y) lits → K (a.put o.dst v') W') : o.wp Try.prog a W K Q := by
  obtain ⟨v', W', hr, h2⟩ := run_bytes o.type h g c y hy hlen
  unfold Oper.wp execOp
  simp only [ho, resolve, invoke, builtin, Sem.run_bind, Sem.run_pure, Result.andThen_ok, List.map_toArray, List.map_cons, List.map_nil, hs, hx, hr]
  exact hk v' W' h2
theorem step_none (hgd : o.guard = none) (s x : Operand) (ho : o.op = .call { callee := .builtin .append, args := #[s, x], argTypes := #[49, 49] }) (h : Pk B w0 W v L lits) (hs : a.eval s = v) (hx : a.eval x = .slice none 0 0)
    (hk : K (a.put o.dst v) W) : if Region.wanted o (yielded ops a.tmps) = true then Oper.wp Try.prog o a W K Q else E := by
  have hw : Region.wanted o (yielded ops a.tmps) = true := by simp [Region.wanted, hgd]
  rw [if_pos hw]
  have hr := run_none o.type h
  unfold Oper.wp execOp
  simp only [ho, resolve, invoke, builtin, Sem.run_bind, Sem.run_pure, Result.andThen_ok, List.map_toArray, List.map_cons, List.map_nil, hs, hx, hr]
  exact hk
/-- At a step of a statement that draws its order. -/
theorem step_text (hgd : o.guard = none) (s x : Operand) (ho : o.op = .call { callee := .builtin .append, args := #[s, x], argTypes := #[49, 9] }) (h : Pk B w0 W v L lits) (hs : a.eval s = v) (y : ByteArray) (hx : a.eval x = .string y) (hlen : L.length + y.size ≤ 140737488355328)
    (hk : ∀ v' W', Pk B w0 W' v' (L ++ y.data.toList) lits → K (a.put o.dst v') W') : if Region.wanted o (yielded ops a.tmps) = true then Oper.wp Try.prog o a W K Q else E := by
  have hw : Region.wanted o (yielded ops a.tmps) = true := by simp [Region.wanted, hgd]
  rw [if_pos hw]
  exact wp_text s x ho h hs y hx hlen hk
theorem step_bytes (hgd : o.guard = none) (s x : Operand) (ho : o.op = .call { callee := .builtin .append, args := #[s, x], argTypes := #[49, 49] }) (h : Pk B w0 W v L lits) (hs : a.eval s = v) (g c : Nat) (y : List UInt8) (hx : a.eval x = .slice (some ⟨g, 0, none⟩) y.length c)
    (hm : (g, y) ∈ lits) (hlen : L.length + y.length ≤ 140737488355328)
    (hk : ∀ v' W', Pk B w0 W' v' (L ++ y) lits → K (a.put o.dst v') W') : if Region.wanted o (yielded ops a.tmps) = true then Oper.wp Try.prog o a W K Q else E := by
  have hw : Region.wanted o (yielded ops a.tmps) = true := by simp [Region.wanted, hgd]
  rw [if_pos hw]
  exact wp_bytes s x ho h hs g c y hx (lit_cells h hm) hlen hk
theorem list_text {rest : List Oper} (hgd : o.guard = none) (s x : Operand) (ho : o.op = .call { callee := .builtin .append, args := #[s, x], argTypes := #[49, 9] }) (h : Pk B w0 W v L lits) (hs : a.eval s = v) (y : ByteArray) (hx : a.eval x = .string y) (hlen : L.length + y.size ≤ 140737488355328)
    (hk : ∀ v' W', Pk B w0 W' v' (L ++ y.data.toList) lits → wpList Try.prog ops Q rest (a.put o.dst v') W') : wpList Try.prog ops Q (o :: rest) a W :=
  wpList_plain hgd fun _ hK => wp_text s x ho h hs y hx hlen fun v' W' h2 => hK _ _ (hk v' W' h2)
theorem list_bytes {rest : List Oper} (hgd : o.guard = none) (s x : Operand) (ho : o.op = .call { callee := .builtin .append, args := #[s, x], argTypes := #[49, 49] }) (h : Pk B w0 W v L lits) (hs : a.eval s = v) (g c : Nat) (y : List UInt8) (hx : a.eval x = .slice (some ⟨g, 0, none⟩) y.length c)
    (hm : (g, y) ∈ lits) (hlen : L.length + y.length ≤ 140737488355328)
    (hk : ∀ v' W', Pk B w0 W' v' (L ++ y) lits → wpList Try.prog ops Q rest (a.put o.dst v') W') : wpList Try.prog ops Q (o :: rest) a W :=
  wpList_plain hgd fun _ hK => wp_bytes s x ho h hs g c y hx (lit_cells h hm) hlen fun v' W' h2 => hK _ _ (hk v' W' h2)
end
end Go.Proofs.Ytonoalbhpligfaa.RPk
