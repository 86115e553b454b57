/- The writer: its box, put, must, octet, count, whole, text. -/
import Derived.Test.YtgknjjaemjkloaaZTk
import Derived.Laws.AppendOwnNone
import Derived.Maps.AppendAt
import Derived.Test.YtgknjjaemjkloaaYPl
import Derived.Test.YtgknjjaemjkloaaTRow
namespace Go.Proofs.Ytgknjjaemjkloaa.YAp
open Go.RowKit
set_option linter.unusedVariables false

theorem app_row {P : Program} {w : World} {ops : Array Oper} {rest : List Oper} {o : Oper} {a : Act} {Q : Exit → Act → World → Prop} (hgd : o.guard = none) (s x : Operand) (t : TypeId)
    (ho : o.op = .call { callee := .builtin .append, args := #[s, x], argTypes := #[t, t] })
    (base : Nat) (e : TypeId) (i : TypeInfo) (z : Value) (size bytes : Nat) (ht : P.underlying t = some (.slice e)) (hi : P.info? e = some i) (hz : i.zero = some z)
    (hsize : i.size = size) (hby : i.bytes = bytes) (hzs : z.cells.size = size) (hsz : 0 < size)
    (v : Value) (n : Nat) (xs : List Value) (hs : a.eval s = v) (hown : w.ownsRow base e size v n xs)
    (B2 : Nat) (v2 : Value) (m : Nat) (news : List Value) (hx : a.eval x = v2) (h2 : w.ownsRow B2 e size v2 m news) (hl : news.length = m * size) (h1 : ∀ u ∈ news, u.oneCell' = true)
    (h63 : n + m ≤ maxLen) (hbytes : (n + m) * bytes ≤ 140737488355328) (hbase : base ≤ w.heap.size)
    (h : ∀ v' w', w'.ownsRow base e size v' (n + m) (xs ++ news) → w.grownBy w' v.ownBlock → wpList P ops Q rest (a.put o.dst v') w') :
    wpList P ops Q (o :: rest) a w := by
  rcases h2.2 with ⟨e2, e20⟩ | ⟨g2, cap2, cur2, e2, -⟩
  · subst e2
    subst e20
    obtain rfl : news = [] := List.eq_nil_of_length_eq_zero (by omega)
    refine wpList_append_own_none hgd s x t ho base e i size ht hi v n xs hs hown hx (h v w ?_ ⟨rfl, rfl, rfl, Nat.le_refl _, fun _ _ _ => rfl⟩)
    simpa using hown
  · subst e2
    exact wpList_append_own_at _ hgd s x t ho base e i z size bytes ht hi hz hsize hby hzs hsz v n xs hs hown ⟨g2, 0, none⟩ m cap2 news hx hl (fun j u hu => World.ownsRow.cells (g := g2) h2 rfl j u hu) h1 h63 hbytes hbase (fun v' w' k1 k2 _ _ => h v' w' k1 k2)
theorem app_seen {P : Program} {w : World} {ops : Array Oper} {rest : List Oper} {o : Oper} {a : Act} {Q : Exit → Act → World → Prop} (hgd : o.guard = none) (s x : Operand) (t : TypeId)
    (ho : o.op = .call { callee := .builtin .append, args := #[s, x], argTypes := #[t, t] })
    (base : Nat) (e : TypeId) (i : TypeInfo) (z : Value) (size bytes : Nat) (ht : P.underlying t = some (.slice e)) (hi : P.info? e = some i) (hz : i.zero = some z)
    (hsize : i.size = size) (hby : i.bytes = bytes) (hzs : z.cells.size = size) (hsz : 0 < size)
    (v : Value) (n : Nat) (xs : List Value) (hs : a.eval s = v) (hown : w.ownsRow base e size v n xs)
    (ax : Option Addr) (m cap2 : Nat) (news : List Value) (hx : a.eval x = .slice ax m cap2) (h2 : (ax = none ∧ m = 0 ∧ cap2 = 0) ∨ ∃ ad : Addr, ax = some ad ∧ ∀ j u, news[j]? = some u → w.cell? (ad.add j) = some u) (hl : news.length = m * size) (h1 : ∀ u ∈ news, u.oneCell' = true)
    (h63 : n + m ≤ maxLen) (hbytes : (n + m) * bytes ≤ 140737488355328) (hbase : base ≤ w.heap.size)
    (h : ∀ v' w', w'.ownsRow base e size v' (n + m) (xs ++ news) → w.grownBy w' v.ownBlock → (v'.ownBlock = v.ownBlock ∨ v'.ownBlock = some w.heap.size) → wpList P ops Q rest (a.put o.dst v') w') :
    wpList P ops Q (o :: rest) a w := by
  rcases h2 with ⟨rfl, rfl, rfl⟩ | ⟨ad, rfl, hc⟩
  · obtain rfl : news = [] := List.eq_nil_of_length_eq_zero (by omega)
    refine wpList_append_own_none hgd s x t ho base e i size ht hi v n xs hs hown hx (h v w ?_ ⟨rfl, rfl, rfl, Nat.le_refl _, fun _ _ _ => rfl⟩ (.inl rfl))
    simpa using hown
  · exact wpList_append_own_at _ hgd s x t ho base e i z size bytes ht hi hz hsize hby hzs hsz v n xs hs hown ad m cap2 news hx hl hc h1 h63 hbytes hbase (fun v' w' k1 k2 _ k4 => h v' w' k1 k2 k4)
theorem seen_src {w : World} {ax : Option Addr} {n cap : Nat} {X : List UInt8} (h : Leb.Seen w (.slice ax n cap) X) : (ax = none ∧ n = 0 ∧ cap = 0) ∨ ∃ ad : Addr, ax = some ad ∧ ∀ j u, (Leb.cellsL X)[j]? = some u → w.cell? (ad.add j) = some u := by
  obtain ⟨a, c, e, h1, h2, h3, h4⟩ := h
  cases e
  cases ax with
  | none => have := h3 rfl; exact .inl ⟨rfl, by omega, this⟩
  | some p =>
    obtain ⟨g, o, sp⟩ := p
    by_cases hX : X.length = 0
    · obtain rfl := List.eq_nil_of_length_eq_zero hX
      exact .inr ⟨_, rfl, fun j u hu => by simp [Leb.cellsL] at hu⟩
    · obtain rfl := (h4 g o sp rfl 0 (by omega)).1
      refine .inr ⟨⟨g, o, none⟩, rfl, fun j u hu => ?_⟩
      rw [Leb.add_none]
      simp only [Leb.cellsL, List.getElem?_map, Option.map_eq_some_iff] at hu
      obtain ⟨c, hc, rfl⟩ := hu
      obtain ⟨hj, rfl⟩ := List.getElem?_eq_some_iff.1 hc
      exact (h4 g o none rfl j hj).2
end Go.Proofs.Ytgknjjaemjkloaa.YAp

namespace Go.Proofs.Ytgknjjaemjkloaa.YWr
open Go.RowKit Go.Proofs.Ytgknjjaemjkloaa.Leb Go.Proofs.Ytgknjjaemjkloaa.YPl
set_option linter.unusedVariables false

abbrev ptw (b : Nat) : Value := .pointer (some ⟨b, 0, none⟩)
/-- What a fault panics with. -/
abbrev pkF (c p : Int) : List PanicEntry := [{ v := .iface 59 (.agg #[.int .i64 c, .int .i64 p]), recovered := false }]
/-- The writer's box B, from K on, with the bytes L in a row of its own. -/
def Wr (K : Nat) (w : World) (B : Nat) (L : By) : Prop := K ≤ B ∧ L.length ≤ 1052672 ∧ ∃ v, w.heap[B]? = some (.cells #[v] 91 (0, 0)) ∧ Own w K v L
theorem Wr.other {K : Nat} {w : World} {B : Nat} {v : Value} {L : By} (h : w.heap[B]? = some (.cells #[v] 91 (0, 0))) (ho : Own w K v L) : v.ownBlock ≠ some B := by
  intro hv
  rcases ho.2 with ⟨rfl, h0⟩ | ⟨g, cap, cur, rfl, hb, hh, hn, hm, _⟩
  · cases hv
  · obtain rfl : g = B := by simpa [Value.ownBlock] using hv
    rw [h] at hh
    simp at hh
theorem Wr.other2 {K : Nat} {w : World} {B : Nat} {u v : Value} {L : By} (h : w.heap[B]? = some (.cells #[u] 91 (0, 0))) (ho : Own w K v L) : v.ownBlock ≠ some B := by
  intro hv
  rcases ho.2 with ⟨rfl, h0⟩ | ⟨g, cap, cur, rfl, hb, hh, hn, hm, _⟩
  · cases hv
  · obtain rfl : g = B := by simpa [Value.ownBlock] using hv
    rw [h] at hh
    simp at hh
theorem Wr.lt {K : Nat} {w : World} {B : Nat} {L : By} (h : Wr K w B L) : B < w.heap.size := by
  obtain ⟨_, _, v, h3, _⟩ := h
  exact (Array.getElem?_eq_some_iff.1 h3).1
theorem own_below {w w' : World} {B : Nat} {v : Value} {L : By} (h : Own w B v L) (hb : Below w.heap.size w w') : Own w' B v L := by
  have hg : w.grownBy w' none := ⟨hb.os, hb.tape, hb.output, hb.size, fun k hk _ => hb.block k hk⟩
  cases hv : v.ownBlock with
  | none => exact h.kept hg (.inl hv)
  | some k => exact h.kept hg (.inr (by rw [hv]; simp))
theorem own_low {w : World} {B B' : Nat} {v : Value} {L : By} (h : Own w B v L) (hb : B' ≤ B) : Own w B' v L := by
  refine ⟨h.1, ?_⟩
  rcases h.2 with h2 | ⟨g, cap, cur, h2, h3, h4⟩
  · exact .inl h2
  · exact .inr ⟨g, cap, cur, h2, by omega, h4⟩
/-- The block of the writer's row. -/
def rb (w : World) (B : Nat) : Option Nat := match w.heap[B]? with
  | some (.cells cs _ _) => (cs[0]?.getD (Value.bool false)).ownBlock
  | _ => none
theorem rb_box {w : World} {B : Nat} {v : Value} {t : TypeId} (h : w.heap[B]? = some (.cells #[v] t (0, 0))) : rb w B = v.ownBlock := by unfold rb; rw [h]; rfl
/-- What stays as it was beside the writer. -/
def Fr (B : Nat) (w w' : World) : Prop := w.heap.size ≤ w'.heap.size ∧ (rb w' B = rb w B ∨ ∃ k, rb w' B = some k ∧ w.heap.size ≤ k) ∧ ∀ k, k < w.heap.size → k ≠ B → rb w B ≠ some k → w'.heap[k]? = w.heap[k]?
theorem Fr.refl (B : Nat) (w : World) : Fr B w w := ⟨Nat.le_refl _, .inl rfl, fun _ _ _ _ => rfl⟩
theorem Fr.trans {B : Nat} {a b c : World} (h : Fr B a b) (g : Fr B b c) : Fr B a c := by
  obtain ⟨h1, h2, h3⟩ := h
  obtain ⟨g1, g2, g3⟩ := g
  refine ⟨by omega, ?_, fun k hk hB hr => (g3 k (by omega) hB (fun e => ?_)).trans (h3 k hk hB hr)⟩
  · rcases g2 with g2 | ⟨k, g2, gk⟩
    · rw [g2]; exact h2
    · exact .inr ⟨k, g2, by omega⟩
  · rcases h2 with h2 | ⟨j, h2, hj⟩
    · exact hr (h2 ▸ e)
    · rw [h2] at e; cases e; omega
theorem Fr.of {B : Nat} {w w' : World} (hB : B < w.heap.size) (h : Below w.heap.size w w') : Fr B w w' := ⟨h.size, .inl (by unfold rb; rw [h.block B hB]), fun k hk _ _ => h.block k hk⟩
theorem Wr.own_lt {K : Nat} {w : World} {B : Nat} {L : By} (h : Wr K w B L) {k : Nat} (hk : rb w B = some k) : k < w.heap.size ∧ k ≠ B := by
  obtain ⟨_, _, v, h3, h4⟩ := h
  rw [rb_box h3] at hk
  exact ⟨(World.ownsRow.lt h4 k hk).2, fun e => Wr.other h3 h4 (e ▸ hk)⟩
/-- A box made behind the writer stays. -/
theorem Fr.box {K : Nat} {w w' : World} {B : Nat} {L : By} (h : Wr K w B L) {W : World} (hW : Below w.heap.size w W) (hf : Fr B W w') {k : Nat} (hk : w.heap.size ≤ k) (hkW : k < W.heap.size) : w'.heap[k]? = W.heap[k]? := by
  refine hf.2.2 k hkW (fun e => by have := h.lt; omega) (fun e => ?_)
  have e2 : rb W B = rb w B := by unfold rb; rw [hW.block B h.lt]
  have := (h.own_lt (e2 ▸ e)).1
  omega
/-- What a part of the writer does. -/
def WP (K : Nat) (B : Nat) (L : By) (a : Pc) (w : World) (e : Ending) (w' : World) : Prop := Below K w w' ∧ Fr B w w' ∧ match a with
  | some Xs => e = .returned (.tuple #[]) ∧ Wr K w' B (pts L Xs)
  | none => e = .panicked (pkF 2100 0)
theorem must_c (b : Bool) (w : World) : Calls Try.prog 110 #[.bool b] w fun e w' => w' = w ∧ e = if b then .returned (.tuple #[]) else .panicked (pkF 2100 0) := by
  cases b
  · go_enter Try.func110, Try.ntmps110
    go_wp2_with fail
    exact ⟨rfl, rfl, rfl⟩
  · go_enter Try.func110, Try.ntmps110
    go_wp2_with fail
    go_end0
    exact ⟨rfl, rfl⟩
theorem must_ok (w : World) : Calls Try.prog 110 #[.bool true] w fun e w' => w' = w ∧ e = .returned (.tuple #[]) := must_c true w
theorem must_no (w : World) : Calls Try.prog 110 #[.bool false] w fun e w' => w' = w ∧ e = .panicked (pkF 2100 0) := must_c false w
theorem full_c {K : Nat} {w : World} {B : Nat} {L : By} (h : Wr K w B L) :
    Calls Try.prog 38 #[ptw B] w fun e w' => w' = w ∧ e = .returned (.bool (decide (1048576 < L.length))) := by
  obtain ⟨hKB, hL, v, hB, ho⟩ := h
  have q0 : w.cell? ⟨B, 0, none⟩ = some v := by simp [World.cell?, hB]
  obtain ⟨a, cap, rfl⟩ : ∃ a cap, v = .slice a L.length cap := by obtain ⟨a, cap, h, -⟩ := ho.seen; exact ⟨a, cap, h⟩
  by_cases hl : 1048576 < L.length
  · have hl' : (1048576 : Int) < (L.length : Int) := by omega
    rw [decide_eq_true hl]
    clear hB ho
    go_enter Try.func38, Try.ntmps38
    go_wp2_with fail
    go_ret
    exact ⟨rfl, rfl⟩
  · have hl' : ¬ (1048576 : Int) < (L.length : Int) := by omega
    rw [decide_eq_false hl]
    clear hB ho
    go_enter Try.func38, Try.ntmps38
    go_wp2_with fail
    go_ret
    exact ⟨rfl, rfl⟩
set_option maxRecDepth 20000 in
set_option maxHeartbeats 1600000 in
theorem put_w {K : Nat} {w : World} {B : Nat} {L X : By} {xv : Value} (h : Wr K w B L) (hK : K ≤ w.heap.size) (hx : Seen w xv X) (hX : X.length ≤ 4096) :
    Calls Try.prog 111 #[ptw B, xv] w fun e w' => Below K w w' ∧ Fr B w w' ∧ e = .returned (.tuple #[]) ∧ Wr K w' B (pt L X) := by
  have cF := full_c h
  obtain ⟨hKB, hL, v, hB, ho⟩ := h
  have hBlt : B < w.heap.size := (Array.getElem?_eq_some_iff.1 hB).1
  have hne := Wr.other hB ho
  have q0 : w.cell? ⟨B, 0, none⟩ = some v := by simp [World.cell?, hB]
  have hfz := TBase.frozen_box hB 0
  by_cases hl : 1048576 < L.length
  · rw [decide_eq_true hl] at cF
    have HE : Hid (Wr K w B (pt L X)) := by show Wr _ _ _ _; unfold pt; rw [if_pos hl]; exact ⟨hKB, hL, v, hB, ho⟩
    clear hB ho
    go_enter Try.func111, Try.ntmps111
    go_wp2_with fail
    refine cF.mono ?_
    rintro e w1 ⟨rfl, rfl⟩
    go_wp2_with fail
    go_end0
    exact ⟨Below.refl _ _, Fr.refl _ _, rfl, HE.out⟩
  · rw [decide_eq_false hl] at cF
    obtain ⟨i0, hi, hz0, hz1, hz2⟩ := info_parts info5
    obtain ⟨a, cap, rfl⟩ : ∃ a cap, v = .slice a L.length cap := by obtain ⟨a, cap, h, -⟩ := ho.seen; exact ⟨a, cap, h⟩
    obtain ⟨ax, capx, rfl⟩ : ∃ a cap, xv = .slice a X.length cap := by obtain ⟨a, cap, h, -⟩ := hx; exact ⟨a, cap, h⟩
    have HB : Hid _ := hB
    clear hB
    go_enter Try.func111, Try.ntmps111
    go_wp2_with fail
    refine cF.mono ?_
    rintro e w1 ⟨rfl, rfl⟩
    go_wp2_with (first
      | (at_builtin; refine YAp.app_seen rfl _ _ 30 rfl K 5 i0 (.int .u8 0) 1 1 Try.underlying30 hi hz0 hz1 hz2 rfl (by decide) _ _ _ rfl ho _ X.length _ (cellsL X) rfl (YAp.seen_src hx) (by rw [cellsL_length]; omega) (one_cells X) (by unfold maxLen; omega) (by omega) hK ?_))
    intro v' w2 hown hgrow hnw
    have hB2 := (hgrow.block B hBlt (fun e => hne e.symm)).trans HB.out
    have q2 : w2.cell? ⟨B, 0, none⟩ = some (.slice a L.length cap) := by simp [World.cell?, hB2]
    have f2 := TBase.frozen_box hB2 0
    have bel : Below K w1 w2 := (Below.refl _ _).grown hgrow hK (fun k hk => (World.ownsRow.lt ho k hk).1)
    have ho2 : Own w2 K v' (pt L X) := by unfold pt; rw [if_neg hl]; unfold Own; rw [cellsL_append, List.length_append]; exact hown
    obtain ⟨a', cap', rfl⟩ : ∃ a' cap', v' = .slice a' (pt L X).length cap' := by obtain ⟨x, y, h, -⟩ := ho2.seen; exact ⟨x, y, h⟩
    have hsz := hgrow.size
    have hlen := pt_len hX hL
    have HE : Hid (Below K w1 (w2.setCell ⟨B, 0, none⟩ (.slice a' (pt L X).length cap')) ∧ Fr B w1 (w2.setCell ⟨B, 0, none⟩ (.slice a' (pt L X).length cap')) ∧ Wr K (w2.setCell ⟨B, 0, none⟩ (.slice a' (pt L X).length cap')) B (pt L X)) := by
      refine ⟨bel.setCell (p := ⟨B, 0, none⟩) hKB _, ?_, hKB, hlen, .slice a' (pt L X).length cap', ?_, ?_⟩
      · have hB3 : (w2.setCell ⟨B, 0, none⟩ (.slice a' (pt L X).length cap')).heap[B]? = some (.cells #[.slice a' (pt L X).length cap'] 91 (0, 0)) := by simp [World.setCell, Array.getElem?_modify, hB2]
        refine ⟨by rw [World.size_setCell]; exact hsz, ?_, fun k hk hkB hr => ?_⟩
        · rw [rb_box hB3, rb_box HB.out]
          rcases hnw with h | h
          · exact .inl h
          · exact .inr ⟨_, h, Nat.le_refl _⟩
        · rw [Below.heap_setCell _ _ _ _ hkB]
          exact hgrow.block k hk (fun e => hr (by rw [rb_box HB.out]; exact e.symm))
      · simp [World.setCell, Array.getElem?_modify, hB2]
      · have hg : w2.grownBy (w2.setCell ⟨B, 0, none⟩ (.slice a' (pt L X).length cap')) (some B) := ⟨rfl, rfl, rfl, by simp, fun k hk hne => Below.heap_setCell _ _ _ _ (fun e => hne (by rw [e]))⟩
        exact ho2.kept hg (.inr (Wr.other2 hB2 ho2))
    clear hown ho hgrow bel ho2 hB2 hnw
    go_wp2_with fail
    go_end0
    exact ⟨HE.out.1, HE.out.2.1, rfl, HE.out.2.2⟩
end Go.Proofs.Ytgknjjaemjkloaa.YWr
