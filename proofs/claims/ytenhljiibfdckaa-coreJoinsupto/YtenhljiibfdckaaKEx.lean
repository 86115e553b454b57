/- The expressions of a node, one after the other (package pieces). -/
import Derived.Test.YtenhljiibfdckaaKBase
import Derived.RangeFuncNested
import Derived.RangeFuncBound
import Derived.RangeFuncCalls
import Derived.RangeFuncLeaves
import Derived.Shelf.Abstract
import Derived.Shelf.RegionOpen
import Derived.OwnWalkIn
import Derived.TacticsInMore
import Derived.LoopNIn
import Derived.LoopIn
namespace Go.Proofs.Ytenhljiibfdckaa.KEx
open Go.RowKit Go.Shelf Go.Proofs.Ytenhljiibfdckaa.Base Go.Proofs.Ytenhljiibfdckaa.EPure Go.Proofs.Ytenhljiibfdckaa.KBase
open Go.Proofs.Ytenhljiibfdckaa.XBase (four_box)
set_option linter.unusedVariables false
attribute [local go_sem] Oper.semAt_some

def ex1 (l : List Fld) : List Ex := (l.filter Fld.b).map Fld.e
def ex2 (l : List Pt) : List Ex := (l.filter Pt.b).map Pt.e
/-- The expressions of a node: of its bound fields, of its bound parts, its own. -/
def xsC (c : Co) : List Ex := ex1 c.f ++ (ex2 c.p ++ c.x)
theorem ex1_yes (l : List Fld) (q : Nat) (h : q < l.length) (hb : l[q].b = true) : ex1 (l.take (q + 1)) = ex1 (l.take q) ++ [l[q].e] := by
  unfold ex1
  rw [List.take_add_one, List.getElem?_eq_getElem h, List.filter_append, List.map_append]
  simp only [Option.toList_some, List.filter_cons, hb, List.filter_nil, if_true, List.map_cons, List.map_nil]
theorem ex1_no (l : List Fld) (q : Nat) (h : q < l.length) (hb : l[q].b = false) : ex1 (l.take (q + 1)) = ex1 (l.take q) := by
  unfold ex1
  rw [List.take_add_one, List.getElem?_eq_getElem h, List.filter_append, List.map_append]
  simp only [Option.toList_some, List.filter_cons, hb, List.filter_nil, List.map_nil, Bool.false_eq_true, if_false, List.append_nil]
theorem ex2_yes (l : List Pt) (q : Nat) (h : q < l.length) (hb : l[q].b = true) : ex2 (l.take (q + 1)) = ex2 (l.take q) ++ [l[q].e] := by
  unfold ex2
  rw [List.take_add_one, List.getElem?_eq_getElem h, List.filter_append, List.map_append]
  simp only [Option.toList_some, List.filter_cons, hb, List.filter_nil, if_true, List.map_cons, List.map_nil]
theorem ex2_no (l : List Pt) (q : Nat) (h : q < l.length) (hb : l[q].b = false) : ex2 (l.take (q + 1)) = ex2 (l.take q) := by
  unfold ex2
  rw [List.take_add_one, List.getElem?_eq_getElem h, List.filter_append, List.map_append]
  simp only [Option.toList_some, List.filter_cons, hb, List.filter_nil, List.map_nil, Bool.false_eq_true, if_false, List.append_nil]
theorem ex1_pre (l : List Fld) (q : Nat) : ex1 (l.take q) <+: ex1 l := by
  refine ⟨ex1 (l.drop q), ?_⟩
  unfold ex1
  rw [← List.map_append, ← List.filter_append, List.take_append_drop]
theorem ex2_pre (l : List Pt) (q : Nat) : ex2 (l.take q) <+: ex2 l := by
  refine ⟨ex2 (l.drop q), ?_⟩
  unfold ex2
  rw [← List.map_append, ← List.filter_append, List.take_append_drop]
theorem room_none (k : Nat) : Fence.wide.room k := fun d h => by cases h
theorem round_any {m m' : Nat} {P : Program} {l : Nat} {f : FuncId} {tmps : Array Value} {assign body : Code} {w : World} {R : Ending → World → Prop}
    (h : RoundIn Fence.wide m P l f tmps assign body w R) : RoundIn Fence.wide m' P l f tmps assign body w R := ⟨h.1, fun c cs _ => h.2 c cs (room_none _)⟩
theorem yield_any {m : Nat} (m' : Nat) {P : Program} {l : Nat} {args : Array Value} {W : World} {R : Ending → World → Prop} (h : YieldAt Fence.wide m P l args W R) : YieldAt Fence.wide m' P l args W R := by
  obtain ⟨fn, tmps, assign, body, hy, hR⟩ := h
  exact ⟨fn, tmps, assign, body, hy, round_any hR⟩
/-- An expression, as a value and as what it holds; it lies in w0. -/
def Al (w0 : World) : Type := { x : Value × Ex // ∃ m, XBase.In false (fun _ => True) w0 m x.1 x.2 }
def pr {w0 : World} (x : Al w0) : Ex := x.1.2
def enc {w0 : World} (x : Al w0) : Array Value := #[x.1.1]
/-- What a round keeps: all below n0, the cells from n1 on, and block B. -/
def Kx (n0 n1 B : Nat) (W W' : World) : Prop := (Below n0 W W' ∧ ∀ b c t fz, n1 ≤ b → W.heap[b]? = some (.cells c t fz) → W'.heap[b]? = some (.cells c t fz)) ∧ W'.heap[B]? = W.heap[B]?
theorem Kx.trans {n0 n1 B : Nat} {A C D : World} (h : Kx n0 n1 B A C) (k : Kx n0 n1 B C D) : Kx n0 n1 B A D := ⟨⟨h.1.1.trans k.1.1, fun b c t fz hb hc => k.1.2 b c t fz hb (h.1.2 b c t fz hb hc)⟩, k.2.trans h.2⟩
theorem Kx.refl (n0 n1 B : Nat) (A : World) : Kx n0 n1 B A A := ⟨⟨Below.refl _ _, fun _ _ _ _ _ h => h⟩, rfl⟩
theorem Kx.of_below {n0 n1 B : Nat} {A C : World} (h : Below A.heap.size A C) (hn : n0 ≤ A.heap.size) (hB : B < A.heap.size) : Kx n0 n1 B A C :=
  ⟨⟨h.mono hn, fun b c t fz _ hc => (h.block b (Array.getElem?_eq_some_iff.1 hc).1).trans hc⟩, h.block B hB⟩
theorem Kx.book {n0 n1 B : Nat} {w : World} (hn : n0 ≤ w.heap.size) (hB : B < w.heap.size) (W : World) (l : Nat) (o o' : Obj) (hl : w.heap.size ≤ l) (h : W.heap[l]? = some o) (ho : o.isCells = false) (hw : o.isWalk = false) : Kx n0 n1 B W (W.putObj l o') := by
  refine ⟨⟨belowK_b hn W l o o' hl h ho hw, fun b c t fz _ hc => ?_⟩, World.putObj_heap_other (by omega)⟩
  by_cases e : b = l
  · subst e
    rw [h] at hc
    cases hc
    cases ho
  · rw [World.putObj_heap_other (fun h => e h)]
    exact hc
theorem Kx.set {n0 n1 B : Nat} (W : World) (b : Nat) (u : Value) (h0 : n0 ≤ b) (h1 : b < n1) (hB : B ≠ b) : Kx n0 n1 B W (W.setCell ⟨b, 0, none⟩ u) :=
  ⟨⟨(Below.refl _ W).setCell (p := ⟨b, 0, none⟩) h0 u, fun b' c t fz hb hc => by rw [Below.heap_setCell _ _ _ _ (by simp; omega)]; exact hc⟩, Below.heap_setCell _ _ _ _ hB⟩
theorem exprs_in (n : Nat) (v0 v1 v2 v3 v4 v5 v6 : Value) (w : World) :
    CallsIn Fence.wide n Try.prog 41 #[.agg #[v0, v1, v2, v3, v4, v5, v6]] w fun e w' => e = .returned (.func (.func 52) #[] #[.pointer (some ⟨w.heap.size, 0, none⟩)]) ∧ w' = w.alloc (.cells #[v0, v1, v2, v3, v4, v5, v6] 41) := by
  refine callsIn_of_wp Try.func41 rfl trivial ?_ rfl
  simp only [Try.ntmps41, List.size_toArray, List.length_cons, List.length_nil, Nat.reduceAdd, Nat.reduceSub, Array.replicate_succ, Array.replicate_zero, List.push_toArray, List.append_toArray, List.nil_append, List.cons_append]
  gi_wp2
  go_ret
  exact ⟨rfl, rfl⟩
set_option maxRecDepth 100000 in
set_option maxHeartbeats 4000000 in
theorem exprs_stops (n B : Nat) (w0 wl : World) {m : Nat} {v0 v1 v2 v3 v4 v5 v6 : Value} {c : Co} (hin : In false (fun _ => True) w0 m (.agg #[v0, v1, v2, v3, v4, v5, v6]) c) (hB : Below w0.heap.size w0 wl) (hx : wl.heap[B]? = some (.cells #[v0, v1, v2, v3, v4, v5, v6] 41 (0, 0))) :
    SeqStopsK Fence.wide n Try.prog 52 #[.pointer (some ⟨B, 0, none⟩)] (enc (w0 := w0)) (Kx w0.heap.size wl.heap.size B) (fun ys => ys.map pr = xsC c) (fun pre => pre.map pr <+: xsC c) (xsC c).length wl := by
  intro l J Jx W hW hJ hJx hY0 h0
  have hdd : ∀ k : Nat, (Fence.wide.depth.isSome = true → 1 ≤ k) := fun k h => by cases h
  have hlt : B < wl.heap.size := (Array.getElem?_eq_some_iff.1 hx).1
  have hJa : ∀ s W o, J s W → J s (W.alloc o) := fun s W o h => hJ s W _ none h (World.grownBy_alloc W o none) (fun r e => by cases e)
  have hY := fun m pre x W hj hl => yield_any m (hY0 pre x W hj hl)
  obtain ⟨m', fv, pv, xv, lv, uv, rfl, he, -, -, hF, hP, ⟨mx, hX⟩, -, -⟩ := hin.shape
  simp only [Value.agg.injEq, Array.mk.injEq, List.cons.injEq, and_true] at he
  obtain ⟨rfl, rfl, rfl, rfl, rfl, rfl, rfl⟩ := he
  obtain ⟨a1, c1, rfl, hc1, hm1, hl1, -, hLF⟩ := hF
  obtain ⟨a2, c2, rfl, hc2, hm2, hl2, -, hLP⟩ := hP
  obtain ⟨a3, c3, rfl, hc3, hm3, hl3, -, hLX⟩ := hX
  have hBW : Below w0.heap.size w0 W := hB.trans (hW.mono hB.size)
  have hxW := (hW.block B hlt).trans hx
  obtain ⟨d0, d1, d2, d3, d4, d5, d6⟩ := seven_box hxW
  have hWl := hW.size
  have hw0 := hB.size
  have Hxs : Hid (xsC c = ex1 c.f ++ (ex2 c.p ++ c.x)) := rfl
  have HN : Hid ((xsC c).length = (ex1 c.f).length + ((ex2 c.p).length + c.x.length)) := by show _ = _; rw [Hxs.out]; simp
  have HxW : Hid (W.heap[B]? = some (.cells #[.int .i64 c.k, .string c.t, .slice a1 c.f.length c1, .slice a2 c.p.length c2, .slice a3 c.x.length c3, v5, v6] 41 (0, 0))) := hxW
  have HLF : Hid (RwAt 8 Fd8 rmF false (fun _ => True) w0 (InF false (fun _ => True) w0) a1 c1 c.f) := hLF
  have HLP : Hid (RwAt 6 Pt6 rmP false (fun _ => True) w0 (InP false (fun _ => True) w0) a2 c2 c.p) := hLP
  have HLX : Hid (XBase.LAt false (fun _ => True) w0 mx a3 c3 c.x) := hLX
  have HBW : Hid (Below w0.heap.size w0 W) := hBW
  obtain ⟨N, hN⟩ : ∃ N, (xsC c).length = N := ⟨_, rfl⟩
  have HN2 : Hid ((ex1 c.f).length + ((ex2 c.p).length + c.x.length) = N) := HN.out.symm.trans hN
  rw [hN] at hY
  clear hin hJ hJx hY0 hxW hLF hLP hLX hBW HN hN hx
  show CallsIn Fence.wide n Try.prog 52 #[.func (.yield l) #[] #[], .pointer (some ⟨B, 0, none⟩)] W _
  refine callsIn_of_wp Try.func52 rfl trivial ?_ rfl
  simp only [Try.ntmps52, List.size_toArray, List.length_cons, List.length_nil, Nat.reduceAdd, Nat.reduceSub, Array.replicate_succ, Array.replicate_zero, List.push_toArray, List.append_toArray, List.nil_append, List.cons_append]
  gi_wp2_with fail
  clear d0 d1 d2 d3 d4 d5 d6
  gi_loopw [12] (fun i' wr => ∃ (q : Nat) (xs : List (Al w0)), q ≤ c.f.length ∧ i' = .int .i64 q ∧ xs.map pr = ex1 (c.f.take q) ∧ J xs wr ∧ Kx w0.heap.size wl.heap.size B W wr) (fun i' _ => c.f.length - (intOf i').toNat)
  case atStart => exact ⟨0, [], by omega, rfl, rfl, h0, Kx.refl _ _ _ _⟩
  case round =>
    clear h0
    obtain ⟨q, xs, hq, rfl, hxs, hJs, hk⟩ := hrel
    have Hxs1 : Hid (xs.map pr = ex1 (c.f.take q)) := hxs
    have hBr : Below w0.heap.size w0 wr := HBW.out.trans hk.1.1
    have hwr := hBr.size
    have hwl : wl.heap.size ≤ wr.heap.size := Nat.le_trans hWl hk.1.1.size
    clear hxs
    by_cases hlt' : q < c.f.length
    · have d0 : decide ((q : Int) < (c.f.length : Int)) = true := by simp; omega
      obtain ⟨g, o, u, ha, -, hu, hi⟩ := RwAt.elem HLF.out hlt'
      subst ha
      obtain ⟨t0, t1, t2, e0, e1, e2, e3, t7, rfl, k0, k1, k2, k3, k4, k5, k6, k7⟩ := hu
      obtain ⟨ea, ec, rfl, rfl, rfl, rfl, rfl, rfl, rfl, rfl, -, -, -, -⟩ := hi.eight
      obtain ⟨-, -, -, -, -, -, -, me, hie⟩ := hi.kinds
      have k0 := below_cell k0 hBr
      have k1 := below_cell k1 hBr
      have k2 := below_cell k2 hBr
      have k3 := below_cell k3 hBr
      have k4 := below_cell k4 hBr
      have k5 := below_cell k5 hBr
      have k6 := below_cell k6 hBr
      have k7 := below_cell k7 hBr
      obtain ⟨y, hy⟩ : ∃ y, c.f[q] = y := ⟨_, rfl⟩
      have Hy : Hid (c.f[q] = y) := hy
      rw [hy] at k0 k1 k2 k3 k4 k5 k6 k7 hie
      obtain ⟨W1, hW1⟩ : ∃ W1, wr.alloc (.cells #[.string y.n, .string y.p, .bool y.b, .int .i64 y.e.o, .int .i64 y.e.i, .string y.e.s, .slice ea y.e.l.length ec, .int .i64 y.a] 37) = W1 := ⟨_, rfl⟩
      have b1 : Below wr.heap.size wr W1 := by rw [← hW1]; exact (Below.refl _ wr).alloc (Nat.le_refl _) _
      have q1 : W1.heap[wr.heap.size]? = some (.cells #[.string y.n, .string y.p, .bool y.b, .int .i64 y.e.o, .int .i64 y.e.i, .string y.e.s, .slice ea y.e.l.length ec, .int .i64 y.a] 37 (0, 0)) := by rw [← hW1]; exact heap_alloc_new wr _
      have hJ1 : J xs W1 := by rw [← hW1]; exact hJa _ _ _ hJs
      have hk1 : Kx w0.heap.size wl.heap.size B W W1 := hk.trans (Kx.of_below b1 hwr (by omega))
      obtain ⟨z0, z1, z2, z3, z4, z5, z6, z7⟩ := eight_box q1
      have hcc := hc1
      clear b1 q1 hy hk hJs
      obtain ⟨b, hb⟩ : ∃ b, y.b = b := ⟨_, rfl⟩
      rw [hb] at z2 k2 hW1
      have Hb : Hid (y.b = b) := hb
      clear hb
      cases b with
      | true =>
        obtain ⟨x0, hx0⟩ : ∃ x0 : Al w0, x0 = ⟨(.agg #[.int .i64 y.e.o, .int .i64 y.e.i, .string y.e.s, .slice ea y.e.l.length ec], y.e), me, hie⟩ := ⟨_, rfl⟩
        have Hpr : Hid (pr x0 = y.e) := by show _ = _; rw [hx0]; rfl
        have henc : enc x0 = #[.agg #[.int .i64 y.e.o, .int .i64 y.e.i, .string y.e.s, .slice ea y.e.l.length ec]] := by rw [hx0]; rfl
        have Hst : Hid (ex1 (c.f.take (q + 1)) = ex1 (c.f.take q) ++ [y.e]) := by show _ = _; rw [ex1_yes c.f q hlt' (by rw [Hy.out]; exact Hb.out), Hy.out]
        have Hall : Hid ((xs ++ [x0]).map pr = ex1 (c.f.take (q + 1))) := by show _ = _; rw [List.map_append, Hxs1.out, List.map_cons, List.map_nil, Hpr.out, Hst.out]
        have Hpre : Hid ((xs ++ [x0]).map pr <+: xsC c) := by
          show _ <+: _
          rw [Hall.out, Hxs.out]
          exact (ex1_pre c.f (q + 1)).trans ⟨_, rfl⟩
        have hlen2 : xs.length < N := by
          have e1 := Hpre.out.length_le
          rw [List.length_map, List.length_append] at e1
          have e2 := HN2.out
          have e3 : (xsC c).length = (ex1 c.f).length + ((ex2 c.p).length + c.x.length) := by rw [Hxs.out]; simp
          simp only [List.length_cons, List.length_nil] at e1
          omega
        obtain ⟨fn, tmps, assign, body, hyd, hR⟩ := hY (n - 1) xs x0 W1 hJ1 hlen2
        rw [henc] at hyd
        clear hx0 henc hie
        gi_wp2_with fail
        refine ⟨hdd _, ?_⟩
        refine hR.mono ?_
        clear hR hyd
        rintro e W2 (⟨rfl, hJ2, hk2⟩ | ⟨rfl, hx2⟩)
        · have hkk := hk1.trans hk2
          clear hk1 hk2 hJ1 k0 k1 k2 k3 k4 k5 k6 k7 z0 z1 z2 z3 z4 z5 z6 z7 hW1
          gi_wp2_with fail
          go_roundw
          case rel => exact ⟨q + 1, xs ++ [x0], by omega, by go_num, Hall.out, hJ2, hkk⟩
          case measure => simp only [intOf]; omega
        · clear hk1 hJ1 k0 k1 k2 k3 k4 k5 k6 k7 z0 z1 z2 z3 z4 z5 z6 z7 hW1
          gi_wp2_with fail
          refine bodyPost_ret (results_none rfl _ _ _) rfl ?_
          exact ⟨⟨_, rfl⟩, .inr ⟨xs ++ [x0], Hpre.out, hx2⟩⟩
      | false =>
        have Hst : Hid (ex1 (c.f.take (q + 1)) = ex1 (c.f.take q)) := ex1_no c.f q hlt' (by rw [Hy.out]; exact Hb.out)
        have Hall : Hid (xs.map pr = ex1 (c.f.take (q + 1))) := by show _ = _; rw [Hxs1.out, Hst.out]
        clear hie
        gi_wp2_with fail
        refine ⟨fun f h => (by cases h), ?_⟩
        gi_wp2_with fail
        go_roundw
        case rel => exact ⟨q + 1, xs, by omega, by go_num, Hall.out, hJ1, hk1⟩
        case measure => simp only [intOf]; omega
    · have dn1 : decide ((q : Int) < (c.f.length : Int)) = false := by simp; omega
      have dm1 : decide (q < c.f.length) = false := by simp; omega
      obtain ⟨d0', d1', d2', d3', d4', d5', d6'⟩ := seven_box (hk.2.trans HxW.out)
      gi_wp2_with fail
      clear d0' d1' d2' d3' d4' d5' d6'
      obtain ⟨Wa, hWa⟩ : ∃ Wa, Wa = wr := ⟨_, rfl⟩
      subst hWa
      gi_loopw [29] (fun i' wr => ∃ (q : Nat) (xs : List (Al w0)), q ≤ c.p.length ∧ i' = .int .i64 q ∧ xs.map pr = ex1 c.f ++ ex2 (c.p.take q) ∧ J xs wr ∧ Kx w0.heap.size wl.heap.size B W wr) (fun i' _ => c.p.length - (intOf i').toNat)
      case atStart => exact ⟨0, xs, by omega, rfl, by rw [Hxs1.out, List.take_of_length_le (by omega)]; simp [ex2], hJs, hk⟩
      case round =>
        clear hJs hk Hxs1 hBr hwr hwl
        obtain ⟨q, xs, hq, rfl, hxs, hJs, hk⟩ := hrel
        have Hxs1 : Hid (xs.map pr = ex1 c.f ++ ex2 (c.p.take q)) := hxs
        have hBr : Below w0.heap.size w0 wr := HBW.out.trans hk.1.1
        have hwr := hBr.size
        have hwl : wl.heap.size ≤ wr.heap.size := Nat.le_trans hWl hk.1.1.size
        clear hxs
        by_cases hlt' : q < c.p.length
        · have d0 : decide ((q : Int) < (c.p.length : Int)) = true := by simp; omega
          obtain ⟨g, o, u, ha, -, hu, hi⟩ := RwAt.elem HLP.out hlt'
          subst ha
          obtain ⟨t0, t1, e0, e1, e2, e3, rfl, k0, k1, k2, k3, k4, k5⟩ := hu
          obtain ⟨ea, ec, rfl, rfl, rfl, rfl, rfl, rfl, -, -⟩ := hi.six
          obtain ⟨-, -, -, me, hie⟩ := hi.kinds
          have k0 := below_cell k0 hBr
          have k1 := below_cell k1 hBr
          have k2 := below_cell k2 hBr
          have k3 := below_cell k3 hBr
          have k4 := below_cell k4 hBr
          have k5 := below_cell k5 hBr
          obtain ⟨y, hy⟩ : ∃ y, c.p[q] = y := ⟨_, rfl⟩
          have Hy : Hid (c.p[q] = y) := hy
          rw [hy] at k0 k1 k2 k3 k4 k5 hie
          obtain ⟨W1, hW1⟩ : ∃ W1, wr.alloc (.cells #[.string y.p, .bool y.b, .int .i64 y.e.o, .int .i64 y.e.i, .string y.e.s, .slice ea y.e.l.length ec] 44) = W1 := ⟨_, rfl⟩
          have b1 : Below wr.heap.size wr W1 := by rw [← hW1]; exact (Below.refl _ wr).alloc (Nat.le_refl _) _
          have q1 : W1.heap[wr.heap.size]? = some (.cells #[.string y.p, .bool y.b, .int .i64 y.e.o, .int .i64 y.e.i, .string y.e.s, .slice ea y.e.l.length ec] 44 (0, 0)) := by rw [← hW1]; exact heap_alloc_new wr _
          have hJ1 : J xs W1 := by rw [← hW1]; exact hJa _ _ _ hJs
          have hk1 : Kx w0.heap.size wl.heap.size B W W1 := hk.trans (Kx.of_below b1 hwr (by omega))
          obtain ⟨z0, z1, z2, z3, z4, z5⟩ := six_box q1
          have hcc := hc2
          clear b1 q1 hy hk hJs
          obtain ⟨b, hb⟩ : ∃ b, y.b = b := ⟨_, rfl⟩
          rw [hb] at z1 k1 hW1
          have Hb : Hid (y.b = b) := hb
          clear hb
          cases b with
          | true =>
            obtain ⟨x0, hx0⟩ : ∃ x0 : Al w0, x0 = ⟨(.agg #[.int .i64 y.e.o, .int .i64 y.e.i, .string y.e.s, .slice ea y.e.l.length ec], y.e), me, hie⟩ := ⟨_, rfl⟩
            have Hpr : Hid (pr x0 = y.e) := by show _ = _; rw [hx0]; rfl
            have henc : enc x0 = #[.agg #[.int .i64 y.e.o, .int .i64 y.e.i, .string y.e.s, .slice ea y.e.l.length ec]] := by rw [hx0]; rfl
            have Hst : Hid (ex2 (c.p.take (q + 1)) = ex2 (c.p.take q) ++ [y.e]) := by show _ = _; rw [ex2_yes c.p q hlt' (by rw [Hy.out]; exact Hb.out), Hy.out]
            have Hall : Hid ((xs ++ [x0]).map pr = ex1 c.f ++ ex2 (c.p.take (q + 1))) := by show _ = _; rw [List.map_append, Hxs1.out, List.map_cons, List.map_nil, Hpr.out, Hst.out]; simp
            have Hpre : Hid ((xs ++ [x0]).map pr <+: xsC c) := by
              show _ <+: _
              rw [Hall.out, Hxs.out]
              exact (List.prefix_append_right_inj _).2 ((ex2_pre c.p (q + 1)).trans ⟨_, rfl⟩)
            have hlen2 : xs.length < N := by
              have e1 := Hpre.out.length_le
              rw [List.length_map, List.length_append] at e1
              have e2 := HN2.out
              have e3 : (xsC c).length = (ex1 c.f).length + ((ex2 c.p).length + c.x.length) := by rw [Hxs.out]; simp
              simp only [List.length_cons, List.length_nil] at e1
              omega
            obtain ⟨fn, tmps, assign, body, hyd, hR⟩ := hY (n - 1) xs x0 W1 hJ1 hlen2
            rw [henc] at hyd
            clear hx0 henc hie
            gi_wp2_with fail
            refine ⟨hdd _, ?_⟩
            refine hR.mono ?_
            clear hR hyd
            rintro e W2 (⟨rfl, hJ2, hk2⟩ | ⟨rfl, hx2⟩)
            · have hkk := hk1.trans hk2
              clear hk1 hk2 hJ1 k0 k1 k2 k3 k4 k5 z0 z1 z2 z3 z4 z5 hW1
              gi_wp2_with fail
              go_roundw
              case rel => exact ⟨q + 1, xs ++ [x0], by omega, by go_num, Hall.out, hJ2, hkk⟩
              case measure => simp only [intOf]; omega
            · clear hk1 hJ1 k0 k1 k2 k3 k4 k5 z0 z1 z2 z3 z4 z5 hW1
              gi_wp2_with fail
              refine bodyPost_ret (results_none rfl _ _ _) rfl ?_
              exact ⟨⟨_, rfl⟩, .inr ⟨xs ++ [x0], Hpre.out, hx2⟩⟩
          | false =>
            have Hst : Hid (ex2 (c.p.take (q + 1)) = ex2 (c.p.take q)) := ex2_no c.p q hlt' (by rw [Hy.out]; exact Hb.out)
            have Hall : Hid (xs.map pr = ex1 c.f ++ ex2 (c.p.take (q + 1))) := by show _ = _; rw [Hxs1.out, Hst.out]
            clear hie
            gi_wp2_with fail
            refine ⟨fun f h => (by cases h), ?_⟩
            gi_wp2_with fail
            go_roundw
            case rel => exact ⟨q + 1, xs, by omega, by go_num, Hall.out, hJ1, hk1⟩
            case measure => simp only [intOf]; omega
        · have dn2 : decide ((q : Int) < (c.p.length : Int)) = false := by simp; omega
          have dm2 : decide (q < c.p.length) = false := by simp; omega
          obtain ⟨d0', d1', d2', d3', d4', d5', d6'⟩ := seven_box (hk.2.trans HxW.out)
          gi_wp2_with fail
          clear d0' d1' d2' d3' d4' d5' d6'
          obtain ⟨Wa, hWa⟩ : ∃ Wa, Wa = wr := ⟨_, rfl⟩
          subst hWa
          gi_loopw [46] (fun i' wr => ∃ (q : Nat) (xs : List (Al w0)), q ≤ c.x.length ∧ i' = .int .i64 q ∧ xs.map pr = ex1 c.f ++ (ex2 c.p ++ c.x.take q) ∧ J xs wr ∧ Kx w0.heap.size wl.heap.size B W wr) (fun i' _ => c.x.length - (intOf i').toNat)
          case atStart => exact ⟨0, xs, by omega, rfl, by rw [Hxs1.out, List.take_of_length_le (by omega)]; simp, hJs, hk⟩
          case round =>
            clear hJs hk Hxs1 hBr hwr hwl
            obtain ⟨q, xs, hq, rfl, hxs, hJs, hk⟩ := hrel
            have Hxs1 : Hid (xs.map pr = ex1 c.f ++ (ex2 c.p ++ c.x.take q)) := hxs
            have hBr : Below w0.heap.size w0 wr := HBW.out.trans hk.1.1
            have hwr := hBr.size
            have hwl : wl.heap.size ≤ wr.heap.size := Nat.le_trans hWl hk.1.1.size
            clear hxs
            by_cases hlt' : q < c.x.length
            · have d0 : decide ((q : Int) < (c.x.length : Int)) = true := by simp; omega
              obtain ⟨g, o, u, ha, -, hu, hie⟩ := XBase.elem_at HLX.out hlt'
              subst ha
              obtain ⟨e0, e1, e2, e3, rfl, k0, k1, k2, k3⟩ := hu
              obtain ⟨me', ea, ec, -, rfl, rfl, rfl, rfl, -, -, -, -⟩ := hie.kinds
              have k0 := below_cell k0 hBr
              have k1 := below_cell k1 hBr
              have k2 := below_cell k2 hBr
              have k3 := below_cell k3 hBr
              obtain ⟨y, hy⟩ : ∃ y, c.x[q] = y := ⟨_, rfl⟩
              have Hy : Hid (c.x[q] = y) := hy
              rw [hy] at k0 k1 k2 k3 hie
              obtain ⟨W1, hW1⟩ : ∃ W1, wr.alloc (.cells #[.int .i64 y.o, .int .i64 y.i, .string y.s, .slice ea y.l.length ec] 35) = W1 := ⟨_, rfl⟩
              have b1 : Below wr.heap.size wr W1 := by rw [← hW1]; exact (Below.refl _ wr).alloc (Nat.le_refl _) _
              have q1 : W1.heap[wr.heap.size]? = some (.cells #[.int .i64 y.o, .int .i64 y.i, .string y.s, .slice ea y.l.length ec] 35 (0, 0)) := by rw [← hW1]; exact heap_alloc_new wr _
              have hJ1 : J xs W1 := by rw [← hW1]; exact hJa _ _ _ hJs
              have hk1 : Kx w0.heap.size wl.heap.size B W W1 := hk.trans (Kx.of_below b1 hwr (by omega))
              obtain ⟨z0, z1, z2, z3⟩ := four_box q1
              have hcc := hc3
              clear b1 q1 hy hk hJs
              obtain ⟨x0, hx0⟩ : ∃ x0 : Al w0, x0 = ⟨(.agg #[.int .i64 y.o, .int .i64 y.i, .string y.s, .slice ea y.l.length ec], y), _, hie⟩ := ⟨_, rfl⟩
              have Hpr : Hid (pr x0 = y) := by show _ = _; rw [hx0]; rfl
              have henc : enc x0 = #[.agg #[.int .i64 y.o, .int .i64 y.i, .string y.s, .slice ea y.l.length ec]] := by rw [hx0]; rfl
              have Hst : Hid (c.x.take (q + 1) = c.x.take q ++ [y]) := by show _ = _; rw [List.take_add_one, List.getElem?_eq_getElem hlt', Hy.out]; rfl
              have Hall : Hid ((xs ++ [x0]).map pr = ex1 c.f ++ (ex2 c.p ++ c.x.take (q + 1))) := by show _ = _; rw [List.map_append, Hxs1.out, List.map_cons, List.map_nil, Hpr.out, Hst.out]; simp
              have Hpre : Hid ((xs ++ [x0]).map pr <+: xsC c) := by
                show _ <+: _
                rw [Hall.out, Hxs.out]
                exact (List.prefix_append_right_inj _).2 ((List.prefix_append_right_inj _).2 (List.take_prefix _ _))
              have hlen2 : xs.length < N := by
                have e1 := Hpre.out.length_le
                rw [List.length_map, List.length_append] at e1
                have e2 := HN2.out
                have e3 : (xsC c).length = (ex1 c.f).length + ((ex2 c.p).length + c.x.length) := by rw [Hxs.out]; simp
                simp only [List.length_cons, List.length_nil] at e1
                omega
              obtain ⟨fn, tmps, assign, body, hyd, hR⟩ := hY (n - 1) xs x0 W1 hJ1 hlen2
              rw [henc] at hyd
              clear hx0 henc hie
              gi_wp2_with fail
              refine ⟨hdd _, ?_⟩
              refine hR.mono ?_
              clear hR hyd
              rintro e W2 (⟨rfl, hJ2, hk2⟩ | ⟨rfl, hx2⟩)
              · have hkk := hk1.trans hk2
                clear hk1 hk2 hJ1 k0 k1 k2 k3 z0 z1 z2 z3 hW1
                gi_wp2_with fail
                go_roundw
                case rel => exact ⟨q + 1, xs ++ [x0], by omega, by go_num, Hall.out, hJ2, hkk⟩
                case measure => simp only [intOf]; omega
              · clear hk1 hJ1 k0 k1 k2 k3 z0 z1 z2 z3 hW1
                gi_wp2_with fail
                refine bodyPost_ret (results_none rfl _ _ _) rfl ?_
                exact ⟨⟨_, rfl⟩, .inr ⟨xs ++ [x0], Hpre.out, hx2⟩⟩
            · have dn3 : decide ((q : Int) < (c.x.length : Int)) = false := by simp; omega
              have dm3 : decide (q < c.x.length) = false := by simp; omega
              have Hall : Hid (xs.map pr = xsC c) := by show _ = _; rw [Hxs1.out, Hxs.out, List.take_of_length_le (by omega)]
              gi_wp2_with fail
              go_end0
              exact ⟨⟨_, rfl⟩, .inl ⟨xs, Hall.out, hJs⟩⟩
end Go.Proofs.Ytenhljiibfdckaa.KEx
