import Derived.LoopIn
import Derived.LoopNIn
import Derived.OwnWalkIn
import Derived.RangeFuncBound
import Derived.RangeFuncCalls
import Derived.RangeFuncLeaves
import Derived.RangeFuncNested
import Derived.Shelf.Abstract
import Derived.Shelf.RegionOpen
import Derived.TacticsInMore
import Derived.Test.YthonejomogkjjaaGreatDoorPA03
import Derived.Test.YthonejomogkjjaaGreatDoorPA29
set_option linter.unusedVariables false
namespace Go.Proofs.YthonejomogkjjaaGreatDoor.KEx
open Go.RowKit Go.Shelf Base EPure KBase
open XBase (four_box)
attribute [local go_sem] Oper.semAt_some
def ex1 (l : List Fld) : List Ex := (l.filter Fld.b).map Fld.e
def ex2 (l : List Pt) : List Ex := (l.filter Pt.b).map Pt.e
def xsC (c : Co) : List Ex := ex1 c.f ++ (ex2 c.p ++ c.x)
theorem ex1_yes (l : List Fld) (q : Nat) (h : q < l.length) (hb : l[q].b = true) : ex1 (l.take (q + 1)) = ex1 (l.take q) ++ [l[q].e] := by
 unfold ex1
 rw [List.take_add_one, List.getElem?_eq_getElem h, List.filter_append, List.map_append]
 simp only [Option.toList_some, List.filter_cons, hb, List.filter_nil, if_true, List.map_cons, List.map_nil]
theorem ex1_no (l : List Fld) (q : Nat) (h : q < l.length) (hb : l[q].b = false) : ex1 (l.take (q + 1)) = ex1 (l.take q) := by
 unfold ex1
 rw [List.take_add_one, List.getElem?_eq_getElem h, List.filter_append, List.map_append]
 simp only [Option.toList_some, List.filter_cons, hb, List.filter_nil, List.map_nil, Bool.false_eq_true, if_false, List.append_nil]
theorem ex2_yes (l : List Pt) (q : Nat) (h : q < l.length) (hb : l[q].b = true) : ex2 (l.take (q + 1)) = ex2 (l.take q) ++ [l[q].e] := by
 unfold ex2
 rw [List.take_add_one, List.getElem?_eq_getElem h, List.filter_append, List.map_append]
 simp only [Option.toList_some, List.filter_cons, hb, List.filter_nil, if_true, List.map_cons, List.map_nil]
theorem ex2_no (l : List Pt) (q : Nat) (h : q < l.length) (hb : l[q].b = false) : ex2 (l.take (q + 1)) = ex2 (l.take q) := by
 unfold ex2
 rw [List.take_add_one, List.getElem?_eq_getElem h, List.filter_append, List.map_append]
 simp only [Option.toList_some, List.filter_cons, hb, List.filter_nil, List.map_nil, Bool.false_eq_true, if_false, List.append_nil]
theorem ex1_pre (l : List Fld) (q : Nat) : ex1 (l.take q) <+: ex1 l := by
 refine ⟨ex1 (l.drop q), ?_⟩
 unfold ex1
 rw [← List.map_append, ← List.filter_append, List.take_append_drop]
theorem ex2_pre (l : List Pt) (q : Nat) : ex2 (l.take q) <+: ex2 l := by
 refine ⟨ex2 (l.drop q), ?_⟩
 unfold ex2
 rw [← List.map_append, ← List.filter_append, List.take_append_drop]
theorem room_none (k : Nat) : Fence.wide.room k := fun d h => by cases h
theorem round_any {m m' : Nat} {P : Program} {l : Nat} {f : FuncId} {tmps : Array Value} {assign body : Code} {w : World} {R : Ending → World → Prop}
  (h : RoundIn Fence.wide m P l f tmps assign body w R) : RoundIn Fence.wide m' P l f tmps assign body w R := ⟨h.1, fun c cs _ => h.2 c cs (room_none _)⟩
theorem yield_any {m : Nat} (m' : Nat) {P : Program} {l : Nat} {args : Array Value} {W : World} {R : Ending → World → Prop} (h : YieldAt Fence.wide m P l args W R) : YieldAt Fence.wide m' P l args W R := by
 obtain ⟨fn, tmps, assign, body, hy, hR⟩ := h
 exact ⟨fn, tmps, assign, body, hy, round_any hR⟩
def Al (w0 : World) : Type := { x : Value × Ex // ∃ m, XBase.In false (fun _ => True) w0 m x.1 x.2 }
def pr {w0 : World} (x : Al w0) : Ex := x.1.2
def enc {w0 : World} (x : Al w0) : Array Value := #[x.1.1]
def Kx (n0 n1 B : Nat) (W W' : World) : Prop := (Below n0 W W' ∧ ∀ b c t fz, n1 ≤ b → W.heap[b]? = some (.cells c t fz) → W'.heap[b]? = some (.cells c t fz)) ∧ W'.heap[B]? = W.heap[B]?
theorem Kx.trans {n0 n1 B : Nat} {A C D : World} (h : Kx n0 n1 B A C) (k : Kx n0 n1 B C D) : Kx n0 n1 B A D := ⟨⟨h.1.1.trans k.1.1, fun b c t fz hb hc => k.1.2 b c t fz hb (h.1.2 b c t fz hb hc)⟩, k.2.trans h.2⟩
theorem Kx.refl (n0 n1 B : Nat) (A : World) : Kx n0 n1 B A A := ⟨⟨Below.refl _ _, fun _ _ _ _ _ h => h⟩, rfl⟩
theorem Kx.of_below {n0 n1 B : Nat} {A C : World} (h : Below A.heap.size A C) (hn : n0 ≤ A.heap.size) (hB : B < A.heap.size) : Kx n0 n1 B A C :=
 ⟨⟨h.mono hn, fun b c t fz _ hc => (h.block b (Array.getElem?_eq_some_iff.1 hc).1).trans hc⟩, h.block B hB⟩
theorem Kx.book {n0 n1 B : Nat} {w : World} (hn : n0 ≤ w.heap.size) (hB : B < w.heap.size) (W : World) (l : Nat) (o o' : Obj) (hl : w.heap.size ≤ l) (h : W.heap[l]? = some o) (ho : o.isCells = false) (hw : o.isWalk = false) : Kx n0 n1 B W (W.putObj l o') := by
 refine ⟨⟨belowK_b hn W l o o' hl h ho hw, fun b c t fz _ hc => ?_⟩, World.putObj_heap_other (by omega)⟩
 by_cases e : b = l
 ·subst e
  rw [h] at hc
  cases hc
  cases ho
 ·rw [World.putObj_heap_other (fun h => e h)]
  exact hc
theorem Kx.set {n0 n1 B : Nat} (W : World) (b : Nat) (u : Value) (h0 : n0 ≤ b) (h1 : b < n1) (hB : B ≠ b) : Kx n0 n1 B W (W.setCell ⟨b, 0, none⟩ u) :=
 ⟨⟨(Below.refl _ W).setCell (p := ⟨b, 0, none⟩) h0 u, fun b' c t fz hb hc => by rw [Below.heap_setCell _ _ _ _ (by simp; omega)]; exact hc⟩, Below.heap_setCell _ _ _ _ hB⟩
theorem exprs_in (n : Nat) (v0 v1 v2 v3 v4 v5 v6 : Value) (w : World) :
  CallsIn Fence.wide n Tryz.prog 231 #[.agg #[v0, v1, v2, v3, v4, v5, v6]] w fun e w' => e = .returned (.func (.func 280) #[] #[.pointer (some ⟨w.heap.size, 0, none⟩)]) ∧ w' = w.alloc (.cells #[v0, v1, v2, v3, v4, v5, v6] 66) := by
 refine callsIn_of_wp Tryz.func231 rfl trivial ?_ rfl
 simp only [Tryz.ntmps231, List.size_toArray, List.length_cons, List.length_nil, Nat.reduceAdd, Nat.reduceSub, Array.replicate_succ, Array.replicate_zero, List.push_toArray, List.append_toArray, List.nil_append, List.cons_append]
 gi_wp2
 go_ret
 exact ⟨rfl, rfl⟩
set_option maxRecDepth 100000 in
set_option maxHeartbeats 4000000 in
theorem exprs_stops (n B : Nat) (w0 wl : World) {m : Nat} {v0 v1 v2 v3 v4 v5 v6 : Value} {c : Co} (hin : In false (fun _ => True) w0 m (.agg #[v0, v1, v2, v3, v4, v5, v6]) c) (hB : Below w0.heap.size w0 wl) (hx : wl.heap[B]? = some (.cells #[v0, v1, v2, v3, v4, v5, v6] 66 (0, 0))) :
  SeqStopsK Fence.wide n Tryz.prog 280 #[.pointer (some ⟨B, 0, none⟩)] (enc (w0 := w0)) (Kx w0.heap.size wl.heap.size B) (fun ys => ys.map pr = xsC c) (fun pre => pre.map pr <+: xsC c) (xsC c).length wl := by
 intro l J Jx W hW hJ hJx hY0 h0
 have hdd : ∀ k : Nat, (Fence.wide.depth.isSome = true → 1 ≤ k) := fun k h => by cases h
 have hlt : B < wl.heap.size := (Array.getElem?_eq_some_iff.1 hx).1
 have hJa : ∀ s W o, J s W → J s (W.alloc o) := fun s W o h => hJ s W _ none h (World.grownBy_alloc W o none) (fun r e => by cases e)
 have hY := fun m pre x W hj hl => yield_any m (hY0 pre x W hj hl)
 obtain ⟨m', fv, pv, xv, lv, uv, rfl, he, -, -, hF, hP, ⟨mx, hX⟩, -, -⟩ := hin.shape
 simp only [Value.agg.injEq, Array.mk.injEq, List.cons.injEq, and_true] at he
 obtain ⟨rfl, rfl, rfl, rfl, rfl, rfl, rfl⟩ := he
 obtain ⟨a1, c1, rfl, hc1, hm1, hl1, -, hLF⟩ := hF
 obtain ⟨a2, c2, rfl, hc2, hm2, hl2, -, hLP⟩ := hP
 obtain ⟨a3, c3, rfl, hc3, hm3, hl3, -, hLX⟩ := hX
 have hBW : Below w0.heap.size w0 W := hB.trans (hW.mono hB.size)
 have hxW := (hW.block B hlt).trans hx
 obtain ⟨d0, d1, d2, d3, d4, d5, d6⟩ := seven_box hxW
 have hWl := hW.size
 have hw0 := hB.size
 have Hxs : Hid (xsC c = ex1 c.f ++ (ex2 c.p ++ c.x)) := rfl
 have HN : Hid ((xsC c).length = (ex1 c.f).length + ((ex2 c.p).length + c.x.length)) := by show _ = _; rw [Hxs.out]; simp
 have HxW : Hid (W.heap[B]? = some (.cells #[.int .i64 c.k, .string c.t, .slice a1 c.f.length c1, .slice a2 c.p.length c2, .slice a3 c.x.length c3, v5, v6] 66 (0, 0))) := hxW
 have HLF : Hid (RwAt 8 Fd8 rmF false (fun _ => True) w0 (InF false (fun _ => True) w0) a1 c1 c.f) := hLF
 have HLP : Hid (RwAt 6 Pt6 rmP false (fun _ => True) w0 (InP false (fun _ => True) w0) a2 c2 c.p) := hLP
 have HLX : Hid (XBase.LAt false (fun _ => True) w0 mx a3 c3 c.x) := hLX
 have HBW : Hid (Below w0.heap.size w0 W) := hBW
 obtain ⟨N, hN⟩ : ∃ N, (xsC c).length = N := ⟨_, rfl⟩
 have HN2 : Hid ((ex1 c.f).length + ((ex2 c.p).length + c.x.length) = N) := HN.out.symm.trans hN
 rw [hN] at hY
 clear hin hJ hJx hY0 hxW hLF hLP hLX hBW HN hN hx
 show CallsIn Fence.wide n Tryz.prog 280 #[.func (.yield l) #[] #[], .pointer (some ⟨B, 0, none⟩)] W _
 refine callsIn_of_wp Tryz.func280 rfl trivial ?_ rfl
 simp only [Tryz.ntmps280, List.size_toArray, List.length_cons, List.length_nil, Nat.reduceAdd, Nat.reduceSub, Array.replicate_succ, Array.replicate_zero, List.push_toArray, List.append_toArray, List.nil_append, List.cons_append]
 gi_wp2_with fail
 clear d0 d1 d2 d3 d4 d5 d6
 gi_loopw [12] (fun i' wr => ∃ (q : Nat) (xs : List (Al w0)), q ≤ c.f.length ∧ i' = .int .i64 q ∧ xs.map pr = ex1 (c.f.take q) ∧ J xs wr ∧ Kx w0.heap.size wl.heap.size B W wr) (fun i' _ => c.f.length - (intOf i').toNat)
 case atStart => exact ⟨0, [], by omega, rfl, rfl, h0, Kx.refl _ _ _ _⟩
 case round =>
  clear h0
  obtain ⟨q, xs, hq, rfl, hxs, hJs, hk⟩ := hrel
  have Hxs1 : Hid (xs.map pr = ex1 (c.f.take q)) := hxs
  have hBr : Below w0.heap.size w0 wr := HBW.out.trans hk.1.1
  have hwr := hBr.size
  have hwl : wl.heap.size ≤ wr.heap.size := Nat.le_trans hWl hk.1.1.size
  clear hxs
  by_cases hlt' : q < c.f.length
  ·have d0 : decide ((q : Int) < (c.f.length : Int)) = true := by simp; omega
   obtain ⟨g, o, u, ha, -, hu, hi⟩ := RwAt.elem HLF.out hlt'
   subst ha
   obtain ⟨t0, t1, t2, e0, e1, e2, e3, t7, rfl, k0, k1, k2, k3, k4, k5, k6, k7⟩ := hu
   obtain ⟨ea, ec, rfl, rfl, rfl, rfl, rfl, rfl, rfl, rfl, -, -, -, -⟩ := hi.eight
   obtain ⟨-, -, -, -, -, -, -, me, hie⟩ := hi.kinds
   have k0 := below_cell k0 hBr
   have k1 := below_cell k1 hBr
   have k2 := below_cell k2 hBr
   have k3 := below_cell k3 hBr
   have k4 := below_cell k4 hBr
   have k5 := below_cell k5 hBr
   have k6 := below_cell k6 hBr
   have k7 := below_cell k7 hBr
   obtain ⟨y, hy⟩ : ∃ y, c.f[q] = y := ⟨_, rfl⟩
   have Hy : Hid (c.f[q] = y) := hy
   rw [hy] at k0 k1 k2 k3 k4 k5 k6 k7 hie
   obtain ⟨W1, hW1⟩ : ∃ W1, wr.alloc (.cells #[.string y.n, .string y.p, .bool y.b, .int .i64 y.e.o, .int .i64 y.e.i, .string y.e.s, .slice ea y.e.l.length ec, .int .i64 y.a] 76) = W1 := ⟨_, rfl⟩
   have b1 : Below wr.heap.size wr W1 := by rw [← hW1]; exact (Below.refl _ wr).alloc (Nat.le_refl _) _
   have q1 : W1.heap[wr.heap.size]? = some (.cells #[.string y.n, .string y.p, .bool y.b, .int .i64 y.e.o, .int .i64 y.e.i, .string y.e.s, .slice ea y.e.l.length ec, .int .i64 y.a] 76 (0, 0)) := by rw [← hW1]; exact heap_alloc_new wr _
   have hJ1 : J xs W1 := by rw [← hW1]; exact hJa _ _ _ hJs
   have hk1 : Kx w0.heap.size wl.heap.size B W W1 := hk.trans (Kx.of_below b1 hwr (by omega))
   obtain ⟨z0, z1, z2, z3, z4, z5, z6, z7⟩ := eight_box q1
   have hcc := hc1
   clear b1 q1 hy hk hJs
   obtain ⟨b, hb⟩ : ∃ b, y.b = b := ⟨_, rfl⟩
   rw [hb] at z2 k2 hW1
   have Hb : Hid (y.b = b) := hb
   clear hb
   cases b with
   | true =>
    obtain ⟨x0, hx0⟩ : ∃ x0 : Al w0, x0 = ⟨(.agg #[.int .i64 y.e.o, .int .i64 y.e.i, .string y.e.s, .slice ea y.e.l.length ec], y.e), me, hie⟩ := ⟨_, rfl⟩
    have Hpr : Hid (pr x0 = y.e) := by show _ = _; rw [hx0]; rfl
    have henc : enc x0 = #[.agg #[.int .i64 y.e.o, .int .i64 y.e.i, .string y.e.s, .slice ea y.e.l.length ec]] := by rw [hx0]; rfl
    have Hst : Hid (ex1 (c.f.take (q + 1)) = ex1 (c.f.take q) ++ [y.e]) := by show _ = _; rw [ex1_yes c.f q hlt' (by rw [Hy.out]; exact Hb.out), Hy.out]
    have Hall : Hid ((xs ++ [x0]).map pr = ex1 (c.f.take (q + 1))) := by show _ = _; rw [List.map_append, Hxs1.out, List.map_cons, List.map_nil, Hpr.out, Hst.out]
    have Hpre : Hid ((xs ++ [x0]).map pr <+: xsC c) := by
     show _ <+: _
     rw [Hall.out, Hxs.out]
     exact (ex1_pre c.f (q + 1)).trans ⟨_, rfl⟩
    have hlen2 : xs.length < N := by
     have e1 := Hpre.out.length_le
     rw [List.length_map, List.length_append] at e1
     have e2 := HN2.out
     have e3 : (xsC c).length = (ex1 c.f).length + ((ex2 c.p).length + c.x.length) := by rw [Hxs.out]; simp
     simp only [List.length_cons, List.length_nil] at e1
     omega
    obtain ⟨fn, tmps, assign, body, hyd, hR⟩ := hY (n - 1) xs x0 W1 hJ1 hlen2
    rw [henc] at hyd
    clear hx0 henc hie
    gi_wp2_with fail
    refine ⟨hdd _, ?_⟩
    refine hR.mono ?_
    clear hR hyd
    rintro e W2 (⟨rfl, hJ2, hk2⟩ | ⟨rfl, hx2⟩)
    ·have hkk := hk1.trans hk2
     clear hk1 hk2 hJ1 k0 k1 k2 k3 k4 k5 k6 k7 z0 z1 z2 z3 z4 z5 z6 z7 hW1
     gi_wp2_with fail
     go_roundw
     case rel => exact ⟨q + 1, xs ++ [x0], by omega, by go_num, Hall.out, hJ2, hkk⟩
     case measure => simp only [intOf]; omega
    ·clear hk1 hJ1 k0 k1 k2 k3 k4 k5 k6 k7 z0 z1 z2 z3 z4 z5 z6 z7 hW1
     gi_wp2_with fail
     refine bodyPost_ret (results_none rfl _ _ _) rfl ?_
     exact ⟨⟨_, rfl⟩, .inr ⟨xs ++ [x0], Hpre.out, hx2⟩⟩
   | false =>
    have Hst : Hid (ex1 (c.f.take (q + 1)) = ex1 (c.f.take q)) := ex1_no c.f q hlt' (by rw [Hy.out]; exact Hb.out)
    have Hall : Hid (xs.map pr = ex1 (c.f.take (q + 1))) := by show _ = _; rw [Hxs1.out, Hst.out]
    clear hie
    gi_wp2_with fail
    refine ⟨fun f h => (by cases h), ?_⟩
    gi_wp2_with fail
    go_roundw
    case rel => exact ⟨q + 1, xs, by omega, by go_num, Hall.out, hJ1, hk1⟩
    case measure => simp only [intOf]; omega
  ·have dn1 : decide ((q : Int) < (c.f.length : Int)) = false := by simp; omega
   have dm1 : decide (q < c.f.length) = false := by simp; omega
   obtain ⟨d0', d1', d2', d3', d4', d5', d6'⟩ := seven_box (hk.2.trans HxW.out)
   gi_wp2_with fail
   clear d0' d1' d2' d3' d4' d5' d6'
   obtain ⟨Wa, hWa⟩ : ∃ Wa, Wa = wr := ⟨_, rfl⟩
   subst hWa
   gi_loopw [29] (fun i' wr => ∃ (q : Nat) (xs : List (Al w0)), q ≤ c.p.length ∧ i' = .int .i64 q ∧ xs.map pr = ex1 c.f ++ ex2 (c.p.take q) ∧ J xs wr ∧ Kx w0.heap.size wl.heap.size B W wr) (fun i' _ => c.p.length - (intOf i').toNat)
   case atStart => exact ⟨0, xs, by omega, rfl, by rw [Hxs1.out, List.take_of_length_le (by omega)]; simp [ex2], hJs, hk⟩
   case round =>
    clear hJs hk Hxs1 hBr hwr hwl
    obtain ⟨q, xs, hq, rfl, hxs, hJs, hk⟩ := hrel
    have Hxs1 : Hid (xs.map pr = ex1 c.f ++ ex2 (c.p.take q)) := hxs
    have hBr : Below w0.heap.size w0 wr := HBW.out.trans hk.1.1
    have hwr := hBr.size
    have hwl : wl.heap.size ≤ wr.heap.size := Nat.le_trans hWl hk.1.1.size
    clear hxs
    by_cases hlt' : q < c.p.length
    ·have d0 : decide ((q : Int) < (c.p.length : Int)) = true := by simp; omega
     obtain ⟨g, o, u, ha, -, hu, hi⟩ := RwAt.elem HLP.out hlt'
     subst ha
     obtain ⟨t0, t1, e0, e1, e2, e3, rfl, k0, k1, k2, k3, k4, k5⟩ := hu
     obtain ⟨ea, ec, rfl, rfl, rfl, rfl, rfl, rfl, -, -⟩ := hi.six
     obtain ⟨-, -, -, me, hie⟩ := hi.kinds
     have k0 := below_cell k0 hBr
     have k1 := below_cell k1 hBr
     have k2 := below_cell k2 hBr
     have k3 := below_cell k3 hBr
     have k4 := below_cell k4 hBr
     have k5 := below_cell k5 hBr
     obtain ⟨y, hy⟩ : ∃ y, c.p[q] = y := ⟨_, rfl⟩
     have Hy : Hid (c.p[q] = y) := hy
     rw [hy] at k0 k1 k2 k3 k4 k5 hie
     obtain ⟨W1, hW1⟩ : ∃ W1, wr.alloc (.cells #[.string y.p, .bool y.b, .int .i64 y.e.o, .int .i64 y.e.i, .string y.e.s, .slice ea y.e.l.length ec] 128) = W1 := ⟨_, rfl⟩
     have b1 : Below wr.heap.size wr W1 := by rw [← hW1]; exact (Below.refl _ wr).alloc (Nat.le_refl _) _
     have q1 : W1.heap[wr.heap.size]? = some (.cells #[.string y.p, .bool y.b, .int .i64 y.e.o, .int .i64 y.e.i, .string y.e.s, .slice ea y.e.l.length ec] 128 (0, 0)) := by rw [← hW1]; exact heap_alloc_new wr _
     have hJ1 : J xs W1 := by rw [← hW1]; exact hJa _ _ _ hJs
     have hk1 : Kx w0.heap.size wl.heap.size B W W1 := hk.trans (Kx.of_below b1 hwr (by omega))
     obtain ⟨z0, z1, z2, z3, z4, z5⟩ := six_box q1
     have hcc := hc2
     clear b1 q1 hy hk hJs
     obtain ⟨b, hb⟩ : ∃ b, y.b = b := ⟨_, rfl⟩
     rw [hb] at z1 k1 hW1
     have Hb : Hid (y.b = b) := hb
     clear hb
     cases b with
     | true =>
      obtain ⟨x0, hx0⟩ : ∃ x0 : Al w0, x0 = ⟨(.agg #[.int .i64 y.e.o, .int .i64 y.e.i, .string y.e.s, .slice ea y.e.l.length ec], y.e), me, hie⟩ := ⟨_, rfl⟩
      have Hpr : Hid (pr x0 = y.e) := by show _ = _; rw [hx0]; rfl
      have henc : enc x0 = #[.agg #[.int .i64 y.e.o, .int .i64 y.e.i, .string y.e.s, .slice ea y.e.l.length ec]] := by rw [hx0]; rfl
      have Hst : Hid (ex2 (c.p.take (q + 1)) = ex2 (c.p.take q) ++ [y.e]) := by show _ = _; rw [ex2_yes c.p q hlt' (by rw [Hy.out]; exact Hb.out), Hy.out]
      have Hall : Hid ((xs ++ [x0]).map pr = ex1 c.f ++ ex2 (c.p.take (q + 1))) := by show _ = _; rw [List.map_append, Hxs1.out, List.map_cons, List.map_nil, Hpr.out, Hst.out]; simp
      have Hpre : Hid ((xs ++ [x0]).map pr <+: xsC c) := by
       show _ <+: _
       rw [Hall.out, Hxs.out]
       exact (List.prefix_append_right_inj _).2 ((ex2_pre c.p (q + 1)).trans ⟨_, rfl⟩)
      have hlen2 : xs.length < N := by
       have e1 := Hpre.out.length_le
       rw [List.length_map, List.length_append] at e1
       have e2 := HN2.out
       have e3 : (xsC c).length = (ex1 c.f).length + ((ex2 c.p).length + c.x.length) := by rw [Hxs.out]; simp
       simp only [List.length_cons, List.length_nil] at e1
       omega
      obtain ⟨fn, tmps, assign, body, hyd, hR⟩ := hY (n - 1) xs x0 W1 hJ1 hlen2
      rw [henc] at hyd
      clear hx0 henc hie
      gi_wp2_with fail
      refine ⟨hdd _, ?_⟩
      refine hR.mono ?_
      clear hR hyd
      rintro e W2 (⟨rfl, hJ2, hk2⟩ | ⟨rfl, hx2⟩)
      ·have hkk := hk1.trans hk2
       clear hk1 hk2 hJ1 k0 k1 k2 k3 k4 k5 z0 z1 z2 z3 z4 z5 hW1
       gi_wp2_with fail
       go_roundw
       case rel => exact ⟨q + 1, xs ++ [x0], by omega, by go_num, Hall.out, hJ2, hkk⟩
       case measure => simp only [intOf]; omega
      ·clear hk1 hJ1 k0 k1 k2 k3 k4 k5 z0 z1 z2 z3 z4 z5 hW1
       gi_wp2_with fail
       refine bodyPost_ret (results_none rfl _ _ _) rfl ?_
       exact ⟨⟨_, rfl⟩, .inr ⟨xs ++ [x0], Hpre.out, hx2⟩⟩
     | false =>
      have Hst : Hid (ex2 (c.p.take (q + 1)) = ex2 (c.p.take q)) := ex2_no c.p q hlt' (by rw [Hy.out]; exact Hb.out)
      have Hall : Hid (xs.map pr = ex1 c.f ++ ex2 (c.p.take (q + 1))) := by show _ = _; rw [Hxs1.out, Hst.out]
      clear hie
      gi_wp2_with fail
      refine ⟨fun f h => (by cases h), ?_⟩
      gi_wp2_with fail
      go_roundw
      case rel => exact ⟨q + 1, xs, by omega, by go_num, Hall.out, hJ1, hk1⟩
      case measure => simp only [intOf]; omega
    ·have dn2 : decide ((q : Int) < (c.p.length : Int)) = false := by simp; omega
     have dm2 : decide (q < c.p.length) = false := by simp; omega
     obtain ⟨d0', d1', d2', d3', d4', d5', d6'⟩ := seven_box (hk.2.trans HxW.out)
     gi_wp2_with fail
     clear d0' d1' d2' d3' d4' d5' d6'
     obtain ⟨Wa, hWa⟩ : ∃ Wa, Wa = wr := ⟨_, rfl⟩
     subst hWa
     gi_loopw [46] (fun i' wr => ∃ (q : Nat) (xs : List (Al w0)), q ≤ c.x.length ∧ i' = .int .i64 q ∧ xs.map pr = ex1 c.f ++ (ex2 c.p ++ c.x.take q) ∧ J xs wr ∧ Kx w0.heap.size wl.heap.size B W wr) (fun i' _ => c.x.length - (intOf i').toNat)
     case atStart => exact ⟨0, xs, by omega, rfl, by rw [Hxs1.out, List.take_of_length_le (by omega)]; simp, hJs, hk⟩
     case round =>
      clear hJs hk Hxs1 hBr hwr hwl
      obtain ⟨q, xs, hq, rfl, hxs, hJs, hk⟩ := hrel
      have Hxs1 : Hid (xs.map pr = ex1 c.f ++ (ex2 c.p ++ c.x.take q)) := hxs
      have hBr : Below w0.heap.size w0 wr := HBW.out.trans hk.1.1
      have hwr := hBr.size
      have hwl : wl.heap.size ≤ wr.heap.size := Nat.le_trans hWl hk.1.1.size
      clear hxs
      by_cases hlt' : q < c.x.length
      ·have d0 : decide ((q : Int) < (c.x.length : Int)) = true := by simp; omega
       obtain ⟨g, o, u, ha, -, hu, hie⟩ := XBase.elem_at HLX.out hlt'
       subst ha
       obtain ⟨e0, e1, e2, e3, rfl, k0, k1, k2, k3⟩ := hu
       obtain ⟨me', ea, ec, -, rfl, rfl, rfl, rfl, -, -, -, -⟩ := hie.kinds
       have k0 := below_cell k0 hBr
       have k1 := below_cell k1 hBr
       have k2 := below_cell k2 hBr
       have k3 := below_cell k3 hBr
       obtain ⟨y, hy⟩ : ∃ y, c.x[q] = y := ⟨_, rfl⟩
       have Hy : Hid (c.x[q] = y) := hy
       rw [hy] at k0 k1 k2 k3 hie
       obtain ⟨W1, hW1⟩ : ∃ W1, wr.alloc (.cells #[.int .i64 y.o, .int .i64 y.i, .string y.s, .slice ea y.l.length ec] 44) = W1 := ⟨_, rfl⟩
       have b1 : Below wr.heap.size wr W1 := by rw [← hW1]; exact (Below.refl _ wr).alloc (Nat.le_refl _) _
       have q1 : W1.heap[wr.heap.size]? = some (.cells #[.int .i64 y.o, .int .i64 y.i, .string y.s, .slice ea y.l.length ec] 44 (0, 0)) := by rw [← hW1]; exact heap_alloc_new wr _
       have hJ1 : J xs W1 := by rw [← hW1]; exact hJa _ _ _ hJs
       have hk1 : Kx w0.heap.size wl.heap.size B W W1 := hk.trans (Kx.of_below b1 hwr (by omega))
       obtain ⟨z0, z1, z2, z3⟩ := four_box q1
       have hcc := hc3
       clear b1 q1 hy hk hJs
       obtain ⟨x0, hx0⟩ : ∃ x0 : Al w0, x0 = ⟨(.agg #[.int .i64 y.o, .int .i64 y.i, .string y.s, .slice ea y.l.length ec], y), _, hie⟩ := ⟨_, rfl⟩
       have Hpr : Hid (pr x0 = y) := by show _ = _; rw [hx0]; rfl
       have henc : enc x0 = #[.agg #[.int .i64 y.o, .int .i64 y.i, .string y.s, .slice ea y.l.length ec]] := by rw [hx0]; rfl
       have Hst : Hid (c.x.take (q + 1) = c.x.take q ++ [y]) := by show _ = _; rw [List.take_add_one, List.getElem?_eq_getElem hlt', Hy.out]; rfl
       have Hall : Hid ((xs ++ [x0]).map pr = ex1 c.f ++ (ex2 c.p ++ c.x.take (q + 1))) := by show _ = _; rw [List.map_append, Hxs1.out, List.map_cons, List.map_nil, Hpr.out, Hst.out]; simp
       have Hpre : Hid ((xs ++ [x0]).map pr <+: xsC c) := by
        show _ <+: _
        rw [Hall.out, Hxs.out]
        exact (List.prefix_append_right_inj _).2 ((List.prefix_append_right_inj _).2 (List.take_prefix _ _))
       have hlen2 : xs.length < N := by
        have e1 := Hpre.out.length_le
        rw [List.length_map, List.length_append] at e1
        have e2 := HN2.out
        have e3 : (xsC c).length = (ex1 c.f).length + ((ex2 c.p).length + c.x.length) := by rw [Hxs.out]; simp
        simp only [List.length_cons, List.length_nil] at e1
        omega
       obtain ⟨fn, tmps, assign, body, hyd, hR⟩ := hY (n - 1) xs x0 W1 hJ1 hlen2
       rw [henc] at hyd
       clear hx0 henc hie
       gi_wp2_with fail
       refine ⟨hdd _, ?_⟩
       refine hR.mono ?_
       clear hR hyd
       rintro e W2 (⟨rfl, hJ2, hk2⟩ | ⟨rfl, hx2⟩)
       ·have hkk := hk1.trans hk2
        clear hk1 hk2 hJ1 k0 k1 k2 k3 z0 z1 z2 z3 hW1
        gi_wp2_with fail
        go_roundw
        case rel => exact ⟨q + 1, xs ++ [x0], by omega, by go_num, Hall.out, hJ2, hkk⟩
        case measure => simp only [intOf]; omega
       ·clear hk1 hJ1 k0 k1 k2 k3 z0 z1 z2 z3 hW1
        gi_wp2_with fail
        refine bodyPost_ret (results_none rfl _ _ _) rfl ?_
        exact ⟨⟨_, rfl⟩, .inr ⟨xs ++ [x0], Hpre.out, hx2⟩⟩
      ·have dn3 : decide ((q : Int) < (c.x.length : Int)) = false := by simp; omega
       have dm3 : decide (q < c.x.length) = false := by simp; omega
       have Hall : Hid (xs.map pr = xsC c) := by show _ = _; rw [Hxs1.out, Hxs.out, List.take_of_length_le (by omega)]
       gi_wp2_with fail
       go_end0
       exact ⟨⟨_, rfl⟩, .inl ⟨xs, Hall.out, hJs⟩⟩
end Go.Proofs.YthonejomogkjjaaGreatDoor.KEx
namespace Go.Proofs.YthonejomogkjjaaGreatDoor.KLe
open Go.RowKit Go.Shelf Base EPure KBase KEx KPi
open XBase (four_box)
attribute [local go_sem] Oper.semAt_some
def lft (c : Co) (r : Int) : Int := bq (xsC c) (r - (1 + c.f.length + c.p.length + c.x.length))
theorem heap_alloc_at (w : World) (o : Obj) (k : Nat) (h : k = w.heap.size) : (w.alloc o).heap[k]? = some o := by subst h; exact heap_alloc_new w o
theorem keeps_below {B : Nat} {W W' : World} (h : Below W.heap.size W W') : KeepsFrom B W W' := ⟨h.size, fun k o _ hk _ => (h.block k (Array.getElem?_eq_some_iff.1 hk).1).trans hk⟩
theorem own_cells {α : Type} (n b : Nat) (cs : Array Value) (t : TypeId) (fz : Nat × Nat) : OwnFrom n (fun (_ : α) W => W.heap[b]? = some (.cells cs t fz)) := fun _ X Y row hs hg hr =>
 (hg.block b (Array.getElem?_eq_some_iff.1 hs).1 (fun e => by obtain ⟨-, o, ho, hc⟩ := hr b e.symm; rw [hs] at ho; cases ho; cases hc)).trans hs
set_option maxRecDepth 100000 in
set_option maxHeartbeats 4000000 in
theorem left_c {m : Nat} {v : Value} {c : Co} {w : World} (hin : In false (fun _ => True) w m v c) {r : Int} (hr : -1 ≤ r ∧ r ≤ 65536) :
  Calls Tryz.prog 166 #[.int .i64 r, v] w fun e w' => e = .returned (.int .i64 (lft c r)) ∧ Below w.heap.size w w' := by
 have hin0 := hin
 obtain ⟨m', fv, pv, xv, lv, uv, rfl, rfl, -, -, hF, hP, ⟨mx, hX⟩, hl, hu⟩ := hin.shape
 obtain ⟨a1, c1, rfl, hc1, hm1, hl1, -, hLF⟩ := hF
 obtain ⟨a2, c2, rfl, hc2, hm2, hl2, -, hLP⟩ := hP
 obtain ⟨a3, c3, rfl, hc3, hm3, hl3, -, hLX⟩ := hX
 clear hin hLF hLP hLX hl hu
 obtain ⟨R, hR⟩ : ∃ R, r - (1 + (c.f.length : Int) + c.p.length + c.x.length) = R := ⟨_, rfl⟩
 have eL : lft c r = bq (xsC c) R := by unfold lft; rw [hR]
 rw [eL]
 have hR1 : -900000000000000000 ≤ R := by omega
 have hR2 : R ≤ 65536 := by omega
 have w1 : IntKind.i64.wrap (r - (1 + (c.f.length : Int) + c.p.length + c.x.length)) = R := by rw [IntKind.wrap_i64]; omega
 clear eL
 refine (callsIn_wide (n := 6)).1 ?_
 refine callsIn_of_wp_marks Tryz.func166 rfl trivial ?_ rfl
 simp only [Tryz.ntmps166, List.size_toArray, List.length_cons, List.length_nil, Nat.reduceAdd, Nat.reduceSub, Array.replicate_succ, Array.replicate_zero, List.push_toArray, List.append_toArray, List.nil_append, List.cons_append]
 gi_wp2_with fail
 refine ⟨trivial, ?_⟩
 refine (exprs_in _ _ _ _ _ _ _ _ _).mono ?_
 rintro e w' ⟨rfl, rfl⟩
 obtain ⟨W0, hW0⟩ : ∃ W0, ((w.alloc (.cells #[.int .i64 R] 3)).alloc (.cells #[.int .i64 c.k, .string c.t, .slice a1 c.f.length c1, .slice a2 c.p.length c2, .slice a3 c.x.length c3, lv, uv] 66)).alloc (.cells #[.int .i64 c.k, .string c.t, .slice a1 c.f.length c1, .slice a2 c.p.length c2, .slice a3 c.x.length c3, lv, uv] 66) = W0 := ⟨_, rfl⟩
 have hsz : W0.heap.size = w.heap.size + 3 := by rw [← hW0]; simp
 have hB0 : Below w.heap.size w W0 := by
  rw [← hW0]
  exact (((Below.refl _ w).alloc (Nat.le_refl _) _).alloc (by simp) _).alloc (by simp; omega) _
 have b1 : Boxed W0 w.heap.size 3 (.int .i64 R) := by
  rw [← hW0]
  exact ((Boxed.new w 3 (.int .i64 R)).alloc _).alloc _
 have b2 : W0.heap[w.heap.size + 1 + 1]? = some (.cells #[.int .i64 c.k, .string c.t, .slice a1 c.f.length c1, .slice a2 c.p.length c2, .slice a3 c.x.length c3, lv, uv] 66 (0, 0)) := by
  rw [← hW0]
  exact heap_alloc_at _ _ _ (by simp)
 gi_wp2_with fail
 try rw [hW0]
 clear hW0
 refine wpIn_rangeFunc_ownH rfl (by omega) (gf := 280) (lb := #[.pointer (some ⟨w.heap.size + 1 + 1, 0, none⟩)]) rfl trivial (enters_of Tryz.func280 (by kernel_rfl) rfl)
  (exprs_stops 5 (w.heap.size + 1 + 1) w W0 hin0 hB0 b2) (fun {_ _ _} h k => Kx.trans h k) (Kx.book (by omega) (by omega)) (Below.refl _ _) (fun _ => rfl)
  (fun pre W => (Boxed W w.heap.size 3 (.int .i64 (bq (pre.map pr) R)) ∧ W.heap[w.heap.size + 1 + 1]? = some (.cells #[.int .i64 c.k, .string c.t, .slice a1 c.f.length c1, .slice a2 c.p.length c2, .slice a3 c.x.length c3, lv, uv] 66 (0, 0))) ∧ Below w.heap.size w W)
  (fun c pre W => False)
  (OwnFrom.and (OwnFrom.and (Own.from (boxed_own _ _ _) _) (own_cells _ _ _ _ _)) (ownFrom_below (Nat.le_refl _) (by omega)))
  (fun c => ownFrom_pure _ (fun _ => False))
  ⟨⟨by rw [List.map_nil, bq_nil]; exact b1, b2⟩, hB0⟩
  (fun x a' W => ∃ Bx, w.heap.size + 1 + 1 < Bx ∧ W.heap[Bx]? = some (.cells x.1.1.cells 44 (0, 0)) ∧ a' = { tmps := #[.int .i64 r, .agg #[.int .i64 c.k, .string c.t, .slice a1 c.f.length c1, .slice a2 c.p.length c2, .slice a3 c.x.length c3, lv, uv], .pointer (some ⟨w.heap.size, 0, none⟩), .pointer (some ⟨w.heap.size + 1, 0, none⟩), .int .i64 0, .pointer (some ⟨Bx, 0, none⟩), .int .i64 r, .pointer (some ⟨w.heap.size + 1, 2, none⟩), .slice a1 c.f.length c1, .int .i64 c.f.length, .int .i64 (1 + c.f.length), .pointer (some ⟨w.heap.size + 1, 3, none⟩), .slice a2 c.p.length c2, .int .i64 c.p.length, .int .i64 (1 + c.f.length + c.p.length), .pointer (some ⟨w.heap.size + 1, 4, none⟩), .slice a3 c.x.length c3, .int .i64 c.x.length, .int .i64 (1 + c.f.length + c.p.length + c.x.length), .int .i64 R, .agg #[.int .i64 c.k, .string c.t, .slice a1 c.f.length c1, .slice a2 c.p.length c2, .slice a3 c.x.length c3, lv, uv], .func (.func 280) #[] #[.pointer (some ⟨w.heap.size + 1 + 1, 0, none⟩)], x.1.1, undef, undef, undef, undef], defers := [] })
  (fun x a' _ X Y row hs hg hr => by
   obtain ⟨Bx, h1, h2, h3⟩ := hs
   refine ⟨Bx, h1, (hg.block Bx (Array.getElem?_eq_some_iff.1 h2).1 (fun e => ?_)).trans h2, h3⟩
   obtain ⟨-, o, ho, hc⟩ := hr Bx e.symm
   rw [h2] at ho; cases ho; cases hc)
  ?assign ?body ?done ?stop
 case assign =>
  rintro l pre x W K ⟨⟨c1', c2'⟩, hB1⟩ hK
  obtain ⟨⟨u, cx⟩, mx', hx⟩ := x
  have hx' : XBase.In false (fun _ => True) w mx' u cx := hx
  obtain ⟨mm, lv', -, rfl, -⟩ := hx'.shape
  obtain ⟨mm2, a4, c4, -, -, -, -, rfl, -⟩ := hx'.kinds
  simp only [enc]
  gi_wp2
  have hlt : w.heap.size + 1 + 1 < W.heap.size := (Array.getElem?_eq_some_iff.1 c2').1
  exact hK _ _ ((KeepsOthers.alloc _ _).from _) (Kx.of_below ((Below.refl _ W).alloc (Nat.le_refl _) _) hB1.size hlt) ⟨⟨c1'.alloc _, (Below.heap_alloc _ _ _ hlt).trans c2'⟩, hB1.alloc hB1.size _⟩ ⟨W.heap.size, hlt, heap_alloc_new W _, rfl⟩
 case body =>
  rintro l pre x a' W hl ⟨rr, hr'⟩ ⟨⟨c1', c2'⟩, hB1⟩ ⟨Bx, hBx, bX, rfl⟩ hlt
  obtain ⟨mx', hx'⟩ : ∃ m, XBase.In false (fun _ => True) w m x.1.1 x.1.2 := x.2
  obtain ⟨u, hu⟩ : ∃ u, x.1.1 = u := ⟨_, rfl⟩
  obtain ⟨cx, hcx⟩ : ∃ cx, x.1.2 = cx := ⟨_, rfl⟩
  have Hpr : Hid (pr x = cx) := hcx
  rw [hu, hcx] at hx'
  rw [hu] at bX
  rw [hu]
  clear hu hcx
  obtain ⟨mm, lv', -, rfl, -⟩ := hx'.shape
  have bX' : W.heap[Bx]? = some (.cells #[.int .i64 cx.o, .int .i64 cx.i, .string cx.s, lv'] 44 (0, 0)) := bX
  obtain ⟨x0, x1, x2, x3⟩ := four_box bX'
  have k1 := c1'.cell
  have f1 := c1'.frozen
  obtain ⟨M, hM⟩ : ∃ M, bq (pre.map pr) R = M := ⟨_, rfl⟩
  have HM : Hid (bq (pre.map pr) R = M) := hM
  have hMb := bq_bd (pre.map pr) hR1
  rw [hM] at c1' k1 hMb
  have c42 := CallsIn.inRound l (callsIn_wide (n := 3).2 (be_all _ W _ cx M (hx'.below hB1) (by omega) (by omega)))
  obtain ⟨Z, hZ⟩ : ∃ Z, bq [cx] M = Z := ⟨_, rfl⟩
  rw [hZ] at c42
  have HZ : Hid (bq ((pre ++ [x]).map pr) R = Z) := by
   show _ = _
   rw [List.map_append, List.map_cons, List.map_nil, Hpr.out, bq_append, hM, hZ]
  clear hM hZ bX bX'
  gi_wp2_with fail
  refine ⟨trivial, ?_⟩
  refine c42.mono ?_
  rintro e W3 ⟨rfl, b3⟩
  have g1 : Boxed W3 w.heap.size 3 (.int .i64 M) := (b3.block _ c1'.lt).trans c1'
  have hBw3 : Below w.heap.size w W3 := hB1.trans (b3.mono hB1.size)
  have hsW := hB1.size
  have h1 := g1.cell
  have h2 := g1.frozen
  clear c42 x0 x1 x2 x3 k1 f1
  gi_wp2_with fail
  have hlt2 : w.heap.size + 1 + 1 < W.heap.size := (Array.getElem?_eq_some_iff.1 c2').1
  refine ⟨(keeps_below (B := W0.heap.size) b3).trans ((KeepsOthers.setCell _ _ _).from _), (Kx.of_below b3 hsW hlt2).trans (Kx.set _ _ _ (Nat.le_refl _) (by omega) (by omega)), ⟨?_, (Below.heap_setCell _ _ _ _ (show w.heap.size + 1 + 1 ≠ w.heap.size by omega)).trans ((b3.block _ hlt2).trans c2')⟩, hBw3.setCell (p := ⟨w.heap.size, 0, none⟩) (Nat.le_refl _) _⟩
  rw [HZ.out]
  exact Boxed.set _ g1
 case done =>
  rintro D ys W hD hS ⟨⟨c1', c2'⟩, hB1⟩ hK
  rw [hS] at c1'
  obtain ⟨Z, hZ⟩ : ∃ Z, bq (xsC c) R = Z := ⟨_, rfl⟩
  rw [hZ] at c1'
  have k1 := c1'.cell
  have HZ : Hid (bq (xsC c) R = Z) := hZ
  gi_wp2_with fail
  refine ⟨by simp, .inl ⟨_, _, rfl, run_takeDeferred hK, ?_⟩⟩
  refine ⟨.int .i64 Z, ?_, by rw [HZ.out], hB1.trans (belowK_b (w := w) (Nat.le_refl _) W D _ _ (by omega) hK rfl rfl)⟩
  simp [results, Tryz.f166, go_sem]
 case stop =>
  rintro D cd pre W hD hSp h
  exact h.elim
end Go.Proofs.YthonejomogkjjaaGreatDoor.KLe
