import Derived.Below
import Derived.BigQuiet
import Derived.Laws.AppendOwn
import Derived.Laws.OwnMore
import Derived.LoopN
import Derived.LoopTactic
import Derived.Maps.AppendAt
import Derived.ProofKit
import Derived.Test.YthonejomogkjjaaGreatDoorProg
import Derived.WalkKit
import Derived.Test.YthonejomogkjjaaGreatDoorPA26
import Derived.Test.YthonejomogkjjaaGreatDoorPA30
set_option linter.unusedVariables false
namespace Go.Proofs.YthonejomogkjjaaGreatDoor.KRs
open Go.RowKit Go.Shelf Base EPure KBase KEx KSh
open XBase (four_box)
open KLe (keeps_below)
attribute [local go_sem] Oper.semAt_some
set_option maxRecDepth 100000 in
set_option maxHeartbeats 4000000 in
theorem resolved_all {m : Nat} {v : Value} {c : Co} {w : World} (hin : In false (fun _ => True) w m v c) :
  Calls Tryz.prog 169 #[v] w fun e w' => e = .returned (.bool ((xsC c).all (rsv))) ∧ Below w.heap.size w w' := by
 have hin0 := hin
 obtain ⟨m', fv, pv, xv, lv, uv, rfl, rfl, -, -, hF, hP, ⟨mx, hX⟩, hl, hu⟩ := hin.shape
 obtain ⟨a1, c1, rfl, hc1, hm1, hl1, -, hLF⟩ := hF
 obtain ⟨a2, c2, rfl, hc2, hm2, hl2, -, hLP⟩ := hP
 obtain ⟨a3, c3, rfl, hc3, hm3, hl3, -, hLX⟩ := hX
 clear hin hLF hLP hLX hl hu
 refine (callsIn_wide (n := 6)).1 ?_
 refine callsIn_of_wp_marks Tryz.func169 rfl trivial ?_ rfl
 simp only [Tryz.ntmps169, List.size_toArray, List.length_cons, List.length_nil, Nat.reduceAdd, Nat.reduceSub, Array.replicate_succ, Array.replicate_zero, List.push_toArray, List.append_toArray, List.nil_append, List.cons_append]
 gi_wp2_with fail
 refine ⟨trivial, ?_⟩
 refine (exprs_in _ _ _ _ _ _ _ _ _).mono ?_
 rintro e w' ⟨rfl, rfl⟩
 obtain ⟨W0, hW0⟩ : ∃ W0, ((w.alloc (.cells #[.int .i64 c.k, .string c.t, .slice a1 c.f.length c1, .slice a2 c.p.length c2, .slice a3 c.x.length c3, lv, uv] 66)).alloc (.cells #[.bool false] 4)).alloc (.cells #[.int .i64 c.k, .string c.t, .slice a1 c.f.length c1, .slice a2 c.p.length c2, .slice a3 c.x.length c3, lv, uv] 66) = W0 := ⟨_, rfl⟩
 have hsz : W0.heap.size = w.heap.size + 3 := by rw [← hW0]; simp
 have hB0 : Below w.heap.size w W0 := by
  rw [← hW0]
  exact ((((Below.refl _ w).alloc (Nat.le_refl _) _).alloc (by simp <;> omega) _).alloc (by simp <;> omega) _)
 have b1 : Boxed W0 (w.heap.size + 1) 4 (.bool false) := by
  rw [← hW0]
  have := (Boxed.new (w.alloc (.cells #[.int .i64 c.k, .string c.t, .slice a1 c.f.length c1, .slice a2 c.p.length c2, .slice a3 c.x.length c3, lv, uv] 66)) 4 (.bool false)).alloc (.cells #[.int .i64 c.k, .string c.t, .slice a1 c.f.length c1, .slice a2 c.p.length c2, .slice a3 c.x.length c3, lv, uv] 66)
  simp only [World.size_alloc] at this
  exact this
 have b2 : W0.heap[w.heap.size + 1 + 1]? = some (.cells #[.int .i64 c.k, .string c.t, .slice a1 c.f.length c1, .slice a2 c.p.length c2, .slice a3 c.x.length c3, lv, uv] 66 (0, 0)) := by
  rw [← hW0]
  exact KLe.heap_alloc_at _ _ _ (by simp)
 gi_wp2_with fail
 try rw [hW0]
 clear hW0
 refine wpIn_rangeFunc_ownH rfl (by omega) (gf := 280) (lb := #[.pointer (some ⟨w.heap.size + 1 + 1, 0, none⟩)]) rfl trivial (enters_of Tryz.func280 (by kernel_rfl) rfl)
  (exprs_stops 5 (w.heap.size + 1 + 1) w W0 hin0 hB0 b2) (fun {_ _ _} h k => Kx.trans h k) (Kx.book (by omega) (by omega)) (Below.refl _ _) (fun _ => rfl)
  (fun pre W => (((Boxed W (w.heap.size + 1) 4 (.bool false) ∧ W.heap[w.heap.size + 1 + 1]? = some (.cells #[.int .i64 c.k, .string c.t, .slice a1 c.f.length c1, .slice a2 c.p.length c2, .slice a3 c.x.length c3, lv, uv] 66 (0, 0))) ∧ (pre.map pr).all (rsv) = true) ∧ Below w.heap.size w W))
  (fun cd pre W => (Boxed W (w.heap.size + 1) 4 (.bool false) ∧ (cd = .ret ∧ (pre.map pr).all (rsv) = false)) ∧ Below w.heap.size w W)
  (OwnFrom.and (OwnFrom.and (OwnFrom.and (Own.from (boxed_own _ _ _) _) (KLe.own_cells _ _ _ _ _)) (ownFrom_pure _ _)) (ownFrom_below (Nat.le_refl _) (by omega)))
  (fun cd => OwnFrom.and (OwnFrom.and (Own.from (boxed_own _ _ _) _) (ownFrom_pure _ _)) (ownFrom_below (Nat.le_refl _) (by omega)))
  ⟨⟨⟨b1, b2⟩, rfl⟩, hB0⟩
  (fun x a' W => ∃ Bx, w.heap.size + 1 + 1 < Bx ∧ W.heap[Bx]? = some (.cells x.1.1.cells 44 (0, 0)) ∧ a' = { tmps := #[.agg #[.int .i64 c.k, .string c.t, .slice a1 c.f.length c1, .slice a2 c.p.length c2, .slice a3 c.x.length c3, lv, uv], .pointer (some ⟨w.heap.size, 0, none⟩), .pointer (some ⟨w.heap.size + 1, 0, none⟩), .pointer (some ⟨Bx, 0, none⟩), .agg #[.int .i64 c.k, .string c.t, .slice a1 c.f.length c1, .slice a2 c.p.length c2, .slice a3 c.x.length c3, lv, uv], .func (.func 280) #[] #[.pointer (some ⟨w.heap.size + 1 + 1, 0, none⟩)], x.1.1, undef, undef, undef], defers := [] })
  (fun x a' _ X Y row hs hg hr => by
   obtain ⟨Bx, h1, h2, h3⟩ := hs
   refine ⟨Bx, h1, (hg.block Bx (Array.getElem?_eq_some_iff.1 h2).1 (fun e => ?_)).trans h2, h3⟩
   obtain ⟨-, o, ho, hc⟩ := hr Bx e.symm
   rw [h2] at ho; cases ho; cases hc)
  ?assign ?body ?done ?stop
 case assign =>
  rintro l pre x W K ⟨⟨⟨c1', c2'⟩, hP⟩, hB1⟩ hK
  obtain ⟨⟨u, cx⟩, mx', hx⟩ := x
  have hx' : XBase.In false (fun _ => True) w mx' u cx := hx
  obtain ⟨mm, lv', -, rfl, -⟩ := hx'.shape
  obtain ⟨mm2, a4, c4, -, -, -, -, rfl, -⟩ := hx'.kinds
  simp only [enc]
  gi_wp2
  have hlt : w.heap.size + 1 + 1 < W.heap.size := (Array.getElem?_eq_some_iff.1 c2').1
  exact hK _ _ ((KeepsOthers.alloc _ _).from _) (Kx.of_below ((Below.refl _ W).alloc (Nat.le_refl _) _) hB1.size hlt) ⟨⟨⟨c1'.alloc _, (Below.heap_alloc _ _ _ hlt).trans c2'⟩, hP⟩, hB1.alloc hB1.size _⟩ ⟨W.heap.size, hlt, heap_alloc_new W _, rfl⟩
 case body =>
  rintro l pre x a' W hl ⟨rr, hr'⟩ ⟨⟨⟨c1', c2'⟩, hP⟩, hB1⟩ ⟨Bx, hBx, bX, rfl⟩ hlt
  obtain ⟨mx', hx'⟩ : ∃ m, XBase.In false (fun _ => True) w m x.1.1 x.1.2 := x.2
  obtain ⟨u, hu⟩ : ∃ u, x.1.1 = u := ⟨_, rfl⟩
  obtain ⟨cx, hcx⟩ : ∃ cx, x.1.2 = cx := ⟨_, rfl⟩
  have Hpr : Hid (pr x = cx) := hcx
  rw [hu, hcx] at hx'
  rw [hu] at bX
  rw [hu]
  clear hu hcx
  obtain ⟨mm, lv', -, rfl, -⟩ := hx'.shape
  have bX' : W.heap[Bx]? = some (.cells #[.int .i64 cx.o, .int .i64 cx.i, .string cx.s, lv'] 44 (0, 0)) := bX
  obtain ⟨x0, x1, x2, x3⟩ := four_box bX'
  have cT := CallsIn.inRound l (callsIn_wide (n := 3).2 (resolved_c (hx'.below hB1)))
  obtain ⟨Z, hZ⟩ : ∃ Z, rsv cx = Z := ⟨_, rfl⟩
  rw [hZ] at cT
  have HZ : Hid (((pre ++ [x]).map pr).all (rsv) = Z) := by
   show _ = _
   rw [List.map_append, List.map_cons, List.map_nil, Hpr.out, List.all_append, hP, List.all_cons, List.all_nil, Bool.true_and, Bool.and_true, hZ]
  clear hZ bX bX'
  gi_wp2_with fail
  refine ⟨trivial, ?_⟩
  refine cT.mono ?_
  rintro e W3 ⟨rfl, b3⟩
  have hsW := hB1.size
  have g1 : Boxed W3 (w.heap.size + 1) 4 (.bool false) := (b3.block _ c1'.lt).trans c1'
  have hBw3 : Below w.heap.size w W3 := hB1.trans (b3.mono hB1.size)
  have hlt2 : w.heap.size + 1 + 1 < W.heap.size := (Array.getElem?_eq_some_iff.1 c2').1
  have h1 := g1.cell
  have h2 := g1.frozen
  clear cT x0 x1 x2 x3
  cases Z with
  | true =>
   gi_wp2_with fail
   exact ⟨keeps_below (B := W0.heap.size) b3, Kx.of_below b3 hsW hlt2, ⟨⟨g1, (b3.block _ hlt2).trans c2'⟩, HZ.out⟩, hBw3⟩
  | false =>
   gi_wp2_with fail
   exact ⟨(keeps_below (B := W0.heap.size) b3).trans ((KeepsOthers.setCell _ _ _).from _), ⟨Boxed.set _ g1, rfl, HZ.out⟩, hBw3.setCell (p := ⟨w.heap.size + 1, 0, none⟩) (show w.heap.size ≤ w.heap.size + 1 by omega) _⟩
 case done =>
  rintro D ys W hD hS ⟨⟨⟨c1', c2'⟩, hP⟩, hB1⟩ hK
  rw [hS] at hP
  have HP : Hid ((xsC c).all (rsv) = true) := hP
  clear hP hS
  have k1 := c1'.cell
  have f1 := c1'.frozen
  gi_wp2_with fail
  obtain ⟨W4, hW4⟩ : ∃ W4, W.setCell ⟨w.heap.size + 1, 0, none⟩ (.bool true) = W4 := ⟨_, rfl⟩
  try rw [hW4]
  have hK4 : W4.heap[D]? = some (.deferred (some [])) := by
   rw [← hW4]
   exact (KeepsOthers.setCell _ _ _).same D _ hK rfl
  have d1 : Boxed W4 (w.heap.size + 1) 4 (.bool true) := by rw [← hW4]; exact Boxed.set _ c1'
  have hB4 : Below w.heap.size w W4 := by rw [← hW4]; exact hB1.setCell (p := ⟨w.heap.size + 1, 0, none⟩) (show w.heap.size ≤ w.heap.size + 1 by omega) _
  clear hW4
  refine ⟨by simp, .inl ⟨_, _, rfl, run_takeDeferred hK4, ?_⟩⟩
  have g1 := cell_kept d1.cell (grownBy_putObj' _ D (.deferred none)) (fun r e => by cases e; exact ⟨_, hK4, rfl⟩)
  refine ⟨.bool true, ?_, by rw [HP.out], hB4.trans (belowK_b (w := w) (Nat.le_refl _) _ D _ _ (by omega) hK4 rfl rfl)⟩
  simp [results, Tryz.f169, go_sem, g1]
 case stop =>
  rintro D cd pre W hD hSp ⟨⟨c1', rfl, hP⟩, hB1⟩ hK
  obtain ⟨rest, hrest⟩ := hSp
  have HP : Hid ((xsC c).all (rsv) = false) := by
   show _ = _
   rw [← hrest, List.all_append, hP, Bool.false_and]
  clear hP hrest
  gi_wp2
  refine ⟨by simp, .inl ⟨_, _, rfl, run_takeDeferred hK, ?_⟩⟩
  have g1 := cell_kept c1'.cell (grownBy_putObj' _ D (.deferred none)) (fun r e => by cases e; exact ⟨_, hK, rfl⟩)
  refine ⟨.bool false, ?_, by rw [HP.out], hB1.trans (belowK_b (w := w) (Nat.le_refl _) W D _ _ (by omega) hK rfl rfl)⟩
  simp [results, Tryz.f169, go_sem, g1]
end Go.Proofs.YthonejomogkjjaaGreatDoor.KRs
namespace Go.Proofs.YthonejomogkjjaaGreatDoor.IBase
open Go.RowKit
theorem add_none (g o j : Nat) : (⟨g, o, none⟩ : Addr).add j = ⟨g, o + j, none⟩ := by
 unfold Addr.add
 split
 ·simp_all
 ·rfl
theorem heap_alloc_new (w : World) (o : Obj) : (w.alloc o).heap[w.heap.size]? = some o := by
 show (w.heap.push o)[w.heap.size]? = _
 simp
theorem infoI : (Tryz.prog.info? 3).map (fun i => (i.zero, i.size, i.bytes)) = some (some (.int .i64 0), 1, 8) := by kernel_rfl
def Oi (w : World) (B : Nat) (v : Value) (L : List Int) : Prop := w.ownsRow B 3 1 v L.length (L.map (Value.int .i64))
theorem Oi.shape {w : World} {B : Nat} {v : Value} {L : List Int} (h : Oi w B v L) : ∃ a cap, v = .slice a L.length cap := by
 rcases h.2 with ⟨rfl, e⟩ | ⟨g, cap, cur, rfl, -⟩
 ·exact ⟨none, 0, by rw [e]⟩
 ·exact ⟨_, _, rfl⟩
theorem Oi.below {w w' : World} {B : Nat} {v : Value} {L : List Int} (h : Oi w B v L) (hb : Below w.heap.size w w') : Oi w' B v L := by
 refine ⟨h.1, ?_⟩
 rcases h.2 with h2 | ⟨g, cap, cur, h1, h2, h3, h4⟩
 ·exact .inl h2
 ·exact .inr ⟨g, cap, cur, h1, h2, (hb.block g (Array.getElem?_eq_some_iff.1 h3).1).trans h3, h4⟩
theorem Oi.set {w : World} {B g n cap : Nat} {L : List Int} (h : Oi w B (.slice (some ⟨g, 0, none⟩) n cap) L) (k : Nat) (x : Int) :
  Oi (w.setCell ⟨g, k, none⟩ (.int .i64 x)) B (.slice (some ⟨g, 0, none⟩) n cap) (L.set k x) ∧ w.grownBy (w.setCell ⟨g, k, none⟩ (.int .i64 x)) (some g) := by
 obtain ⟨a, c, e⟩ := h.shape
 cases e
 obtain ⟨h1, h2⟩ := World.ownsRow.stored h k (.int .i64 x)
 refine ⟨?_, h2⟩
 unfold Oi
 rw [List.length_set, List.map_set]
 exact h1
theorem Oi.at {w : World} {B g n cap : Nat} {L : List Int} (h : Oi w B (.slice (some ⟨g, 0, none⟩) n cap) L) {k : Nat} (hk : k < L.length) : w.cell? ⟨g, 0 + k, none⟩ = some (.int .i64 L[k]) ∧ w.frozen? ⟨g, 0 + k, none⟩ = false := by
 obtain ⟨a, c, e⟩ := h.shape
 cases e
 have := World.ownsRow.cells (g := g) h rfl k (.int .i64 L[k]) (by simp [hk])
 rw [add_none] at this
 exact ⟨this, World.ownsRow.frozenAt h _⟩
theorem Oi.pos {w : World} {B : Nat} {v : Value} {L : List Int} (h : Oi w B v L) (hl : 0 < L.length) : ∃ g cap, v = .slice (some ⟨g, 0, none⟩) L.length cap ∧ L.length ≤ cap ∧ cap ≤ 9223372036854775807 := by
 rcases h.2 with ⟨rfl, e⟩ | ⟨g, cap, cur, rfl, h1, h2, h3, h4, -⟩
 ·omega
 ·exact ⟨g, cap, rfl, h3, h4⟩
theorem new_cells (w : World) (cs : List Value) (t : TypeId) : ∀ j u, cs[j]? = some u → (w.alloc (.cells cs.toArray t)).cell? ((⟨w.heap.size, 0, none⟩ : Addr).add j) = some u := by
 intro j u hu
 rw [add_none, Nat.zero_add]
 have h := heap_alloc_new w (.cells cs.toArray t)
 have e : (w.alloc (.cells cs.toArray t)).cell? ⟨w.heap.size, j, none⟩ = cs.toArray[j]? := by
  unfold World.cell?
  rw [h]
  rfl
 rw [e]
 simpa using hu
theorem oi_nil (w : World) (B : Nat) : Oi w B (.slice none 0 0) [] := World.ownsRow_nil _ _ _ _
end Go.Proofs.YthonejomogkjjaaGreatDoor.IBase
