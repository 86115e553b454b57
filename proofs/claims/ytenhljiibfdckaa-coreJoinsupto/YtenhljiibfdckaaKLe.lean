/- How much room is left behind a node's own pieces (package pieces). -/
import Derived.Test.YtenhljiibfdckaaKEx
import Derived.Test.YtenhljiibfdckaaKPi
namespace Go.Proofs.Ytenhljiibfdckaa.KLe
open Go.RowKit Go.Shelf Go.Proofs.Ytenhljiibfdckaa.Base Go.Proofs.Ytenhljiibfdckaa.EPure Go.Proofs.Ytenhljiibfdckaa.KBase Go.Proofs.Ytenhljiibfdckaa.KEx Go.Proofs.Ytenhljiibfdckaa.KPi
open Go.Proofs.Ytenhljiibfdckaa.XBase (four_box)
set_option linter.unusedVariables false
attribute [local go_sem] Oper.semAt_some

/-- The room behind a node's own pieces. -/
def lft (c : Co) (r : Int) : Int := bq (xsC c) (r - (1 + c.f.length + c.p.length + c.x.length))
theorem heap_alloc_at (w : World) (o : Obj) (k : Nat) (h : k = w.heap.size) : (w.alloc o).heap[k]? = some o := by subst h; exact heap_alloc_new w o
theorem keeps_below {B : Nat} {W W' : World} (h : Below W.heap.size W W') : KeepsFrom B W W' := ⟨h.size, fun k o _ hk _ => (h.block k (Array.getElem?_eq_some_iff.1 hk).1).trans hk⟩
theorem own_cells {α : Type} (n b : Nat) (cs : Array Value) (t : TypeId) (fz : Nat × Nat) : OwnFrom n (fun (_ : α) W => W.heap[b]? = some (.cells cs t fz)) := fun _ X Y row hs hg hr =>
  (hg.block b (Array.getElem?_eq_some_iff.1 hs).1 (fun e => by obtain ⟨-, o, ho, hc⟩ := hr b e.symm; rw [hs] at ho; cases ho; cases hc)).trans hs
set_option maxRecDepth 100000 in
set_option maxHeartbeats 4000000 in
theorem left_c {m : Nat} {v : Value} {c : Co} {w : World} (hin : In false (fun _ => True) w m v c) {r : Int} (hr : -1 ≤ r ∧ r ≤ 65536) :
    Calls Try.prog 32 #[.int .i64 r, v] w fun e w' => e = .returned (.int .i64 (lft c r)) ∧ Below w.heap.size w w' := by
  have hin0 := hin
  obtain ⟨m', fv, pv, xv, lv, uv, rfl, rfl, -, -, hF, hP, ⟨mx, hX⟩, hl, hu⟩ := hin.shape
  obtain ⟨a1, c1, rfl, hc1, hm1, hl1, -, hLF⟩ := hF
  obtain ⟨a2, c2, rfl, hc2, hm2, hl2, -, hLP⟩ := hP
  obtain ⟨a3, c3, rfl, hc3, hm3, hl3, -, hLX⟩ := hX
  clear hin hLF hLP hLX hl hu
  obtain ⟨R, hR⟩ : ∃ R, r - (1 + (c.f.length : Int) + c.p.length + c.x.length) = R := ⟨_, rfl⟩
  have eL : lft c r = bq (xsC c) R := by unfold lft; rw [hR]
  rw [eL]
  have hR1 : -900000000000000000 ≤ R := by omega
  have hR2 : R ≤ 65536 := by omega
  have w1 : IntKind.i64.wrap (r - (1 + (c.f.length : Int) + c.p.length + c.x.length)) = R := by rw [IntKind.wrap_i64]; omega
  clear eL
  refine (callsIn_wide (n := 6)).1 ?_
  refine callsIn_of_wp_marks Try.func32 rfl trivial ?_ rfl
  simp only [Try.ntmps32, List.size_toArray, List.length_cons, List.length_nil, Nat.reduceAdd, Nat.reduceSub, Array.replicate_succ, Array.replicate_zero, List.push_toArray, List.append_toArray, List.nil_append, List.cons_append]
  gi_wp2_with fail
  refine ⟨trivial, ?_⟩
  refine (exprs_in _ _ _ _ _ _ _ _ _).mono ?_
  rintro e w' ⟨rfl, rfl⟩
  obtain ⟨W0, hW0⟩ : ∃ W0, ((w.alloc (.cells #[.int .i64 R] 3)).alloc (.cells #[.int .i64 c.k, .string c.t, .slice a1 c.f.length c1, .slice a2 c.p.length c2, .slice a3 c.x.length c3, lv, uv] 41)).alloc (.cells #[.int .i64 c.k, .string c.t, .slice a1 c.f.length c1, .slice a2 c.p.length c2, .slice a3 c.x.length c3, lv, uv] 41) = W0 := ⟨_, rfl⟩
  have hsz : W0.heap.size = w.heap.size + 3 := by rw [← hW0]; simp
  have hB0 : Below w.heap.size w W0 := by
    rw [← hW0]
    exact (((Below.refl _ w).alloc (Nat.le_refl _) _).alloc (by simp) _).alloc (by simp; omega) _
  have b1 : Boxed W0 w.heap.size 3 (.int .i64 R) := by
    rw [← hW0]
    exact ((Boxed.new w 3 (.int .i64 R)).alloc _).alloc _
  have b2 : W0.heap[w.heap.size + 1 + 1]? = some (.cells #[.int .i64 c.k, .string c.t, .slice a1 c.f.length c1, .slice a2 c.p.length c2, .slice a3 c.x.length c3, lv, uv] 41 (0, 0)) := by
    rw [← hW0]
    exact heap_alloc_at _ _ _ (by simp)
  gi_wp2_with fail
  try rw [hW0]
  clear hW0
  refine wpIn_rangeFunc_ownH rfl (by omega) (gf := 52) (lb := #[.pointer (some ⟨w.heap.size + 1 + 1, 0, none⟩)]) rfl trivial (enters_of Try.func52 (by kernel_rfl) rfl)
    (exprs_stops 5 (w.heap.size + 1 + 1) w W0 hin0 hB0 b2) (fun {_ _ _} h k => Kx.trans h k) (Kx.book (by omega) (by omega)) (Below.refl _ _) (fun _ => rfl)
    (fun pre W => (Boxed W w.heap.size 3 (.int .i64 (bq (pre.map pr) R)) ∧ W.heap[w.heap.size + 1 + 1]? = some (.cells #[.int .i64 c.k, .string c.t, .slice a1 c.f.length c1, .slice a2 c.p.length c2, .slice a3 c.x.length c3, lv, uv] 41 (0, 0))) ∧ Below w.heap.size w W)
    (fun c pre W => False)
    (OwnFrom.and (OwnFrom.and (Own.from (boxed_own _ _ _) _) (own_cells _ _ _ _ _)) (ownFrom_below (Nat.le_refl _) (by omega)))
    (fun c => ownFrom_pure _ (fun _ => False))
    ⟨⟨by rw [List.map_nil, bq_nil]; exact b1, b2⟩, hB0⟩
    (fun x a' W => ∃ Bx, w.heap.size + 1 + 1 < Bx ∧ W.heap[Bx]? = some (.cells x.1.1.cells 35 (0, 0)) ∧ a' = { tmps := #[.int .i64 r, .agg #[.int .i64 c.k, .string c.t, .slice a1 c.f.length c1, .slice a2 c.p.length c2, .slice a3 c.x.length c3, lv, uv], .pointer (some ⟨w.heap.size, 0, none⟩), .pointer (some ⟨w.heap.size + 1, 0, none⟩), .int .i64 0, .pointer (some ⟨Bx, 0, none⟩), .int .i64 r, .pointer (some ⟨w.heap.size + 1, 2, none⟩), .slice a1 c.f.length c1, .int .i64 c.f.length, .int .i64 (1 + c.f.length), .pointer (some ⟨w.heap.size + 1, 3, none⟩), .slice a2 c.p.length c2, .int .i64 c.p.length, .int .i64 (1 + c.f.length + c.p.length), .pointer (some ⟨w.heap.size + 1, 4, none⟩), .slice a3 c.x.length c3, .int .i64 c.x.length, .int .i64 (1 + c.f.length + c.p.length + c.x.length), .int .i64 R, .agg #[.int .i64 c.k, .string c.t, .slice a1 c.f.length c1, .slice a2 c.p.length c2, .slice a3 c.x.length c3, lv, uv], .func (.func 52) #[] #[.pointer (some ⟨w.heap.size + 1 + 1, 0, none⟩)], x.1.1, undef, undef, undef, undef], defers := [] })
    (fun x a' _ X Y row hs hg hr => by
      obtain ⟨Bx, h1, h2, h3⟩ := hs
      refine ⟨Bx, h1, (hg.block Bx (Array.getElem?_eq_some_iff.1 h2).1 (fun e => ?_)).trans h2, h3⟩
      obtain ⟨-, o, ho, hc⟩ := hr Bx e.symm
      rw [h2] at ho; cases ho; cases hc)
    ?assign ?body ?done ?stop
  case assign =>
    rintro l pre x W K ⟨⟨c1', c2'⟩, hB1⟩ hK
    obtain ⟨⟨u, cx⟩, mx', hx⟩ := x
    have hx' : XBase.In false (fun _ => True) w mx' u cx := hx
    obtain ⟨mm, lv', -, rfl, -⟩ := hx'.shape
    obtain ⟨mm2, a4, c4, -, -, -, -, rfl, -⟩ := hx'.kinds
    simp only [enc]
    gi_wp2
    have hlt : w.heap.size + 1 + 1 < W.heap.size := (Array.getElem?_eq_some_iff.1 c2').1
    exact hK _ _ ((KeepsOthers.alloc _ _).from _) (Kx.of_below ((Below.refl _ W).alloc (Nat.le_refl _) _) hB1.size hlt) ⟨⟨c1'.alloc _, (Below.heap_alloc _ _ _ hlt).trans c2'⟩, hB1.alloc hB1.size _⟩ ⟨W.heap.size, hlt, heap_alloc_new W _, rfl⟩
  case body =>
    rintro l pre x a' W hl ⟨rr, hr'⟩ ⟨⟨c1', c2'⟩, hB1⟩ ⟨Bx, hBx, bX, rfl⟩ hlt
    obtain ⟨mx', hx'⟩ : ∃ m, XBase.In false (fun _ => True) w m x.1.1 x.1.2 := x.2
    obtain ⟨u, hu⟩ : ∃ u, x.1.1 = u := ⟨_, rfl⟩
    obtain ⟨cx, hcx⟩ : ∃ cx, x.1.2 = cx := ⟨_, rfl⟩
    have Hpr : Hid (pr x = cx) := hcx
    rw [hu, hcx] at hx'
    rw [hu] at bX
    rw [hu]
    clear hu hcx
    obtain ⟨mm, lv', -, rfl, -⟩ := hx'.shape
    have bX' : W.heap[Bx]? = some (.cells #[.int .i64 cx.o, .int .i64 cx.i, .string cx.s, lv'] 35 (0, 0)) := bX
    obtain ⟨x0, x1, x2, x3⟩ := four_box bX'
    have k1 := c1'.cell
    have f1 := c1'.frozen
    obtain ⟨M, hM⟩ : ∃ M, bq (pre.map pr) R = M := ⟨_, rfl⟩
    have HM : Hid (bq (pre.map pr) R = M) := hM
    have hMb := bq_bd (pre.map pr) hR1
    rw [hM] at c1' k1 hMb
    have c42 := CallsIn.inRound l (callsIn_wide (n := 3).2 (be_all _ W _ cx M (hx'.below hB1) (by omega) (by omega)))
    obtain ⟨Z, hZ⟩ : ∃ Z, bq [cx] M = Z := ⟨_, rfl⟩
    rw [hZ] at c42
    have HZ : Hid (bq ((pre ++ [x]).map pr) R = Z) := by
      show _ = _
      rw [List.map_append, List.map_cons, List.map_nil, Hpr.out, bq_append, hM, hZ]
    clear hM hZ bX bX'
    gi_wp2_with fail
    refine ⟨trivial, ?_⟩
    refine c42.mono ?_
    rintro e W3 ⟨rfl, b3⟩
    have g1 : Boxed W3 w.heap.size 3 (.int .i64 M) := (b3.block _ c1'.lt).trans c1'
    have hBw3 : Below w.heap.size w W3 := hB1.trans (b3.mono hB1.size)
    have hsW := hB1.size
    have h1 := g1.cell
    have h2 := g1.frozen
    clear c42 x0 x1 x2 x3 k1 f1
    gi_wp2_with fail
    have hlt2 : w.heap.size + 1 + 1 < W.heap.size := (Array.getElem?_eq_some_iff.1 c2').1
    refine ⟨(keeps_below (B := W0.heap.size) b3).trans ((KeepsOthers.setCell _ _ _).from _), (Kx.of_below b3 hsW hlt2).trans (Kx.set _ _ _ (Nat.le_refl _) (by omega) (by omega)), ⟨?_, (Below.heap_setCell _ _ _ _ (show w.heap.size + 1 + 1 ≠ w.heap.size by omega)).trans ((b3.block _ hlt2).trans c2')⟩, hBw3.setCell (p := ⟨w.heap.size, 0, none⟩) (Nat.le_refl _) _⟩
    rw [HZ.out]
    exact Boxed.set _ g1
  case done =>
    rintro D ys W hD hS ⟨⟨c1', c2'⟩, hB1⟩ hK
    rw [hS] at c1'
    obtain ⟨Z, hZ⟩ : ∃ Z, bq (xsC c) R = Z := ⟨_, rfl⟩
    rw [hZ] at c1'
    have k1 := c1'.cell
    have HZ : Hid (bq (xsC c) R = Z) := hZ
    gi_wp2_with fail
    refine ⟨by simp, .inl ⟨_, _, rfl, run_takeDeferred hK, ?_⟩⟩
    refine ⟨.int .i64 Z, ?_, by rw [HZ.out], hB1.trans (belowK_b (w := w) (Nat.le_refl _) W D _ _ (by omega) hK rfl rfl)⟩
    simp [results, Try.f32, go_sem]
  case stop =>
    rintro D cd pre W hD hSp h
    exact h.elim
end Go.Proofs.Ytenhljiibfdckaa.KLe
