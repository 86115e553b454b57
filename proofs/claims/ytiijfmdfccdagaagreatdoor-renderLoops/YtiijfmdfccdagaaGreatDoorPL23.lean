import Derived.BigQuiet
import Derived.Test.YtiijfmdfccdagaaGreatDoorPL16
import Derived.Test.YtiijfmdfccdagaaGreatDoorPL20
import Derived.Test.YtiijfmdfccdagaaGreatDoorPL21
open Go.Proofs.Tryz
set_option linter.unusedVariables false
set_option maxRecDepth 100000
set_option maxHeartbeats 4000000
namespace Go.Proofs.YtiijfmdfccdagaaGreatDoor.KPi
open Go.RowKit Base EPure
open XBase (four_box frozen_box Four)
def bq : List Ex -> Int -> Int
 | [], r => r
 | .mk o i s l :: t, r => bq t (if r < 0 then r else bq l (r - 1))
theorem bq_nil (r : Int) : bq [] r = r := by rw [bq]
theorem bq_no {x : Ex} {r : Int} (h : r < 0) : bq [x] r = r := by
 obtain ⟨o, i, s, l⟩ := x
 rw [bq, if_pos h, bq_nil]
theorem bq_one {o i : Int} {s : ByteArray} {l : List Ex} {r : Int} (h : ¬ r < 0) : bq [.mk o i s l] r = bq l (r - 1) := by
 rw [bq, if_neg h, bq_nil]
theorem bq_cons (x : Ex) (t : List Ex) (r : Int) : bq (x :: t) r = bq t (bq [x] r) := by
 obtain ⟨o, i, s, l⟩ := x
 rw [bq, bq, bq_nil]
theorem bq_append (a b : List Ex) (r : Int) : bq (a ++ b) r = bq b (bq a r) := by
 induction a generalizing r with
 | nil => rw [List.nil_append, bq_nil]
 | cons x t ih => rw [List.cons_append, bq_cons, ih, <- bq_cons]
theorem bq_neg (l : List Ex) {r : Int} (h : r < 0) : bq l r = r := by
 induction l with
 | nil => rw [bq_nil]
 | cons x t ih => rw [bq_cons, bq_no h, ih]
theorem bq_le : ∀ (n : Nat) (l : List Ex) (r : Int), SizeOf.sizeOf l <= n -> bq l r <= r /\ (-1 <= r -> -1 <= bq l r) := by
 intro n
 induction n with
 | zero =>
  intro l r h
  cases l with
  | nil => rw [bq_nil]; omega
  | cons x t => exact absurd h (by simp)
 | succ n ih =>
  intro l r h
  cases l with
  | nil => rw [bq_nil]; omega
  | cons x t =>
   obtain ⟨o, i, s, k⟩ := x
   rw [bq]
   by_cases hc : r < 0
   ·rw [if_pos hc, bq_neg t hc]
    omega
   ·rw [if_neg hc]
    have h1 := ih k (r - 1) (by simp at h; omega)
    have h2 := ih t (bq k (r - 1)) (by simp at h; omega)
    omega
theorem bq_bd (l : List Ex) {r : Int} (h : -900000000000000000 <= r) : -900000000000000000 <= bq l r /\ bq l r <= r := by
 have := bq_le _ l r (Nat.le_refl _)
 by_cases hc : r < 0
 ·rw [bq_neg l hc]; omega
 ·omega
def BI (m : Nat) : Prop := ∀ (w : World) (v : Value) (x : Ex) (r : Int), XBase.In false (fun _ => True) w m v x -> -900000000000000000 <= r -> r <= 65536 ->
  Calls prog 105 #[.int .i64 r, v] w fun e w' => e = .returned (.int .i64 (bq [x] r)) /\ Below w.heap.size w w'
theorem be_neg {w : World} {o i : Int} {s : ByteArray} {l : List Ex} {a : Option Addr} {cap : Nat} {r : Int} (h0 : r < 0) :
  Calls prog 105 #[.int .i64 r, .agg #[.int .i64 o, .int .i64 i, .string s, .slice a l.length cap]] w fun e w' => e = .returned (.int .i64 r) /\ Below w.heap.size w w' := by
 have b0 : Below w.heap.size w (w.alloc (.cells #[.int .i64 o, .int .i64 i, .string s, .slice a l.length cap] 47)) := (Below.refl _ w).alloc (Nat.le_refl _) _
 have e0 : decide (r < 0) = true := decide_eq_true h0
 clear h0
 go_enter func105, ntmps105
 go_wp2_with fail
 go_ret
 exact ⟨rfl, b0⟩
theorem be_go {w : World} {o i : Int} {s : ByteArray} {l : List Ex} {a : Option Addr} {cap : Nat} {r : Int} (hl : l.length <= 140737488351232) (hcap : l.length <= cap /\ cap <= 9223372036854775807) (h0 : ¬ r < 0) (hr5 : r <= 65536) {m : Nat} (ih : BI m) (hin : XBase.InL false (fun _ => True) w m (.slice a l.length cap) l) :
  Calls prog 105 #[.int .i64 r, .agg #[.int .i64 o, .int .i64 i, .string s, .slice a l.length cap]] w fun e w' => e = .returned (.int .i64 (bq l (r - 1))) /\ Below w.heap.size w w' := by
 obtain ⟨W0, hW0⟩ : ∃ W0, w.alloc (.cells #[.int .i64 o, .int .i64 i, .string s, .slice a l.length cap] 47) = W0 := ⟨_, rfl⟩
 have b0 := alB hW0
 have q0 := alG hW0
 obtain ⟨v0, v1, v2, v3⟩ := four_box q0
 have HB0 := hid b0
 have e0 : decide (r < 0) = false := decide_eq_false h0
 have HIN := hid hin
 have Hih := hid ih
 obtain ⟨T, hT⟩ : ∃ T, bq l (r - 1) = T := ⟨_, rfl⟩
 rw [hT]
 have HT := hid hT
 have hr0 : 0 <= r := by omega
 clear q0 b0 hin hT h0 ih
 go_enter func105, ntmps105
 go_wp2_with fail
 try rw [hW0]
 clear hW0 v0 v1 v2 v3
 go_loopw [15, 0] (fun v1 v2 wr => ∃ (q : Nat) (r' : Int), v1 = .int .i64 q /\ v2 = .int .i64 r' /\ q <= l.length /\ -1 <= r' /\ r' <= 65536 /\ Below w.heap.size w wr /\ bq (l.drop q) r' = T) (fun v1 _ _ => l.length - (intOf v1).toNat)
 case atStart => exact ⟨0, r - 1, rfl, by go_num, by omega, by omega, by omega, HB0.out, HT.out⟩
 case round =>
  clear HB0 HT
  obtain ⟨q, r', rfl, rfl, hq, hr1, hr2, hB, hM⟩ := hrel
  have HM := hid hM
  have HBR := hid hB
  have hsz := hB.size
  clear hM hB
  by_cases hlt : q < l.length
  ·have d0 : decide ((q : Int) < (l.length : Int)) = true := by simp; omega
   have hinl := HIN.out.keep (w' := wr) (fun b _ hlt => HBR.out.block b hlt)
   obtain ⟨aa, cc, hsl, -, -, -, -, hLA⟩ := hinl
   cases hsl
   obtain ⟨g, of, u, ha, hSg, hFour, hInq⟩ := XBase.elem_at hLA hlt
   subst ha
   obtain ⟨c0, c1, c2, c3, rfl, d1, d2, d3, d4⟩ := hFour
   obtain ⟨m', a2, cp2, -, rfl, rfl, rfl, rfl, hob, hib, hsb, -⟩ := hInq.kinds
   obtain ⟨y, hy⟩ : ∃ y, l[q] = y := ⟨_, rfl⟩
   rw [hy] at hInq d1 d2 d3 d4
   obtain ⟨W4, hW4⟩ : ∃ W4, wr.alloc (.cells #[.int .i64 y.o, .int .i64 y.i, .string y.s, .slice a2 y.l.length cp2] 47) = W4 := ⟨_, rfl⟩
   have b4 := alB hW4
   have q4 := alG hW4
   obtain ⟨e0', e1', e2', e3'⟩ := four_box q4
   have cM := Hih.out W4 _ y r' (hInq.below b4) (by omega) hr2
   have hstep := bq_cons y (l.drop (q + 1)) r'
   have hdrop : l.drop q = y :: l.drop (q + 1) := by rw [<- hy]; exact List.drop_eq_getElem_cons hlt
   have HST : Hid (bq (l.drop (q + 1)) (bq [y] r') = T) := by
    show _ = _
    rw [<- hstep, <- hdrop]
    exact HM.out
   have hle := bq_le _ [y] r' (Nat.le_refl _)
   obtain ⟨Z, hZ⟩ : ∃ Z, bq [y] r' = Z := ⟨_, rfl⟩
   have HST2 : Hid (bq (l.drop (q + 1)) Z = T) := by rw [<- hZ]; exact HST.out
   rw [hZ] at cM hle
   have hcapq := hcap.1
   have hZ1 := hle.2 hr1
   have hZ2 := hle.1
   clear hstep hdrop HST hZ hInq q4 hLA HM hob hib hsb hle
   go_wp2_with fail
   refine cM.mono ?_
   rintro e W5 ⟨rfl, B5⟩
   have HKK := hid (nx (nx HBR.out b4) B5)
   clear cM B5 b4 hW4 d1 d2 d3 d4 e0' e1' e2' e3' HBR
   go_wp2_with fail
   go_roundw
   case rel => exact ⟨q + 1, Z, by go_num, rfl, by omega, by omega, by omega, HKK.out, HST2.out⟩
   case measure => simp only [intOf]; omega
  ·have d0 : decide ((q : Int) < (l.length : Int)) = false := by simp; omega
   have hT : r' = T := by
    have := HM.out
    rw [List.drop_eq_nil_of_le (by omega), bq_nil] at this
    exact this
   subst hT
   go_wp2_with fail
   go_ret
   exact ⟨rfl, HBR.out⟩
theorem be_all : ∀ m, BI m
 | 0 => by
  intro w v x r h
  rw [XBase.In] at h
  exact h.elim
 | m + 1 => by
  intro w v x r h hr1 hr2
  obtain ⟨o, i, s, l⟩ := x
  rw [XBase.in_iff] at h
  obtain ⟨lv, rfl, ho, hi, hs, hl⟩ := h
  have hl0 := hl
  obtain ⟨a, cap, rfl, h1, h2, h3, -, -⟩ := hl
  by_cases h0 : r < 0
  ·rw [bq_no h0]
   exact be_neg h0
  ·rw [bq_one h0]
   exact be_go (by omega) ⟨h1, h2⟩ h0 hr2 (be_all m) hl0
end Go.Proofs.YtiijfmdfccdagaaGreatDoor.KPi
namespace Go.Proofs.YtiijfmdfccdagaaGreatDoor.KLe
open Go.RowKit Go.Shelf Base KBase KEx KPi
open XBase (four_box)
attribute [local go_sem] Oper.semAt_some
def lft (c : Co) (r : Int) : Int := bq (xsC c) (r - (1 + c.f.length + c.p.length + c.x.length))
theorem heap_alloc_at (w : World) (o : Obj) (k : Nat) (h : k = w.heap.size) : (w.alloc o).heap[k]? = some o := by subst h; exact heap_alloc_new w o
theorem keeps_below {B : Nat} {W W' : World} (h : Below W.heap.size W W') : KeepsFrom B W W' := ⟨h.size, fun k o _ hk _ => (h.block k (Array.getElem?_eq_some_iff.1 hk).1).trans hk⟩
theorem own_cells {α : Type} (n b : Nat) (cs : Array Value) (t : TypeId) (fz : Nat × Nat) : OwnFrom n (fun (_ : α) W => W.heap[b]? = some (.cells cs t fz)) := fun _ X Y row hs hg hr =>
 (hg.block b (Array.getElem?_eq_some_iff.1 hs).1 (fun e => by obtain ⟨-, o, ho, hc⟩ := hr b e.symm; rw [hs] at ho; cases ho; cases hc)).trans hs
theorem left_c {m : Nat} {v : Value} {c : Co} {w : World} (hin : In false (fun _ => True) w m v c) {r : Int} (hr : -1 <= r /\ r <= 65536) :
  Calls prog 70 #[.int .i64 r, v] w fun e w' => e = .returned (.int .i64 (lft c r)) /\ Below w.heap.size w w' := by
 have hin0 := hin
 obtain ⟨m', fv, pv, xv, lv, uv, rfl, rfl, -, -, hF, hP, ⟨mx, hX⟩, hl, hu⟩ := hin.shape
 obtain ⟨a1, c1, rfl, hc1, hm1, hl1, -, hLF⟩ := hF
 obtain ⟨a2, c2, rfl, hc2, hm2, hl2, -, hLP⟩ := hP
 obtain ⟨a3, c3, rfl, hc3, hm3, hl3, -, hLX⟩ := hX
 clear hin hLF hLP hLX hl hu
 obtain ⟨R, hR⟩ : ∃ R, r - (1 + (c.f.length : Int) + c.p.length + c.x.length) = R := ⟨_, rfl⟩
 have eL : lft c r = bq (xsC c) R := by unfold lft; rw [hR]
 rw [eL]
 have hR1 : -900000000000000000 <= R := by omega
 have hR2 : R <= 65536 := by omega
 have w1 : IntKind.i64.wrap (r - (1 + (c.f.length : Int) + c.p.length + c.x.length)) = R := by rw [IntKind.wrap_i64]; omega
 clear eL
 refine (callsIn_wide (n := 6)).1 ?_
 refine callsIn_of_wp_marks func70 rfl trivial ?_ rfl
 simp only [ntmps70, List.size_toArray, List.length_cons, List.length_nil, Nat.reduceAdd, Nat.reduceSub, Array.replicate_succ, Array.replicate_zero, List.push_toArray, List.append_toArray, List.nil_append, List.cons_append]
 gi_wp2_with fail
 refine ⟨trivial, ?_⟩
 refine (exprs_in _ _ _ _ _ _ _ _ _).mono ?_
 rintro e w' ⟨rfl, rfl⟩
 obtain ⟨W0, hW0⟩ : ∃ W0, ((w.alloc (.cells #[.int .i64 R] 3)).alloc (.cells #[.int .i64 c.k, .string c.t, .slice a1 c.f.length c1, .slice a2 c.p.length c2, .slice a3 c.x.length c3, lv, uv] 45)).alloc (.cells #[.int .i64 c.k, .string c.t, .slice a1 c.f.length c1, .slice a2 c.p.length c2, .slice a3 c.x.length c3, lv, uv] 45) = W0 := ⟨_, rfl⟩
 have hsz : W0.heap.size = w.heap.size + 3 := by rw [<- hW0]; simp
 have hB0 : Below w.heap.size w W0 := by
  rw [<- hW0]
  exact (((Below.refl _ w).alloc (Nat.le_refl _) _).alloc (by simp) _).alloc (by simp; omega) _
 have b1 : Boxed W0 w.heap.size 3 (.int .i64 R) := by
  rw [<- hW0]
  exact ((Boxed.new w 3 (.int .i64 R)).alloc _).alloc _
 have b2 : W0.heap[w.heap.size + 1 + 1]? = some (.cells #[.int .i64 c.k, .string c.t, .slice a1 c.f.length c1, .slice a2 c.p.length c2, .slice a3 c.x.length c3, lv, uv] 45 (0, 0)) := by
  rw [<- hW0]
  exact heap_alloc_at _ _ _ (by simp)
 gi_wp2_with fail
 try rw [hW0]
 clear hW0
 refine wpIn_rangeFunc_ownH rfl (by omega) (gf := 146) (lb := #[.pointer (some ⟨w.heap.size + 1 + 1, 0, none⟩)]) rfl trivial (enters_of func146 (by kernel_rfl) rfl)
  (exprs_stops 5 (w.heap.size + 1 + 1) w W0 hin0 hB0 b2) (fun {_ _ _} h k => Kx.trans h k) (Kx.book (by omega) (by omega)) (Below.refl _ _) (fun _ => rfl)
  (fun pre W => (Boxed W w.heap.size 3 (.int .i64 (bq (pre.map pr) R)) /\ W.heap[w.heap.size + 1 + 1]? = some (.cells #[.int .i64 c.k, .string c.t, .slice a1 c.f.length c1, .slice a2 c.p.length c2, .slice a3 c.x.length c3, lv, uv] 45 (0, 0))) /\ Below w.heap.size w W)
  (fun c pre W => False)
  (OwnFrom.and (OwnFrom.and (Own.from (boxed_own _ _ _) _) (own_cells _ _ _ _ _)) (ownFrom_below (Nat.le_refl _) (by omega)))
  (fun c => ownFrom_pure _ (fun _ => False))
  ⟨⟨by rw [List.map_nil, bq_nil]; exact b1, b2⟩, hB0⟩
  (fun x a' W => ∃ Bx, w.heap.size + 1 + 1 < Bx /\ W.heap[Bx]? = some (.cells x.1.1.cells 47 (0, 0)) /\ a' = { tmps := #[.int .i64 r, .agg #[.int .i64 c.k, .string c.t, .slice a1 c.f.length c1, .slice a2 c.p.length c2, .slice a3 c.x.length c3, lv, uv], .pointer (some ⟨w.heap.size, 0, none⟩), .pointer (some ⟨w.heap.size + 1, 0, none⟩), .int .i64 0, .pointer (some ⟨Bx, 0, none⟩), .int .i64 r, .pointer (some ⟨w.heap.size + 1, 2, none⟩), .slice a1 c.f.length c1, .int .i64 c.f.length, .int .i64 (1 + c.f.length), .pointer (some ⟨w.heap.size + 1, 3, none⟩), .slice a2 c.p.length c2, .int .i64 c.p.length, .int .i64 (1 + c.f.length + c.p.length), .pointer (some ⟨w.heap.size + 1, 4, none⟩), .slice a3 c.x.length c3, .int .i64 c.x.length, .int .i64 (1 + c.f.length + c.p.length + c.x.length), .int .i64 R, .agg #[.int .i64 c.k, .string c.t, .slice a1 c.f.length c1, .slice a2 c.p.length c2, .slice a3 c.x.length c3, lv, uv], .func (.func 146) #[] #[.pointer (some ⟨w.heap.size + 1 + 1, 0, none⟩)], x.1.1, undef, undef, undef, undef], defers := [] })
  (fun x a' _ X Y row hs hg hr => by
   obtain ⟨Bx, h1, h2, h3⟩ := hs
   refine ⟨Bx, h1, (hg.block Bx (Array.getElem?_eq_some_iff.1 h2).1 (fun e => ?_)).trans h2, h3⟩
   obtain ⟨-, o, ho, hc⟩ := hr Bx e.symm
   rw [h2] at ho; cases ho; cases hc)
  ?assign ?body ?done ?stop
 case assign =>
  rintro l pre x W K ⟨⟨c1', c2'⟩, hB1⟩ hK
  obtain ⟨⟨u, cx⟩, mx', hx⟩ := x
  have hx' : XBase.In false (fun _ => True) w mx' u cx := hx
  obtain ⟨mm, lv', -, rfl, -⟩ := hx'.shape
  obtain ⟨mm2, a4, c4, -, -, -, -, rfl, -⟩ := hx'.kinds
  simp only [enc]
  gi_wp2
  have hlt := (Array.getElem?_eq_some_iff.1 c2').1
  exact hK _ _ ((KeepsOthers.alloc _ _).from _) (Kx.of_below ((Below.refl _ W).alloc (Nat.le_refl _) _) hB1.size hlt) ⟨⟨c1'.alloc _, (Below.heap_alloc _ _ _ hlt).trans c2'⟩, hB1.alloc hB1.size _⟩ ⟨W.heap.size, hlt, heap_alloc_new W _, rfl⟩
 case body =>
  rintro l pre x a' W hl ⟨rr, hr'⟩ ⟨⟨c1', c2'⟩, hB1⟩ ⟨Bx, hBx, bX, rfl⟩ hlt
  obtain ⟨mx', hx'⟩ : ∃ m, XBase.In false (fun _ => True) w m x.1.1 x.1.2 := x.2
  obtain ⟨u, hu⟩ : ∃ u, x.1.1 = u := ⟨_, rfl⟩
  obtain ⟨cx, hcx⟩ : ∃ cx, x.1.2 = cx := ⟨_, rfl⟩
  have Hpr : Hid (pr x = cx) := hcx
  rw [hu, hcx] at hx'
  rw [hu] at bX
  rw [hu]
  clear hu hcx
  obtain ⟨mm, lv', -, rfl, -⟩ := hx'.shape
  have bX' := bX
  obtain ⟨x0, x1, x2, x3⟩ := four_box bX'
  have k1 := c1'.cell
  have f1 := c1'.frozen
  obtain ⟨M, hM⟩ : ∃ M, bq (pre.map pr) R = M := ⟨_, rfl⟩
  have HM := hid hM
  have hMb := bq_bd (pre.map pr) hR1
  rw [hM] at c1' k1 hMb
  have c42 := CallsIn.inRound l (callsIn_wide (n := 3).2 (be_all _ W _ cx M (hx'.below hB1) (by omega) (by omega)))
  obtain ⟨Z, hZ⟩ : ∃ Z, bq [cx] M = Z := ⟨_, rfl⟩
  rw [hZ] at c42
  have HZ : Hid (bq ((pre ++ [x]).map pr) R = Z) := by
   show _ = _
   rw [List.map_append, List.map_cons, List.map_nil, Hpr.out, bq_append, hM, hZ]
  clear hM hZ bX bX'
  gi_wp2_with fail
  refine ⟨trivial, ?_⟩
  refine c42.mono ?_
  rintro e W3 ⟨rfl, b3⟩
  have g1 : Boxed W3 w.heap.size 3 (.int .i64 M) := (b3.block _ c1'.lt).trans c1'
  have hBw3 := hB1.trans (b3.mono hB1.size)
  have hsW := hB1.size
  have h1 := g1.cell
  have h2 := g1.frozen
  clear c42 x0 x1 x2 x3 k1 f1
  gi_wp2_with fail
  have hlt2 := (Array.getElem?_eq_some_iff.1 c2').1
  refine ⟨(keeps_below (B := W0.heap.size) b3).trans ((KeepsOthers.setCell _ _ _).from _), (Kx.of_below b3 hsW hlt2).trans (Kx.set _ _ _ (Nat.le_refl _) (by omega) (by omega)), ⟨?_, (Below.heap_setCell _ _ _ _ (show w.heap.size + 1 + 1 ≠ w.heap.size by omega)).trans ((b3.block _ hlt2).trans c2')⟩, hBw3.setCell (p := ⟨w.heap.size, 0, none⟩) (Nat.le_refl _) _⟩
  rw [HZ.out]
  exact Boxed.set _ g1
 case done =>
  rintro D ys W hD hS ⟨⟨c1', c2'⟩, hB1⟩ hK
  rw [hS] at c1'
  obtain ⟨Z, hZ⟩ : ∃ Z, bq (xsC c) R = Z := ⟨_, rfl⟩
  rw [hZ] at c1'
  have k1 := c1'.cell
  have HZ := hid hZ
  gi_wp2_with fail
  refine ⟨by simp, .inl ⟨_, _, rfl, run_takeDeferred hK, ?_⟩⟩
  refine ⟨.int .i64 Z, ?_, by rw [HZ.out], hB1.trans (belowK_b (w := w) (Nat.le_refl _) W D _ _ (by omega) hK rfl rfl)⟩
  simp [results, Tryz.f70, go_sem]
 case stop =>
  rintro D cd pre W hD hSp h
  exact h.elim
end Go.Proofs.YtiijfmdfccdagaaGreatDoor.KLe
namespace Go.Proofs.YtiijfmdfccdagaaGreatDoor.KRs
open Go.RowKit Go.Shelf Base KBase KEx KSh
open XBase (four_box)
open KLe (keeps_below)
attribute [local go_sem] Oper.semAt_some
theorem resolved_all {m : Nat} {v : Value} {c : Co} {w : World} (hin : In false (fun _ => True) w m v c) :
  Calls prog 73 #[v] w fun e w' => e = .returned (.bool ((xsC c).all (rsv))) /\ Below w.heap.size w w' := by
 have hin0 := hin
 obtain ⟨m', fv, pv, xv, lv, uv, rfl, rfl, -, -, hF, hP, ⟨mx, hX⟩, hl, hu⟩ := hin.shape
 obtain ⟨a1, c1, rfl, hc1, hm1, hl1, -, hLF⟩ := hF
 obtain ⟨a2, c2, rfl, hc2, hm2, hl2, -, hLP⟩ := hP
 obtain ⟨a3, c3, rfl, hc3, hm3, hl3, -, hLX⟩ := hX
 clear hin hLF hLP hLX hl hu
 refine (callsIn_wide (n := 6)).1 ?_
 refine callsIn_of_wp_marks func73 rfl trivial ?_ rfl
 simp only [ntmps73, List.size_toArray, List.length_cons, List.length_nil, Nat.reduceAdd, Nat.reduceSub, Array.replicate_succ, Array.replicate_zero, List.push_toArray, List.append_toArray, List.nil_append, List.cons_append]
 gi_wp2_with fail
 refine ⟨trivial, ?_⟩
 refine (exprs_in _ _ _ _ _ _ _ _ _).mono ?_
 rintro e w' ⟨rfl, rfl⟩
 obtain ⟨W0, hW0⟩ : ∃ W0, ((w.alloc (.cells #[.int .i64 c.k, .string c.t, .slice a1 c.f.length c1, .slice a2 c.p.length c2, .slice a3 c.x.length c3, lv, uv] 45)).alloc (.cells #[.bool false] 4)).alloc (.cells #[.int .i64 c.k, .string c.t, .slice a1 c.f.length c1, .slice a2 c.p.length c2, .slice a3 c.x.length c3, lv, uv] 45) = W0 := ⟨_, rfl⟩
 have hsz : W0.heap.size = w.heap.size + 3 := by rw [<- hW0]; simp
 have hB0 : Below w.heap.size w W0 := by
  rw [<- hW0]
  exact ((((Below.refl _ w).alloc (Nat.le_refl _) _).alloc (by simp <;> omega) _).alloc (by simp <;> omega) _)
 have b1 : Boxed W0 (w.heap.size + 1) 4 (.bool false) := by
  rw [<- hW0]
  have := (Boxed.new (w.alloc (.cells #[.int .i64 c.k, .string c.t, .slice a1 c.f.length c1, .slice a2 c.p.length c2, .slice a3 c.x.length c3, lv, uv] 45)) 4 (.bool false)).alloc (.cells #[.int .i64 c.k, .string c.t, .slice a1 c.f.length c1, .slice a2 c.p.length c2, .slice a3 c.x.length c3, lv, uv] 45)
  simp only [World.size_alloc] at this
  exact this
 have b2 : W0.heap[w.heap.size + 1 + 1]? = some (.cells #[.int .i64 c.k, .string c.t, .slice a1 c.f.length c1, .slice a2 c.p.length c2, .slice a3 c.x.length c3, lv, uv] 45 (0, 0)) := by
  rw [<- hW0]
  exact KLe.heap_alloc_at _ _ _ (by simp)
 gi_wp2_with fail
 try rw [hW0]
 clear hW0
 refine wpIn_rangeFunc_ownH rfl (by omega) (gf := 146) (lb := #[.pointer (some ⟨w.heap.size + 1 + 1, 0, none⟩)]) rfl trivial (enters_of func146 (by kernel_rfl) rfl)
  (exprs_stops 5 (w.heap.size + 1 + 1) w W0 hin0 hB0 b2) (fun {_ _ _} h k => Kx.trans h k) (Kx.book (by omega) (by omega)) (Below.refl _ _) (fun _ => rfl)
  (fun pre W => (((Boxed W (w.heap.size + 1) 4 (.bool false) /\ W.heap[w.heap.size + 1 + 1]? = some (.cells #[.int .i64 c.k, .string c.t, .slice a1 c.f.length c1, .slice a2 c.p.length c2, .slice a3 c.x.length c3, lv, uv] 45 (0, 0))) /\ (pre.map pr).all (rsv) = true) /\ Below w.heap.size w W))
  (fun cd pre W => (Boxed W (w.heap.size + 1) 4 (.bool false) /\ (cd = .ret /\ (pre.map pr).all (rsv) = false)) /\ Below w.heap.size w W)
  (OwnFrom.and (OwnFrom.and (OwnFrom.and (Own.from (boxed_own _ _ _) _) (KLe.own_cells _ _ _ _ _)) (ownFrom_pure _ _)) (ownFrom_below (Nat.le_refl _) (by omega)))
  (fun cd => OwnFrom.and (OwnFrom.and (Own.from (boxed_own _ _ _) _) (ownFrom_pure _ _)) (ownFrom_below (Nat.le_refl _) (by omega)))
  ⟨⟨⟨b1, b2⟩, rfl⟩, hB0⟩
  (fun x a' W => ∃ Bx, w.heap.size + 1 + 1 < Bx /\ W.heap[Bx]? = some (.cells x.1.1.cells 47 (0, 0)) /\ a' = { tmps := #[.agg #[.int .i64 c.k, .string c.t, .slice a1 c.f.length c1, .slice a2 c.p.length c2, .slice a3 c.x.length c3, lv, uv], .pointer (some ⟨w.heap.size, 0, none⟩), .pointer (some ⟨w.heap.size + 1, 0, none⟩), .pointer (some ⟨Bx, 0, none⟩), .agg #[.int .i64 c.k, .string c.t, .slice a1 c.f.length c1, .slice a2 c.p.length c2, .slice a3 c.x.length c3, lv, uv], .func (.func 146) #[] #[.pointer (some ⟨w.heap.size + 1 + 1, 0, none⟩)], x.1.1, undef, undef, undef], defers := [] })
  (fun x a' _ X Y row hs hg hr => by
   obtain ⟨Bx, h1, h2, h3⟩ := hs
   refine ⟨Bx, h1, (hg.block Bx (Array.getElem?_eq_some_iff.1 h2).1 (fun e => ?_)).trans h2, h3⟩
   obtain ⟨-, o, ho, hc⟩ := hr Bx e.symm
   rw [h2] at ho; cases ho; cases hc)
  ?assign ?body ?done ?stop
 case assign =>
  rintro l pre x W K ⟨⟨⟨c1', c2'⟩, hP⟩, hB1⟩ hK
  obtain ⟨⟨u, cx⟩, mx', hx⟩ := x
  have hx' : XBase.In false (fun _ => True) w mx' u cx := hx
  obtain ⟨mm, lv', -, rfl, -⟩ := hx'.shape
  obtain ⟨mm2, a4, c4, -, -, -, -, rfl, -⟩ := hx'.kinds
  simp only [enc]
  gi_wp2
  have hlt := (Array.getElem?_eq_some_iff.1 c2').1
  exact hK _ _ ((KeepsOthers.alloc _ _).from _) (Kx.of_below ((Below.refl _ W).alloc (Nat.le_refl _) _) hB1.size hlt) ⟨⟨⟨c1'.alloc _, (Below.heap_alloc _ _ _ hlt).trans c2'⟩, hP⟩, hB1.alloc hB1.size _⟩ ⟨W.heap.size, hlt, heap_alloc_new W _, rfl⟩
 case body =>
  rintro l pre x a' W hl ⟨rr, hr'⟩ ⟨⟨⟨c1', c2'⟩, hP⟩, hB1⟩ ⟨Bx, hBx, bX, rfl⟩ hlt
  obtain ⟨mx', hx'⟩ : ∃ m, XBase.In false (fun _ => True) w m x.1.1 x.1.2 := x.2
  obtain ⟨u, hu⟩ : ∃ u, x.1.1 = u := ⟨_, rfl⟩
  obtain ⟨cx, hcx⟩ : ∃ cx, x.1.2 = cx := ⟨_, rfl⟩
  have Hpr : Hid (pr x = cx) := hcx
  rw [hu, hcx] at hx'
  rw [hu] at bX
  rw [hu]
  clear hu hcx
  obtain ⟨mm, lv', -, rfl, -⟩ := hx'.shape
  have bX' := bX
  obtain ⟨x0, x1, x2, x3⟩ := four_box bX'
  have cT := CallsIn.inRound l (callsIn_wide (n := 3).2 (resolved_c (hx'.below hB1)))
  obtain ⟨Z, hZ⟩ : ∃ Z, rsv cx = Z := ⟨_, rfl⟩
  rw [hZ] at cT
  have HZ : Hid (((pre ++ [x]).map pr).all (rsv) = Z) := by
   show _ = _
   rw [List.map_append, List.map_cons, List.map_nil, Hpr.out, List.all_append, hP, List.all_cons, List.all_nil, Bool.true_and, Bool.and_true, hZ]
  clear hZ bX bX'
  gi_wp2_with fail
  refine ⟨trivial, ?_⟩
  refine cT.mono ?_
  rintro e W3 ⟨rfl, b3⟩
  have hsW := hB1.size
  have g1 : Boxed W3 (w.heap.size + 1) 4 (.bool false) := (b3.block _ c1'.lt).trans c1'
  have hBw3 := hB1.trans (b3.mono hB1.size)
  have hlt2 := (Array.getElem?_eq_some_iff.1 c2').1
  have h1 := g1.cell
  have h2 := g1.frozen
  clear cT x0 x1 x2 x3
  cases Z with
  | true =>
   gi_wp2_with fail
   exact ⟨keeps_below (B := W0.heap.size) b3, Kx.of_below b3 hsW hlt2, ⟨⟨g1, (b3.block _ hlt2).trans c2'⟩, HZ.out⟩, hBw3⟩
  | false =>
   gi_wp2_with fail
   exact ⟨(keeps_below (B := W0.heap.size) b3).trans ((KeepsOthers.setCell _ _ _).from _), ⟨Boxed.set _ g1, rfl, HZ.out⟩, hBw3.setCell (p := ⟨w.heap.size + 1, 0, none⟩) (show w.heap.size <= w.heap.size + 1 by omega) _⟩
 case done =>
  rintro D ys W hD hS ⟨⟨⟨c1', c2'⟩, hP⟩, hB1⟩ hK
  rw [hS] at hP
  have HP := hid hP
  clear hP hS
  have k1 := c1'.cell
  have f1 := c1'.frozen
  gi_wp2_with fail
  obtain ⟨W4, hW4⟩ : ∃ W4, W.setCell ⟨w.heap.size + 1, 0, none⟩ (.bool true) = W4 := ⟨_, rfl⟩
  try rw [hW4]
  have hK4 : W4.heap[D]? = some (.deferred (some [])) := by
   rw [<- hW4]
   exact (KeepsOthers.setCell _ _ _).same D _ hK rfl
  have d1 : Boxed W4 (w.heap.size + 1) 4 (.bool true) := by rw [<- hW4]; exact Boxed.set _ c1'
  have hB4 : Below w.heap.size w W4 := by rw [<- hW4]; exact hB1.setCell (p := ⟨w.heap.size + 1, 0, none⟩) (show w.heap.size <= w.heap.size + 1 by omega) _
  clear hW4
  refine ⟨by simp, .inl ⟨_, _, rfl, run_takeDeferred hK4, ?_⟩⟩
  have g1 := cell_kept d1.cell (grownBy_putObj' _ D (.deferred none)) (fun r e => by cases e; exact ⟨_, hK4, rfl⟩)
  refine ⟨.bool true, ?_, by rw [HP.out], hB4.trans (belowK_b (w := w) (Nat.le_refl _) _ D _ _ (by omega) hK4 rfl rfl)⟩
  simp [results, Tryz.f73, go_sem, g1]
 case stop =>
  rintro D cd pre W hD hSp ⟨⟨c1', rfl, hP⟩, hB1⟩ hK
  obtain ⟨rest, hrest⟩ := hSp
  have HP : Hid ((xsC c).all (rsv) = false) := by
   show _ = _
   rw [<- hrest, List.all_append, hP, Bool.false_and]
  clear hP hrest
  gi_wp2
  refine ⟨by simp, .inl ⟨_, _, rfl, run_takeDeferred hK, ?_⟩⟩
  have g1 := cell_kept c1'.cell (grownBy_putObj' _ D (.deferred none)) (fun r e => by cases e; exact ⟨_, hK, rfl⟩)
  refine ⟨.bool false, ?_, by rw [HP.out], hB1.trans (belowK_b (w := w) (Nat.le_refl _) W D _ _ (by omega) hK rfl rfl)⟩
  simp [results, Tryz.f73, go_sem, g1]
end Go.Proofs.YtiijfmdfccdagaaGreatDoor.KRs
namespace Go.Proofs.YtiijfmdfccdagaaGreatDoor.KHs
open Go.RowKit Base EPure
open XBase (four_box frozen_box Four)
def hs (st : Int) : List Ex -> Bool
 | [] => true
 | .mk o i s l :: t => (!(o == 6 && (decide (i < 0) || decide (st <= i)))) && (hs st l && hs st t)
theorem hs_nil (st : Int) : hs st [] = true := by rw [hs]
theorem hs_one (st o i : Int) (s : ByteArray) (l : List Ex) : hs st [.mk o i s l] = ((!(o == 6 && (decide (i < 0) || decide (st <= i)))) && hs st l) := by
 rw [hs, hs_nil, Bool.and_true]
theorem hs_cons (st : Int) (x : Ex) (t : List Ex) : hs st (x :: t) = (hs st [x] && hs st t) := by
 obtain ⟨o, i, s, l⟩ := x
 rw [hs, hs_one, Bool.and_assoc]
def HI (m : Nat) : Prop := ∀ (w : World) (v : Value) (x : Ex) (st el lo : Int), XBase.In false (fun _ => True) w m v x ->
  Calls prog 111 #[.agg #[.int .i64 st, .int .i64 el, .int .i64 lo], v] w fun e w' => e = .returned (.bool (hs st [x])) /\ Below w.heap.size w w'
theorem has_no {w : World} {o i : Int} {s : ByteArray} {l : List Ex} {a : Option Addr} {cap : Nat} {st el lo : Int} (hf : (o == 6 && (decide (i < 0) || decide (st <= i))) = true) :
  Calls prog 111 #[.agg #[.int .i64 st, .int .i64 el, .int .i64 lo], .agg #[.int .i64 o, .int .i64 i, .string s, .slice a l.length cap]] w fun e w' => e = .returned (.bool false) /\ Below w.heap.size w w' := by
 have b0 : Below w.heap.size w ((w.alloc (.cells #[.int .i64 st, .int .i64 el, .int .i64 lo] 75)).alloc (.cells #[.int .i64 o, .int .i64 i, .string s, .slice a l.length cap] 47)) := ((Below.refl _ w).alloc (Nat.le_refl _) _).alloc (by simp) _
 rw [Bool.and_eq_true] at hf
 obtain ⟨h6, hf⟩ := hf
 cases h1 : decide (i < 0) with
 | true =>
  clear hf
  go_enter func111, ntmps111
  go_wp2_with fail
  go_ret
  exact ⟨rfl, b0⟩
 | false =>
  rw [h1, Bool.false_or] at hf
  go_enter func111, ntmps111
  go_wp2_with fail
  go_ret
  exact ⟨rfl, b0⟩
theorem has_go {w : World} {o i : Int} {s : ByteArray} {l : List Ex} {a : Option Addr} {cap : Nat} {st el lo : Int} (hl : l.length <= 140737488351232) (hcap : l.length <= cap /\ cap <= 9223372036854775807) {m : Nat} (ih : HI m) (hin : XBase.InL false (fun _ => True) w m (.slice a l.length cap) l) (hf : (o == 6 && (decide (i < 0) || decide (st <= i))) = false) :
  Calls prog 111 #[.agg #[.int .i64 st, .int .i64 el, .int .i64 lo], .agg #[.int .i64 o, .int .i64 i, .string s, .slice a l.length cap]] w fun e w' => e = .returned (.bool (hs st l)) /\ Below w.heap.size w w' := by
 obtain ⟨W0, hW0⟩ : ∃ W0, (w.alloc (.cells #[.int .i64 st, .int .i64 el, .int .i64 lo] 75)).alloc (.cells #[.int .i64 o, .int .i64 i, .string s, .slice a l.length cap] 47) = W0 := ⟨_, rfl⟩
 have b0 : Below w.heap.size w W0 := by rw [<- hW0]; exact ((Below.refl _ w).alloc (Nat.le_refl _) _).alloc (by simp) _
 have q0 : W0.heap[w.heap.size]? = some (.cells #[.int .i64 st, .int .i64 el, .int .i64 lo] 75 (0, 0)) := by rw [<- hW0, Below.heap_alloc _ _ _ (by simp)]; exact heap_alloc_new w _
 have q1 : W0.heap[w.heap.size + 1]? = some (.cells #[.int .i64 o, .int .i64 i, .string s, .slice a l.length cap] 47 (0, 0)) := by
  have := heap_alloc_new (w.alloc (.cells #[.int .i64 st, .int .i64 el, .int .i64 lo] 75)) (.cells #[.int .i64 o, .int .i64 i, .string s, .slice a l.length cap] 47)
  rw [World.size_alloc, hW0] at this
  exact this
 obtain ⟨v0, v1, v2, v3⟩ := four_box q1
 have HB0 := hid b0
 have HQ0 := hid q0
 have p0 : W0.cell? ⟨w.heap.size, 0, none⟩ = some (.int .i64 st) := by simp [World.cell?, q0]
 have HIN := hid hin
 have Hih := hid ih
 have hz0 : W0.heap.size = w.heap.size + 2 := by rw [<- hW0]; simp
 obtain ⟨T, hT⟩ : ∃ T, hs st l = T := ⟨_, rfl⟩
 rw [hT]
 have HT := hid hT
 clear q0 q1 b0 hin hT ih
 suffices H : ∀ (x6 x1 x2 : Bool), (o == 6) = x6 -> decide (i < 0) = x1 -> decide (st <= i) = x2 -> (x6 && (x1 || x2)) = false -> Calls prog 111 #[.agg #[.int .i64 st, .int .i64 el, .int .i64 lo], .agg #[.int .i64 o, .int .i64 i, .string s, .slice a l.length cap]] w fun e w' => e = .returned (.bool T) /\ Below w.heap.size w w' from H _ _ _ rfl rfl rfl hf
 clear hf
 intro x6 x1 x2 h6 h1 h2 hx
 cases x6
 all_goals cases x1
 all_goals cases x2
 all_goals first | (exfalso; revert hx; decide) | skip
 all_goals
  clear hx
  go_enter func111, ntmps111
  go_wp2_with fail
  try rw [hW0]
  clear hW0 v0 v1 v2 v3 p0
  go_loopw [25] (fun v1 wr => ∃ (q : Nat), v1 = .int .i64 q /\ q <= l.length /\ Below w.heap.size w wr /\ (w.heap.size + 2 <= wr.heap.size /\ wr.heap[w.heap.size]? = some (.cells #[.int .i64 st, .int .i64 el, .int .i64 lo] 75 (0, 0))) /\ hs st (l.drop q) = T) (fun v1 _ => l.length - (intOf v1).toNat)
  case atStart => exact ⟨0, rfl, by omega, HB0.out, ⟨by omega, HQ0.out⟩, HT.out⟩
  case round =>
   clear HB0 HT HQ0 hz0
   obtain ⟨q, rfl, hq, hB, ⟨hsw, hQ⟩, hM⟩ := hrel
   have HM := hid hM
   have HBR := hid hB
   have HQR := hid hQ
   clear hM hB hQ
   by_cases hlt : q < l.length
   ·have d0 : decide ((q : Int) < (l.length : Int)) = true := by simp; omega
    have hinl := HIN.out.keep (w' := wr) (fun b _ hlt => HBR.out.block b hlt)
    obtain ⟨aa, cc, hsl, -, -, -, -, hLA⟩ := hinl
    cases hsl
    obtain ⟨g, of, u, ha, hSg, hFour, hInq⟩ := XBase.elem_at hLA hlt
    subst ha
    obtain ⟨c0, c1, c2, c3, rfl, d1, d2, d3, d4⟩ := hFour
    obtain ⟨m', a2, cp2, -, rfl, rfl, rfl, rfl, hob, hib, hsb, -⟩ := hInq.kinds
    obtain ⟨y, hy⟩ : ∃ y, l[q] = y := ⟨_, rfl⟩
    rw [hy] at hInq d1 d2 d3 d4
    obtain ⟨W4, hW4⟩ : ∃ W4, wr.alloc (.cells #[.int .i64 y.o, .int .i64 y.i, .string y.s, .slice a2 y.l.length cp2] 47) = W4 := ⟨_, rfl⟩
    have b4 := alB hW4
    have q4 := alG hW4
    obtain ⟨e0', e1', e2', e3'⟩ := four_box q4
    have q5 := (b4.block w.heap.size (by omega)).trans HQR.out
    have f0 : W4.cell? ⟨w.heap.size, 0, none⟩ = some (.int .i64 st) := by simp [World.cell?, q5]
    have f1 : W4.cell? ⟨w.heap.size, 1, none⟩ = some (.int .i64 el) := by simp [World.cell?, q5]
    have f2 : W4.cell? ⟨w.heap.size, 2, none⟩ = some (.int .i64 lo) := by simp [World.cell?, q5]
    have HQ4 := hid q5
    have hs4 : wr.heap.size + 1 = W4.heap.size := by rw [<- hW4]; simp
    have cM := Hih.out W4 _ y st el lo (hInq.below b4)
    have hdrop : l.drop q = y :: l.drop (q + 1) := by rw [<- hy]; exact List.drop_eq_getElem_cons hlt
    have HST : Hid ((hs st [y] && hs st (l.drop (q + 1))) = T) := by
     show _ = _
     rw [<- hs_cons, <- hdrop]
     exact HM.out
    obtain ⟨Z, hZ⟩ : ∃ Z, hs st [y] = Z := ⟨_, rfl⟩
    have HST2 : Hid ((Z && hs st (l.drop (q + 1))) = T) := by rw [<- hZ]; exact HST.out
    rw [hZ] at cM
    have hcapq := hcap.1
    clear hdrop HST hZ hInq q4 q5 hLA HM hob hib hsb
    go_wp2_with fail
    refine cM.mono ?_
    rintro e W5 ⟨rfl, B5⟩
    have HKK := hid (nx (nx HBR.out b4) B5)
    have HQ5 := hid ((B5.block w.heap.size (by omega)).trans HQ4.out)
    have hs5 := B5.size
    clear cM B5 b4 hW4 d1 d2 d3 d4 e0' e1' e2' e3' HBR HQ4 HQR f0 f1 f2
    cases Z with
    | true =>
     go_wp2_with fail
     go_roundw
     case rel => exact ⟨q + 1, by go_num, by omega, HKK.out, ⟨by omega, HQ5.out⟩, by have := HST2.out; rw [Bool.true_and] at this; exact this⟩
     case measure => simp only [intOf]; omega
    | false =>
     have hT : T = false := by have := HST2.out; rw [Bool.false_and] at this; exact this.symm
     subst hT
     go_wp2_with fail
     go_ret
     exact ⟨rfl, HKK.out⟩
   ·have d0 : decide ((q : Int) < (l.length : Int)) = false := by simp; omega
    have hT : true = T := by
     have := HM.out
     rw [List.drop_eq_nil_of_le (by omega), hs_nil] at this
     exact this
    subst hT
    go_wp2_with fail
    go_ret
    exact ⟨rfl, HBR.out⟩
theorem has_all : ∀ m, HI m
 | 0 => by
  intro w v x st el lo h
  rw [XBase.In] at h
  exact h.elim
 | m + 1 => by
  intro w v x st el lo h
  obtain ⟨o, i, s, l⟩ := x
  rw [XBase.in_iff] at h
  obtain ⟨lv, rfl, ho, hi, hs', hl⟩ := h
  have hl0 := hl
  obtain ⟨a, cap, rfl, h1, h2, h3, -, -⟩ := hl
  rw [hs_one]
  cases hf : (o == 6 && (decide (i < 0) || decide (st <= i))) with
  | true => exact has_no hf
  | false => exact has_go (by omega) ⟨h1, h2⟩ (has_all m) hl0 hf
end Go.Proofs.YtiijfmdfccdagaaGreatDoor.KHs
