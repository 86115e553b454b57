/- Copies of a program's parts (stencillaw0): CopyCodes, CopyOp, CopyOps. -/
import Derived.Test.YtgknjjaemjkloaaBCp
import Derived.Test.YtgknjjaemjkloaaBVf
import Derived.Test.YtgknjjaemjkloaaYRg
namespace Go.Proofs.Ytgknjjaemjkloaa.BCq
open Go.RowKit Go.Proofs.Ytgknjjaemjkloaa.YRr Go.Proofs.Ytgknjjaemjkloaa.YRs Go.Proofs.Ytgknjjaemjkloaa.YRl Go.Proofs.Ytgknjjaemjkloaa.BBx Go.Proofs.Ytgknjjaemjkloaa.BIx Go.Proofs.Ytgknjjaemjkloaa.BCp
open Go.Proofs.Ytgknjjaemjkloaa.YPl (Oq Bk Pg)
open Go.Proofs.Ytgknjjaemjkloaa.BSf (hid)
open Go.Proofs.Ytgknjjaemjkloaa.BVf (cell_set)
open Go.Proofs.Ytgknjjaemjkloaa.TBase (T Keep heap_alloc_new frozen_box)
open Go.Proofs.Ytgknjjaemjkloaa.CPu (Ins)
set_option linter.unusedVariables false

set_option maxRecDepth 20000 in
set_option maxHeartbeats 3200000 in
theorem copyC_c {S : Nat → Prop} {w : World} {v : Value} {l : List (List Ins)} (h : RrS 1 (LyCs S) S w v l) (hS : ∀ g, S g → g < w.heap.size) (hpos : 0 < w.heap.size) (hlen : l.length ≤ 90000) (hin : ∀ L ∈ l, (fun L : List Ins => L.length ≤ 90000) L) :
    Calls Try.prog 33 #[v] w fun e w' => ∃ u, e = .returned u ∧ RowI HdC 50 1 w.heap.size w' u l ∧ Below w.heap.size w w' := by
  obtain ⟨i0, hi, hz0, hz1, hz2⟩ := info_parts YRf.info_c
  have HIN := hid h
  have HS := hid hS
  obtain ⟨a, cap, rfl, hlc, hcm, h47, hnil, -⟩ := h
  clear hS hnil
  go_enter Try.func33, Try.ntmps33
  go_wp2_with fail
  go_loopw [3, 4] (fun out i wr => ∃ (q : Nat) (xs : List (List Ins)), q ≤ l.length ∧ i = .int .i64 q ∧ xs.length = q ∧ Hid (xs = l.take q ∧ Below w.heap.size w wr ∧ RowI HdC 50 1 w.heap.size wr out xs)) (fun _ i _ => l.length - (intOf i).toNat)
  case atStart => exact ⟨0, [], by omega, rfl, rfl, ⟨by simp, Below.refl _ _, RowI.nil _ _ _ _ _⟩⟩
  case round =>
    obtain ⟨q, xs, hq, rfl, hxl, HG⟩ := hrel
    have hsw := HG.out.2.1.size
    by_cases hlt : q < l.length
    · have d0 : decide ((q : Int) < (l.length : Int)) = true := by simp; omega
      have i00 : (0 : Int) ≤ (q : Int) := by omega
      have i01 : (q : Int) < (l.length : Int) := by omega
      obtain ⟨g, o, cap', hsl, hl, hm, hg, u, ku, hr⟩ := RrS.at HIN.out hlt
      cases hsl
      have ku := below_cell (HS.out g hg) ku HG.out.2.1
      rw [Nat.mul_one] at ku
      have kp : Keep S w wr := fun b hb' hl => HG.out.2.1.block b (HS.out b hb')
      have hr := hr.keep (fun _ h => h) fun g o x _ hg h => kN kp hg h
      have hll := hin l[q] (List.getElem_mem hlt)
      have cI := copyN_c hr (fun g hg => Nat.lt_of_lt_of_le (HS.out g hg) hsw) hll
      obtain ⟨ua, uc, rfl, -⟩ := hr
      have HTK := hid (List.take_succ_eq_append_getElem hlt)
      generalize l[q] = L at *
      clear kp
      go_wp2_with fail
      refine cI.mono ?_
      rintro e W2 ⟨u2, rfl, hrr, b2⟩
      have HRR := hid hrr
      obtain ⟨ra, rc, rfl, -⟩ := hrr
      obtain ⟨W3, hW3⟩ : ∃ W, W2.alloc (.cells #[.slice ra L.length rc] 50) = W := ⟨_, rfl⟩
      have b3 : Below W2.heap.size W2 W3 := by rw [← hW3]; exact (Below.refl _ W2).alloc (Nat.le_refl _) _
      have n3 : W3.heap[W2.heap.size]? = some (.cells ([.slice ra L.length rc] : List Value).toArray 50 (0, 0)) := by rw [← hW3]; exact heap_alloc_new W2 _
      obtain ⟨css, k1, k2, k3, k4, k5⟩ := RowI.push sC HG.out.2.2 hpos hsw (Gx.of (R := 0) b2) (c := [.slice ra L.length rc]) (x := L) ⟨_, rfl, HRR.out⟩ b3
      have HP := hid (And.intro k2 (And.intro k3 (And.intro k4 k5)))
      have HB3 := hid (HG.out.2.1.trans ((b2.mono hsw).trans (b3.mono (by have := b2.size; omega))) : Below w.heap.size w W3)
      have hsz := HB3.out.size
      have hcl := src_of n3
      have hxq := HG.out.1
      have HXQ := hid hxq
      have hl3 := k1.1
      clear b2 b3 n3 k2 k3 k4 k5 cI hxq
      go_wp2_with (first
        | (at_builtin; (try rw [hW3]); refine YAp.app_seen rfl _ _ 23 rfl w.heap.size 50 i0 (.slice none 0 0) 1 24 Try.underlying23 hi hz0 hz1 hz2 rfl (by decide) _ _ _ rfl k1 _ 1 _ [.slice ra L.length rc] rfl hcl rfl (by intro u hu; simp only [List.mem_cons, List.not_mem_nil, or_false] at hu; rcases hu with rfl; rfl) (by unfold maxLen; omega) (by omega) hsz ?_))
      intro v' W4 hown hgrow hnb
      have HF : Hid (xs ++ [L] = l.take (q + 1) ∧ Below w.heap.size w W4 ∧ RowI HdC 50 1 w.heap.size W4 v' (xs ++ [L])) := ⟨by rw [HTK.out, HXQ.out], HB3.out.grown hgrow (by omega) (fun r hr => (World.ownsRow.lt k1 r hr).1), RowI.snoc sC k1 HP.out.1 HP.out.2.1 HP.out.2.2.1 HP.out.2.2.2 rfl hgrow (by rw [hxl]; exact hown) hnb⟩
      clear hown hgrow hnb HP k1 hcl HB3 hsz
      go_wp2_with fail
      go_roundw
      case rel => exact ⟨q + 1, xs ++ [L], by omega, by go_num, by simp [hxl], HF⟩
      case measure => simp only [intOf]; omega
    · have hqe : q = l.length := by omega
      subst hqe
      have d0 : decide ((l.length : Int) < (l.length : Int)) = false := by simp
      obtain ⟨va, vm, vc, rfl⟩ := RowI.slice HG.out.2.2
      clear hlt hq
      go_wp2_with fail
      go_ret
      have hx := HG.out.1
      rw [List.take_length] at hx
      have hR := HG.out.2.2
      rw [hx] at hR
      exact ⟨_, rfl, hR, HG.out.2.1⟩
set_option maxRecDepth 20000 in
set_option maxHeartbeats 3200000 in
theorem copyO1_c {S : Nat → Prop} {w : World} {o : Oq} {la : Option Addr} {lc : Nat} (hl : RrS 1 LyI S w (.slice la o.l.length lc) o.l) (hS : ∀ g, S g → g < w.heap.size) (hn : o.l.length ≤ 90000) :
    Calls Try.prog 143 #[.agg #[.int .i64 o.k, .int .i64 o.a, .int .i64 o.b, .int .i64 o.c, .slice la o.l.length lc]] w fun e w' => ∃ ua uc, e = .returned (.agg #[.int .i64 o.k, .int .i64 o.a, .int .i64 o.b, .int .i64 o.c, .slice ua o.l.length uc]) ∧ RrS 1 LyI (Nw w w') w' (.slice ua o.l.length uc) o.l ∧ Below w.heap.size w w' := by
  obtain ⟨W0, hW0⟩ : ∃ W, (w.alloc (.cells #[.int .i64 o.k, .int .i64 o.a, .int .i64 o.b, .int .i64 o.c, .slice la o.l.length lc] 46)).alloc (.cells #[.int .i64 0, .int .i64 0, .int .i64 0, .int .i64 0, .slice none 0 0] 46) = W := ⟨_, rfl⟩
  have b0 : Below w.heap.size w W0 := by rw [← hW0]; exact ((Below.refl _ w).alloc (Nat.le_refl _) _).alloc (by simp) _
  have s0 : w.heap.size + 2 ≤ W0.heap.size := by rw [← hW0]; simp
  have x0 : W0.heap[w.heap.size]? = some (.cells #[.int .i64 o.k, .int .i64 o.a, .int .i64 o.b, .int .i64 o.c, .slice la o.l.length lc] 46 (0, 0)) := by rw [← hW0, Below.heap_alloc _ _ _ (by simp), heap_alloc_new]
  have x1 : W0.heap[w.heap.size + 1]? = some (.cells #[.int .i64 0, .int .i64 0, .int .i64 0, .int .i64 0, .slice none 0 0] 46 (0, 0)) := by
    have := heap_alloc_new (w.alloc (.cells #[.int .i64 o.k, .int .i64 o.a, .int .i64 o.b, .int .i64 o.c, .slice la o.l.length lc] 46)) (.cells #[.int .i64 0, .int .i64 0, .int .i64 0, .int .i64 0, .slice none 0 0] 46)
    rwa [hW0, World.size_alloc] at this
  have c1 := copyI_c (hl.keep (S' := S) (fun _ h => h) fun g o x _ hg h => kI (fun b hb' hl => b0.block b (hS b hb')) hg h) hn
  have B0 := hid b0
  have X0 := hid (And.intro x0 x1)
  have p4 := cell_of x0 4 _ rfl
  clear hl b0 x0 x1
  go_enter Try.func143, Try.ntmps143
  go_wp2_with fail
  refine c1.mono ?_
  rintro e W1 ⟨u, rfl, hr, b1⟩
  have HR := hid hr
  obtain ⟨ua, uc, rfl, -⟩ := hr
  have y0 := (b1.block w.heap.size (by omega)).trans X0.out.1
  have y1 := (b1.block (w.heap.size + 1) (by omega)).trans X0.out.2
  have s1 := b1.size
  have B1 := hid (B0.out.trans (b1.mono (by omega)) : Below w.heap.size w W1)
  have f4 := frozen_box y0 4
  have q4 := cell_of y0 4 _ rfl
  obtain ⟨W2, hW2⟩ : ∃ W, W1.setCell ⟨w.heap.size, 4, none⟩ (.slice ua o.l.length uc) = W := ⟨_, rfl⟩
  have z0 : W2.heap[w.heap.size]? = some (.cells #[.int .i64 o.k, .int .i64 o.a, .int .i64 o.b, .int .i64 o.c, .slice ua o.l.length uc] 46 (0, 0)) := by rw [← hW2]; exact cell_set y0 4 _
  have z1 : W2.heap[w.heap.size + 1]? = some (.cells #[.int .i64 0, .int .i64 0, .int .i64 0, .int .i64 0, .slice none 0 0] 46 (0, 0)) := by rw [← hW2, Below.heap_setCell _ _ _ _ (by simp)]; exact y1
  have s2 : W2.heap.size = W1.heap.size := by rw [← hW2]; simp [World.setCell]
  have HW2 := hid hW2
  have Z1 := hid z1
  have k0 := cell_of z0 0 _ rfl
  have k1 := cell_of z0 1 _ rfl
  have k2 := cell_of z0 2 _ rfl
  have k3 := cell_of z0 3 _ rfl
  have k4 := cell_of z0 4 _ rfl
  have e0 := cell_of z1 0 _ rfl
  have e1 := cell_of z1 1 _ rfl
  have e2 := cell_of z1 2 _ rfl
  have e3 := cell_of z1 3 _ rfl
  have e4 := cell_of z1 4 _ rfl
  have g0 := frozen_box z1 0
  have g1 := frozen_box z1 1
  have g2 := frozen_box z1 2
  have g3 := frozen_box z1 3
  have g4 := frozen_box z1 4
  have S2 := hid s2
  clear c1 y0 y1 b1 z0 z1 p4 s2
  go_wp2_with fail
  obtain ⟨W3, hW3⟩ : ∃ W, ((((W2.setCell ⟨w.heap.size + 1, 0, none⟩ (.int .i64 o.k)).setCell ⟨w.heap.size + 1, 1, none⟩ (.int .i64 o.a)).setCell ⟨w.heap.size + 1, 2, none⟩ (.int .i64 o.b)).setCell ⟨w.heap.size + 1, 3, none⟩ (.int .i64 o.c)).setCell ⟨w.heap.size + 1, 4, none⟩ (.slice ua o.l.length uc) = W := ⟨_, rfl⟩
  try rw [hW3]
  obtain ⟨n3, r3⟩ := YRg.set5 _ _ _ _ _ Z1.out hW3
  refine bodyPost_ret (results_cell_row rfl _ W3 (w.heap.size + 1) 46 _ (0, 0) _ rfl n3 Try.underlying46 rfl (by kernel_rfl)) rfl ?_
  have s3 := r3.size
  have s2 := S2.out
  have kb : ∀ b, b ≠ w.heap.size → b ≠ w.heap.size + 1 → b < W1.heap.size → W3.heap[b]? = W1.heap[b]? := fun b h1 h2 h3 => (r3.block b (by omega) (fun e => by cases e; exact h2 rfl)).trans (by rw [← HW2.out]; exact Below.heap_setCell _ _ _ _ h1)
  refine ⟨ua, uc, rfl, HR.out.keep (fun b hb => ⟨by have := hb.1; omega, by have := hb.2; omega⟩) (fun g o x _ hg h => kI (S := Nw W0 W1) (fun b hb hl => kb b (by have := hb.1; omega) (by have := hb.1; omega) hb.2) hg h), ?_⟩
  have hB2 : Below w.heap.size w W2 := by rw [← HW2.out]; exact B1.out.setCell (p := ⟨w.heap.size, 4, none⟩) (Nat.le_refl _) _
  exact hB2.grown r3 (by omega) (fun r hr => by cases hr; omega)
set_option maxRecDepth 20000 in
set_option maxHeartbeats 3200000 in
theorem copyO_c {S : Nat → Prop} {w : World} {v : Value} {l : List (Oq)} (h : RrS 5 (LyOs S) S w v l) (hS : ∀ g, S g → g < w.heap.size) (hpos : 0 < w.heap.size) (hlen : l.length ≤ 90000) (hin : ∀ L ∈ l, (fun o : Oq => o.l.length ≤ 90000) L) :
    Calls Try.prog 108 #[v] w fun e w' => ∃ u, e = .returned u ∧ RowI HdO 46 5 w.heap.size w' u l ∧ Below w.heap.size w w' := by
  obtain ⟨i0, hi, hz0, hz1, hz2⟩ := info_parts YRf.info_o
  have HIN := hid h
  have HS := hid hS
  obtain ⟨a, cap, rfl, hlc, hcm, h47, hnil, -⟩ := h
  clear hS hnil
  go_enter Try.func108, Try.ntmps108
  go_wp2_with fail
  go_loopw [3, 4] (fun out i wr => ∃ (q : Nat) (xs : List (Oq)), q ≤ l.length ∧ i = .int .i64 q ∧ xs.length = q ∧ Hid (xs = l.take q ∧ Below w.heap.size w wr ∧ RowI HdO 46 5 w.heap.size wr out xs)) (fun _ i _ => l.length - (intOf i).toNat)
  case atStart => exact ⟨0, [], by omega, rfl, rfl, ⟨by simp, Below.refl _ _, RowI.nil _ _ _ _ _⟩⟩
  case round =>
    obtain ⟨q, xs, hq, rfl, hxl, HG⟩ := hrel
    have hsw := HG.out.2.1.size
    by_cases hlt : q < l.length
    · have d0 : decide ((q : Int) < (l.length : Int)) = true := by simp; omega
      have i00 : (0 : Int) ≤ (q : Int) := by omega
      have i01 : (q : Int) < (l.length : Int) := by omega
      obtain ⟨g, o, cap', hsl, hl, hm, hg, lv, y0, y1, y2, y3, y4, hi4, hr⟩ := RrS.at HIN.out hlt
      cases hsl
      have y0 := below_cell (HS.out g hg) y0 HG.out.2.1
      have y1 := below_cell (HS.out g hg) y1 HG.out.2.1
      have y2 := below_cell (HS.out g hg) y2 HG.out.2.1
      have y3 := below_cell (HS.out g hg) y3 HG.out.2.1
      have y4 := below_cell (HS.out g hg) y4 HG.out.2.1
      have kp : Keep S w wr := fun b hb' hl => HG.out.2.1.block b (HS.out b hb')
      have hr := hr.keep (fun _ h => h) fun g o x _ hg h => kI kp hg h
      have hll := hin l[q] (List.getElem_mem hlt)
      obtain ⟨ua, uc, rfl, -⟩ : ∃ a c, lv = .slice a l[q].l.length c ∧ True := by obtain ⟨a, c, e, -⟩ := hr; exact ⟨a, c, e, trivial⟩
      have cI := copyO1_c hr (fun g hg => Nat.lt_of_lt_of_le (HS.out g hg) hsw) hll
      have HI := hid hi4
      have HTK := hid (List.take_succ_eq_append_getElem hlt)
      generalize l[q] = L at *
      clear hr hi4 kp
      go_wp2_with fail
      refine cI.mono ?_
      rintro e W2 ⟨ra, rc, rfl, hrr, b2⟩
      have HRR := hid hrr
      obtain ⟨W3, hW3⟩ : ∃ W, W2.alloc (.cells #[.int .i64 L.k, .int .i64 L.a, .int .i64 L.b, .int .i64 L.c, .slice ra L.l.length rc] 46) = W := ⟨_, rfl⟩
      have b3 : Below W2.heap.size W2 W3 := by rw [← hW3]; exact (Below.refl _ W2).alloc (Nat.le_refl _) _
      have n3 : W3.heap[W2.heap.size]? = some (.cells ([.int .i64 L.k, .int .i64 L.a, .int .i64 L.b, .int .i64 L.c, .slice ra L.l.length rc] : List Value).toArray 46 (0, 0)) := by rw [← hW3]; exact heap_alloc_new W2 _
      obtain ⟨css, k1, k2, k3, k4, k5⟩ := RowI.push sO HG.out.2.2 hpos hsw (Gx.of (R := 0) b2) (c := [.int .i64 L.k, .int .i64 L.a, .int .i64 L.b, .int .i64 L.c, .slice ra L.l.length rc]) (x := L) ⟨_, rfl, HI.out, HRR.out⟩ b3
      have HP := hid (And.intro k2 (And.intro k3 (And.intro k4 k5)))
      have HB3 := hid (HG.out.2.1.trans ((b2.mono hsw).trans (b3.mono (by have := b2.size; omega))) : Below w.heap.size w W3)
      have hsz := HB3.out.size
      have hcl := src_of n3
      have hxq := HG.out.1
      have HXQ := hid hxq
      have hl3 := k1.1
      clear hrr b2 b3 n3 k2 k3 k4 k5 cI hxq
      go_wp2_with (first
        | (at_builtin; (try rw [hW3]); refine YAp.app_seen rfl _ _ 42 rfl w.heap.size 46 i0 (.agg #[.int .i64 0, .int .i64 0, .int .i64 0, .int .i64 0, .slice none 0 0]) 5 56 Try.underlying42 hi hz0 hz1 hz2 rfl (by decide) _ _ _ rfl k1 _ 1 _ [.int .i64 L.k, .int .i64 L.a, .int .i64 L.b, .int .i64 L.c, .slice ra L.l.length rc] rfl hcl rfl (by intro u hu; simp only [List.mem_cons, List.not_mem_nil, or_false] at hu; rcases hu with rfl | rfl | rfl | rfl | rfl <;> rfl) (by unfold maxLen; omega) (by omega) hsz ?_))
      intro v' W4 hown hgrow hnb
      have HF : Hid (xs ++ [L] = l.take (q + 1) ∧ Below w.heap.size w W4 ∧ RowI HdO 46 5 w.heap.size W4 v' (xs ++ [L])) := ⟨by rw [HTK.out, HXQ.out], HB3.out.grown hgrow (by omega) (fun r hr => (World.ownsRow.lt k1 r hr).1), RowI.snoc sO k1 HP.out.1 HP.out.2.1 HP.out.2.2.1 HP.out.2.2.2 rfl hgrow (by rw [hxl]; exact hown) hnb⟩
      clear hown hgrow hnb HP k1 hcl HB3 hsz
      go_wp2_with fail
      go_roundw
      case rel => exact ⟨q + 1, xs ++ [L], by omega, by go_num, by simp [hxl], HF⟩
      case measure => simp only [intOf]; omega
    · have hqe : q = l.length := by omega
      subst hqe
      have d0 : decide ((l.length : Int) < (l.length : Int)) = false := by simp
      obtain ⟨va, vm, vc, rfl⟩ := RowI.slice HG.out.2.2
      clear hlt hq
      go_wp2_with fail
      go_ret
      have hx := HG.out.1
      rw [List.take_length] at hx
      have hR := HG.out.2.2
      rw [hx] at hR
      exact ⟨_, rfl, hR, HG.out.2.1⟩
end Go.Proofs.Ytgknjjaemjkloaa.BCq
