/- Copies of programs (stencillaw0): CopyProgram. -/
import Derived.Test.YtgknjjaemjkloaaBCq
import Derived.Test.YtgknjjaemjkloaaBCu
import Derived.Test.YtgknjjaemjkloaaBCg
import Derived.Deep.RegionHeld3
namespace Go.Proofs.Ytgknjjaemjkloaa.BCr
open Go.RowKit Go.Proofs.Ytgknjjaemjkloaa.YRr Go.Proofs.Ytgknjjaemjkloaa.YRs Go.Proofs.Ytgknjjaemjkloaa.YRl Go.Proofs.Ytgknjjaemjkloaa.BBx Go.Proofs.Ytgknjjaemjkloaa.BIx Go.Proofs.Ytgknjjaemjkloaa.BCp Go.Proofs.Ytgknjjaemjkloaa.BCq
open Go.Proofs.Ytgknjjaemjkloaa.YPl (Oq Bk Pg)
open Go.Proofs.Ytgknjjaemjkloaa.BSf (hid)
open Go.Proofs.Ytgknjjaemjkloaa.BVf (cell_set)
open Go.Proofs.Ytgknjjaemjkloaa.TBase (T Keep heap_alloc_new frozen_box)
open Go.Proofs.Ytgknjjaemjkloaa.CPu (Ins)
set_option linter.unusedVariables false

set_option maxRecDepth 20000 in
set_option maxHeartbeats 3200000 in
theorem copyB1_c {S : Nat → Prop} {w : World} {k : Bk} {oa ua : Option Addr} {oc uc : Nat} (ho : RrS 5 (LyOs S) S w (.slice oa k.o.length oc) k.o) (hu : RrS 1 LyI S w (.slice ua k.u.length uc) k.u) (hS : ∀ g, S g → g < w.heap.size) (hpos : 0 < w.heap.size) (n1 : k.o.length ≤ 90000) (n2 : k.u.length ≤ 90000) (n3 : ∀ o ∈ k.o, o.l.length ≤ 90000) :
    Calls Try.prog 68 #[.agg #[.int .i64 k.d, .slice oa k.o.length oc, .slice ua k.u.length uc]] w fun e w' => ∃ ra rc sa sc, e = .returned (.agg #[.int .i64 k.d, .slice ra k.o.length rc, .slice sa k.u.length sc]) ∧ RrS 5 (LyOs (Nw w w')) (Nw w w') w' (.slice ra k.o.length rc) k.o ∧ RrS 1 LyI (Nw w w') w' (.slice sa k.u.length sc) k.u ∧ Below w.heap.size w w' := by
  obtain ⟨W0, hW0⟩ : ∃ W, (w.alloc (.cells #[.int .i64 k.d, .slice oa k.o.length oc, .slice ua k.u.length uc] 44)).alloc (.cells #[.int .i64 0, .slice none 0 0, .slice none 0 0] 44) = W := ⟨_, rfl⟩
  have b0 : Below w.heap.size w W0 := by rw [← hW0]; exact ((Below.refl _ w).alloc (Nat.le_refl _) _).alloc (by simp) _
  have s0 : w.heap.size + 2 ≤ W0.heap.size := by rw [← hW0]; simp
  have x0 : W0.heap[w.heap.size]? = some (.cells #[.int .i64 k.d, .slice oa k.o.length oc, .slice ua k.u.length uc] 44 (0, 0)) := by rw [← hW0, Below.heap_alloc _ _ _ (by simp), heap_alloc_new]
  have x1 : W0.heap[w.heap.size + 1]? = some (.cells #[.int .i64 0, .slice none 0 0, .slice none 0 0] 44 (0, 0)) := by
    have := heap_alloc_new (w.alloc (.cells #[.int .i64 k.d, .slice oa k.o.length oc, .slice ua k.u.length uc] 44)) (.cells #[.int .i64 0, .slice none 0 0, .slice none 0 0] 44)
    rwa [hW0, World.size_alloc] at this
  have kp : Keep S w W0 := fun b hb' hl => b0.block b (hS b hb')
  have c1 := copyO_c (ho.keep (S' := S) (fun _ h => h) fun g o x _ hg h => kO kp (fun _ h => h) hg h) (fun g hg => by have := hS g hg; omega) (by omega) n1 n3
  have B0 := hid b0
  have X0 := hid (And.intro x0 x1)
  have HU := hid hu
  have HS := hid hS
  have p1 := cell_of x0 1 _ rfl
  clear ho hu b0 x0 x1 kp hS
  go_enter Try.func68, Try.ntmps68
  go_wp2_with fail
  refine c1.mono ?_
  rintro e W1 ⟨u, rfl, hr, b1⟩
  have hrr := RowI.rr hr (by omega) (fun b h1 h2 => (⟨h1, h2⟩ : Nw W0 W1 b)) (YRf.ly_o (fun b hb => ⟨hb.1, hb.2.1⟩))
  have HR := hid hrr
  obtain ⟨ra, rc, rfl, -⟩ := hrr
  have y0 := (b1.block w.heap.size (by omega)).trans X0.out.1
  have y1 := (b1.block (w.heap.size + 1) (by omega)).trans X0.out.2
  have s1 := b1.size
  have B1 := hid (B0.out.trans (b1.mono (by omega)) : Below w.heap.size w W1)
  have f1 := frozen_box y0 1
  have q1 := cell_of y0 1 _ rfl
  obtain ⟨W2, hW2⟩ : ∃ W, W1.setCell ⟨w.heap.size, 1, none⟩ (.slice ra k.o.length rc) = W := ⟨_, rfl⟩
  have z0 : W2.heap[w.heap.size]? = some (.cells #[.int .i64 k.d, .slice ra k.o.length rc, .slice ua k.u.length uc] 44 (0, 0)) := by rw [← hW2]; exact cell_set y0 1 _
  have z1 : W2.heap[w.heap.size + 1]? = some (.cells #[.int .i64 0, .slice none 0 0, .slice none 0 0] 44 (0, 0)) := by rw [← hW2, Below.heap_setCell _ _ _ _ (by simp)]; exact y1
  have s2 : W2.heap.size = W1.heap.size := by rw [← hW2]; simp [World.setCell]
  have B2 := hid (show Below w.heap.size w W2 by rw [← hW2]; exact B1.out.setCell (p := ⟨w.heap.size, 1, none⟩) (Nat.le_refl _) _)
  have K2 := hid (show ∀ b, b ≠ w.heap.size → W2.heap[b]? = W1.heap[b]? from fun b hb => by rw [← hW2]; exact Below.heap_setCell _ _ _ _ hb)
  have c2 := copyI_c (HU.out.keep (S' := S) (w' := W2) (fun _ h => h) fun g o x _ hg h => kI (fun b hb' hl => B2.out.block b (HS.out b hb')) hg h) n2
  have Z2 := hid (And.intro z0 z1)
  have p2 := cell_of z0 2 _ rfl
  have s2' : W1.heap.size ≤ W2.heap.size := by omega
  clear c1 y0 y1 b1 z0 z1 p1 hr s2
  go_wp2_with fail
  refine c2.mono ?_
  rintro e W3 ⟨u, rfl, hr, b3⟩
  have HQ := hid hr
  obtain ⟨sa, sc, rfl, -⟩ := hr
  have y0 := (b3.block w.heap.size (by omega)).trans Z2.out.1
  have y1 := (b3.block (w.heap.size + 1) (by omega)).trans Z2.out.2
  have s3 := b3.size
  have B3 := hid (B2.out.trans (b3.mono (by omega)) : Below w.heap.size w W3)
  have HB3 := hid b3
  have f2 := frozen_box y0 2
  have q2 := cell_of y0 2 _ rfl
  obtain ⟨W4, hW4⟩ : ∃ W, W3.setCell ⟨w.heap.size, 2, none⟩ (.slice sa k.u.length sc) = W := ⟨_, rfl⟩
  have z0 : W4.heap[w.heap.size]? = some (.cells #[.int .i64 k.d, .slice ra k.o.length rc, .slice sa k.u.length sc] 44 (0, 0)) := by rw [← hW4]; exact cell_set y0 2 _
  have z1 : W4.heap[w.heap.size + 1]? = some (.cells #[.int .i64 0, .slice none 0 0, .slice none 0 0] 44 (0, 0)) := by rw [← hW4, Below.heap_setCell _ _ _ _ (by simp)]; exact y1
  have s4 : W4.heap.size = W3.heap.size := by rw [← hW4]; simp [World.setCell]
  have S4 := hid s4
  have HW4 := hid hW4
  have Z1 := hid z1
  have k0 := cell_of z0 0 _ rfl
  have k1 := cell_of z0 1 _ rfl
  have k2 := cell_of z0 2 _ rfl
  have e0 := cell_of z1 0 _ rfl
  have e1 := cell_of z1 1 _ rfl
  have e2 := cell_of z1 2 _ rfl
  have g0 := frozen_box z1 0
  have g1 := frozen_box z1 1
  have g2 := frozen_box z1 2
  clear c2 y0 y1 b3 z0 z1 p2 s4 f1 q1 hW2
  go_wp2_with fail
  obtain ⟨W5, hW5⟩ : ∃ W, ((W4.setCell ⟨w.heap.size + 1, 0, none⟩ (.int .i64 k.d)).setCell ⟨w.heap.size + 1, 1, none⟩ (.slice ra k.o.length rc)).setCell ⟨w.heap.size + 1, 2, none⟩ (.slice sa k.u.length sc) = W := ⟨_, rfl⟩
  try rw [hW5]
  obtain ⟨m5, r5⟩ := YRg.set3 _ _ _ Z1.out hW5
  refine bodyPost_ret (results_cell_row rfl _ W5 (w.heap.size + 1) 44 _ (0, 0) _ rfl m5 Try.underlying44 rfl (by kernel_rfl)) rfl ?_
  have s5 := r5.size
  have s4 := S4.out
  have kb3 : ∀ b, b ≠ w.heap.size → b ≠ w.heap.size + 1 → b < W3.heap.size → W5.heap[b]? = W3.heap[b]? := fun b h1 h2 h3 => (r5.block b (by omega) (fun e => by cases e; exact h2 rfl)).trans (by rw [← HW4.out]; exact Below.heap_setCell _ _ _ _ h1)
  have kb1 : ∀ b, b ≠ w.heap.size → b ≠ w.heap.size + 1 → b < W1.heap.size → W5.heap[b]? = W1.heap[b]? := fun b h1 h2 h3 => (kb3 b h1 h2 (by omega)).trans ((HB3.out.block b (by omega)).trans (K2.out b h1))
  refine ⟨ra, rc, sa, sc, rfl, HR.out.keep (fun b hb => ⟨by have := hb.1; omega, by have := hb.2; omega⟩) (fun g o x _ hg h => kO (S := Nw W0 W1) (fun b hb hl => kb1 b (by have := hb.1; omega) (by have := hb.1; omega) hb.2) (fun b hb => ⟨by have := hb.1; omega, by have := hb.2; omega⟩) hg h), HQ.out.keep (fun b hb => ⟨by have := hb.1; omega, by have := hb.2; omega⟩) (fun g o x _ hg h => kI (S := Nw W2 W3) (fun b hb hl => kb3 b (by have := hb.1; omega) (by have := hb.1; omega) hb.2) hg h), ?_⟩
  have hB4 : Below w.heap.size w W4 := by rw [← HW4.out]; exact B3.out.setCell (p := ⟨w.heap.size, 2, none⟩) (Nat.le_refl _) _
  exact hB4.grown r5 (by omega) (fun r hr => by cases hr; omega)
set_option maxRecDepth 20000 in
set_option maxHeartbeats 3200000 in
theorem copyB_c {S : Nat → Prop} {w : World} {v : Value} {l : List (Bk)} (h : RrS 3 (LyBs S) S w v l) (hS : ∀ g, S g → g < w.heap.size) (hpos : 0 < w.heap.size) (hlen : l.length ≤ 90000) (hin : ∀ L ∈ l, (fun k : Bk => k.o.length ≤ 90000 ∧ k.u.length ≤ 90000 ∧ ∀ o ∈ k.o, o.l.length ≤ 90000) L) :
    Calls Try.prog 35 #[v] w fun e w' => ∃ u, e = .returned u ∧ RowI HdB 44 3 w.heap.size w' u l ∧ Below w.heap.size w w' := by
  obtain ⟨i0, hi, hz0, hz1, hz2⟩ := info_parts YRf.info_b
  have HIN := hid h
  have HS := hid hS
  obtain ⟨a, cap, rfl, hlc, hcm, h47, hnil, -⟩ := h
  clear hS hnil
  go_enter Try.func35, Try.ntmps35
  go_wp2_with fail
  go_loopw [3, 4] (fun out i wr => ∃ (q : Nat) (xs : List (Bk)), q ≤ l.length ∧ i = .int .i64 q ∧ xs.length = q ∧ Hid (xs = l.take q ∧ Below w.heap.size w wr ∧ RowI HdB 44 3 w.heap.size wr out xs)) (fun _ i _ => l.length - (intOf i).toNat)
  case atStart => exact ⟨0, [], by omega, rfl, rfl, ⟨by simp, Below.refl _ _, RowI.nil _ _ _ _ _⟩⟩
  case round =>
    obtain ⟨q, xs, hq, rfl, hxl, HG⟩ := hrel
    have hsw := HG.out.2.1.size
    by_cases hlt : q < l.length
    · have d0 : decide ((q : Int) < (l.length : Int)) = true := by simp; omega
      have i00 : (0 : Int) ≤ (q : Int) := by omega
      have i01 : (q : Int) < (l.length : Int) := by omega
      obtain ⟨g, o, cap', hsl, hl, hm, hg, ov, uv, y0, y1, y2, hi1, hr, hr2⟩ := RrS.at HIN.out hlt
      cases hsl
      have y0 := below_cell (HS.out g hg) y0 HG.out.2.1
      have y1 := below_cell (HS.out g hg) y1 HG.out.2.1
      have y2 := below_cell (HS.out g hg) y2 HG.out.2.1
      have kp : Keep S w wr := fun b hb' hl => HG.out.2.1.block b (HS.out b hb')
      have hr := hr.keep (S' := S) (fun _ h => h) fun g o x _ hg h => kO kp (fun _ h => h) hg h
      have hr2 := hr2.keep (S' := S) (fun _ h => h) fun g o x _ hg h => kI kp hg h
      have hll := hin l[q] (List.getElem_mem hlt)
      obtain ⟨ua, uc, rfl, -⟩ : ∃ a c, ov = .slice a l[q].o.length c ∧ True := by obtain ⟨a, c, e, -⟩ := hr; exact ⟨a, c, e, trivial⟩
      obtain ⟨ub, ud, rfl, -⟩ : ∃ a c, uv = .slice a l[q].u.length c ∧ True := by obtain ⟨a, c, e, -⟩ := hr2; exact ⟨a, c, e, trivial⟩
      have cI := copyB1_c hr hr2 (fun g hg => Nat.lt_of_lt_of_le (HS.out g hg) hsw) (by omega) hll.1 hll.2.1 hll.2.2
      have HI := hid hi1
      have HTK := hid (List.take_succ_eq_append_getElem hlt)
      generalize l[q] = L at *
      clear hr hr2 hi1 kp
      go_wp2_with fail
      refine cI.mono ?_
      rintro e W2 ⟨ra, rc, sa, sc, rfl, hrr, hrs, b2⟩
      have HRR := hid (And.intro hrr hrs)
      obtain ⟨W3, hW3⟩ : ∃ W, W2.alloc (.cells #[.int .i64 L.d, .slice ra L.o.length rc, .slice sa L.u.length sc] 44) = W := ⟨_, rfl⟩
      have b3 : Below W2.heap.size W2 W3 := by rw [← hW3]; exact (Below.refl _ W2).alloc (Nat.le_refl _) _
      have n3 : W3.heap[W2.heap.size]? = some (.cells ([.int .i64 L.d, .slice ra L.o.length rc, .slice sa L.u.length sc] : List Value).toArray 44 (0, 0)) := by rw [← hW3]; exact heap_alloc_new W2 _
      obtain ⟨css, k1, k2, k3, k4, k5⟩ := RowI.push sB HG.out.2.2 hpos hsw (Gx.of (R := 0) b2) (c := [.int .i64 L.d, .slice ra L.o.length rc, .slice sa L.u.length sc]) (x := L) ⟨_, _, rfl, HI.out, HRR.out.1, HRR.out.2⟩ b3
      have HP := hid (And.intro k2 (And.intro k3 (And.intro k4 k5)))
      have HB3 := hid (HG.out.2.1.trans ((b2.mono hsw).trans (b3.mono (by have := b2.size; omega))) : Below w.heap.size w W3)
      have hsz := HB3.out.size
      have hcl := src_of n3
      have hxq := HG.out.1
      have HXQ := hid hxq
      have hl3 := k1.1
      clear hrr hrs b2 b3 n3 k2 k3 k4 k5 cI hxq
      go_wp2_with (first
        | (at_builtin; (try rw [hW3]); refine YAp.app_seen rfl _ _ 25 rfl w.heap.size 44 i0 (.agg #[.int .i64 0, .slice none 0 0, .slice none 0 0]) 3 56 Try.underlying25 hi hz0 hz1 hz2 rfl (by decide) _ _ _ rfl k1 _ 1 _ [.int .i64 L.d, .slice ra L.o.length rc, .slice sa L.u.length sc] rfl hcl rfl (by intro u hu; simp only [List.mem_cons, List.not_mem_nil, or_false] at hu; rcases hu with rfl | rfl | rfl <;> rfl) (by unfold maxLen; omega) (by omega) hsz ?_))
      intro v' W4 hown hgrow hnb
      have HF : Hid (xs ++ [L] = l.take (q + 1) ∧ Below w.heap.size w W4 ∧ RowI HdB 44 3 w.heap.size W4 v' (xs ++ [L])) := ⟨by rw [HTK.out, HXQ.out], HB3.out.grown hgrow (by omega) (fun r hr => (World.ownsRow.lt k1 r hr).1), RowI.snoc sB k1 HP.out.1 HP.out.2.1 HP.out.2.2.1 HP.out.2.2.2 rfl hgrow (by rw [hxl]; exact hown) hnb⟩
      clear hown hgrow hnb HP k1 hcl HB3 hsz
      go_wp2_with fail
      go_roundw
      case rel => exact ⟨q + 1, xs ++ [L], by omega, by go_num, by simp [hxl], HF⟩
      case measure => simp only [intOf]; omega
    · have hqe : q = l.length := by omega
      subst hqe
      have d0 : decide ((l.length : Int) < (l.length : Int)) = false := by simp
      obtain ⟨va, vm, vc, rfl⟩ := RowI.slice HG.out.2.2
      clear hlt hq
      go_wp2_with fail
      go_ret
      have hx := HG.out.1
      rw [List.take_length] at hx
      have hR := HG.out.2.2
      rw [hx] at hR
      exact ⟨_, rfl, hR, HG.out.2.1⟩
end Go.Proofs.Ytgknjjaemjkloaa.BCr

namespace Go.Proofs.Ytgknjjaemjkloaa.BCv
open Go.Proofs.Ytgknjjaemjkloaa.BPl Go.Proofs.Ytgknjjaemjkloaa.BGd Go.Proofs.Ytgknjjaemjkloaa.BVf Go.Proofs.Ytgknjjaemjkloaa.BBf Go.Proofs.Ytgknjjaemjkloaa.BTr Go.Proofs.Ytgknjjaemjkloaa.BCu
open Go.Proofs.Ytgknjjaemjkloaa.YPl (Oq Bk Pg)
set_option linter.unusedVariables false

theorem gos_gh {S : Sh} {nb : Nat} {ops : List Oq} : ∀ (l : List Oq) (i : Nat) (b : Bd) (H : List Ar) (be : Bd) (He : List Ar), gos S nb ops i l b H = .ok (be, He) → Gb b → Gh H → Gh He
  | [], i, b, H, be, He, h, hg, hH => by rw [gos] at h; cases h; exact hH
  | o :: r, i, b, H, be, He, h, hg, hH => by
    rw [gos] at h
    cases e : opf S nb ops b H i o with
    | error c => rw [e] at h; cases h
    | ok H' => rw [e] at h; exact gos_gh r _ _ _ _ _ h (gb_pass e hg) (opf_gh e hg hH).1
theorem blf_gh {S : Sh} {nb : Nat} {k : Bk} {H He : List Ar} (h : blf S nb k H = .ok He) (hG : Gh H) : Gh He := by
  obtain ⟨h1, -, be, h3⟩ := blf_ok h
  have hga : Ga (H.getD nb ar0) := by
    rw [List.getD_eq_getElem?_getD] at h1 ⊢
    cases e : H[nb]? with
    | none => rw [e] at h1; cases h1
    | some A => rw [e] at h1; exact hG A (List.mem_of_getElem? e) h1
  exact gos_gh _ _ _ _ _ _ h3 ⟨hga, Int.le_refl 0, (by simp), by simpa using hga.1, by simpa using hga.2.2.1⟩ hG
/-- One block put in another's place. -/
theorem bls_set {S : Sh} {l : List Bk} {k : Nat} (hk : k < l.length) (kb : Bk) : ∀ (m q : Nat) (H : List Ar), k - q = m → q ≤ k → (bls S q (l.drop q) H).2.2 = 0 → Gh H →
    ∃ Hk He, Gh Hk ∧ blf S k l[k] Hk = .ok He ∧ (blf S k kb Hk = .ok He → (bls S q ((l.set k kb).drop q) H).2.2 = 0) ∧ ∀ e, blf S k kb Hk = .error e → bls S q ((l.set k kb).drop q) H = ((k : Int), e)
  | 0, q, H, hm, hq, h, hG => by
    have e : q = k := by omega
    subst e
    obtain ⟨He, h1, h2⟩ := bls_ok hk h
    have hl : q < (l.set q kb).length := by rw [List.length_set]; exact hk
    have hs : (l.set q kb)[q] = kb := by rw [List.getElem_set_self]
    have hd : (l.set q kb).drop (q + 1) = l.drop (q + 1) := by rw [List.drop_set_of_lt (by omega)]
    refine ⟨H, He, hG, h1, fun hb => ?_, fun e hb => ?_⟩
    · rw [bls_step hl, hs, hb, hd]
      exact h2
    · rw [bls_step hl, hs, hb]
  | m + 1, q, H, hm, hq, h, hG => by
    have hql : q < l.length := by omega
    obtain ⟨H', h1, h2⟩ := bls_ok hql h
    obtain ⟨Hk, He, g1, g2, g3, g4⟩ := bls_set hk kb m (q + 1) H' (by omega) (by omega) h2 (blf_gh h1 hG)
    have hl : q < (l.set k kb).length := by rw [List.length_set]; exact hql
    have hs : (l.set k kb)[q] = l[q] := by rw [List.getElem_set_ne (by omega)]
    refine ⟨Hk, He, g1, g2, fun hb => ?_, fun e hb => ?_⟩
    · rw [bls_step hl, hs, h1]
      exact g3 hb
    · rw [bls_step hl, hs, h1]
      exact g4 e hb
/-- A program whose block k has lost its last operation o, and its update. -/
theorem vf_cut {x : Pg} (h : (vf x).2.2 = 0) {k : Nat} (hk : k < x.b.length) {d : Int} {l : List Oq} {o : Oq} {u : List Int} (hb : x.b[k] = ⟨d, l ++ [o], u⟩) :
    o.k ≠ 3 ∧ o.k ≠ 4 ∧ o.k ≠ 5 ∧ o.k ≠ 11 ∧ (o.k = 6 ∨ o.k = 12 → vf ⟨x.t, x.c, x.s, x.b.set k ⟨d, l, []⟩⟩ = ((k : Int), (l.length : Int), 2204)) ∧ (o.k = 1 ∨ o.k = 2 → (vf ⟨x.t, x.c, x.s, x.b.set k ⟨d, l, []⟩⟩).2.2 = 0) := by
  unfold vf at h
  split at h
  · rename_i h0
    exact (h0 h).elim
  split at h
  · cases h
  rename_i h3 h4
  obtain ⟨Hk, He, g1, g2, g3, g4⟩ := bls_set hk ⟨d, l, []⟩ _ 0 (hm0 x.b.length) rfl (by omega) (by rw [List.drop_zero]; exact h) (gh_0 _)
  rw [hb] at g2
  obtain ⟨c1, c2, c3, c4, c5, c6⟩ := blf_cut g1 g2
  have hv : vf ⟨x.t, x.c, x.s, x.b.set k ⟨d, l, []⟩⟩ = bls (shd x) 0 ((x.b.set k ⟨d, l, []⟩).drop 0) (hm0 x.b.length) := by
    have hs : shf (⟨x.t, x.c, x.s, x.b.set k ⟨d, l, []⟩⟩ : Pg) = shf x := rfl
    unfold vf
    rw [hs, if_neg h3, List.drop_zero]
    show (if x.b.set k _ = [] ∨ 8192 < (x.b.set k _).length then _ else bls (shd x) 0 (x.b.set k _) (hm0 (x.b.set k _).length)) = _
    rw [List.length_set, if_neg (by
      rintro (e | e)
      · have := congrArg List.length e
        rw [List.length_set] at this
        simp at this
        exact h4 (.inl this)
      · exact h4 (.inr e))]
  refine ⟨c1, c2, c3, c4, fun hk6 => ?_, fun hk1 => ?_⟩
  · rw [hv, g4 _ (c5 hk6)]
  · rw [hv]
    exact g3 (c6 hk1)
end Go.Proofs.Ytgknjjaemjkloaa.BCv

namespace Go.Proofs.Ytgknjjaemjkloaa.BSz
open Go.Proofs.Ytgknjjaemjkloaa.BPl Go.Proofs.Ytgknjjaemjkloaa.BGd Go.Proofs.Ytgknjjaemjkloaa.BVf Go.Proofs.Ytgknjjaemjkloaa.BBf Go.Proofs.Ytgknjjaemjkloaa.BTr Go.Proofs.Ytgknjjaemjkloaa.BSt Go.Proofs.Ytgknjjaemjkloaa.BMo
open Go.Proofs.Ytgknjjaemjkloaa.YPl (Oq Bk Pg)
open Go.Proofs.Ytgknjjaemjkloaa.TBase (T)
open Go.Proofs.Ytgknjjaemjkloaa.CPu (Ins)
set_option linter.unusedVariables false

theorem zr_len {n : Bool} {a b c : Int} {l : Nat} (h : zr n a b c l = true) : l ≤ 64 := by
  unfold zr at h
  have := (band (band (band (band h).2).2).2).2
  simp at this
  omega
theorem fits_len {S : Sh} {o : Oq} (h : fits S o = true) : o.l.length ≤ 64 := by
  by_cases h10 : o.k = 10
  · exact (fits_list h h10).1
  · unfold fits at h
    simp only [if_neg h10] at h
    repeat' split at h
    all_goals first | exact zr_len h | cases h
/-- A block's sizes. -/
def Kz (k : Bk) : Prop := k.o.length ≤ 8192 ∧ k.u.length ≤ 8192 ∧ ∀ o ∈ k.o, o.l.length ≤ 64
theorem gos_len {S : Sh} {nb : Nat} {ops : List Oq} : ∀ (l : List Oq) (i : Nat) (b : Bd) (H : List Ar) (y : Bd × List Ar), gos S nb ops i l b H = .ok y → i ≤ 8192 → i + l.length ≤ 8192 ∧ ∀ o ∈ l, o.l.length ≤ 64
  | [], i, b, H, y, h, hi => ⟨by simpa using hi, fun o ho => by cases ho⟩
  | o :: r, i, b, H, y, h, hi => by
    rw [gos] at h
    cases e : opf S nb ops b H i o with
    | error c => rw [e] at h; cases h
    | ok H' =>
      rw [e] at h
      obtain ⟨h1, h2, -⟩ := opf_ok e
      obtain ⟨k1, k2⟩ := gos_len r _ _ _ _ h (by omega)
      refine ⟨by rw [List.length_cons]; omega, fun q hq => ?_⟩
      rcases List.mem_cons.1 hq with rfl | hq
      · exact fits_len h2
      · exact k2 q hq
theorem upd_len {n : Nat} : ∀ (l : List Int) (m : Int) (i : Nat), (upd n m i l).2 = 0 → m ≤ n → m + l.length ≤ n
  | [], m, i, h, hm => by simpa using hm
  | x :: r, m, i, h, hm => by
    rw [upd] at h
    split at h
    · cases h
    · rename_i hx
      have := upd_len r (x + 1) (i + 1) h (by omega)
      rw [List.length_cons]
      omega
theorem blf_kz {S : Sh} {nb : Nat} {k : Bk} {H H' : List Ar} (h : blf S nb k H = .ok H') : Kz k := by
  unfold blf at h
  split at h
  · cases h
  split at h
  · cases h
  cases e : gos S nb k.o 0 k.o ⟨H.getD nb ar0, 0, [], 0⟩ H with
  | error q => rw [e] at h; cases h
  | ok y =>
    obtain ⟨be, He⟩ := y
    rw [e] at h
    dsimp only at h
    split at h
    · cases h
    split at h
    · cases h
    split at h
    · cases h
    · rename_i hu
      obtain ⟨g1, g2⟩ := gos_len _ _ _ _ _ e (by omega)
      have g3 := upd_len k.u 0 0 (Decidable.not_not.1 hu) (by omega)
      exact ⟨by omega, by omega, g2⟩
theorem bls_kz {S : Sh} : ∀ (l : List Bk) (q : Nat) (H : List Ar), (bls S q l H).2.2 = 0 → ∀ k ∈ l, Kz k
  | [], q, H, h, k, hk => by cases hk
  | c :: r, q, H, h, k, hk => by
    rw [bls] at h
    cases e : blf S q c H with
    | error z => rw [e] at h; exact (blf_ne e h).elim
    | ok H' =>
      rw [e] at h
      rcases List.mem_cons.1 hk with rfl | hk
      · exact blf_kz e
      · exact bls_kz r _ _ h k hk
/-- A program's sizes. -/
structure Szd (x : Pg) : Prop where
  t : x.t.length ≤ 16384
  c : x.c.length ≤ 8192
  s : x.s.length ≤ 4096
  b : x.b.length ≤ 8192
  b0 : 0 < x.b.length
  cs : ∀ L ∈ x.c, L.length ≤ 8192
  bs : ∀ k ∈ x.b, Kz k
theorem vf_szd {x : Pg} (h : (vf x).2.2 = 0) : Szd x := by
  unfold vf at h
  split at h
  · rename_i h0
    exact (h0 h).elim
  split at h
  · cases h
  rename_i h3 h4
  obtain ⟨⟨a1, a2⟩, ⟨a3, a4⟩, a5, a6⟩ := shf_ok (Decidable.not_not.1 h3)
  refine ⟨a1, a3, a5, Nat.le_of_not_lt fun e => h4 (.inr e), List.length_pos_iff.2 fun e => h4 (.inl e), fun L hL => ?_, bls_kz _ _ _ h⟩
  have := a4 L hL
  unfold CPu.ck at this
  split at this
  · cases this
  · omega
end Go.Proofs.Ytgknjjaemjkloaa.BSz

namespace Go.Proofs.Ytgknjjaemjkloaa.BCs
open Go.RowKit Go.Proofs.Ytgknjjaemjkloaa.YRr Go.Proofs.Ytgknjjaemjkloaa.YRs Go.Proofs.Ytgknjjaemjkloaa.YRl Go.Proofs.Ytgknjjaemjkloaa.BBx Go.Proofs.Ytgknjjaemjkloaa.BIx Go.Proofs.Ytgknjjaemjkloaa.BCp Go.Proofs.Ytgknjjaemjkloaa.BCq Go.Proofs.Ytgknjjaemjkloaa.BCr Go.Proofs.Ytgknjjaemjkloaa.BCg
open Go.Proofs.Ytgknjjaemjkloaa.YPl (Oq Bk Pg)
open Go.Proofs.Ytgknjjaemjkloaa.YEn (InPg)
open Go.Proofs.Ytgknjjaemjkloaa.BSf (hid Lo)
open Go.Proofs.Ytgknjjaemjkloaa.BSz (Szd Kz)
open Go.Proofs.Ytgknjjaemjkloaa.TBase (T Keep heap_alloc_new frozen_box Rg)
open Go.Proofs.Ytgknjjaemjkloaa.CPu (Ins)
set_option linter.unusedVariables false

/-- A program of one's own: its four rows, each in blocks of its own. -/
structure Cp (m lo k0 k1 k2 k3 k4 : Nat) (w : World) (vt vc vs vb : Value) (x : Pg) : Prop where
  t : RrS 1 LyS (Rg k0 k1) w vt x.t
  c : RowG HdC 50 1 lo (Rg k1 k2) w vc x.c
  s : RowG (HdT m) 53 4 lo (Rg k2 k3) w vs x.s
  b : RowG HdB 44 3 lo (Rg k3 k4) w vb x.b
  l0 : lo + 2 ≤ k0
  l1 : k0 ≤ k1
  l2 : k1 ≤ k2
  l3 : k2 ≤ k3
  l4 : k3 ≤ k4
  l5 : k4 ≤ w.heap.size
theorem Cp.keep {m lo k0 k1 k2 k3 k4 : Nat} {w w' : World} {vt vc vs vb : Value} {x : Pg} (h : Cp m lo k0 k1 k2 k3 k4 w vt vc vs vb x) (hb : Below w.heap.size w w') : Cp m lo k0 k1 k2 k3 k4 w' vt vc vs vb x := by
  have kp : ∀ S : Nat → Prop, Keep S w w' := fun S b _ hl => hb.block b hl
  exact ⟨h.t.keep (fun _ h => h) fun g o x _ hg h => kS (kp _) hg h, h.c.keep sC (kp _) hb.size fun _ h => h, h.s.keep sT (kp _) hb.size fun _ h => h, h.b.keep sB (kp _) hb.size fun _ h => h, h.l0, h.l1, h.l2, h.l3, h.l4, by have := h.l5; have := hb.size; omega⟩
theorem own_slice {w : World} {B : Nat} {v : Value} {us : List Value} (h : TBase.OwnV w B v us) : ∃ a m c, v = .slice a m c := by
  rcases h.1.2 with ⟨rfl, -⟩ | ⟨g, cap, cur, rfl, -⟩ <;> exact ⟨_, _, _, rfl⟩
set_option maxRecDepth 20000 in
set_option maxHeartbeats 3200000 in
theorem copyP_c {K m : Nat} {w : World} {v : Value} {x : Pg} (hI : InPg K m w v x) (hK : K ≤ w.heap.size) (hz : Szd x) :
    Calls Try.prog 16 #[v] w fun e w' => ∃ ta tc ca cc sa sc ba bc k0 k1 k2 k3 k4, e = .returned (.agg #[.slice ta x.t.length tc, .slice ca x.c.length cc, .slice sa x.s.length sc, .slice ba x.b.length bc]) ∧ Cp m w.heap.size k0 k1 k2 k3 k4 w' (.slice ta x.t.length tc) (.slice ca x.c.length cc) (.slice sa x.s.length sc) (.slice ba x.b.length bc) x ∧ Below w.heap.size w w' := by
  have HI : Hid (∀ W', Below w.heap.size w W' → InPg K m W' v x) := fun W' hb => hI.below (hb.mono hK)
  obtain ⟨a, n1, c1, b, n2, c2, c, n3, c3, d, n4, c4, rfl, -⟩ := hI
  obtain ⟨W2, hW2⟩ : ∃ W2, (w.alloc (.cells #[.slice a n1 c1, .slice b n2 c2, .slice c n3 c3, .slice d n4 c4] 27)).alloc (.cells #[.slice none 0 0, .slice none 0 0, .slice none 0 0, .slice none 0 0] 27) = W2 := ⟨_, rfl⟩
  have b2 : Below w.heap.size w W2 := by rw [← hW2]; exact ((Below.refl _ w).alloc (Nat.le_refl _) _).alloc (by simp) _
  have s2 : w.heap.size + 2 ≤ W2.heap.size := by rw [← hW2]; simp
  have hx0 : W2.heap[w.heap.size]? = some (.cells #[.slice a n1 c1, .slice b n2 c2, .slice c n3 c3, .slice d n4 c4] 27 (0, 0)) := by
    rw [← hW2, Below.heap_alloc _ _ _ (by simp), heap_alloc_new]
  have hx1 : W2.heap[w.heap.size + 1]? = some (.cells #[.slice none 0 0, .slice none 0 0, .slice none 0 0, .slice none 0 0] 27 (0, 0)) := by
    have := heap_alloc_new (w.alloc (.cells #[.slice a n1 c1, .slice b n2 c2, .slice c n3 c3, .slice d n4 c4] 27)) (.cells #[.slice none 0 0, .slice none 0 0, .slice none 0 0, .slice none 0 0] 27)
    rwa [hW2, World.size_alloc] at this
  have HP : Hid (∀ W, Below W2.heap.size W2 W → RrS 1 LyS (Lo K) W (.slice a n1 c1) x.t ∧ RrS 1 (LyCs (Lo K)) (Lo K) W (.slice b n2 c2) x.c ∧ TBase.InL false (TVisit.Lo K) W m (.slice c n3 c3) x.s ∧ RrS 3 (LyBs (Lo K)) (Lo K) W (.slice d n4 c4) x.b ∧ (∀ g, Lo K g → g < W.heap.size) ∧ 0 < W.heap.size ∧ Below w.heap.size w W) := by
    intro W hW
    have hs := hW.size
    have hb := b2.trans (hW.mono (by omega))
    obtain ⟨_, _, _, _, _, _, _, _, _, _, _, _, e, h1, h2, h3, h4⟩ := HI.out W hb
    cases e
    exact ⟨h1, h2, h3, h4, fun g hg => by have : g < K := hg; omega, by omega, hb⟩
  have HN : Hid (∀ W, Below W2.heap.size W2 W → (W.cell? ⟨w.heap.size, 0, none⟩ = some (.slice a n1 c1) ∧ W.cell? ⟨w.heap.size, 1, none⟩ = some (.slice b n2 c2) ∧ W.cell? ⟨w.heap.size, 2, none⟩ = some (.slice c n3 c3) ∧ W.cell? ⟨w.heap.size, 3, none⟩ = some (.slice d n4 c4)) ∧ W.heap[w.heap.size + 1]? = some (.cells #[.slice none 0 0, .slice none 0 0, .slice none 0 0, .slice none 0 0] 27 (0, 0))) := fun W hW => ⟨TBase.four_box ((hW.block _ (by omega)).trans hx0), (hW.block _ (by omega)).trans hx1⟩
  have hd : Below W2.heap.size W2 W2.drew := (Below.refl _ W2).drew
  have cT := copyS_c (w := W2.drew) (HP.out _ hd).1 (by have := hz.t; omega)
  have cC : Hid (∀ W, Below W2.heap.size W2 W → Calls Try.prog 33 #[.slice b n2 c2] W fun e w' => ∃ u, e = .returned u ∧ RowI HdC 50 1 W.heap.size w' u x.c ∧ Below W.heap.size W w') := fun W hW => copyC_c (HP.out W hW).2.1 (HP.out W hW).2.2.2.2.1 (HP.out W hW).2.2.2.2.2.1 (by have := hz.c; omega) (fun L hL => by have := hz.cs L hL; show L.length ≤ 90000; omega)
  have cS : Hid (∀ W, Below W2.heap.size W2 W → Calls Try.prog 34 #[.slice c n3 c3] W fun e w' => ∃ u us, e = .returned u ∧ TBase.OwnV w' W.heap.size u us ∧ us.length = x.s.length ∧ Hid (∀ j (h : j < us.length) (h' : j < x.s.length), TBase.In false (TBase.El W.heap.size w'.heap.size u) w' m us[j] x.s[j]) ∧ Below W.heap.size W w') := fun W hW => TRowJ.copyO_c m _ x.s W (HP.out W hW).2.2.1.plain
  have cB : Hid (∀ W, Below W2.heap.size W2 W → Calls Try.prog 35 #[.slice d n4 c4] W fun e w' => ∃ u, e = .returned u ∧ RowI HdB 44 3 W.heap.size w' u x.b ∧ Below W.heap.size W w') := fun W hW => copyB_c (HP.out W hW).2.2.2.1 (HP.out W hW).2.2.2.2.1 (HP.out W hW).2.2.2.2.2.1 (by have := hz.b; omega) (fun k hk => by have := hz.bs k hk; exact ⟨by have := this.1; omega, by have := this.2.1; omega, fun o ho => by have := this.2.2 o ho; omega⟩)
  have HD := hid hd
  obtain ⟨e0, e1, e2, e3⟩ := (HN.out _ (Below.refl _ W2)).1
  have HBW := hid b2
  clear b2 hx0 hx1 hd
  go_enter Try.func16, Try.ntmps16
  go_wp2_with fail
  clear hW2
  go_region_held3 (fun w' => w'.cell? ⟨w.heap.size, 0, none⟩ = some (.slice a n1 c1) ∧ w'.cell? ⟨w.heap.size, 1, none⟩ = some (.slice b n2 c2) ∧ w'.cell? ⟨w.heap.size, 2, none⟩ = some (.slice c n3 c3) ∧ w'.cell? ⟨w.heap.size, 3, none⟩ = some (.slice d n4 c4)) (go_keep) (first
    | (have tt := HQ3; clear tt; go_at_call 35; refine (cB.out _ HQ3.out).mono ?_; rintro e w4 ⟨u4, rfl, r4, b4⟩; obtain ⟨ba, bm, bc, rfl⟩ := RowI.slice r4; have HR4 := hid r4; have HB4 := hid b4; have HQ4 := hid (HQ3.out.trans (b4.mono HQ3.out.size)); obtain ⟨⟨z0, z1, z2, z3⟩, z5⟩ := HN.out _ HQ4.out; obtain ⟨y0, y1, y2, y3⟩ := TBase.four_box z5; have f0 := frozen_box z5 0; have f1 := frozen_box z5 1; have f2 := frozen_box z5 2; have f3 := frozen_box z5 3; have Z5 := hid z5; clear r4 b4 z5)
    | (have tt := HQ2; clear tt; go_at_call 34; refine (cS.out _ HQ2.out).mono ?_; rintro e w3 ⟨u3, us, rfl, o3, l3, i3, b3⟩; obtain ⟨sa, sm, sc, rfl⟩ := own_slice o3; have HR3 := hid (And.intro o3 (And.intro l3 i3)); have HB3 := hid b3; have HQ3 := hid (HQ2.out.trans (b3.mono HQ2.out.size)); obtain ⟨⟨z0, z1, z2, z3⟩, -⟩ := HN.out _ HQ3.out; clear o3 l3 i3 b3)
    | (have tt := HQ1; clear tt; go_at_call 33; refine (cC.out _ HQ1.out).mono ?_; rintro e w2 ⟨u2, rfl, r2, b2⟩; obtain ⟨ca, cm, cc, rfl⟩ := RowI.slice r2; have HR2 := hid r2; have HB2 := hid b2; have HQ2 := hid (HQ1.out.trans (b2.mono HQ1.out.size)); obtain ⟨⟨z0, z1, z2, z3⟩, -⟩ := HN.out _ HQ2.out; clear r2 b2)
    | (go_at_call 32; refine cT.mono ?_; rintro e w1 ⟨u1, rfl, r1, b1⟩; obtain ⟨ta, tm, tc, rfl⟩ := RrS.slice r1; have HR1 := hid r1; have HQ1 := hid (HD.out.trans b1); obtain ⟨⟨z0, z1, z2, z3⟩, -⟩ := HN.out _ HQ1.out; clear r1 b1)
    | fail)
  go_wp2_with fail
  obtain ⟨W9, hW9⟩ : ∃ W, (((w4.setCell ⟨w.heap.size + 1, 0, none⟩ (.slice ta tm tc)).setCell ⟨w.heap.size + 1, 1, none⟩ (.slice ca cm cc)).setCell ⟨w.heap.size + 1, 2, none⟩ (.slice sa sm sc)).setCell ⟨w.heap.size + 1, 3, none⟩ (.slice ba bm bc) = W := ⟨_, rfl⟩
  try rw [hW9]
  obtain ⟨m9, r9⟩ := YRg.set4 _ _ _ _ Z5.out hW9
  refine bodyPost_ret (results_cell_row rfl _ W9 (w.heap.size + 1) 27 _ (0, 0) _ rfl m9 Try.underlying27 rfl (by kernel_rfl)) rfl ?_
  have t1 : W2.heap.size ≤ w1.heap.size := HQ1.out.size
  have t2 := HB2.out.size
  have t3 := HB3.out.size
  have t4 := HB4.out.size
  have t9 := r9.size
  have k4 : ∀ b, W2.heap.size ≤ b → b < w4.heap.size → W9.heap[b]? = w4.heap[b]? := fun b h1 h2 => r9.block b h2 (fun e => by cases e; omega)
  have k3 : ∀ b, W2.heap.size ≤ b → b < w3.heap.size → W9.heap[b]? = w3.heap[b]? := fun b h1 h2 => (k4 b h1 (by omega)).trans (HB4.out.block b h2)
  have k2 : ∀ b, W2.heap.size ≤ b → b < w2.heap.size → W9.heap[b]? = w2.heap[b]? := fun b h1 h2 => (k3 b h1 (by omega)).trans (HB3.out.block b h2)
  have k1 : ∀ b, W2.heap.size ≤ b → b < w1.heap.size → W9.heap[b]? = w1.heap[b]? := fun b h1 h2 => (k2 b h1 (by omega)).trans (HB2.out.block b h2)
  have G1 : RrS 1 LyS (Rg W2.heap.size w1.heap.size) W9 (.slice ta tm tc) x.t := HR1.out.keep (fun b hb => hb) fun g o x _ hg h => kS (S := Nw W2.drew w1) (fun b hb hl => k1 b hb.1 hb.2) hg h
  have G2 : RowG HdC 50 1 w.heap.size (Rg w1.heap.size w2.heap.size) W9 (.slice ca cm cc) x.c := (RowG.of sC HR2.out (lo' := w.heap.size) (by omega) (fun b h1 h2 => ⟨h1, h2⟩)).keep sC (fun b hb hl => k2 b (by have := hb.1; omega) hl) (by omega) (fun _ h => h)
  have G3 : RowG (HdT m) 53 4 w.heap.size (Rg w2.heap.size w3.heap.size) W9 (.slice sa sm sc) x.s := (trees_g HR3.out.1 HR3.out.2.1 HR3.out.2.2.out (by omega) (fun b h1 h2 => ⟨h1, h2⟩)).keep sT (fun b hb hl => k3 b (by have := hb.1; omega) hl) (by omega) (fun _ h => h)
  have G4 : RowG HdB 44 3 w.heap.size (Rg w3.heap.size w4.heap.size) W9 (.slice ba bm bc) x.b := (RowG.of sB HR4.out (lo' := w.heap.size) (by omega) (fun b h1 h2 => ⟨h1, h2⟩)).keep sB (fun b hb hl => k4 b (by have := hb.1; omega) hl) (by omega) (fun _ h => h)
  obtain rfl : tm = x.t.length := by obtain ⟨_, _, e, -⟩ := G1; cases e; rfl
  obtain rfl : cm = x.c.length := by obtain ⟨_, _, e⟩ := G2.slice; cases e; rfl
  obtain rfl : sm = x.s.length := by obtain ⟨_, _, e⟩ := G3.slice; cases e; rfl
  obtain rfl : bm = x.b.length := by obtain ⟨_, _, e⟩ := G4.slice; cases e; rfl
  exact ⟨_, _, _, _, _, _, _, _, _, _, _, _, _, rfl, ⟨G1, G2, G3, G4, s2, t1, t2, t3, t4, t9⟩, (HBW.out.trans (HQ4.out.mono (by omega))).grown r9 (by have := HBW.out.size; omega) (fun r hr => by cases hr; omega)⟩
end Go.Proofs.Ytgknjjaemjkloaa.BCs
