/- The law VerifyMore, gone through. -/
import Derived.Test.YtgknjjaemjkloaaBAw
import Derived.Test.YtgknjjaemjkloaaBCw
import Derived.Test.YtgknjjaemjkloaaTShallow
import Derived.Deep.CutBlock
import Derived.Deep.CutRange
import Derived.BigQuiet
namespace Go.Proofs.Ytgknjjaemjkloaa.WVm
open Go.RowKit Go.Proofs.Ytgknjjaemjkloaa.BPl Go.Proofs.Ytgknjjaemjkloaa.YRr Go.Proofs.Ytgknjjaemjkloaa.YRs Go.Proofs.Ytgknjjaemjkloaa.YRl Go.Proofs.Ytgknjjaemjkloaa.BBx Go.Proofs.Ytgknjjaemjkloaa.BVf Go.Proofs.Ytgknjjaemjkloaa.BMo Go.Proofs.Ytgknjjaemjkloaa.BCg Go.Proofs.Ytgknjjaemjkloaa.BCs Go.Proofs.Ytgknjjaemjkloaa.BCt Go.Proofs.Ytgknjjaemjkloaa.BCw
open Go.Proofs.Ytgknjjaemjkloaa.BHm (Xb Xb.refl)
open Go.Proofs.Ytgknjjaemjkloaa.BSf (hid Lo)
open Go.Proofs.Ytgknjjaemjkloaa.BSz (Szd vf_szd)
open Go.Proofs.Ytgknjjaemjkloaa.YPl (Oq Bk Pg)
open Go.Proofs.Ytgknjjaemjkloaa.YEn (InPg)
open Go.Proofs.Ytgknjjaemjkloaa.TBase (T Keep InL heap_alloc_new frozen_box Rg)
open Go.Proofs.Ytgknjjaemjkloaa.CPu (Ins)
set_option linter.unusedVariables false

theorem Xb.store {G : Nat} {a b : World} (h : Xb G a b) (n : Nat) (u : Value) : Xb G a (b.setCell ⟨G, n, none⟩ u) := ⟨h.1.setCell (p := ⟨G, n, none⟩) (Nat.le_refl _) _, fun g hg hq => (Below.heap_setCell _ _ _ _ hq).trans (h.2 g hg hq)⟩
set_option maxRecDepth 20000 in
set_option maxHeartbeats 6400000 in
theorem walk {m : Nat} {w : World} {v : Value} {x : Pg} (hI0 : InPg w.heap.size m w v x) :
    Calls Try.prog 5 #[v] w fun e w' => e = .returned (.bool true) ∧ Below w.heap.size w w' := by
  have hI := pg_deep hI0
  clear hI0
  have HI : Hid (∀ W, Below w.heap.size w W → InPg w.heap.size (m + 1) W v x) := fun W hW => hI.below hW
  obtain ⟨a, n1, c1, b, n2, c2, c, n3, c3, d, n4, c4, rfl, -, -, hT, hBl⟩ := hI
  have e4 : n4 = x.b.length := by obtain ⟨_, _, e, _⟩ := hBl; cases e; rfl
  have hb47 : x.b.length ≤ 140737488351232 := by obtain ⟨_, _, _, _, _, h, _⟩ := hBl; exact h
  obtain ⟨n, hn⟩ : ∃ n, x.b.length = n := ⟨_, rfl⟩
  rw [hn] at e4 hb47
  subst e4
  have HN := hid hn
  obtain ⟨W0, hW0⟩ : ∃ W, w.alloc (.cells #[.slice a n1 c1, .slice b n2 c2, .slice c n3 c3, .slice d n4 c4] 27) = W := ⟨_, rfl⟩
  have b0 : Below w.heap.size w W0 := by rw [← hW0]; exact (Below.refl _ w).alloc (Nat.le_refl _) _
  have g0 : W0.heap[w.heap.size]? = some (.cells #[.slice a n1 c1, .slice b n2 c2, .slice c n3 c3, .slice d n4 c4] 27 (0, 0)) := by rw [← hW0]; exact heap_alloc_new w _
  have s0 : w.heap.size < W0.heap.size := (Array.getElem?_eq_some_iff.1 g0).1
  have cA := BAw.awake_c W0
  have B0 := hid b0
  have HG : Hid (∀ W, Below W0.heap.size W0 W → W.heap[w.heap.size]? = some (.cells #[.slice a n1 c1, .slice b n2 c2, .slice c n3 c3, .slice d n4 c4] 27 (0, 0))) := fun W h => (h.block _ s0).trans g0
  clear hT hBl b0 g0 hn
  go_enter Try.func5, Try.ntmps5
  go_wp2_with fail
  refine cA.mono ?_
  rintro e W1 ⟨rfl, b1⟩
  have HB1 := hid b1
  have B1 := hid (B0.out.trans (b1.mono B0.out.size) : Below w.heap.size w W1)
  have hs1 : W0.heap.size ≤ W1.heap.size := b1.size
  obtain ⟨p0, p1, p2, p3⟩ := TBase.four_box (HG.out W1 b1)
  obtain ⟨_, _, _, _, _, _, _, _, _, _, _, _, e, -, -, hT, -⟩ := HI.out W1 B1.out
  cases e
  have cS := TShallow.shallow_c (m + 1) _ x.s W1 hT.plain
  clear cA b1 hT hW0
  obtain ⟨D, hD⟩ : ∃ D, decide (TShallow.depL x.s ≤ 4096) = D := ⟨_, rfl⟩
  rw [hD] at cS
  clear hD
  go_wp2_with fail
  refine cS.mono ?_
  rintro e W2 ⟨rfl, b2⟩
  have HB2 := hid (HB1.out.trans (b2.mono HB1.out.size) : Below W0.heap.size W0 W2)
  have B2 := hid (B1.out.trans (b2.mono B1.out.size) : Below w.heap.size w W2)
  have hs2 : W1.heap.size ≤ W2.heap.size := b2.size
  clear cS b2 p0 p1 p2 p3
  obtain ⟨p0, p1, p2, p3⟩ := TBase.four_box (HG.out W2 HB2.out)
  cases D with
  | false =>
    go_wp2_with fail
    go_ret
    exact ⟨rfl, B2.out⟩
  | true =>
  have cV := verify_c (HI.out W2 B2.out) (by omega)
  obtain ⟨Z, hZ⟩ : ∃ Z, vf x = Z := ⟨_, rfl⟩
  rw [hZ] at cV
  have HZ := hid hZ
  clear hZ
  obtain ⟨z1, z2, z3⟩ := Z
  go_wp2_with fail
  refine cV.mono ?_
  rintro e W3 ⟨rfl, b3⟩
  have HB3 := hid (HB2.out.trans (b3.mono HB2.out.size) : Below W0.heap.size W0 W3)
  have B3 := hid (B2.out.trans (b3.mono B2.out.size) : Below w.heap.size w W3)
  have hs3 : W2.heap.size ≤ W3.heap.size := b3.size
  have cN : Calls Try.prog 10 #[.int .i64 z3] W3 fun e w' => e = .returned (.int .i64 z3) ∧ W3 = w' := (Leb.num_c z3 W3).mono fun e w' h => ⟨h.1, h.2.symm⟩
  clear cV b3 p0 p1 p2 p3
  obtain ⟨p0, p1, p2, p3⟩ := TBase.four_box (HG.out W3 HB3.out)
  by_cases hz3 : z3 = 0
  rotate_left 1
  · have dz : (z3 != 0) = true := by simp [hz3]
    clear hz3
    go_wp2_with fail
    refine cN.mono ?_
    rintro e w9 ⟨rfl, h9⟩
    obtain rfl := h9
    clear cN
    go_wp2_with fail
    go_ret
    exact ⟨rfl, B3.out⟩
  have dz : (z3 != 0) = false := by simp [hz3]
  have HOK : Hid ((vf x).2.2 = 0) := by show (vf x).2.2 = 0; rw [HZ.out]; exact hz3
  have HSZ := hid (vf_szd HOK.out)
  have cP := copyP_c (HI.out W3 B3.out) (by omega) HSZ.out
  rw [HN.out] at cP
  clear hz3 HZ
  go_wp2_with fail
  refine cN.mono ?_
  rintro e w9 ⟨rfl, h9⟩
  obtain rfl := h9
  clear cN
  go_wp2_with fail
  refine cP.mono ?_
  rintro e W4 ⟨ta, tc, ca, cc, sa, sc, ba, bc, k0, k1, k2, k3, k4, rfl, hC, b4⟩
  obtain ⟨i0, hi, hz0, hz1, hz2⟩ := info_parts YRf.info_c
  obtain ⟨W5, hW5⟩ : ∃ W, W4.alloc (.cells #[.slice ta x.t.length tc, .slice ca x.c.length cc, .slice sa x.s.length sc, .slice ba n4 bc] 27) = W := ⟨_, rfl⟩
  have b5 : Below W4.heap.size W4 W5 := by rw [← hW5]; exact (Below.refl _ _).alloc (Nat.le_refl _) _
  have g5 : W5.heap[W4.heap.size]? = some (.cells #[.slice ta x.t.length tc, .slice ca x.c.length cc, .slice sa x.s.length sc, .slice ba n4 bc] 27 (0, 0)) := by rw [← hW5]; exact heap_alloc_new W4 _
  have s5 : W4.heap.size < W5.heap.size := (Array.getElem?_eq_some_iff.1 g5).1
  obtain ⟨W6, hW6⟩ : ∃ W, W5.alloc (.cells #[.int .i64 1, .int .i64 0] 49) = W := ⟨_, rfl⟩
  have b6 : Below W5.heap.size W5 W6 := by rw [← hW6]; exact (Below.refl _ _).alloc (Nat.le_refl _) _
  have g6 : W6.heap[W5.heap.size]? = some (.cells #[.int .i64 1, .int .i64 0] 49 (0, 0)) := by rw [← hW6]; exact heap_alloc_new W5 _
  have s6 : W5.heap.size < W6.heap.size := (Array.getElem?_eq_some_iff.1 g6).1
  obtain ⟨W7, hW7⟩ : ∃ W, W6.alloc (.cells #[.slice (some ⟨W5.heap.size, 0, none⟩) 1 1] 50) = W := ⟨_, rfl⟩
  have b7 : Below W6.heap.size W6 W7 := by rw [← hW7]; exact (Below.refl _ _).alloc (Nat.le_refl _) _
  have g7 : W7.heap[W6.heap.size]? = some (.cells ([.slice (some ⟨W5.heap.size, 0, none⟩) 1 1] : List Value).toArray 50 (0, 0)) := by rw [← hW7]; exact heap_alloc_new W6 _
  have s7 : W6.heap.size < W7.heap.size := (Array.getElem?_eq_some_iff.1 g7).1
  have b47 : Below W4.heap.size W4 W7 := (b5.trans (b6.mono (by omega))).trans (b7.mono (by omega))
  have hC7 := hC.keep b47
  have hl5 := hC.l5
  have hlo := hC.l0
  have hl1 := hC.l1
  have hl2 := hC.l2
  have hl3 := hC.l3
  have hl4 := hC.l4
  obtain ⟨css, q1, q2, q3, q4, q5⟩ := apart hC7.c
  have HC7 := hid hC7
  have HQ := hid (And.intro q2 (And.intro q3 (And.intro q4 q5)))
  have G5 := hid (((b6.trans (b7.mono (by omega))).block _ s5).trans g5)
  have G6 := hid ((b7.block _ s6).trans g6)
  have B4 := hid (B3.out.trans (b4.mono B3.out.size) : Below w.heap.size w W4)
  have HB4 := hid (HB3.out.trans (b4.mono HB3.out.size) : Below W0.heap.size W0 W4)
  have hs4 : W3.heap.size ≤ W4.heap.size := b4.size
  have B47 := hid b47
  have hcl := src_of g7
  have e1 := cell_of g5 1 _ rfl
  have c8 : x.c.length ≤ 8192 := HSZ.out.c
  have hlo7 : W3.heap.size ≤ W7.heap.size := by omega
  clear hC hC7 b5 b6 b7 g5 g6 g7 b47 q2 q3 q4 q5 cP b4
  go_wp2_with (first
    | (at_builtin; (try rw [hW7]); refine YAp.app_seen rfl _ _ 23 rfl W3.heap.size 50 i0 (.slice none 0 0) 1 24 Try.underlying23 hi hz0 hz1 hz2 rfl (by decide) _ _ _ rfl q1 _ 1 _ [.slice (some ⟨W5.heap.size, 0, none⟩) 1 1] rfl hcl rfl (by intro u hu; simp only [List.mem_cons, List.not_mem_nil, or_false] at hu; rcases hu with rfl; rfl) (by unfold maxLen; omega) (by omega) hlo7 ?_))
  intro v' W8 hown hgrow hnb
  have hc8 := more_c (l := x.c) (k := k1) (k' := k2) (L := W5.heap.size) HQ.out.1 HQ.out.2.1 HQ.out.2.2.1 HQ.out.2.2.2 (by omega) G6.out hgrow hown hnb
  obtain ⟨lc, hlc⟩ : ∃ n, (x.c ++ [[(1, 0)]]).length = n := ⟨_, rfl⟩
  have HLC := hid hlc
  obtain ⟨va, vc, rfl⟩ : ∃ a c, v' = .slice a lc c := by obtain ⟨a, c, e⟩ := hc8.slice; rw [hlc] at e; exact ⟨a, c, e⟩
  have k78 : ∀ b, b < W7.heap.size → ¬ (k1 ≤ b ∧ b < k2) → W8.heap[b]? = W7.heap[b]? := fun b hb hn => hgrow.block b hb (fun e => hn (HQ.out.2.2.1 b e.symm).1)
  have s8 : W7.heap.size ≤ W8.heap.size := hgrow.size
  have g8 : W8.heap[W4.heap.size]? = some (.cells #[.slice ta x.t.length tc, .slice ca x.c.length cc, .slice sa x.s.length sc, .slice ba n4 bc] 27 (0, 0)) := (k78 _ (by omega) (by omega)).trans G5.out
  have B8 := hid ((B4.out.trans (B47.out.mono (by omega))).grown hgrow (by omega) (fun r hr => by have := (HQ.out.2.2.1 r hr).1; have := this.1; omega) : Below w.heap.size w W8)
  have HB8 := hid ((HB4.out.trans (B47.out.mono (by omega))).grown hgrow (by omega) (fun r hr => by have := (HQ.out.2.2.1 r hr).1; have := this.1; omega) : Below W0.heap.size W0 W8)
  obtain ⟨W9, hW9⟩ : ∃ W, W8.setCell ⟨W4.heap.size, 1, none⟩ (.slice va lc vc) = W := ⟨_, rfl⟩
  have g9 : W9.heap[W4.heap.size]? = some (.cells #[.slice ta x.t.length tc, .slice va lc vc, .slice sa x.s.length sc, .slice ba n4 bc] 27 (0, 0)) := by rw [← hW9]; exact cell_set g8 1 _
  have k89 : ∀ b, b ≠ W4.heap.size → W9.heap[b]? = W8.heap[b]? := fun b hb => by rw [← hW9]; exact Below.heap_setCell _ _ _ _ hb
  have s9 : W8.heap.size ≤ W9.heap.size := by rw [← hW9]; simp [World.setCell]
  have r1 := cell_of g8 1 _ rfl
  have f1 := frozen_box g8 1
  have r2 := cell_of g9 2 _ rfl
  have B9 := hid (show Below w.heap.size w W9 by rw [← hW9]; exact B8.out.setCell (p := ⟨W4.heap.size, 1, none⟩) (by show w.heap.size ≤ W4.heap.size; omega) _)
  have HB9 := hid (show Below W0.heap.size W0 W9 by rw [← hW9]; exact HB8.out.setCell (p := ⟨W4.heap.size, 1, none⟩) (by show W0.heap.size ≤ W4.heap.size; omega) _)
  obtain ⟨W10, hW10⟩ : ∃ W, W9.alloc (.cells #[.string ⟨#[112]⟩, .string ⟨#[]⟩, .slice none 0 0, .slice none 0 0] 53) = W := ⟨_, rfl⟩
  have b10 : Below W9.heap.size W9 W10 := by rw [← hW10]; exact (Below.refl _ _).alloc (Nat.le_refl _) _
  have g10 : W10.heap[W9.heap.size]? = some (.cells ([.string ⟨#[112]⟩, .string ⟨#[]⟩, .slice none 0 0, .slice none 0 0] : List Value).toArray 53 (0, 0)) := by rw [← hW10]; exact heap_alloc_new W9 _
  have s10 : W9.heap.size < W10.heap.size := (Array.getElem?_eq_some_iff.1 g10).1
  have k7A : ∀ b, b < W7.heap.size → ¬ (k1 ≤ b ∧ b < k2) → b ≠ W4.heap.size → W10.heap[b]? = W7.heap[b]? := fun b hb hn hq => (b10.block b (by omega)).trans ((k89 b hq).trans (k78 b hb hn))
  have hs10 := HC7.out.s.keep (w' := W10) sT (fun b hb hl => k7A b hl (by have := hb.1; omega) (by have := hb.2; omega)) (by omega) (fun _ h => h)
  obtain ⟨tss, p1', u2, u3, u4, u5⟩ := apart hs10
  obtain ⟨i1, hj, hy0, hy1, hy2⟩ := info_parts TBase.infoT
  have hcl2 := src_of g10
  have HU := hid (And.intro u2 (And.intro u3 (And.intro u4 u5)))
  have g10q := (b10.block W4.heap.size (by omega)).trans g9
  have HK := hid k7A
  have HK8 := hid k89
  have HC8 := hid hc8
  have G10 := hid g10q
  have HB10 := hid b10
  have hlo10 : W3.heap.size ≤ W10.heap.size := by omega
  have cs8 : x.s.length ≤ 4096 := HSZ.out.s
  clear hown hgrow hnb hc8 hlc g8 k78 g9 k89 b10 g10 k7A hs10 u2 u3 u4 u5 g10q q1 hcl hlo7
  go_wp2_with (first
    | (at_builtin; (try rw [hW10]); refine YAp.app_seen rfl _ _ 24 rfl W3.heap.size 53 i1 (.agg #[.string ⟨#[]⟩, .string ⟨#[]⟩, .slice none 0 0, .slice none 0 0]) 4 80 Try.underlying24 hj hy0 hy1 hy2 rfl (by decide) _ _ _ rfl p1' _ 1 _ [.string ⟨#[112]⟩, .string ⟨#[]⟩, .slice none 0 0, .slice none 0 0] rfl hcl2 rfl (by intro u hu; simp only [List.mem_cons, List.not_mem_nil, or_false] at hu; rcases hu with rfl | rfl | rfl | rfl <;> rfl) (by unfold maxLen; omega) (by omega) hlo10 ?_))
  intro v' W11 hown hgrow hnb
  have hs11 := more_t (l := x.s) (k := k2) (k' := k3) (L := W9.heap.size) HU.out.1 HU.out.2.1 HU.out.2.2.1 HU.out.2.2.2 (by omega) hgrow hown hnb
  obtain ⟨ls, hls⟩ : ∃ n, (x.s ++ [tP]).length = n := ⟨_, rfl⟩
  have HLS := hid hls
  obtain ⟨vs, vd, rfl⟩ : ∃ a c, v' = .slice a ls c := by obtain ⟨a, c, e⟩ := hs11.slice; rw [hls] at e; exact ⟨a, c, e⟩
  have kA : ∀ b, b < W10.heap.size → ¬ (k2 ≤ b ∧ b < k3) → W11.heap[b]? = W10.heap[b]? := fun b hb hn => hgrow.block b hb (fun e => hn (HU.out.2.2.1 b e.symm).1)
  have s11 : W10.heap.size ≤ W11.heap.size := hgrow.size
  have g11 : W11.heap[W4.heap.size]? = some (.cells #[.slice ta x.t.length tc, .slice va lc vc, .slice sa x.s.length sc, .slice ba n4 bc] 27 (0, 0)) := (kA _ (by omega) (by omega)).trans G10.out
  have B11 := hid ((B9.out.trans (HB10.out.mono (by omega))).grown hgrow (by omega) (fun r hr => by have := (HU.out.2.2.1 r hr).1; have := this.1; omega) : Below w.heap.size w W11)
  have HB11 := hid ((HB9.out.trans (HB10.out.mono (by omega))).grown hgrow (by omega) (fun r hr => by have := (HU.out.2.2.1 r hr).1; have := this.1; omega) : Below W0.heap.size W0 W11)
  obtain ⟨V, hV⟩ : ∃ W, W11.setCell ⟨W4.heap.size, 2, none⟩ (.slice vs ls vd) = W := ⟨_, rfl⟩
  have gV : V.heap[W4.heap.size]? = some (.cells #[.slice ta x.t.length tc, .slice va lc vc, .slice vs ls vd, .slice ba n4 bc] 27 (0, 0)) := by rw [← hV]; exact cell_set g11 2 _
  have kV : ∀ b, b ≠ W4.heap.size → V.heap[b]? = W11.heap[b]? := fun b hb => by rw [← hV]; exact Below.heap_setCell _ _ _ _ hb
  have sV : W11.heap.size ≤ V.heap.size := by rw [← hV]; simp [World.setCell]
  have r3 := cell_of g11 2 _ rfl
  have f3 := frozen_box g11 2
  have BV := hid (show Below w.heap.size w V by rw [← hV]; exact B11.out.setCell (p := ⟨W4.heap.size, 2, none⟩) (by show w.heap.size ≤ W4.heap.size; omega) _)
  have HBV := hid (show Below W0.heap.size W0 V by rw [← hV]; exact HB11.out.setCell (p := ⟨W4.heap.size, 2, none⟩) (by show W0.heap.size ≤ W4.heap.size; omega) _)
  have k7V : ∀ b, b < W7.heap.size → ¬ (k1 ≤ b ∧ b < k2) → ¬ (k2 ≤ b ∧ b < k3) → b ≠ W4.heap.size → V.heap[b]? = W7.heap[b]? := fun b hb h1 h2 h3 => (kV b h3).trans ((kA b (by omega) h2).trans (HK.out b hb h1 h3))
  have k8V : ∀ b, b < W8.heap.size → ¬ (k2 ≤ b ∧ b < k3) → b ≠ W4.heap.size → V.heap[b]? = W8.heap[b]? := fun b hb h2 h3 => (kV b h3).trans ((kA b (by omega) h2).trans ((HB10.out.block b (by omega)).trans (HK8.out b h3)))
  have RT : RrS 1 LyS (Rg k0 k1) V (.slice ta x.t.length tc) x.t := HC7.out.t.keep (fun _ h => h) fun g o y _ hg h => kS (S := Rg k0 k1) (fun b hb hl => k7V b hl (by have := hb.2; omega) (by have := hb.2; omega) (by have := hb.2; omega)) hg h
  have RC0 : RowG HdC 50 1 W3.heap.size (Up k1 k2 W5.heap.size W8.heap.size) V (.slice va lc vc) (x.c ++ [[(1, 0)]]) := HC8.out.keep sC (fun b hb hl => k8V b hl (by rcases hb with hb | hb <;> omega) (by rcases hb with hb | hb <;> omega)) (by omega) (fun _ h => h)
  have RC := RC0.rr (Ly := LyCs (Up k1 k2 W5.heap.size W8.heap.size)) (by have := HLC.out; simp; omega) fun g o c y hc hd => lyC (fun b hb => hb.1) hc hd
  have RS0 : RowG (HdT (m + 1)) 53 4 W3.heap.size (Up k2 k3 W9.heap.size W11.heap.size) V (.slice vs ls vd) (x.s ++ [tP]) := hs11.keep sT (fun b hb hl => kV b (by rcases hb with hb | hb <;> omega)) (by omega) (fun _ h => h)
  have RS := rrs_inl (RS0.rr (Ly := LyTs (m + 1) (Up k2 k3 W9.heap.size W11.heap.size)) (by simp; omega) fun g o c y hc hd => lyT (fun b hb => hb.1) hc hd) (by simp; omega)
  have RB0 : RowG HdB 44 3 W3.heap.size (Rg k3 k4) V (.slice ba n4 bc) x.b := HC7.out.b.keep sB (fun b hb hl => k7V b hl (by have := hb.1; omega) (by have := hb.1; omega) (by have := hb.2; omega)) (by omega) (fun _ h => h)
  have hn8 : n4 ≤ 8192 := by have := HSZ.out.b; rw [HN.out] at this; exact this
  have hn0 : 0 < n4 := by have := HSZ.out.b0; rw [HN.out] at this; exact this
  obtain ⟨g, o, cap, cur, e, hgS, hgV, hgc, RB⟩ := rb_of RB0 HSZ.out.b0 (by have := HSZ.out.b; omega)
  rw [HN.out] at e
  cases e
  have hg3 : k3 ≤ g := hgS.1
  have hg4 : g < k4 := hgS.2
  have hSg : ¬ (fun b => Rg k3 k4 b ∧ b ≠ g) g := fun h => h.2 rfl
  have HSG := hid hSg
  have HFIN : Hid (∀ wr, Xb g V wr → RrS 3 (LyBs (fun b => Rg k3 k4 b ∧ b ≠ g)) (Rg k3 k4) wr (.slice (some ⟨g, o, none⟩) n4 bc) (x.b.map nou) → InPg wr.heap.size (m + 1) wr (.agg #[.slice ta x.t.length tc, .slice va lc vc, .slice vs ls vd, .slice (some ⟨g, o, none⟩) n4 bc]) (mor x [(1, 0)] tP)) := fun wr hX hR => by
    have hs := hX.1.size
    have hsz : V.heap.size ≤ wr.heap.size := hX.1.size
    have t1 := RT.keep (Ly' := LyS) (S' := Rg k0 k1) (w' := wr) (fun _ h => h) fun g o y _ hg h => kS (S := Rg k0 k1) (hX.keep (fun b hb => by have := hb.2; omega)) hg h
    have t2 := RC.keep (Ly' := LyCs (Up k1 k2 W5.heap.size W8.heap.size)) (S' := Up k1 k2 W5.heap.size W8.heap.size) (w' := wr) (fun _ h => h) fun g o y _ hg h => kC (S := Up k1 k2 W5.heap.size W8.heap.size) (hX.keep (fun b hb => by rcases hb with hb | hb <;> omega)) (fun _ h => h) hg h
    have t3 := RS.keep (w' := wr) (hX.keep (fun b hb => by rcases hb with hb | hb <;> omega))
    have t4 := hR.keep (Ly' := LyBs (Rg k3 k4)) (S' := Rg k3 k4) (w' := wr) (fun _ h => h) fun g' o y _ hg h => by
      obtain ⟨v, u, j0, j1, j2, j3, j4, j5⟩ := h
      exact ⟨v, u, j0, j1, j2, j3, j4.keep (fun b hb => hb.1) fun g2 o2 y2 _ hg h => kO (S := fun b => Rg k3 k4 b ∧ b ≠ g) (fun _ _ _ => rfl) (fun b hb => hb.1) hg h, j5.keep (fun b hb => hb.1) fun g o y _ hg h => h⟩
    exact pg_of t1 t2 t3 t4 (fun b hb => by have := hb.2; omega) (fun b hb => by rcases hb with hb | hb <;> omega) (fun b hb => by rcases hb with hb | hb <;> omega) (fun b hb => by have := hb.2; omega)
  have HQV : Hid (∀ wr, Xb g V wr → wr.heap[W4.heap.size]? = some (.cells #[.slice ta x.t.length tc, .slice va lc vc, .slice vs ls vd, .slice (some ⟨g, o, none⟩) n4 bc] 27 (0, 0)) ∧ Below w.heap.size w wr ∧ Below W0.heap.size W0 wr) := fun wr hX => ⟨(hX.2 _ (by omega) (by omega)).trans gV, BV.out.trans (hX.1.mono (by omega)), HBV.out.trans (hX.1.mono (by omega))⟩
  have HRB := hid RB
  have HGC := hid hgc
  clear RT RC0 RC RS0 RS RB0 RB hgc kA g11 gV kV k7V k8V hown hgrow hnb hs11 hls p1' hcl2
  go_wp2_with fail
  clear r1 f1 r2 r3 f3 hW5 hW6 hW7 hW9 hW10 hV e1
  go_loopw [7] (fun i wr => ∃ (q : Nat) (cur : Array Value), q ≤ n4 ∧ i = .int .i64 q ∧ Hid (wr.heap[g]? = some (.cells cur 44 (0, 0)) ∧ RrS 3 (LyBs (fun b => Rg k3 k4 b ∧ b ≠ g)) (Rg k3 k4) wr (.slice (some ⟨g, o, none⟩) n4 bc) (mid x.b q) ∧ Xb g V wr)) (fun i _ => n4 - (intOf i).toNat)
  case atStart => exact ⟨0, cur, by omega, rfl, HGC.out, by rw [mid_0]; exact HRB.out, Xb.refl _ _⟩
  case round =>
    obtain ⟨q, cur, hq, rfl, HL⟩ := hrel
    obtain ⟨p0, p1, p2, p3⟩ := TBase.four_box (HQV.out wr HL.out.2.2).1
    by_cases hlt : q < n4
    · have d0 : decide ((q : Int) < (n4 : Int)) = true := by simp; omega
      have i0 : (0 : Int) ≤ (q : Int) := by omega
      have i1 : (q : Int) < (n4 : Int) := by omega
      have hqb : q < x.b.length := by rw [HN.out]; exact hlt
      have hqm : q < (mid x.b q).length := by rw [mid_len _ _ (by omega)]; exact hqb
      obtain ⟨g', o', cap', hsl, -, -, -, ⟨ov, uv, -, -, y2, -⟩⟩ := RrS.at HL.out.2.1 hqm
      cases hsl
      have fy := frozen_box HL.out.1 (o + q * 3 + 2)
      obtain ⟨R1, hR1⟩ : ∃ R1, R1 = wr := ⟨_, rfl⟩
      subst hR1
      go_wp2_with fail
      go_roundw
      case rel => exact ⟨q + 1, _, by omega, by go_num, cell_set HL.out.1 _ _, mid_step HL.out.2.1 HSG.out HL.out.1 hqb, Xb.store HL.out.2.2 _ _⟩
      case measure => simp only [intOf]; omega
    · have d0 : decide ((q : Int) < (n4 : Int)) = false := by simp; omega
      have hqe : n4 = q := by omega
      subst hqe
      have hR : RrS 3 (LyBs (fun b => Rg k3 k4 b ∧ b ≠ g)) (Rg k3 k4) wr (.slice (some ⟨g, o, none⟩) n4 bc) (x.b.map nou) := by
        have e := mid_all x.b
        rw [HN.out] at e
        rw [← e]
        exact HL.out.2.1
      have cV2 := verify_c (HFIN.out wr HL.out.2.2 hR) (Nat.le_refl _)
      obtain ⟨Y, hY⟩ : ∃ Y, vf (mor x [(1, 0)] tP) = Y := ⟨_, rfl⟩
      rw [hY] at cV2
      have HY := hid hY
      clear hY hR
      obtain ⟨y1, y2, y3⟩ := Y
      have BR := hid (HQV.out wr HL.out.2.2).2.1
      have HBR := hid (HQV.out wr HL.out.2.2).2.2
      have GR := hid (HQV.out wr HL.out.2.2).1
      have hsr : V.heap.size ≤ wr.heap.size := HL.out.2.2.1.size
      obtain ⟨R1, hR1⟩ : ∃ R1, R1 = wr := ⟨_, rfl⟩
      subst hR1
      go_wp2_with fail
      refine cV2.mono ?_
      rintro e W13 ⟨rfl, b13⟩
      have B13 := hid (BR.out.trans (b13.mono BR.out.size) : Below w.heap.size w W13)
      have HB13 := hid (HBR.out.trans (b13.mono HBR.out.size) : Below W0.heap.size W0 W13)
      have s13 : R1.heap.size ≤ W13.heap.size := b13.size
      have g13 := (b13.block _ (by omega)).trans GR.out
      have cN2 : Calls Try.prog 10 #[.int .i64 y3] W13 fun e w' => e = .returned (.int .i64 y3) ∧ W13 = w' := (Leb.num_c y3 W13).mono fun e w' h => ⟨h.1, h.2.symm⟩
      have HY3 : Hid (lc ≤ 8192 → ls ≤ 4096 → y3 = 0) := fun h1 h2 => by
        have := vf_more HOK.out (ck_null _) elm_p (by rw [HLC.out]; exact h1) (by rw [HLS.out]; exact h2)
        rw [HY.out] at this
        exact this
      clear p0 p1 p2 p3 cV2 b13 d0 hlt hq
      obtain ⟨e0, e1, e2, e3⟩ := TBase.four_box g13
      obtain ⟨p0, p1, p2, p3⟩ := TBase.four_box (HG.out W13 HB13.out)
      clear g13
      go_upto_region 16 with fail
      go_cut [77] from 63 to 77 (fun t wx => t = .bool false ∧ wx = W13)
      case first =>
        by_cases hy : y3 = 0
        · have dy : (y3 != 0) = false := by simp [hy]
          clear hy
          go_wp2_with fail
          refine cN2.mono ?_
          rintro e w9 ⟨rfl, h9⟩
          obtain rfl := h9
          clear cN2
          go_wp2_with fail
          go_meet
          exact ⟨rfl, rfl⟩
        · have dy : (y3 != 0) = true := by simp [hy]
          by_cases h1 : lc ≤ 8192
          · have h2 : ¬ ls ≤ 4096 := fun h2 => hy (HY3.out h1 h2)
            have d1 : decide ((lc : Int) ≤ 8192) = true := by simp; omega
            have d2 : decide ((ls : Int) ≤ 4096) = false := by simp; omega
            clear hy h1 h2
            go_wp2_with fail
            refine cN2.mono ?_
            rintro e w9 ⟨rfl, h9⟩
            obtain rfl := h9
            clear cN2
            go_wp2_with fail
            go_meet
            exact ⟨rfl, rfl⟩
          · have d1 : decide ((lc : Int) ≤ 8192) = false := by simp; omega
            clear hy h1
            go_wp2_with fail
            refine cN2.mono ?_
            rintro e w9 ⟨rfl, h9⟩
            obtain rfl := h9
            clear cN2
            go_wp2_with fail
            go_meet
            exact ⟨rfl, rfl⟩
      case rest =>
      obtain ⟨rfl, hwx⟩ := hcut
      obtain rfl := hwx.symm
      clear e0 e1 e2 e3 cN2
      have cP2 := copyP_c (HI.out W13 B13.out) (by omega) HSZ.out
      rw [HN.out] at cP2
      go_wp2_with fail
      refine cP2.mono ?_
      rintro e W14 ⟨ta2, tc2, ca2, cc2, sa2, sc2, ba2, bc2, l0, l1, l2, l3, l4, rfl, hC, b14⟩
      obtain ⟨i2, hk, hx0, hx1, hx2⟩ := info_parts YRf.info_b
      obtain ⟨W15, hW15⟩ : ∃ W, W14.alloc (.cells #[.slice ta2 x.t.length tc2, .slice ca2 x.c.length cc2, .slice sa2 x.s.length sc2, .slice ba2 n4 bc2] 27) = W := ⟨_, rfl⟩
      have b15 : Below W14.heap.size W14 W15 := by rw [← hW15]; exact (Below.refl _ _).alloc (Nat.le_refl _) _
      have g15 : W15.heap[W14.heap.size]? = some (.cells #[.slice ta2 x.t.length tc2, .slice ca2 x.c.length cc2, .slice sa2 x.s.length sc2, .slice ba2 n4 bc2] 27 (0, 0)) := by rw [← hW15]; exact heap_alloc_new W14 _
      have s15 : W14.heap.size < W15.heap.size := (Array.getElem?_eq_some_iff.1 g15).1
      obtain ⟨W16, hW16⟩ : ∃ W, W15.alloc (.cells #[.int .i64 1, .slice none 0 0, .slice none 0 0] 44) = W := ⟨_, rfl⟩
      have b16 : Below W15.heap.size W15 W16 := by rw [← hW16]; exact (Below.refl _ _).alloc (Nat.le_refl _) _
      have g16 : W16.heap[W15.heap.size]? = some (.cells ([.int .i64 1, .slice none 0 0, .slice none 0 0] : List Value).toArray 44 (0, 0)) := by rw [← hW16]; exact heap_alloc_new W15 _
      have s16 : W15.heap.size < W16.heap.size := (Array.getElem?_eq_some_iff.1 g16).1
      have hC6 := hC.keep (b15.trans (b16.mono (by omega)))
      have hm5 := hC.l5
      have hm0 := hC.l0
      have hm1 := hC.l1
      have hm2 := hC.l2
      have hm3 := hC.l3
      have hm4 := hC.l4
      obtain ⟨bss, o1, o2, o3, o4, o5⟩ := apart hC6.b
      have HC6 := hid hC6
      have HO := hid (And.intro o2 (And.intro o3 (And.intro o4 o5)))
      have G15 := hid ((b16.block _ s15).trans g15)
      have B14 := hid (B13.out.trans (b14.mono B13.out.size) : Below w.heap.size w W14)
      have HB14 := hid (HB13.out.trans (b14.mono HB13.out.size) : Below W0.heap.size W0 W14)
      have s14 : W13.heap.size ≤ W14.heap.size := b14.size
      have B16 := hid (b15.trans (b16.mono (by omega)) : Below W14.heap.size W14 W16)
      have hcl3 := src_of g16
      have e3 := cell_of g15 3 _ rfl
      have hlo16 : W13.heap.size ≤ W16.heap.size := by omega
      rw [HN.out] at o1
      clear hC hC6 b15 b16 g15 g16 o2 o3 o4 o5 cP2 b14
      go_wp2_with (first
        | (at_builtin; (try rw [hW16]); refine YAp.app_seen rfl _ _ 25 rfl W13.heap.size 44 i2 (.agg #[.int .i64 0, .slice none 0 0, .slice none 0 0]) 3 56 Try.underlying25 hk hx0 hx1 hx2 rfl (by decide) _ _ _ rfl o1 _ 1 _ [.int .i64 1, .slice none 0 0, .slice none 0 0] rfl hcl3 rfl (by intro u hu; simp only [List.mem_cons, List.not_mem_nil, or_false] at hu; rcases hu with rfl | rfl | rfl <;> rfl) (by unfold maxLen; omega) (by omega) hlo16 ?_))
      intro v' W17 hown hgrow hnb
      have hb17 := more_b (l := x.b) (k := l3) (k' := l4) (L := W15.heap.size) HO.out.1 HO.out.2.1 HO.out.2.2.1 HO.out.2.2.2 (by omega) hgrow (by rw [HN.out]; exact hown) hnb
      obtain ⟨lb, hlb⟩ : ∃ n, (x.b ++ [(⟨1, [], []⟩ : Bk)]).length = n := ⟨_, rfl⟩
      have hlb2 : lb = n4 + 1 := by rw [← hlb, List.length_append, HN.out]; rfl
      obtain ⟨vb, vf', rfl⟩ : ∃ a c, v' = .slice a lb c := by obtain ⟨a, c, e⟩ := hb17.slice; rw [hlb] at e; exact ⟨a, c, e⟩
      have kB : ∀ b, b < W16.heap.size → ¬ (l3 ≤ b ∧ b < l4) → W17.heap[b]? = W16.heap[b]? := fun b hb hn => hgrow.block b hb (fun e => hn (HO.out.2.2.1 b e.symm).1)
      have s17 : W16.heap.size ≤ W17.heap.size := hgrow.size
      have g17 : W17.heap[W14.heap.size]? = some (.cells #[.slice ta2 x.t.length tc2, .slice ca2 x.c.length cc2, .slice sa2 x.s.length sc2, .slice ba2 n4 bc2] 27 (0, 0)) := (kB _ (by omega) (by omega)).trans G15.out
      have B17 := hid ((B14.out.trans (B16.out.mono (by omega))).grown hgrow (by omega) (fun r hr => by have := (HO.out.2.2.1 r hr).1; have := this.1; omega) : Below w.heap.size w W17)
      have HB17 := hid ((HB14.out.trans (B16.out.mono (by omega))).grown hgrow (by omega) (fun r hr => by have := (HO.out.2.2.1 r hr).1; have := this.1; omega) : Below W0.heap.size W0 W17)
      obtain ⟨W18, hW18⟩ : ∃ W, W17.setCell ⟨W14.heap.size, 3, none⟩ (.slice vb lb vf') = W := ⟨_, rfl⟩
      have g18 : W18.heap[W14.heap.size]? = some (.cells #[.slice ta2 x.t.length tc2, .slice ca2 x.c.length cc2, .slice sa2 x.s.length sc2, .slice vb lb vf'] 27 (0, 0)) := by rw [← hW18]; exact cell_set g17 3 _
      have kC : ∀ b, b ≠ W14.heap.size → W18.heap[b]? = W17.heap[b]? := fun b hb => by rw [← hW18]; exact Below.heap_setCell _ _ _ _ hb
      have s18 : W17.heap.size ≤ W18.heap.size := by rw [← hW18]; simp [World.setCell]
      have r3 := cell_of g17 3 _ rfl
      have f3 := frozen_box g17 3
      have B18 := hid (show Below w.heap.size w W18 by rw [← hW18]; exact B17.out.setCell (p := ⟨W14.heap.size, 3, none⟩) (by show w.heap.size ≤ W14.heap.size; omega) _)
      have HB18 := hid (show Below W0.heap.size W0 W18 by rw [← hW18]; exact HB17.out.setCell (p := ⟨W14.heap.size, 3, none⟩) (by show W0.heap.size ≤ W14.heap.size; omega) _)
      have k6 : ∀ b, b < W16.heap.size → ¬ (l3 ≤ b ∧ b < l4) → b ≠ W14.heap.size → W18.heap[b]? = W16.heap[b]? := fun b hb h1 h3 => (kC b h3).trans (kB b hb h1)
      have RT : RrS 1 LyS (Rg l0 l1) W18 (.slice ta2 x.t.length tc2) x.t := HC6.out.t.keep (fun _ h => h) fun g o y _ hg h => kS (S := Rg l0 l1) (fun b hb hl => k6 b hl (by have := hb.2; omega) (by have := hb.2; omega)) hg h
      have RC0 : RowG HdC 50 1 W13.heap.size (Rg l1 l2) W18 (.slice ca2 x.c.length cc2) x.c := HC6.out.c.keep sC (fun b hb hl => k6 b hl (by have := hb.2; omega) (by have := hb.2; omega)) (by omega) (fun _ h => h)
      have RC := RC0.rr (Ly := LyCs (Rg l1 l2)) (by omega) fun g o c y hc hd => lyC (fun b hb => hb.1) hc hd
      have RS0 : RowG (HdT (m + 1)) 53 4 W13.heap.size (Rg l2 l3) W18 (.slice sa2 x.s.length sc2) x.s := HC6.out.s.keep sT (fun b hb hl => k6 b hl (by have := hb.2; omega) (by have := hb.2; omega)) (by omega) (fun _ h => h)
      have RS := rrs_inl (RS0.rr (Ly := LyTs (m + 1) (Rg l2 l3)) (by omega) fun g o c y hc hd => lyT (fun b hb => hb.1) hc hd) (by omega)
      have RB0 : RowG HdB 44 3 W13.heap.size (Up l3 l4 W15.heap.size W17.heap.size) W18 (.slice vb lb vf') (x.b ++ [⟨1, [], []⟩]) := hb17.keep sB (fun b hb hl => kC b (by rcases hb with hb | hb <;> omega)) (by omega) (fun _ h => h)
      have RB := RB0.rr (Ly := LyBs (Up l3 l4 W15.heap.size W17.heap.size)) (by rw [hlb]; omega) fun g o c y hc hd => lyB (fun b hb => hb.1) hc hd
      have hP : InPg W18.heap.size (m + 1) W18 (.agg #[.slice ta2 x.t.length tc2, .slice ca2 x.c.length cc2, .slice sa2 x.s.length sc2, .slice vb lb vf']) ⟨x.t, x.c, x.s, x.b ++ [⟨1, [], []⟩]⟩ := pg_of RT RC RS RB (fun b hb => by have := hb.2; omega) (fun b hb => by have := hb.2; omega) (fun b hb => by have := hb.2; omega) (fun b hb => by rcases hb with hb | hb <;> omega)
      have cV3 := verify_c hP (Nat.le_refl _)
      have hvf := BMb.vf_block (x := x) ⟨1, [], []⟩ HOK.out
      rw [HN.out] at hvf
      have G18 := hid g18
      obtain ⟨m0, m1, m2, m3⟩ := TBase.four_box g18
      clear RT RC0 RC RS0 RS RB0 RB hP kB kC k6 g17 g18 hb17 hown hgrow hnb hlb o1 hcl3
      by_cases h8 : 8192 < n4 + 1
      · rw [if_pos h8] at hvf
        rw [hvf] at cV3
        dsimp only at cV3
        have d8 : decide ((8192 : Int) < (lb : Int)) = true := by simp; omega
        clear h8 hvf hlb2
        go_wp2_with fail
        refine cV3.mono ?_
        rintro e W19 ⟨rfl, b19⟩
        have B19 := hid (B18.out.trans (b19.mono B18.out.size) : Below w.heap.size w W19)
        have cN3 : Calls Try.prog 10 #[.int .i64 2205] W19 fun e w' => e = .returned (.int .i64 2205) ∧ W19 = w' := (Leb.num_c 2205 W19).mono fun e w' h => ⟨h.1, h.2.symm⟩
        obtain ⟨e0, e1, e2, e3⟩ := TBase.four_box ((b19.block _ (by omega)).trans G18.out)
        clear b19 cV3 r3 f3 hW18 m0 m1 m2 m3
        go_wp2_with fail
        refine cN3.mono ?_
        rintro e w9 ⟨rfl, h9⟩
        obtain rfl := h9
        clear cN3
        go_wp2_with fail
        go_ret
        exact ⟨rfl, B19.out⟩
      · rw [if_neg h8] at hvf
        rw [hvf] at cV3
        dsimp only at cV3
        have d8 : decide ((8192 : Int) < (lb : Int)) = false := by simp; omega
        clear h8 hvf hlb2
        go_wp2_with fail
        refine cV3.mono ?_
        rintro e W19 ⟨rfl, b19⟩
        have B19 := hid (B18.out.trans (b19.mono B18.out.size) : Below w.heap.size w W19)
        have HB19 := hid (HB18.out.trans (b19.mono HB18.out.size) : Below W0.heap.size W0 W19)
        have cN3 : Calls Try.prog 10 #[.int .i64 2205] W19 fun e w' => e = .returned (.int .i64 2205) ∧ W19 = w' := (Leb.num_c 2205 W19).mono fun e w' h => ⟨h.1, h.2.symm⟩
        obtain ⟨e0, e1, e2, e3⟩ := TBase.four_box ((b19.block _ (by omega)).trans G18.out)
        obtain ⟨p0, p1, p2, p3⟩ := TBase.four_box (HG.out W19 HB19.out)
        clear b19 cV3 r3 f3 hW18 m0 m1 m2 m3
        go_wp2_with fail
        refine cN3.mono ?_
        rintro e w9 ⟨rfl, h9⟩
        obtain rfl := h9
        clear cN3
        go_wp2_with fail
        go_ret
        exact ⟨rfl, B19.out⟩
end Go.Proofs.Ytgknjjaemjkloaa.WVm
