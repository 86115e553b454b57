/- The law VerifyCuts, gone through. -/
import Derived.Test.YtgknjjaemjkloaaBCw
import Derived.Test.YtgknjjaemjkloaaBAw
import Derived.Test.YtgknjjaemjkloaaTShallow
import Derived.Deep.CutBlock
import Derived.Deep.CutRange
import Derived.BigQuiet
namespace Go.Proofs.Ytgknjjaemjkloaa.BCx
open Go.RowKit Go.Proofs.Ytgknjjaemjkloaa.BPl Go.Proofs.Ytgknjjaemjkloaa.YRr Go.Proofs.Ytgknjjaemjkloaa.YRs Go.Proofs.Ytgknjjaemjkloaa.YRl Go.Proofs.Ytgknjjaemjkloaa.BBx Go.Proofs.Ytgknjjaemjkloaa.BMo Go.Proofs.Ytgknjjaemjkloaa.BCg Go.Proofs.Ytgknjjaemjkloaa.BCs Go.Proofs.Ytgknjjaemjkloaa.BCt
open Go.Proofs.Ytgknjjaemjkloaa.BSz (Szd)
open Go.Proofs.Ytgknjjaemjkloaa.BVf (cell_set)
open Go.Proofs.Ytgknjjaemjkloaa.YPl (Oq Bk Pg)
open Go.Proofs.Ytgknjjaemjkloaa.YEn (InPg)
open Go.Proofs.Ytgknjjaemjkloaa.TBase (T Keep Rg frozen_box)
set_option linter.unusedVariables false

theorem cut_parts (L : List Oq) (t : Nat) (h : L.length = t + 1) (ht : t < L.length) : L = L.dropLast ++ [L[t]] := by
  have hne : L ≠ [] := fun e => by rw [e] at h; simp at h
  have e : L.getLast hne = L[t] := by rw [List.getLast_eq_getElem]; congr 1; omega
  rw [← e]
  exact (List.dropLast_concat_getLast hne).symm
/-- The program whose block k has lost its last operation and its update. -/
def cutP (x : Pg) (k : Nat) (K : Bk) : Pg := ⟨x.t, x.c, x.s, x.b.set k ⟨K.d, K.o.dropLast, []⟩⟩
theorem cut_plain {x : Pg} (h : (vf x).2.2 = 0) {k t : Nat} (hk : k < x.b.length) {K : Bk} (hK : x.b[k] = K) (hl : K.o.length = t + 1) (ht : t < K.o.length) {u : Oq} (hu : K.o[t] = u) :
    (u.k ≠ 3 ∧ u.k ≠ 4 ∧ u.k ≠ 5 ∧ u.k ≠ 11) ∧ (u.k = 6 ∨ u.k = 12 → vf (cutP x k K) = ((k : Int), (t : Int), 2204)) ∧ (u.k = 1 ∨ u.k = 2 → (vf (cutP x k K)).2.2 = 0) := by
  subst hu
  have hd : K.o.dropLast.length = t := by rw [List.length_dropLast]; omega
  have hb : x.b[k] = ⟨K.d, K.o.dropLast ++ [K.o[t]], K.u⟩ := by rw [← cut_parts K.o t hl ht, hK]
  obtain ⟨h3, h4, h5, h11, h6, h1⟩ := BCv.vf_cut h hk hb
  rw [hd] at h6
  exact ⟨⟨h3, h4, h5, h11⟩, h6, h1⟩
theorem cut_state {m lo k0 k1 k2 k3 k4 g2 o2 t k tc cc sc bc oc2 : Nat} {ta ca sa oa2 : Option Addr} {W7 W8 W9 : World} {x : Pg} {K : Bk} (hC : Cp m lo k0 k1 k2 k3 k4 W7 (.slice ta x.t.length tc) (.slice ca x.c.length cc) (.slice sa x.s.length sc) (.slice (some ⟨g2, o2, none⟩) x.b.length bc) x) (hz : Szd x) (hk : k < x.b.length) (hK : x.b[k] = K) (hl : K.o.length = t + 1)
    (ho : W7.cell? ⟨g2, o2 + k * 3 + 1, none⟩ = some (.slice oa2 (t + 1) oc2)) (hW8 : (W7.setCell ⟨g2, o2 + k * 3 + 1, none⟩ (.slice oa2 t oc2)).drew = W8) (hW9 : W8.setCell ⟨g2, o2 + k * 3 + 2, none⟩ (.slice none 0 0) = W9) :
    (∃ u, W8.cell? ⟨g2, o2 + k * 3 + 2, none⟩ = some u) ∧ W8.frozen? ⟨g2, o2 + k * 3 + 2, none⟩ = false ∧ (k3 ≤ g2 ∧ g2 < k4) ∧ (∀ b, b ≠ g2 → W8.heap[b]? = W7.heap[b]?) ∧ (∀ b, b ≠ g2 → W9.heap[b]? = W7.heap[b]?) ∧ W7.heap.size ≤ W8.heap.size ∧ W8.heap.size ≤ W9.heap.size ∧
    InPg W9.heap.size m W9 (.agg #[.slice ta x.t.length tc, .slice ca x.c.length cc, .slice sa x.s.length sc, .slice (some ⟨g2, o2, none⟩) x.b.length bc]) (cutP x k K) := by
  have hl1 := hC.l1
  have hl2 := hC.l2
  have hl3 := hC.l3
  have hl4 := hC.l4
  have hl5 := hC.l5
  obtain ⟨g', o', cap', cur, e, hgS, -, h7, RB7⟩ := rb_of hC.b hz.b0 (by have := hz.b; omega)
  cases e
  have hg3 : k3 ≤ g2 := hgS.1
  have hg4 : g2 < k4 := hgS.2
  have hS : ¬ (fun b => Rg k3 k4 b ∧ b ≠ g2) g2 := fun h => h.2 rfl
  have hKl : x.b[k].o.length = t + 1 := by rw [hK]; exact hl
  have RB8 : RrS 3 (LyBs (fun b => Rg k3 k4 b ∧ b ≠ g2)) (Rg k3 k4) W8 (.slice (some ⟨g2, o2, none⟩) x.b.length bc) (x.b.set k ⟨x.b[k].d, x.b[k].o.dropLast, x.b[k].u⟩) := by
    have := rb_cut RB7 hS h7 hk (by omega) (by rw [hKl]; exact ho)
    rw [hKl, Nat.add_sub_cancel] at this
    rw [← hW8]
    exact this
  rw [hK] at RB8
  have h8 : W8.heap[g2]? = some (.cells (cur.setIfInBounds (o2 + k * 3 + 1) (.slice oa2 t oc2)) 44 (0, 0)) := by rw [← hW8]; exact cell_set h7 _ _
  have k78 : ∀ b, b ≠ g2 → W8.heap[b]? = W7.heap[b]? := fun b hb => by rw [← hW8]; exact Below.heap_setCell _ _ _ _ hb
  have s8 : W7.heap.size ≤ W8.heap.size := by rw [← hW8]; simp [World.setCell, World.drew]
  have hks : k < (x.b.set k ⟨K.d, K.o.dropLast, K.u⟩).length := by rw [List.length_set]; exact hk
  obtain ⟨g', o', cap'', hsl, -, -, -, ⟨ov3, uv3, -, -, y2, -⟩⟩ := RrS.at RB8 hks
  rw [List.length_set] at hsl
  cases hsl
  have fy := frozen_box h8 (o2 + k * 3 + 2)
  have hbs : (x.b.set k ⟨K.d, K.o.dropLast, K.u⟩).set k (nou ((x.b.set k ⟨K.d, K.o.dropLast, K.u⟩)[k])) = x.b.set k ⟨K.d, K.o.dropLast, []⟩ := by
    rw [List.set_set, List.getElem_set_self]
    rfl
  have RB9 := rb_nil RB8 hS h8 hks
  rw [hbs, hW9] at RB9
  have k79 : ∀ b, b ≠ g2 → W9.heap[b]? = W7.heap[b]? := fun b hb => (by rw [← hW9]; exact Below.heap_setCell _ _ _ _ hb : W9.heap[b]? = W8.heap[b]?).trans (k78 b hb)
  have s9 : W8.heap.size ≤ W9.heap.size := by rw [← hW9]; simp [World.setCell]
  have RT : RrS 1 LyS (Rg k0 k1) W9 (.slice ta x.t.length tc) x.t := hC.t.keep (fun _ h => h) fun g o y _ hg h => kS (S := Rg k0 k1) (fun b hb hl => k79 b (by have := hb.2; omega)) hg h
  have RC0 : RowG HdC 50 1 lo (Rg k1 k2) W9 (.slice ca x.c.length cc) x.c := hC.c.keep sC (fun b hb hl => k79 b (by have := hb.2; omega)) (by omega) (fun _ h => h)
  have RC := RC0.rr (Ly := LyCs (Rg k1 k2)) (by have := hz.c; omega) fun g o c y hc hd => lyC (fun b hb => hb.1) hc hd
  have RS0 : RowG (HdT m) 53 4 lo (Rg k2 k3) W9 (.slice sa x.s.length sc) x.s := hC.s.keep sT (fun b hb hl => k79 b (by have := hb.2; omega)) (by omega) (fun _ h => h)
  have RS := rrs_inl (RS0.rr (Ly := LyTs m (Rg k2 k3)) (by have := hz.s; omega) fun g o c y hc hd => lyT (fun b hb => hb.1) hc hd) (by have := hz.s; omega)
  have RB := RB9.keep (Ly' := LyBs (Rg k3 k4)) (S' := Rg k3 k4) (w' := W9) (fun _ h => h) fun g' o y _ hg h => by
    obtain ⟨v, u, j0, j1, j2, j3, j4, j5⟩ := h
    exact ⟨v, u, j0, j1, j2, j3, j4.keep (fun b hb => hb.1) fun g2' o2' y2 _ hg h => kO (S := fun b => Rg k3 k4 b ∧ b ≠ g2) (fun _ _ _ => rfl) (fun b hb => hb.1) hg h, j5.keep (fun b hb => hb.1) fun g o y _ hg h => h⟩
  exact ⟨⟨_, y2⟩, fy, ⟨hg3, hg4⟩, k78, k79, s8, s9, pg_of RT RC RS RB (fun b hb => by have := hb.2; omega) (fun b hb => by have := hb.2; omega) (fun b hb => by have := hb.2; omega) (fun b hb => by have := hb.2; omega)⟩
end Go.Proofs.Ytgknjjaemjkloaa.BCx

namespace Go.Proofs.Ytgknjjaemjkloaa.WVc
open Go.RowKit Go.Proofs.Ytgknjjaemjkloaa.BPl Go.Proofs.Ytgknjjaemjkloaa.YRr Go.Proofs.Ytgknjjaemjkloaa.YRs Go.Proofs.Ytgknjjaemjkloaa.YRl Go.Proofs.Ytgknjjaemjkloaa.BBx Go.Proofs.Ytgknjjaemjkloaa.BVf Go.Proofs.Ytgknjjaemjkloaa.BMo Go.Proofs.Ytgknjjaemjkloaa.BCg Go.Proofs.Ytgknjjaemjkloaa.BCs Go.Proofs.Ytgknjjaemjkloaa.BCt Go.Proofs.Ytgknjjaemjkloaa.BCw Go.Proofs.Ytgknjjaemjkloaa.BCx
open Go.Proofs.Ytgknjjaemjkloaa.BHm (Xb Xb.refl)
open Go.Proofs.Ytgknjjaemjkloaa.BSf (hid Lo)
open Go.Proofs.Ytgknjjaemjkloaa.BSz (Szd vf_szd)
open Go.Proofs.Ytgknjjaemjkloaa.YPl (Oq Bk Pg)
open Go.Proofs.Ytgknjjaemjkloaa.YEn (InPg)
open Go.Proofs.Ytgknjjaemjkloaa.TBase (T Keep InL heap_alloc_new frozen_box Rg)
open Go.Proofs.Ytgknjjaemjkloaa.CPu (Ins)
set_option linter.unusedVariables false

theorem k_ok (kk : Int) (n : Nat) (hn : 0 < n) (h : n ≤ 140737488351232) : ∃ k : Nat, wrap64 ((IntKind.u64.wrap kk).tmod n) = k ∧ k < n := by
  have h0 : 0 ≤ IntKind.u64.wrap kk := by rw [IntKind.wrap_u64]; omega
  rw [Int.tmod_eq_emod_of_nonneg h0]
  have h1 := Int.emod_nonneg (IntKind.u64.wrap kk) (b := n) (by omega)
  have h2 := Int.emod_lt_of_pos (IntKind.u64.wrap kk) (b := n) (by omega)
  generalize IntKind.u64.wrap kk % n = r at *
  refine ⟨r.toNat, ?_, by omega⟩
  unfold wrap64
  omega
set_option maxHeartbeats 4000000 in
theorem box5z (w : World) (a b c d e x y z u v : Value) (t : TypeId) : (((((w.alloc (.cells #[a, b, c, d, e] t)).setCell ⟨w.heap.size, 0, none⟩ x).setCell ⟨w.heap.size, 1, none⟩ y).setCell ⟨w.heap.size, 2, none⟩ z).setCell ⟨w.heap.size, 3, none⟩ u).setCell ⟨w.heap.size, 4, none⟩ v = w.alloc (.cells #[x, y, z, u, v] t) := by
  simp only [World.setCell, World.alloc]
  congr 1
  apply Array.ext_getElem?
  intro i
  by_cases h : i = w.heap.size
  · subst h
    simp only [Array.getElem?_modify, Array.getElem?_push_size, if_true, Option.map_some]
    rfl
  · simp only [Array.getElem?_modify, if_neg (Ne.symm h), Array.getElem?_push, if_neg h]
set_option maxRecDepth 20000 in
set_option maxHeartbeats 6400000 in
theorem walk {m : Nat} {w : World} {v : Value} {x : Pg} {kk : Int} (hI0 : InPg w.heap.size m w v x) (hkk : i64 kk) :
    Calls Try.prog 6 #[v, .int .i64 kk] w fun e w' => e = .returned (.bool true) ∧ Below w.heap.size w w' := by
  have hI := pg_deep hI0
  clear hI0
  have HI : Hid (∀ W, Below w.heap.size w W → InPg w.heap.size (m + 1) W v x) := fun W hW => hI.below hW
  obtain ⟨a, n1, c1, b, n2, c2, c, n3, c3, d, n4, c4, rfl, -, -, hT, hBl⟩ := hI
  have e4 : n4 = x.b.length := by obtain ⟨_, _, e, _⟩ := hBl; cases e; rfl
  have hb47 : x.b.length ≤ 140737488351232 := by obtain ⟨_, _, _, _, _, h, _⟩ := hBl; exact h
  obtain ⟨n, hn⟩ : ∃ n, x.b.length = n := ⟨_, rfl⟩
  rw [hn] at e4 hb47
  subst e4
  have HN := hid hn
  obtain ⟨W0, hW0⟩ : ∃ W, w.alloc (.cells #[.slice a n1 c1, .slice b n2 c2, .slice c n3 c3, .slice d n4 c4] 27) = W := ⟨_, rfl⟩
  have b0 : Below w.heap.size w W0 := by rw [← hW0]; exact (Below.refl _ w).alloc (Nat.le_refl _) _
  have g0 : W0.heap[w.heap.size]? = some (.cells #[.slice a n1 c1, .slice b n2 c2, .slice c n3 c3, .slice d n4 c4] 27 (0, 0)) := by rw [← hW0]; exact heap_alloc_new w _
  have s0 : w.heap.size < W0.heap.size := (Array.getElem?_eq_some_iff.1 g0).1
  have cA := BAw.awake_c W0
  have B0 := hid b0
  have HG : Hid (∀ W, Below W0.heap.size W0 W → W.heap[w.heap.size]? = some (.cells #[.slice a n1 c1, .slice b n2 c2, .slice c n3 c3, .slice d n4 c4] 27 (0, 0))) := fun W h => (h.block _ s0).trans g0
  clear hT hBl b0 g0 hn
  go_enter Try.func6, Try.ntmps6
  go_wp2_with fail
  refine cA.mono ?_
  rintro e W1 ⟨rfl, b1⟩
  have HB1 := hid b1
  have B1 := hid (B0.out.trans (b1.mono B0.out.size) : Below w.heap.size w W1)
  have hs1 : W0.heap.size ≤ W1.heap.size := b1.size
  obtain ⟨p0, p1, p2, p3⟩ := TBase.four_box (HG.out W1 b1)
  obtain ⟨_, _, _, _, _, _, _, _, _, _, _, _, e, -, -, hT, -⟩ := HI.out W1 B1.out
  cases e
  have cS := TShallow.shallow_c (m + 1) _ x.s W1 hT.plain
  clear cA b1 hT hW0
  obtain ⟨D, hD⟩ : ∃ D, decide (TShallow.depL x.s ≤ 4096) = D := ⟨_, rfl⟩
  rw [hD] at cS
  clear hD
  go_wp2_with fail
  refine cS.mono ?_
  rintro e W2 ⟨rfl, b2⟩
  have HB2 := hid (HB1.out.trans (b2.mono HB1.out.size) : Below W0.heap.size W0 W2)
  have B2 := hid (B1.out.trans (b2.mono B1.out.size) : Below w.heap.size w W2)
  have hs2 : W1.heap.size ≤ W2.heap.size := b2.size
  clear cS b2 p0 p1 p2 p3
  obtain ⟨p0, p1, p2, p3⟩ := TBase.four_box (HG.out W2 HB2.out)
  cases D with
  | false =>
    go_wp2_with fail
    go_ret
    exact ⟨rfl, B2.out⟩
  | true =>
  by_cases hn0 : n4 = 0
  · subst hn0
    go_wp2_with fail
    go_ret
    exact ⟨rfl, B2.out⟩
  have dn : ((n4 : Int) == 0) = false := by simp; omega
  have cV := verify_c (HI.out W2 B2.out) (by omega)
  obtain ⟨Z, hZ⟩ : ∃ Z, vf x = Z := ⟨_, rfl⟩
  rw [hZ] at cV
  have HZ := hid hZ
  clear hZ
  obtain ⟨z1, z2, z3⟩ := Z
  go_wp2_with fail
  refine cV.mono ?_
  rintro e W3 ⟨rfl, b3⟩
  have HB3 := hid (HB2.out.trans (b3.mono HB2.out.size) : Below W0.heap.size W0 W3)
  have B3 := hid (B2.out.trans (b3.mono B2.out.size) : Below w.heap.size w W3)
  have hs3 : W2.heap.size ≤ W3.heap.size := b3.size
  have cN : Calls Try.prog 10 #[.int .i64 z3] W3 fun e w' => e = .returned (.int .i64 z3) ∧ W3 = w' := (Leb.num_c z3 W3).mono fun e w' h => ⟨h.1, h.2.symm⟩
  clear cV b3 p0 p1 p2 p3
  obtain ⟨p0, p1, p2, p3⟩ := TBase.four_box (HG.out W3 HB3.out)
  obtain ⟨k, hk, hkn⟩ := k_ok kk n4 (by omega) hb47
  go_wp2_with fail
  rw [hk]
  clear hk hkk
  by_cases hz3 : z3 = 0
  rotate_left 1
  · have dz : (z3 != 0) = true := by simp [hz3]
    clear hz3
    refine cN.mono ?_
    rintro e w9 ⟨rfl, h9⟩
    obtain rfl := h9
    clear cN
    go_wp2_with fail
    go_ret
    exact ⟨rfl, B3.out⟩
  have dz : (z3 != 0) = false := by simp [hz3]
  have HOK : Hid ((vf x).2.2 = 0) := by show (vf x).2.2 = 0; rw [HZ.out]; exact hz3
  have HSZ := hid (vf_szd HOK.out)
  have hkx : k < x.b.length := by rw [HN.out]; exact hkn
  have i0 : (0 : Int) ≤ (k : Int) := by omega
  have i1 : (k : Int) < (n4 : Int) := by omega
  obtain ⟨K, hK⟩ : ∃ K, x.b[k] = K := ⟨_, rfl⟩
  obtain ⟨nl, hnl⟩ : ∃ nl, K.o.length = nl := ⟨_, rfl⟩
  obtain ⟨_, _, _, _, _, _, _, _, _, _, _, _, e, -, -, -, h4⟩ := HI.out W3 B3.out
  cases e
  have hrr : RrS 3 (LyBs (Lo w.heap.size)) (Lo w.heap.size) W3 (.slice d n4 c4) x.b := h4
  obtain ⟨g, o, cap', hsl, hl, hm, hg, ⟨ov, uv, -, y1, -, -, hov, -⟩⟩ := RrS.at hrr hkx
  rw [HN.out] at hsl
  cases hsl
  rw [hK] at hov
  obtain ⟨oa, oc, rfl, -⟩ := hov
  rw [hnl] at y1
  have HNL := hid hnl
  have HK := hid hK
  have HKX := hid hkx
  clear hz3 HZ h4 hrr hnl hl hm hg hK
  by_cases hnz : nl = 0
  · have dnl : ((nl : Int) == 0) = true := by simp; omega
    clear hnz
    refine cN.mono ?_
    rintro e w9 ⟨rfl, h9⟩
    obtain rfl := h9
    clear cN
    go_wp2_with fail
    go_ret
    exact ⟨rfl, B3.out⟩
  have dnl : ((nl : Int) == 0) = false := by simp; omega
  have cP := copyP_c (HI.out W3 B3.out) (by omega) HSZ.out
  rw [HN.out] at cP
  refine cN.mono ?_
  rintro e w9 ⟨rfl, h9⟩
  obtain rfl := h9
  clear cN
  go_wp2_with fail
  refine cP.mono ?_
  rintro e W4 ⟨ta, tc, ca, cc, sa, sc, ba, bc, k0, k1, k2, k3, k4, rfl, hC, b4⟩
  clear y1 dnl
  as_aux_lemma =>
  obtain ⟨t, rfl⟩ : ∃ t, nl = t + 1 := ⟨nl - 1, by omega⟩
  obtain ⟨W5, hW5⟩ : ∃ W, W4.alloc (.cells #[.slice ta x.t.length tc, .slice ca x.c.length cc, .slice sa x.s.length sc, .slice ba n4 bc] 27) = W := ⟨_, rfl⟩
  have b5 : Below W4.heap.size W4 W5 := by rw [← hW5]; exact (Below.refl _ _).alloc (Nat.le_refl _) _
  have g5 : W5.heap[W4.heap.size]? = some (.cells #[.slice ta x.t.length tc, .slice ca x.c.length cc, .slice sa x.s.length sc, .slice ba n4 bc] 27 (0, 0)) := by rw [← hW5]; exact heap_alloc_new W4 _
  have s5 : W4.heap.size < W5.heap.size := (Array.getElem?_eq_some_iff.1 g5).1
  have hC5 := hC.keep b5
  have hl5 := hC.l5
  have hlo := hC.l0
  have hl1 := hC.l1
  have hl2 := hC.l2
  have hl3 := hC.l3
  have hl4 := hC.l4
  have B4 := hid (B3.out.trans (b4.mono B3.out.size) : Below w.heap.size w W4)
  have hs4 : W3.heap.size ≤ W4.heap.size := b4.size
  have B5 := hid (B4.out.trans (b5.mono (by omega)) : Below w.heap.size w W5)
  obtain ⟨g2, o2, cap2, cur, e, hgS, hgV, hgc, RB⟩ := rb_of hC5.b HSZ.out.b0 (by have := HSZ.out.b; omega)
  rw [HN.out] at e
  cases e
  have hg3 : k3 ≤ g2 := hgS.1
  have hg4 : g2 < k4 := hgS.2
  have HSG : Hid (¬ (fun b => Rg k3 k4 b ∧ b ≠ g2) g2) := fun h => h.2 rfl
  obtain ⟨g', o', cap'', hsl, -, -, -, ⟨ov2, uv2, y0, y1, y2, -, hov2, -⟩⟩ := RrS.at RB HKX.out
  rw [HN.out] at hsl
  cases hsl
  rw [HK.out] at hov2
  have hov := hov2
  obtain ⟨oa2, oc2, rfl, -⟩ := hov
  have htx : t < K.o.length := by rw [HNL.out]; omega
  obtain ⟨g3, o3, cap3, hsl, hc1, hc2, -, ⟨lv, z0, z1', z2', z3', z4, -, hlr⟩⟩ := RrS.at hov2 htx
  cases hsl
  obtain ⟨la, lc, rfl, -⟩ := hlr
  rw [HNL.out] at y1 hc1
  have hyo := y1
  have HC5 := hid hC5
  have HRB := hid RB
  have HGC := hid hgc
  obtain ⟨u, hu⟩ : ∃ u, K.o[t] = u := ⟨_, rfl⟩
  have HU := hid hu
  obtain ⟨lln, hln⟩ : ∃ n, K.o[t].l.length = n := ⟨_, rfl⟩
  rw [hln] at z4
  rw [hu] at z0 z1' z2' z3'
  obtain ⟨e0, e1, e2, e3⟩ := TBase.four_box g5
  have j0 : (0 : Int) ≤ (t : Int) := by omega
  have j1 : (t : Int) < (t : Int) + 1 := by omega
  obtain ⟨W6, hW6, b6, s6, x6⟩ := BSm.box5 W5 (.int .i64 u.k) (.int .i64 u.a) (.int .i64 u.b) (.int .i64 u.c) (.slice la lln lc) 46
  obtain ⟨Wz, hWz⟩ : ∃ W, W5.alloc (.cells #[.int .i64 0, .int .i64 0, .int .i64 0, .int .i64 0, .slice none 0 0] 46) = W := ⟨_, rfl⟩
  have bz : Below W5.heap.size W5 Wz := by rw [← hWz]; exact (Below.refl _ _).alloc (Nat.le_refl _) _
  have xz : Wz.heap[W5.heap.size]? = some (.cells #[.int .i64 0, .int .i64 0, .int .i64 0, .int .i64 0, .slice none 0 0] 46 (0, 0)) := by rw [← hWz]; exact heap_alloc_new W5 _
  have hE := box5z W5 (.int .i64 0) (.int .i64 0) (.int .i64 0) (.int .i64 0) (.slice none 0 0) (.int .i64 u.k) (.int .i64 u.a) (.int .i64 u.b) (.int .i64 u.c) (.slice la lln lc) 46
  rw [hWz, hW6] at hE
  have v0 := IBase.below_cell z0 bz
  have v1 := IBase.below_cell z1' bz
  have v2 := IBase.below_cell z2' bz
  have v3 := IBase.below_cell z3' bz
  have v4 := IBase.below_cell z4 bz
  have v5 := IBase.below_cell e3 bz
  have v6 := IBase.below_cell y1 bz
  have c0 := cell_of xz 0 _ rfl
  have c1 := cell_of xz 1 _ rfl
  have c2 := cell_of xz 2 _ rfl
  have c3 := cell_of xz 3 _ rfl
  have c4' := cell_of xz 4 _ rfl
  have f0 := frozen_box xz 0
  have f1 := frozen_box xz 1
  have f2 := frozen_box xz 2
  have f3 := frozen_box xz 3
  have f4 := frozen_box xz 4
  have HYO := hid hyo
  have G5 := hid g5
  clear hC hC5 b5 hu hln b4 cP RB hgc g5 hyo hov2
  as_aux_lemma =>
  go_wp2_with fail
  go_region
  clear hE v0 v1 v2 v3 v4 v5 v6 c0 c1 c2 c3 c4' f0 f1 f2 f3 f4 xz z0 z1' z2' z3' z4 hW5
  as_aux_lemma =>
  obtain ⟨W7, hW7⟩ : ∃ W, W6.drew = W := ⟨_, rfl⟩
  have b7 : Below W5.heap.size W5 W7 := by rw [← hW7]; exact b6.drew
  have x7 : W7.heap[W5.heap.size]? = some (.cells #[.int .i64 u.k, .int .i64 u.a, .int .i64 u.b, .int .i64 u.c, .slice la lln lc] 46 (0, 0)) := by rw [← hW7]; exact x6
  have s7 : W5.heap.size < W7.heap.size := (Array.getElem?_eq_some_iff.1 x7).1
  have g7 := (b7.block _ s5).trans G5.out
  have h7 := (b7.block _ (by omega)).trans HGC.out
  clear y1 e0 e1 e2 e3
  have y1 := IBase.below_cell HYO.out b7
  have HY1 := hid y1
  obtain ⟨e0, e1, e2, e3⟩ := TBase.four_box g7
  have fy := frozen_box h7 (o2 + k * 3 + 1)
  have B7 := hid (B5.out.trans (b7.mono (by omega)) : Below w.heap.size w W7)
  have X7 := hid x7
  have G7 := hid g7
  have H7 := hid h7
  have HB7 := hid b7
  clear b6 x6 x7 b7 g7 h7 hW6
  rw [hW7]
  go_wp2_with fail
  go_region
  clear y1 e0 e1 e2 e3 fy hW7
  as_aux_lemma =>
  obtain ⟨W8, hW8⟩ : ∃ W, (W7.setCell ⟨g2, o2 + k * 3 + 1, none⟩ (.slice (some ⟨g3, o3, none⟩) t oc2)).drew = W := ⟨_, rfl⟩
  rw [hW8]
  obtain ⟨W9, hW9⟩ : ∃ W, W8.setCell ⟨g2, o2 + k * 3 + 2, none⟩ (.slice none 0 0) = W := ⟨_, rfl⟩
  obtain ⟨⟨uv3, y2⟩, fy, -, k78, k79, s8, s9, hP⟩ := cut_state (by rw [HN.out]; exact HC5.out.keep HB7.out) HSZ.out HKX.out HK.out HNL.out HY1.out hW8 hW9
  rw [HN.out] at hP
  have g8 := (k78 W4.heap.size (by omega)).trans G7.out
  have g9 := (k79 W4.heap.size (by omega)).trans G7.out
  obtain ⟨e0, e1, e2, e3⟩ := TBase.four_box g8
  have X9 := hid ((k79 _ (by omega)).trans X7.out)
  have B9 := hid (show Below w.heap.size w W9 by rw [← hW9]; exact Below.setCell (p := ⟨g2, o2 + k * 3 + 2, none⟩) (show Below w.heap.size w W8 by rw [← hW8]; exact (B7.out.setCell (p := ⟨g2, o2 + k * 3 + 1, none⟩) (by show w.heap.size ≤ g2; omega) _).drew) (by show w.heap.size ≤ g2; omega) _)
  have cV3 := verify_c hP (Nat.le_refl _)
  obtain ⟨hvn, hv6, hv1⟩ := cut_plain HOK.out HKX.out HK.out HNL.out htx HU.out
  have HVN := hid hvn
  obtain ⟨y, hy⟩ : ∃ y, vf (cutP x k K) = y := ⟨_, rfl⟩
  rw [hy] at cV3 hv6 hv1
  have HV6 := hid hv6
  have HV1 := hid hv1
  obtain ⟨y1', y2', y3⟩ := y
  obtain ⟨m0, m1, m2, m3⟩ := TBase.four_box g9
  clear hP k78 k79 g8 g9 hvn hv6 hv1 hy hW8
  go_wp2_with fail
  clear y2 fy e0 e1 e2 e3 hW9
  refine cV3.mono ?_
  rintro e W10 ⟨rfl, b10⟩
  as_aux_lemma =>
  have B10 := hid (B9.out.trans (b10.mono B9.out.size) : Below w.heap.size w W10)
  have cN3 : Calls Try.prog 10 #[.int .i64 y3] W10 fun e w' => e = .returned (.int .i64 y3) ∧ W10 = w' := (Leb.num_c y3 W10).mono fun e w' h => ⟨h.1, h.2.symm⟩
  have X10 := (b10.block _ (by omega)).trans X9.out
  have x0 := cell_of X10 0 _ rfl
  clear X10 b10 cV3 m0 m1 m2 m3
  by_cases h6 : u.k = 6
  · have d6 : (u.k == 6) = true := by simp [h6]
    have e6 := HV6.out (.inl h6)
    injection e6 with q1 q2
    injection q2 with q2 q3
    subst q1
    subst q3
    clear h6
    go_wp2_with fail
    refine cN3.mono ?_
    rintro e w9 ⟨rfl, h9⟩
    obtain rfl := h9
    clear cN3
    go_wp2_with fail
    go_ret
    exact ⟨rfl, B10.out⟩
  have d6 : (u.k == 6) = false := by simp [h6]
  by_cases h12 : u.k = 12
  · have d12 : (u.k == 12) = true := by simp [h12]
    have e6 := HV6.out (.inr h12)
    injection e6 with q1 q2
    injection q2 with q2 q3
    subst q1
    subst q3
    clear h12 h6
    go_wp2_with fail
    refine cN3.mono ?_
    rintro e w9 ⟨rfl, h9⟩
    obtain rfl := h9
    clear cN3
    go_wp2_with fail
    go_ret
    exact ⟨rfl, B10.out⟩
  have d12 : (u.k == 12) = false := by simp [h12]
  have d3 : (u.k == 3) = false := by simpa using HVN.out.1
  have d4 : (u.k == 4) = false := by simpa using HVN.out.2.1
  have d5 : (u.k == 5) = false := by simpa using HVN.out.2.2.1
  have d11 : (u.k == 11) = false := by simpa using HVN.out.2.2.2
  by_cases h1 : u.k = 1
  · have d1 : (u.k == 1) = true := by simp [h1]
    have e1 : y3 = 0 := HV1.out (.inl h1)
    subst e1
    clear h1 h6 h12
    go_wp2_with fail
    refine cN3.mono ?_
    rintro e w9 ⟨rfl, h9⟩
    obtain rfl := h9
    clear cN3
    go_wp2_with fail
    go_ret
    exact ⟨rfl, B10.out⟩
  have d1 : (u.k == 1) = false := by simp [h1]
  by_cases h2 : u.k = 2
  · have d2 : (u.k == 2) = true := by simp [h2]
    have e1 : y3 = 0 := HV1.out (.inr h2)
    subst e1
    clear h1 h2 h6 h12
    go_wp2_with fail
    refine cN3.mono ?_
    rintro e w9 ⟨rfl, h9⟩
    obtain rfl := h9
    clear cN3
    go_wp2_with fail
    go_ret
    exact ⟨rfl, B10.out⟩
  have d2 : (u.k == 2) = false := by simp [h2]
  clear h1 h2 h6 h12
  go_wp2_with fail
  go_ret
  exact ⟨rfl, B10.out⟩
end Go.Proofs.Ytgknjjaemjkloaa.WVc
