/- The law VerifyTrees, gone through. -/
import Derived.Test.YtgknjjaemjkloaaBAw
import Derived.Test.YtgknjjaemjkloaaBTr
import Derived.Test.YtgknjjaemjkloaaTShallow
import Derived.Deep.CutBlock
import Derived.Deep.CutRange
import Derived.BigQuiet
namespace Go.Proofs.Ytgknjjaemjkloaa.WVt
open Go.RowKit Go.Proofs.Ytgknjjaemjkloaa.BPl Go.Proofs.Ytgknjjaemjkloaa.YRr Go.Proofs.Ytgknjjaemjkloaa.YRs Go.Proofs.Ytgknjjaemjkloaa.BBx Go.Proofs.Ytgknjjaemjkloaa.BIx Go.Proofs.Ytgknjjaemjkloaa.BSm Go.Proofs.Ytgknjjaemjkloaa.BIn Go.Proofs.Ytgknjjaemjkloaa.BHm Go.Proofs.Ytgknjjaemjkloaa.BPs Go.Proofs.Ytgknjjaemjkloaa.BGd Go.Proofs.Ytgknjjaemjkloaa.BVf Go.Proofs.Ytgknjjaemjkloaa.BTr
open Go.Proofs.Ytgknjjaemjkloaa.BSf (hid Lo)
open Go.Proofs.Ytgknjjaemjkloaa.YPl (Oq Bk Pg)
open Go.Proofs.Ytgknjjaemjkloaa.YEn (InPg)
open Go.Proofs.Ytgknjjaemjkloaa.TBase (T Keep InL heap_alloc_new)
open Go.Proofs.Ytgknjjaemjkloaa.CBx (w64)
set_option linter.unusedVariables false

/-- How often each block was met, in block G. -/
def Uw (w : World) (G : Nat) (U : List Int) : Prop := w.heap[G]? = some (.cells (U.map (Value.int .i64)).toArray 3 (0, 0))
theorem Uw.cell {w : World} {G : Nat} {U : List Int} (h : Uw w G U) {n : Nat} (hn : n < U.length) : w.cell? ⟨G, n, none⟩ = some (.int .i64 (U.getD n 0)) := by
  unfold Uw at h
  simp only [World.cell?, h]
  simp [List.getD_eq_getElem?_getD, hn]
theorem Uw.set {w : World} {G : Nat} {U : List Int} (h : Uw w G U) (n : Nat) (z : Int) : Uw (w.setCell ⟨G, n, none⟩ (.int .i64 z)) G (U.set n z) := by
  have := cell_set h n (.int .i64 z)
  unfold Uw
  rw [this, List.map_set]
  simp
theorem mz_eq (n : Nat) : IBase.mz n = ((List.replicate n (0 : Int)).map (Value.int .i64)).toArray := by
  apply Array.toList_inj.1
  rw [IBase.mz_list]
  apply List.ext_getElem
  · simp [IBase.ro]
  · intro i h1 h2
    simp [IBase.ro]
theorem Xb.store {G : Nat} {a b : World} (h : Xb G a b) (n : Nat) (u : Value) : Xb G a (b.setCell ⟨G, n, none⟩ u) := ⟨h.1.setCell (p := ⟨G, n, none⟩) (Nat.le_refl _) _, fun g hg hq => (Below.heap_setCell _ _ _ _ hq).trans (h.2 g hg hq)⟩
theorem Xb.later {G : Nat} {a b c : World} (h : Xb G a b) (hG : G ≤ b.heap.size) (k : Below b.heap.size b c) : Xb G a c := h.trans (Xb.of k hG)
/-- The blocks that an operation owns, as the law gathers them. -/
def l1 (o : Oq) : List Int := if o.k = 8 ∧ o.b ≠ 0 then [o.b] else []
def l2 (o : Oq) : List Int := if o.k = 9 ∨ o.k = 10 ∨ (o.k = 8 ∧ o.c ≠ 0) then [o.c] else []
theorem bks_eq (o : Oq) : bks o = l1 o ++ l2 o := by
  unfold bks l1 l2
  by_cases h8 : o.k = 8
  · rw [if_pos h8]
    by_cases hb : o.b = 0 <;> by_cases hc : o.c = 0 <;> simp [h8, hb, hc]
  · rw [if_neg h8]
    by_cases h9 : o.k = 9 ∨ o.k = 10
    · rw [if_pos h9, if_neg (fun h => h8 h.1), if_pos (by omega)]
      rfl
    · rw [if_neg h9, if_neg (fun h => h8 h.1), if_neg (by omega)]
      rfl
theorem vf_parts {x : Pg} (h : (vf x).2.2 = 0) : x.b ≠ [] ∧ x.b.length ≤ 8192 ∧ (bls (shd x) 0 (x.b.drop 0) (hm0 x.b.length)).2.2 = 0 := by
  unfold vf at h
  split at h
  · rename_i h1
    exact (h1 h).elim
  split at h
  · cases h
  · rename_i h1 h2
    exact ⟨fun e => h2 (.inl e), Nat.le_of_not_lt fun e => h2 (.inr e), by rw [List.drop_zero]; exact h⟩
set_option maxRecDepth 20000 in
set_option maxHeartbeats 6400000 in
theorem walk {m : Nat} {w : World} {v : Value} {x : Pg} (hI : InPg w.heap.size m w v x) :
    Calls Try.prog 4 #[v] w fun e w' => e = .returned (.bool true) ∧ Below w.heap.size w w' := by
  have HI : Hid (∀ W, Below w.heap.size w W → InPg w.heap.size m W v x) := fun W hW => hI.below hW
  obtain ⟨a, n1, c1, b, n2, c2, c, n3, c3, d, n4, c4, rfl, -, -, hT, hBl⟩ := hI
  have e4 : n4 = x.b.length := by obtain ⟨_, _, e, _⟩ := hBl; cases e; rfl
  have hb47 : x.b.length ≤ 140737488351232 := by obtain ⟨_, _, _, _, _, h, _⟩ := hBl; exact h
  obtain ⟨n, hn⟩ : ∃ n, x.b.length = n := ⟨_, rfl⟩
  rw [hn] at e4 hb47
  subst e4
  have HN := hid hn
  obtain ⟨W0, hW0⟩ : ∃ W, w.alloc (.cells #[.slice a n1 c1, .slice b n2 c2, .slice c n3 c3, .slice d n4 c4] 27) = W := ⟨_, rfl⟩
  have b0 : Below w.heap.size w W0 := by rw [← hW0]; exact (Below.refl _ w).alloc (Nat.le_refl _) _
  have g0 : W0.heap[w.heap.size]? = some (.cells #[.slice a n1 c1, .slice b n2 c2, .slice c n3 c3, .slice d n4 c4] 27 (0, 0)) := by rw [← hW0]; exact heap_alloc_new w _
  have s0 : w.heap.size < W0.heap.size := (Array.getElem?_eq_some_iff.1 g0).1
  have cA := BAw.awake_c W0
  have B0 := hid b0
  have HG : Hid (∀ W, Below W0.heap.size W0 W → W.heap[w.heap.size]? = some (.cells #[.slice a n1 c1, .slice b n2 c2, .slice c n3 c3, .slice d n4 c4] 27 (0, 0))) := fun W h => (h.block _ s0).trans g0
  clear hT hBl b0 g0 hn
  go_enter Try.func4, Try.ntmps4
  go_wp2_with fail
  refine cA.mono ?_
  rintro e W1 ⟨rfl, b1⟩
  have HB1 := hid b1
  have B1 := hid (B0.out.trans (b1.mono B0.out.size) : Below w.heap.size w W1)
  have hs1 : W0.heap.size ≤ W1.heap.size := b1.size
  obtain ⟨p0, p1, p2, p3⟩ := TBase.four_box (HG.out W1 b1)
  obtain ⟨_, _, _, _, _, _, _, _, _, _, _, _, e, -, -, hT, -⟩ := HI.out W1 B1.out
  cases e
  have cS := TShallow.shallow_c m _ x.s W1 hT.plain
  clear cA b1 hT hW0
  obtain ⟨D, hD⟩ : ∃ D, decide (TShallow.depL x.s ≤ 4096) = D := ⟨_, rfl⟩
  rw [hD] at cS
  clear hD
  go_wp2_with fail
  refine cS.mono ?_
  rintro e W2 ⟨rfl, b2⟩
  have HB2 := hid (HB1.out.trans (b2.mono HB1.out.size) : Below W0.heap.size W0 W2)
  have B2 := hid (B1.out.trans (b2.mono B1.out.size) : Below w.heap.size w W2)
  have hs2 : W1.heap.size ≤ W2.heap.size := b2.size
  clear cS b2 p0 p1 p2 p3
  obtain ⟨p0, p1, p2, p3⟩ := TBase.four_box (HG.out W2 HB2.out)
  cases D with
  | false =>
    go_wp2_with fail
    go_ret
    exact ⟨rfl, B2.out⟩
  | true =>
  have cV := verify_c (HI.out W2 B2.out) (by omega)
  obtain ⟨Z, hZ⟩ : ∃ Z, vf x = Z := ⟨_, rfl⟩
  rw [hZ] at cV
  have HZ := hid hZ
  clear hZ
  obtain ⟨z1, z2, z3⟩ := Z
  go_wp2_with fail
  refine cV.mono ?_
  rintro e W3 ⟨rfl, b3⟩
  have HB3 := hid (HB2.out.trans (b3.mono HB2.out.size) : Below W0.heap.size W0 W3)
  have B3 := hid (B2.out.trans (b3.mono B2.out.size) : Below w.heap.size w W3)
  have hs3 : W2.heap.size ≤ W3.heap.size := b3.size
  have cN : Calls Try.prog 10 #[.int .i64 z3] W3 fun e w' => e = .returned (.int .i64 z3) ∧ W3 = w' := (Leb.num_c z3 W3).mono fun e w' h => ⟨h.1, h.2.symm⟩
  clear cV b3 p0 p1 p2 p3
  obtain ⟨p0, p1, p2, p3⟩ := TBase.four_box (HG.out W3 HB3.out)
  by_cases hz3 : z3 = 0
  rotate_left 1
  · have dz : (z3 != 0) = true := by simp [hz3]
    clear hz3
    go_wp2_with fail
    refine cN.mono ?_
    rintro e w9 ⟨rfl, h9⟩
    obtain rfl := h9
    clear cN
    go_wp2_with fail
    go_ret
    exact ⟨rfl, B3.out⟩
  have dz : (z3 != 0) = false := by simp [hz3]
  have HOK := hid (vf_parts (x := x) (by rw [HZ.out]; exact hz3))
  have hn8 : n4 ≤ 8192 := by have := HOK.out.2.1; rw [HN.out] at this; exact this
  have hn0 : 0 < n4 := by have := List.length_pos_iff.2 HOK.out.1; rw [HN.out] at this; exact this
  have hmk := fun w => IBase.make_ints (n := n4) (by omega) w
  obtain ⟨V, hV⟩ : ∃ V, W3.alloc (.cells (IBase.mz n4) 3) = V := ⟨_, rfl⟩
  have bV : Below W3.heap.size W3 V := by rw [← hV]; exact (Below.refl _ _).alloc (Nat.le_refl _) _
  have xV : Uw V W3.heap.size (List.replicate n4 0) := by rw [← hV]; unfold Uw; rw [← mz_eq]; exact heap_alloc_new W3 _
  have sV : W3.heap.size < V.heap.size := (Array.getElem?_eq_some_iff.1 xV).1
  obtain ⟨G, hG⟩ : ∃ G, W3.heap.size = G := ⟨_, rfl⟩
  have HGE := hid hG
  rw [hG] at xV sV bV
  have HUV := hid xV
  have BV := hid (B3.out.trans (bV.mono (by have := B3.out.size; omega)) : Below w.heap.size w V)
  have HBV := hid (HB3.out.trans (bV.mono (by have := HB3.out.size; omega)) : Below W0.heap.size W0 V)
  have hwG : W0.heap.size ≤ G := by omega
  clear hz3 bV xV HZ
  go_wp2_with fail
  refine cN.mono ?_
  rintro e w9 ⟨rfl, h9⟩
  obtain rfl := h9
  clear cN
  go_wp2_with fail
  try rw [hG]
  clear hV hmk p0 p1 p2 p3 hG
  have HFR : Hid (∀ W, Xb G V W → W.heap[w.heap.size]? = some (.cells #[.slice a n1 c1, .slice b n2 c2, .slice c n3 c3, .slice d n4 c4] 27 (0, 0)) ∧ RrS 3 (LyBs (Lo w.heap.size)) (Lo w.heap.size) W (.slice d n4 c4) x.b) := fun W hx => ⟨(hx.1.block _ (by omega)).trans (HG.out V HBV.out), by
    obtain ⟨_, _, _, _, _, _, _, _, _, _, _, _, e, -, -, -, h4⟩ := HI.out W (BV.out.trans (hx.1.mono (by omega)))
    cases e
    exact h4⟩
  clear HG HI
  go_loopw [7] (fun i wr => ∃ (q : Nat) (H : List Ar) (U : List Int), q ≤ n4 ∧ i = .int .i64 q ∧ (bls (shd x) q (x.b.drop q) H).2.2 = 0 ∧ Gh H ∧ Rl H U ∧ H.length = n4 ∧ (∀ j, j < q → (H.getD j ar0).ow = true) ∧ Uw wr G U ∧ Xb G V wr) (fun i _ => n4 - (intOf i).toNat)
  case atStart => exact ⟨0, hm0 n4, List.replicate n4 0, by omega, rfl, by have := HOK.out.2.2; rw [HN.out] at this; exact this, gh_0 _, rl_0 hn0, by simp [hm0], (fun j hj => by omega), HUV.out, Xb.refl _ _⟩
  case round =>
    obtain ⟨q, H, U, hq, rfl, hM, hgh, hrl, hHl, how, hU, hX⟩ := hrel
    obtain ⟨hbx, hrr⟩ := HFR.out wr hX
    obtain ⟨p0, p1, p2, p3⟩ := TBase.four_box hbx
    have HX := hid hX
    have HU := hid hU
    have HRL := hid hrl
    have HGH := hid hgh
    have HHL := hid hHl
    have HOW := hid how
    have HM := hid hM
    have HRR := hid hrr
    have hGl : G < wr.heap.size := (Array.getElem?_eq_some_iff.1 hU).1
    clear hX hU hrl hgh hHl how hM hbx hrr
    by_cases hlt : q < n4
    · have d0 : decide ((q : Int) < (n4 : Int)) = true := by simp; omega
      have i0 : (0 : Int) ≤ (q : Int) := by omega
      have i1 : (q : Int) < (n4 : Int) := by omega
      have hltb : q < x.b.length := by rw [HN.out]; exact hlt
      obtain ⟨He, h1, h2⟩ := bls_ok hltb HM.out
      obtain ⟨f1, f2, be, f3⟩ := blf_ok h1
      have HDF := hid (fun k (hk : k < x.b.length) (hqk : q + 1 ≤ k) (hw : (He.getD k ar0).ow = true) => fut _ (q + 1) He rfl h2 k hk hqk hw)
      have HH2 := hid h2
      have HOWQ := hid f1
      have HDQ := hid f2
      have HGS := hid f3
      have HKE := hid (gos_kh _ _ _ _ _ _ f3)
      clear h1 h2 f1 f2 f3
      obtain ⟨R1, hR1⟩ : ∃ R1, R1 = wr := ⟨_, rfl⟩
      subst hR1
      go_wp2_with fail
      go_loopw [8] (fun i wr => ∃ (p : Nat) (bb : Bd) (H2 : List Ar) (U2 : List Int), p ≤ x.b[q].o.length ∧ i = .int .i64 p ∧ gos (shd x) q x.b[q].o p (x.b[q].o.drop p) bb H2 = .ok (be, He) ∧ Gb bb ∧ Gh H2 ∧ Sd x.b[q].d bb ∧ bb.ar.ow = true ∧ Rl H2 U2 ∧ H2.length = n4 ∧ Uw wr G U2 ∧ Xb G V wr) (fun i _ => x.b[q].o.length - (intOf i).toNat)
      case atStart =>
        have hga := HGH.out _ (by rw [List.getD_eq_getElem?_getD, List.getElem?_eq_getElem (by rw [HHL.out]; exact hlt), Option.getD_some]; exact List.getElem_mem _) HOWQ.out
        exact ⟨0, _, H, U, by omega, rfl, HGS.out, ⟨hga, Int.le_refl 0, (by simp), by simpa using hga.1, by simpa using hga.2.2.1⟩, HGH.out, by unfold Sd; simp [HDQ.out], HOWQ.out, HRL.out, HHL.out, HU.out, HX.out⟩
      case round =>
        obtain ⟨p, bb, H2, U2, hp, rfl, hgs, hgb, hgh2, hsd, how2, hrl2, hHl2, hU2, hX2⟩ := hrel
        obtain ⟨hbx, hrr⟩ := HFR.out wr hX2
        clear p0 p1 p2 p3
        obtain ⟨p0, p1, p2, p3⟩ := TBase.four_box hbx
        obtain ⟨g, o, cap', hsl, hl, hm, hg, ⟨ov, uv, k0, k1, k2, hid', hov, huv⟩⟩ := RrS.at hrr hltb
        rw [HN.out] at hsl
        cases hsl
        have HOV := hid hov
        obtain ⟨oa, oc, rfl, hoc1, hoc2, ho47, -⟩ := hov
        have HRR2 := hid hrr
        have HX2 := hid hX2
        have HU2 := hid hU2
        have HRL2 := hid hrl2
        have HGH2 := hid hgh2
        have HHL2 := hid hHl2
        have HGB2 := hid hgb
        have HSD2 := hid hsd
        have HOW2 := hid how2
        have HGS2 := hid hgs
        have hGl2 : G < wr.heap.size := (Array.getElem?_eq_some_iff.1 hU2).1
        have hszV : V.heap.size ≤ wr.heap.size := hX2.1.size
        clear hgs hgb hgh2 hsd how2 hrl2 hHl2 hU2 hX2 hbx hrr huv
        by_cases hltp : p < x.b[q].o.length
        · have d1 : decide ((p : Int) < (x.b[q].o.length : Int)) = true := by simp; omega
          have j0 : (0 : Int) ≤ (p : Int) := by omega
          have j1 : (p : Int) < (x.b[q].o.length : Int) := by omega
          obtain ⟨H5, hop, hgo⟩ := gos_pass hltp HGS2.out
          obtain ⟨g', o', cap'', lv, hsl, hl', hm', hg', y0, y1, y2, y3, y4, ⟨hik, hia, hib, hic⟩, hrl⟩ := BOp.kind_at HOV.out hltp
          cases hsl
          obtain ⟨la, lc, rfl, -⟩ := hrl
          have HOP := hid hop
          have HGO := hid hgo
          have HIB := hid hib
          have HIC := hid hic
          obtain ⟨W5, hW5, b5, s5, x5⟩ := box5 wr (.int .i64 x.b[q].o[p].k) (.int .i64 x.b[q].o[p].a) (.int .i64 x.b[q].o[p].b) (.int .i64 x.b[q].o[p].c) (.slice la x.b[q].o[p].l.length lc) 46
          have B5 := hid b5
          have X5 := hid x5
          have hs5 : wr.heap.size < W5.heap.size := by omega
          have z0 := cell_of x5 0 _ rfl
          have z1 := cell_of x5 1 _ rfl
          have z2 := cell_of x5 2 _ rfl
          have z3 := cell_of x5 3 _ rfl
          have HE := hid (bks_eq x.b[q].o[p])
          clear b5 x5 s5 hop hgo hik hia hib hic
          obtain ⟨u, hu⟩ : ∃ u, x.b[q].o[p] = u := ⟨_, rfl⟩
          have HUE := hid hu
          rw [hu] at z0 z1 z2 z3 y0 y1 y2 y3 y4 hW5 X5 HE HOP HGO HIB HIC
          have eu : x.b[q].o[p] = u := hu
          obtain ⟨c1b, hc1⟩ : ∃ c1b, decide (u.k = 8 ∧ u.b ≠ 0) = c1b := ⟨_, rfl⟩
          obtain ⟨c2b, hc2⟩ : ∃ c2b, decide (u.k = 9 ∨ u.k = 10 ∨ (u.k = 8 ∧ u.c ≠ 0)) = c2b := ⟨_, rfl⟩
          have HC1 := hid hc1
          have HC2 := hid hc2
          clear hu hc1 hc2
          go_upto_region 17 with fail
          go_cut [66] from 59 to 66 (fun t wx => t = .bool c1b ∧ wx = W5)
          case first =>
            by_cases h8 : u.k = 8
            · have d8 : (u.k == 8) = true := by simp [h8]
              by_cases hb : u.b = 0
              · have db : (u.b != 0) = false := by simp [hb]
                have e : false = c1b := by rw [← HC1.out]; simp [hb]
                subst e
                clear h8 hb
                go_wp2_with fail
                go_meet
                exact ⟨rfl, rfl⟩
              · have db : (u.b != 0) = true := by simp [hb]
                have e : true = c1b := by rw [← HC1.out]; simp [h8, hb]
                subst e
                clear h8 hb
                go_wp2_with fail
                go_meet
                exact ⟨rfl, rfl⟩
            · have d8 : (u.k == 8) = false := by simp [h8]
              have e : false = c1b := by rw [← HC1.out]; simp [h8]
              subst e
              clear h8
              go_wp2_with fail
              go_meet
              exact ⟨rfl, rfl⟩
          case rest =>
          obtain ⟨rfl, hwx⟩ := hcut
          obtain rfl := hwx.symm
          go_upto_if 66 with fail
          go_cut [10] from 67 to 71 (fun t wx => wx.ownsRow W5.heap.size 3 1 t (l1 u).length ((l1 u).map (Value.int .i64)) ∧ Below W5.heap.size W5 wx)
          case first =>
            cases c1b with
            | false =>
              have e1 : l1 u = [] := by unfold l1; rw [if_neg (by simpa using HC1.out)]
              go_wp2_with fail
              go_meet
              rw [e1]
              exact ⟨World.ownsRow_nil _ _ _ _, Below.refl _ _⟩
            | true =>
              have e1 : l1 u = [u.b] := by unfold l1; rw [if_pos (by simpa using HC1.out)]
              have HE1 := hid e1
              obtain ⟨W6, hW6⟩ : ∃ W6, W5.alloc (.cells #[.int .i64 u.b] 3) = W6 := ⟨_, rfl⟩
              have b6 : Below W5.heap.size W5 W6 := by rw [← hW6]; exact (Below.refl _ _).alloc (Nat.le_refl _) _
              have x6 : W6.heap[W5.heap.size]? = some (.cells #[.int .i64 u.b] 3 (0, 0)) := by rw [← hW6]; exact heap_alloc_new W5 _
              have HN6 := hid (BNp.one_new x6)
              have HN0 := hid (World.ownsRow_nil W6 W5.heap.size 3 1)
              have B6 := hid b6
              have hs6 : W5.heap.size ≤ W6.heap.size := b6.size
              clear e1 b6 x6
              have HZ1 := hid (by simp [Value.oneCell'] : ∀ z ∈ ([.int .i64 u.b] : List Value), z.oneCell' = true)
              go_wp2_with (first | (at_builtin; refine wpList_plain rfl fun _ hK => wp_int (news := [.int .i64 u.b]) (m := 1) (n := 0) (xs := []) _ _ rfl HN0.out rfl HN6.out HZ1.out (by omega) hs6 rfl rfl ?_))
              intro v7 W7 h3 h4 h5
              refine hK _ _ ?_
              clear hK
              obtain ⟨gv, cv, rfl⟩ : ∃ gv cv, v7 = .slice (some ⟨gv, 0, none⟩) 1 cv := by
                rcases h3.2 with ⟨_, e⟩ | ⟨gv, cv, cur, e, _⟩
                · omega
                · exact ⟨gv, cv, e⟩
              have H3 := hid h3
              have HL := hid (B6.out.grown h4 (by omega) (fun k hk => by cases hk) : Below W5.heap.size W5 W7)
              clear h3 h4 h5
              go_wp2_with fail
              go_meet
              rw [HE1.out]
              exact ⟨H3.out, HL.out⟩
          case rest =>
          obtain ⟨hOw6, hB6⟩ := hcut
          obtain ⟨W6, hW6⟩ : ∃ W6, W6 = wc := ⟨_, rfl⟩
          subst hW6
          have HO6 := hid hOw6
          have HB6 := hid hB6
          obtain ⟨va, vc, rfl, hvc, hvm⟩ := own_shape hOw6
          have hs6 : W5.heap.size ≤ W6.heap.size := hB6.size
          have X6 := hid ((hB6.block wr.heap.size hs5).trans X5.out)
          clear z0 z1 z2 z3 hOw6 hB6
          have z0 := cell_of X6.out 0 _ rfl
          have z1 := cell_of X6.out 1 _ rfl
          have z2 := cell_of X6.out 2 _ rfl
          have z3 := cell_of X6.out 3 _ rfl
          go_upto_region 19 with fail
          go_cut [89] from 72 to 89 (fun t wx => t = .bool c2b ∧ wx = W6)
          case first =>
            by_cases h9 : u.k = 9
            · have d9 : (u.k == 9) = true := by simp [h9]
              have d8 : (u.k == 8) = false := by simp [h9]
              have e : true = c2b := by rw [← HC2.out]; simp [h9]
              subst e
              clear h9
              go_wp2_with fail
              go_meet
              exact ⟨rfl, rfl⟩
            · have d9 : (u.k == 9) = false := by simp [h9]
              by_cases h10 : u.k = 10
              · have d10 : (u.k == 10) = true := by simp [h10]
                have e : true = c2b := by rw [← HC2.out]; simp [h10]
                subst e
                clear h9 h10
                go_wp2_with fail
                go_meet
                exact ⟨rfl, rfl⟩
              · have d10 : (u.k == 10) = false := by simp [h10]
                by_cases h8 : u.k = 8
                · have d8 : (u.k == 8) = true := by simp [h8]
                  by_cases hb : u.c = 0
                  · have db : (u.c != 0) = false := by simp [hb]
                    have e : false = c2b := by rw [← HC2.out]; simp [hb, h9, h10]
                    subst e
                    clear h8 hb h9 h10
                    go_wp2_with fail
                    go_meet
                    exact ⟨rfl, rfl⟩
                  · have db : (u.c != 0) = true := by simp [hb]
                    have e : true = c2b := by rw [← HC2.out]; simp [h8, hb]
                    subst e
                    clear h8 hb h9 h10
                    go_wp2_with fail
                    go_meet
                    exact ⟨rfl, rfl⟩
                · have d8 : (u.k == 8) = false := by simp [h8]
                  have e : false = c2b := by rw [← HC2.out]; simp [h8, h9, h10]
                  subst e
                  clear h8 h9 h10
                  go_wp2_with fail
                  go_meet
                  exact ⟨rfl, rfl⟩
          case rest =>
          obtain ⟨rfl, hwx⟩ := hcut
          obtain rfl := hwx.symm
          go_upto_if 89 with fail
          have hl1 : (l1 u).length ≤ 1 := by unfold l1; split <;> simp
          go_cut [10] from 90 to 94 (fun t wx => wx.ownsRow W5.heap.size 3 1 t (l1 u ++ l2 u).length ((l1 u ++ l2 u).map (Value.int .i64)) ∧ Below W5.heap.size W5 wx)
          case first =>
            cases c2b with
            | false =>
              have e1 : l2 u = [] := by unfold l2; rw [if_neg (by simpa using HC2.out)]
              go_wp2_with fail
              go_meet
              rw [e1, List.append_nil]
              exact ⟨HO6.out, HB6.out⟩
            | true =>
              have e1 : l2 u = [u.c] := by unfold l2; rw [if_pos (by simpa using HC2.out)]
              have HE1 := hid e1
              obtain ⟨W7, hW7⟩ : ∃ W7, W6.alloc (.cells #[.int .i64 u.c] 3) = W7 := ⟨_, rfl⟩
              have b7 : Below W6.heap.size W6 W7 := by rw [← hW7]; exact (Below.refl _ _).alloc (Nat.le_refl _) _
              have x7 : W7.heap[W6.heap.size]? = some (.cells #[.int .i64 u.c] 3 (0, 0)) := by rw [← hW7]; exact heap_alloc_new W6 _
              have HN7 := hid (BNp.one_new x7)
              have HN0 := hid (own_keep HO6.out fun g hg => b7.block g (World.ownsRow.lt HO6.out g hg).2 : W7.ownsRow W5.heap.size 3 1 (.slice va (l1 u).length vc) (l1 u).length _)
              have B7 := hid (HB6.out.trans (b7.mono hs6) : Below W5.heap.size W5 W7)
              have hs7 : W6.heap.size ≤ W7.heap.size := b7.size
              clear e1 b7 x7
              have HZ1 := hid (by simp [Value.oneCell'] : ∀ z ∈ ([.int .i64 u.c] : List Value), z.oneCell' = true)
              go_wp2_with (first | (at_builtin; refine wpList_plain rfl fun _ hK => wp_int (news := [.int .i64 u.c]) (m := 1) (n := (l1 u).length) _ _ rfl HN0.out rfl HN7.out HZ1.out (by omega) (by omega) rfl rfl ?_))
              intro v8 W8 h3 h4 h5
              refine hK _ _ ?_
              clear hK
              obtain ⟨gv, cv, rfl⟩ : ∃ gv cv, v8 = .slice (some ⟨gv, 0, none⟩) ((l1 u).length + 1) cv := by
                rcases h3.2 with ⟨_, e⟩ | ⟨gv, cv, cur, e, _⟩
                · omega
                · exact ⟨gv, cv, e⟩
              have H3 := hid h3
              have HL := hid (B7.out.grown h4 (by omega) (fun k hk => (World.ownsRow.lt HN0.out k hk).1) : Below W5.heap.size W5 W8)
              clear h3 h4 h5
              go_wp2_with fail
              go_meet
              rw [HE1.out, List.length_append, List.map_append]
              exact ⟨H3.out, HL.out⟩
          case rest =>
          obtain ⟨hOw7, hB7⟩ := hcut
          obtain ⟨W7, hW7⟩ : ∃ W7, W7 = wc := ⟨_, rfl⟩
          subst hW7
          rw [← HE.out] at hOw7
          obtain ⟨L, hL⟩ : ∃ L, bks u = L := ⟨_, rfl⟩
          rw [hL] at hOw7
          have HL := hid hL
          have HO7 := hid hOw7
          obtain ⟨wa, wcp, rfl, hwc, hwm⟩ := own_shape hOw7
          have hs7 : W5.heap.size ≤ W7.heap.size := hB7.size
          have HX7 := hid (Xb.later (Xb.later HX2.out (by omega) B5.out) (by omega) hB7)
          have hU7 : Uw W7 G U2 := (hB7.block G (by omega)).trans ((B5.out.block G (by omega)).trans HU2.out)
          have HU7 := hid hU7
          have hL4 : L.length ≤ 2 := by rw [← hL, bks_eq]; unfold l1 l2; split <;> split <;> simp
          obtain ⟨A, hA⟩ : ∃ A, ins bb.ar u = A := ⟨_, rfl⟩
          have HCL := hid (by have := (opf_ok HOP.out).2.2.2.2.1; rw [hA, hL] at this; exact this : clm q A L H2 = some H5)
          have hAow : A.ow = true := by rw [← hA]; exact HOW2.out
          have HAW := hid hAow
          have HAS := hid (by
            have h1 := HSD2.out
            have h2 := grows_nn u
            have h3 := sum_nn _ HGB2.out.2.2.1
            have h4 := HGB2.out.2.1
            unfold Sd at h1
            rw [← hA]
            show x.b[q].d ≤ bb.ar.st + grows u
            omega : x.b[q].d ≤ A.st)
          have HKE5 := hid (gos_kh _ _ _ _ _ _ HGO.out)
          clear hOw7 hB7 hL hU7 hA hAow z0 z1 z2 z3 hvc hvm
          go_wp2_with fail
          go_loopw [11] (fun i wr => ∃ (t : Nat) (H3 : List Ar) (U3 : List Int), t ≤ L.length ∧ i = .int .i64 t ∧ clm q A (L.drop t) H3 = some H5 ∧ Rl H3 U3 ∧ H3.length = n4 ∧ wr.ownsRow W5.heap.size 3 1 (.slice wa L.length wcp) L.length (L.map (Value.int .i64)) ∧ Uw wr G U3 ∧ Xb G V wr) (fun i _ => L.length - (intOf i).toNat)
          case atStart => exact ⟨0, H2, U2, by omega, rfl, HCL.out, HRL2.out, HHL2.out, HO7.out, HU7.out, HX7.out⟩
          case round =>
            obtain ⟨t, H3, U3, ht, rfl, hcl, hrl3, hHl3, hOw3, hU3, hX3⟩ := hrel
            obtain ⟨hbx, hrr⟩ := HFR.out _ hX3
            clear p0 p1 p2 p3
            obtain ⟨p0, p1, p2, p3⟩ := TBase.four_box hbx
            have HX3 := hid hX3
            have HU3 := hid hU3
            have HRL3 := hid hrl3
            have HHL3 := hid hHl3
            have HO3 := hid hOw3
            have HC3 := hid hcl
            clear hX3 hU3 hrl3 hHl3 hOw3 hcl hbx
            by_cases hltt : t < L.length
            · have d3 : decide ((t : Int) < (L.length : Int)) = true := by simp; omega
              have t0 : (0 : Int) ≤ (t : Int) := by omega
              have t1 : (t : Int) < (L.length : Int) := by omega
              have hcc := HC3.out
              rw [BCl.clm_cons q A hltt] at hcc
              split at hcc
              · cases hcc
              rename_i hnb
              rw [HHL3.out] at hnb
              have v1 : ¬ L[t] ≤ (q : Int) := fun e => hnb (.inl e)
              have v2 : ¬ (n4 : Int) ≤ L[t] := fun e => hnb (.inr (.inl e))
              have v3 : (H3.getD L[t].toNat ar0).ow = false := by
                cases e : (H3.getD L[t].toNat ar0).ow with
                | false => rfl
                | true => exact (hnb (.inr (.inr e))).elim
              obtain ⟨gb, hgb⟩ : ∃ gb, wa = some ⟨gb, 0, none⟩ := by
                rcases HO3.out.2 with ⟨e, e0⟩ | ⟨gb, cp, cur, e, _⟩
                · omega
                · cases e; exact ⟨gb, rfl⟩
              subst hgb
              have kb := HO3.out.cellAt t (by omega)
              rw [List.getElem?_map, List.getElem?_eq_getElem hltt, Option.map_some] at kb
              obtain ⟨k, hk⟩ : ∃ k : Nat, L[t] = (k : Int) := ⟨L[t].toNat, by omega⟩
              rw [hk] at kb v1 v2 v3 hcc
              rw [Int.toNat_natCast] at v3 hcc
              have hkl : k < n4 := by omega
              have hkb : k < x.b.length := by rw [HN.out]; exact hkl
              obtain ⟨ga, oo, cpp, hsl, -, -, hga, ⟨_, _, kd, -⟩⟩ := RrS.at hrr hkb
              rw [HN.out] at hsl
              cases hsl
              obtain ⟨ga', oo', cpp', hsl, -, -, -, ⟨_, _, kq, -⟩⟩ := RrS.at hrr hltb
              rw [HN.out] at hsl
              cases hsl
              have hU0 : U3.getD k 0 = 0 := by rw [HRL3.out.2.2.2.2 k (by omega), v3]; rfl
              have ku := HU3.out.cell (n := k) (by rw [HRL3.out.1, HHL3.out]; exact hkl)
              rw [hU0] at ku
              have fu := frz HU3.out k
              have hkset : k < H3.length := by rw [HHL3.out]; exact hkl
              have hK5 := clm_kh _ _ _ hcc
              have e5 : H5.getD k ar0 = A := by
                have := hK5.2 k (by rw [getD_set H3 k k A hkset, if_pos rfl]; exact HAW.out)
                rw [this, getD_set H3 k k A hkset, if_pos rfl]
              have e6 : He.getD k ar0 = A := by
                have := HKE5.out.2 k (by rw [e5]; exact HAW.out)
                rw [this, e5]
              have hdk : x.b[k].d = A.st := by
                have := HDF.out k hkb (by omega) (by rw [e6]; exact HAW.out)
                rw [this, e6]
              have hdd : ¬ x.b[k].d < x.b[q].d := by have := HAS.out; omega
              have dd := decide_eq_false hdd
              have w1 : decide ((k : Int) ≤ (q : Int)) = false := by simp; omega
              have w1' : decide (k ≤ q) = false := by simp; omega
              have w2 : decide ((n4 : Int) ≤ (k : Int)) = false := by simp; omega
              have w2' : decide (n4 ≤ k) = false := by simp; omega
              have q0 : (0 : Int) ≤ (k : Int) := by omega
              have q1 : (k : Int) < (n4 : Int) := by omega
              have HCC := hid hcc
              have hk0 : 0 < k := by omega
              generalize x.b[k].d = dk at *
              clear hnb v1 v2 v3 hk hcc hrr hK5 e5 e6 hdk hdd hU0 hkset
              have hGw : G < W5.heap.size := by omega
              have HUd : Hid (∀ z, Uw (wr.drewN z) G U3) := fun z => ((IBase.below_drewN (Below.refl _ _) : Below wr.heap.size wr (wr.drewN z)).block G (Array.getElem?_eq_some_iff.1 HU3.out).1).trans HU3.out
              have HOd : Hid (∀ z, (wr.drewN z).ownsRow W5.heap.size 3 1 (.slice (some ⟨gb, 0, none⟩) L.length wcp) L.length (L.map (Value.int .i64))) := fun z => own_keep HO3.out fun g hg => (IBase.below_drewN (Below.refl _ _) : Below wr.heap.size wr (wr.drewN z)).block g (World.ownsRow.lt HO3.out g hg).2
              have HXd : Hid (∀ z, Xb G V (wr.drewN z)) := fun z => Xb.later HX3.out (Nat.le_of_lt (Array.getElem?_eq_some_iff.1 HU3.out).1) (IBase.below_drewN (Below.refl _ _))
              go_wp2_with fail
              go_quiet (fail)
              go_wp2_with fail
              go_roundw
              case rel =>
                refine ⟨t + 1, H3.set k A, U3.set k 1, by omega, by go_num, HCC.out, rl_set HRL3.out hk0 (by rw [HHL3.out]; exact hkl) HAW.out, by rw [List.length_set]; exact HHL3.out, own_keep (HOd.out _) fun g hg => Below.heap_setCell _ _ _ _ (show g ≠ G by have := (World.ownsRow.lt HO3.out g hg).1; omega), Uw.set (HUd.out _) k 1, Xb.store (HXd.out _) k _⟩
              case measure => simp only [intOf]; omega
            · have d3 : decide ((t : Int) < (L.length : Int)) = false := by simp; omega
              have hcc := HC3.out
              rw [List.drop_eq_nil_of_le (by omega), clm] at hcc
              have hcc : H3 = H5 := Option.some.inj hcc
              subst hcc
              have HFIN := hid (⟨gb_pass HOP.out HGB2.out, (opf_gh HOP.out HGB2.out HGH2.out).1, sd_pass HOP.out HSD2.out, by rw [pass_ar.1]; exact HOW2.out⟩ : Gb (pass bb p u) ∧ Gh H3 ∧ Sd x.b[q].d (pass bb p u) ∧ (pass bb p u).ar.ow = true)
              clear hrr
              go_wp2_with fail
              go_roundw
              case rel => exact ⟨p + 1, pass bb p u, H3, U3, by omega, by go_num, HGO.out, HFIN.out.1, HFIN.out.2.1, HFIN.out.2.2.1, HFIN.out.2.2.2, HRL3.out, HHL3.out, HU3.out, HX3.out⟩
              case measure => simp only [intOf]; omega
        · have d1 : decide ((p : Int) < (x.b[q].o.length : Int)) = false := by simp; omega
          have hpe : p = x.b[q].o.length := by omega
          have hee : H2 = He := by
            have := HGS2.out
            rw [hpe, gos_end] at this
            cases this
            rfl
          have HEE := hid hee
          clear hpe hee
          go_wp2_with fail
          go_roundw
          case rel =>
            have hee := HEE.out
            subst hee
            refine ⟨q + 1, H2, U2, by omega, by go_num, HH2.out, HGH2.out, HRL2.out, HHL2.out, fun j hj => ?_, HU2.out, HX2.out⟩
            rcases Nat.lt_or_ge j q with hjq | hjq
            · rw [HKE.out.2 j (HOW.out j hjq)]; exact HOW.out j hjq
            · have e : j = q := by omega
              subst e
              rw [HKE.out.2 j HOWQ.out]; exact HOWQ.out
          case measure => simp only [intOf]; omega
    · have d0 : decide ((q : Int) < (n4 : Int)) = false := by simp; omega
      have hqe : q = n4 := by omega
      subst hqe
      have h0b : 0 < x.b.length := by rw [HN.out]; exact hn0
      have hd0 : x.b[0].d = 1 := by
        have h1 := (rl_0 h0b).2.2.2.1
        have := fut _ 0 (hm0 x.b.length) rfl HOK.out.2.2 0 h0b (Nat.le_refl _) (by rw [h1])
        rw [this, h1]
      obtain ⟨ga, oo, cpp, hsl, -, -, -, ⟨_, _, kd, -⟩⟩ := RrS.at HRR.out h0b
      rw [HN.out] at hsl
      cases hsl
      rw [hd0, Nat.zero_mul, Nat.add_zero] at kd
      have ku := HU.out.cell (n := 0) (by rw [HRL.out.1, HHL.out]; exact hn0)
      rw [HRL.out.2.2.1] at ku
      have HUC := hid (fun t (ht : t < q) (h1 : 1 ≤ t) => by
        have := HU.out.cell (n := t) (by rw [HRL.out.1, HHL.out]; exact ht)
        rw [HRL.out.2.2.2.2 t (by omega), if_pos (HOW.out t ht)] at this
        exact this : ∀ t, t < q → 1 ≤ t → wr.cell? ⟨G, t, none⟩ = some (.int .i64 1))
      obtain ⟨R1, hR1⟩ : ∃ R1, R1 = wr := ⟨_, rfl⟩
      subst hR1
      have i0 : (0 : Int) < (q : Int) := by omega
      have dq : decide ((0 : Int) < (q : Int)) = true := by simp; omega
      have dq' : decide (0 < q) = true := by simp; omega
      have HEND := hid (BV.out.trans (HX.out.1.mono (by omega)) : Below w.heap.size w R1)
      clear hd0 hlt d0
      go_wp2_with fail
      go_loopw [12] (fun i wr => ∃ t : Nat, 1 ≤ t ∧ t ≤ q ∧ i = .int .i64 t ∧ wr = R1) (fun i _ => q - (intOf i).toNat)
      case atStart => exact ⟨1, Nat.le_refl _, by omega, rfl, rfl⟩
      case round =>
        obtain ⟨t, ht1, ht2, rfl, hwr⟩ := hrel
        obtain rfl := hwr.symm
        by_cases hlt : t < q
        · have d0 : decide ((t : Int) < (q : Int)) = true := by simp; omega
          have t0 : (0 : Int) ≤ (t : Int) := by omega
          have t1 : (t : Int) < (q : Int) := by omega
          have kt := HUC.out t hlt ht1
          go_wp2_with fail
          go_roundw
          case rel => exact ⟨t + 1, by omega, by omega, by go_num, by first | rfl | trivial⟩
          case measure => simp only [intOf]; omega
        · have e : t = q := by omega
          subst e
          have d0 : decide ((t : Int) < (t : Int)) = false := by simp
          clear hlt ht2
          go_wp2_with fail
          go_ret
          exact ⟨rfl, HEND.out⟩
end Go.Proofs.Ytgknjjaemjkloaa.WVt
