import Derived.Test.YtaiackmmmlhgbaaGreatPV20
open Go.Proofs.Tryz
set_option linter.unusedVariables false
set_option maxRecDepth 20000
set_option maxHeartbeats 6400000
namespace Go.Proofs.YtaiackmmmlhgbaaGreat.BVf
open Tak
open Go.RowKit BPl YRr YRs BBx BIx BIn BHm BPs BGd BBf
open BSf (hid Lo)
open YPl (Oq Bk Pg)
open YEn (InPg)
open TBase (T Keep InL heap_alloc_new)
open CPu (Ins)
open CBx (w64)
theorem ixf_neg {α : Type} {f : α -> Bool} : ∀ (l : List α) (i : Nat), ixf f i l < 0 -> ∀ y ∈ l, f y = true
 | [], _, _, y, hy => by cases hy
 | z :: r, i, h, y, hy => by
  rw [ixf] at h
  split at h
  ·rename_i hz
   rcases List.mem_cons.1 hy with rfl | hy
   ·exact hz
   ·exact ixf_neg r _ h y hy
  ·omega
theorem fwr_neg {α : Type} {lim : Nat} {f : α -> Bool} {l : List α} (h : ¬ 0 <= fwr lim f l) : l.length <= lim /\ ∀ y ∈ l, f y = true := by
 unfold fwr at h
 split at h
 ·omega
 ·rename_i hn
  have h1 : ixf f 0 (l.take lim) < 0 := by omega
  have h2 : l.length <= lim := by
   rcases Nat.lt_or_ge lim l.length with h3 | h3
   ·exact (hn ⟨h1, h3⟩).elim
   ·exact h3
  rw [List.take_of_length_le h2] at h1
  exact ⟨h2, ixf_neg _ _ h1⟩
theorem shf_ok {x : Pg} (h : (shf x).2 = 0) : (x.t.length <= 16384 /\ ∀ y ∈ x.t, STx.tg y = true) /\ (x.c.length <= 8192 /\ ∀ L ∈ x.c, CPu.ck L (x.t.length : Int) 64 = 0) /\ (x.s.length <= 4096 /\ ∀ t ∈ x.s, elm t = true) := by
 unfold shf at h
 split at h
 ·cases h
 split at h
 ·cases h
 split at h
 ·cases h
 ·rename_i h1 h2 h3
  have h2 := fwr_neg h2
  exact ⟨fwr_neg h1, ⟨h2.1, fun L hL => by simpa using h2.2 L hL⟩, fwr_neg h3⟩
theorem gh_0 (n : Nat) : Gh (hm0 n) := by
 intro A hA hw
 unfold hm0 at hA
 rcases List.mem_or_eq_of_mem_set hA with h | h
 ·rw [List.eq_of_mem_replicate h] at hw
  cases hw
 ·rw [h]
  exact ⟨by decide, by decide, by decide, by decide, by decide, by decide⟩
theorem dpa_ok (x : Pg) (i : Int) : 0 <= dpa (shd x) i /\ dpa (shd x) i <= 140737488351232 := by
 unfold dpa shd
 dsimp only
 rw [List.getD_eq_getElem?_getD, List.getElem?_map]
 cases x.s[i.toNat]? with
 | none => exact ⟨by decide, by decide⟩
 | some t =>
  have := (TMeas.ck_ok [t]).2.2
  simp only [Option.map_some, Option.getD_some]
  omega
theorem bls_step {S : Sh} {l : List Bk} {q : Nat} {H : List Ar} (hq : q < l.length) : bls S q (l.drop q) H = match blf S q l[q] H with
  | .error e => ((q : Int), e)
  | .ok H' => bls S (q + 1) (l.drop (q + 1)) H' := by
 rw [List.drop_eq_getElem_cons hq, bls]
 cases blf S q l[q] H <;> rfl
theorem three_box {w : World} {B : Nat} {v0 v1 v2 : Value} {t : TypeId} (h : w.heap[B]? = some (.cells #[v0, v1, v2] t (0, 0))) :
  w.cell? ⟨B, 0, none⟩ = some v0 /\ w.cell? ⟨B, 1, none⟩ = some v1 /\ w.cell? ⟨B, 2, none⟩ = some v2 := by
 refine ⟨?_, ?_, ?_⟩ <;> simp [World.cell?, h]
theorem cell_set {w : World} {B : Nat} {cs : Array Value} {t : TypeId} (h : w.heap[B]? = some (.cells cs t (0, 0))) (j : Nat) (y : Value) : (w.setCell ⟨B, j, none⟩ y).heap[B]? = some (.cells (cs.setIfInBounds j y) t (0, 0)) := by
 simp [World.setCell, Array.getElem?_modify, h]
theorem s_keep {w w' : World} {P Q B j : Nat} {u : Value} {A : Ar} {hv : Value} (hb : Below w.heap.size w w') (hP : P < w.heap.size) (hQ : Q < w.heap.size) (hB : B < w.heap.size)
  (h : w.cell? ⟨P, 3, none⟩ = some hv /\ w.cell? ⟨Q, j, none⟩ = some (.bool A.ow) /\ w.cell? ⟨Q, j + 1, none⟩ = some (.bool A.lp) /\ w.cell? ⟨Q, j + 2, none⟩ = some (.int .i64 A.st) /\ w.cell? ⟨Q, j + 3, none⟩ = some (.int .i64 A.el) /\ w.cell? ⟨Q, j + 4, none⟩ = some (.int .i64 A.ls) /\ w.cell? ⟨B, 1, none⟩ = some u) :
  w'.cell? ⟨P, 3, none⟩ = some hv /\ w'.cell? ⟨Q, j, none⟩ = some (.bool A.ow) /\ w'.cell? ⟨Q, j + 1, none⟩ = some (.bool A.lp) /\ w'.cell? ⟨Q, j + 2, none⟩ = some (.int .i64 A.st) /\ w'.cell? ⟨Q, j + 3, none⟩ = some (.int .i64 A.el) /\ w'.cell? ⟨Q, j + 4, none⟩ = some (.int .i64 A.ls) /\ w'.cell? ⟨B, 1, none⟩ = some u :=
 ⟨below_cell hP h.1 hb, below_cell hQ h.2.1 hb, below_cell hQ h.2.2.1 hb, below_cell hQ h.2.2.2.1 hb, below_cell hQ h.2.2.2.2.1 hb, below_cell hQ h.2.2.2.2.2.1 hb, below_cell hB h.2.2.2.2.2.2 hb⟩
theorem set11 (w : World) (B : Nat) (y0 y1 y2 y3 y4 y5 y6 y7 y8 y9 y10 : Value) {k : Nat} (hk : k ≠ B) : (((((((((((w.setCell ⟨B, 0, none⟩ y0).setCell ⟨B, 1, none⟩ y1).setCell ⟨B, 2, none⟩ y2).setCell ⟨B, 3, none⟩ y3).setCell ⟨B, 4, none⟩ y4).setCell ⟨B, 5, none⟩ y5).setCell ⟨B, 6, none⟩ y6).setCell ⟨B, 7, none⟩ y7).setCell ⟨B, 8, none⟩ y8).setCell ⟨B, 9, none⟩ y9).setCell ⟨B, 10, none⟩ y10).heap[k]? = w.heap[k]? := by
 rw [Below.heap_setCell _ _ _ _ hk, Below.heap_setCell _ _ _ _ hk, Below.heap_setCell _ _ _ _ hk, Below.heap_setCell _ _ _ _ hk, Below.heap_setCell _ _ _ _ hk, Below.heap_setCell _ _ _ _ hk, Below.heap_setCell _ _ _ _ hk, Below.heap_setCell _ _ _ _ hk, Below.heap_setCell _ _ _ _ hk, Below.heap_setCell _ _ _ _ hk, Below.heap_setCell _ _ _ _ hk]
theorem box11 {w : World} {B : Nat} {t : TypeId} {z0 z1 z2 z3 z4 z5 z6 z7 z8 z9 z10 : Value} (h : w.heap[B]? = some (.cells #[z0, z1, z2, z3, z4, z5, z6, z7, z8, z9, z10] t (0, 0))) (y0 y1 y2 y3 y4 y5 y6 y7 y8 y9 y10 : Value) : (((((((((((w.setCell ⟨B, 0, none⟩ y0).setCell ⟨B, 1, none⟩ y1).setCell ⟨B, 2, none⟩ y2).setCell ⟨B, 3, none⟩ y3).setCell ⟨B, 4, none⟩ y4).setCell ⟨B, 5, none⟩ y5).setCell ⟨B, 6, none⟩ y6).setCell ⟨B, 7, none⟩ y7).setCell ⟨B, 8, none⟩ y8).setCell ⟨B, 9, none⟩ y9).setCell ⟨B, 10, none⟩ y10).heap[B]? = some (.cells #[y0, y1, y2, y3, y4, y5, y6, y7, y8, y9, y10] t (0, 0)) := by
 have h0 : (w.setCell ⟨B, 0, none⟩ y0).heap[B]? = some (.cells #[y0, z1, z2, z3, z4, z5, z6, z7, z8, z9, z10] t (0, 0)) := cell_set h 0 y0
 generalize w.setCell ⟨B, 0, none⟩ y0 = w0 at *
 have h1 : (w0.setCell ⟨B, 1, none⟩ y1).heap[B]? = some (.cells #[y0, y1, z2, z3, z4, z5, z6, z7, z8, z9, z10] t (0, 0)) := cell_set h0 1 y1
 generalize w0.setCell ⟨B, 1, none⟩ y1 = w1 at *
 have h2 : (w1.setCell ⟨B, 2, none⟩ y2).heap[B]? = some (.cells #[y0, y1, y2, z3, z4, z5, z6, z7, z8, z9, z10] t (0, 0)) := cell_set h1 2 y2
 generalize w1.setCell ⟨B, 2, none⟩ y2 = w2 at *
 have h3 : (w2.setCell ⟨B, 3, none⟩ y3).heap[B]? = some (.cells #[y0, y1, y2, y3, z4, z5, z6, z7, z8, z9, z10] t (0, 0)) := cell_set h2 3 y3
 generalize w2.setCell ⟨B, 3, none⟩ y3 = w3 at *
 have h4 : (w3.setCell ⟨B, 4, none⟩ y4).heap[B]? = some (.cells #[y0, y1, y2, y3, y4, z5, z6, z7, z8, z9, z10] t (0, 0)) := cell_set h3 4 y4
 generalize w3.setCell ⟨B, 4, none⟩ y4 = w4 at *
 have h5 : (w4.setCell ⟨B, 5, none⟩ y5).heap[B]? = some (.cells #[y0, y1, y2, y3, y4, y5, z6, z7, z8, z9, z10] t (0, 0)) := cell_set h4 5 y5
 generalize w4.setCell ⟨B, 5, none⟩ y5 = w5 at *
 have h6 : (w5.setCell ⟨B, 6, none⟩ y6).heap[B]? = some (.cells #[y0, y1, y2, y3, y4, y5, y6, z7, z8, z9, z10] t (0, 0)) := cell_set h5 6 y6
 generalize w5.setCell ⟨B, 6, none⟩ y6 = w6 at *
 have h7 : (w6.setCell ⟨B, 7, none⟩ y7).heap[B]? = some (.cells #[y0, y1, y2, y3, y4, y5, y6, y7, z8, z9, z10] t (0, 0)) := cell_set h6 7 y7
 generalize w6.setCell ⟨B, 7, none⟩ y7 = w7 at *
 have h8 : (w7.setCell ⟨B, 8, none⟩ y8).heap[B]? = some (.cells #[y0, y1, y2, y3, y4, y5, y6, y7, y8, z9, z10] t (0, 0)) := cell_set h7 8 y8
 generalize w7.setCell ⟨B, 8, none⟩ y8 = w8 at *
 have h9 : (w8.setCell ⟨B, 9, none⟩ y9).heap[B]? = some (.cells #[y0, y1, y2, y3, y4, y5, y6, y7, y8, y9, z10] t (0, 0)) := cell_set h8 9 y9
 generalize w8.setCell ⟨B, 9, none⟩ y9 = w9 at *
 have h10 : (w9.setCell ⟨B, 10, none⟩ y10).heap[B]? = some (.cells #[y0, y1, y2, y3, y4, y5, y6, y7, y8, y9, y10] t (0, 0)) := cell_set h9 10 y10
 exact h10
theorem verify_c {K m : Nat} {w : World} {v : Value} {x : Pg} (h : InPg K m w v x) (hK : K <= w.heap.size) :
  Calls prog 15 #[v] w fun e w' => e = .returned (.tuple #[.int .i64 (vf x).1, .int .i64 (vf x).2.1, .int .i64 (vf x).2.2]) /\ Below w.heap.size w w' := by
 have HPG : Hid (∀ W', Below w.heap.size w W' -> InPg K m W' v x) := fun W' hb => h.below (hb.mono hK)
 obtain ⟨a, n1, c1, b, n2, c2, c, n3, c3, d, n4, c4, rfl, h1, h2, h3, h4⟩ := h
 have e4 : n4 = x.b.length := by obtain ⟨_, _, e, _⟩ := h4; cases e; rfl
 subst e4
 obtain ⟨W, hW⟩ : ∃ W, w.alloc (.cells #[.slice a n1 c1, .slice b n2 c2, .slice c n3 c3, .slice d x.b.length c4] 29) = W := ⟨_, rfl⟩
 have b0 : Below w.heap.size w W := by rw [<- hW]; exact (Below.refl _ w).alloc (Nat.le_refl _) _
 have hx : W.heap[w.heap.size]? = some (.cells #[.slice a n1 c1, .slice b n2 c2, .slice c n3 c3, .slice d x.b.length c4] 29 (0, 0)) := by rw [<- hW]; exact heap_alloc_new w _
 have hs0 : w.heap.size < W.heap.size := (Array.getElem?_eq_some_iff.1 hx).1
 have HX := hid hx
 have HB0 := hid b0
 have cS := BSf.shared_c (HPG.out W b0) (by omega)
 obtain ⟨p0, p1, p2, p3⟩ := TBase.four_box hx
 obtain ⟨Z, hZ⟩ : ∃ Z, vf x = Z := ⟨_, rfl⟩
 rw [hZ]
 have HZ := hid hZ
 obtain ⟨Y, hY⟩ : ∃ Y, shf x = Y := ⟨_, rfl⟩
 rw [hY] at cS
 have HY := hid hY
 have hb47 : x.b.length <= 140737488351232 := by obtain ⟨_, _, _, _, _, h, _⟩ := h4; exact h
 clear h1 h2 h3 h4 hx b0 hZ hY
 obtain ⟨y1, y2⟩ := Y
 go_enter func15, ntmps15
 go_wp2_with fail
 refine cS.mono ?_
 rintro e W1 ⟨rfl, b1⟩
 have HB1 := hid (HB0.out.trans (b1.mono HB0.out.size) : Below w.heap.size w W1)
 have hx1 := (b1.block w.heap.size hs0).trans HX.out
 have hs1 : W.heap.size <= W1.heap.size := b1.size
 have HX1 := hid hx1
 clear cS b1 p0 p1 p2 p3 hW HX
 obtain ⟨p0, p1, p2, p3⟩ := TBase.four_box hx1
 clear hx1
 by_cases hy : y2 = 0
 ·have dy : (y2 != 0) = false := by simp [hy]
  have HOK := hid (shf_ok (x := x) (by rw [HY.out]; exact hy))
  have HZ1 := hid (by have := HZ.out; unfold vf at this; rw [HY.out, if_neg (by simp [hy])] at this; exact this)
  clear hy HZ
  by_cases hbb : x.b = [] \/ 8192 < x.b.length
  ·have hZ := HZ1.out
   rw [if_pos hbb] at hZ
   subst hZ
   by_cases hb0 : x.b.length = 0
   ·have dz : ((x.b.length : Int) == 0) = true := by rw [hb0]; rfl
    clear hbb hb0
    generalize x.b.length = n at *
    go_wp2_with fail
    go_ret3
    exact ⟨rfl, HB1.out⟩
   ·have dz : ((x.b.length : Int) == 0) = false := by rw [beq_eq_false_iff_ne]; omega
    have hg : 8192 < x.b.length := hbb.resolve_left (fun e => hb0 (by rw [e]; rfl))
    have dg : decide ((8192 : Int) < (x.b.length : Int)) = true := by simp; omega
    have dg2 : decide (8192 < x.b.length) = true := by simp; omega
    clear hbb hb0 hg
    generalize x.b.length = n at *
    go_wp2_with fail
    go_ret3
    exact ⟨rfl, HB1.out⟩
  ·have HZ2 := hid (by have := HZ1.out; rw [if_neg hbb] at this; exact this)
   have hb1 : x.b ≠ [] := fun e => hbb (.inl e)
   have hb2 : x.b.length <= 8192 := Nat.le_of_not_lt fun e => hbb (.inr e)
   have hb0 : x.b.length ≠ 0 := fun e => hb1 (List.length_eq_zero_iff.1 e)
   have dz : ((x.b.length : Int) == 0) = false := by rw [beq_eq_false_iff_ne]; omega
   have dg : decide ((8192 : Int) < (x.b.length : Int)) = false := by simp; omega
   have dg2 : decide (8192 < x.b.length) = false := by simp; omega
   have cN := BNp.new_c (HPG.out W1 HB1.out) (by omega) hb1 hb2 HOK.out.2.1.1 HOK.out.2.2.1 (fun L hL y hy h6 => by have := BNp.ck_var (HOK.out.2.1.2 L hL) y hy h6; omega)
   have HB2' := hid hb2
   clear hbb HZ1 hb1 hb0
   go_wp2_with fail
   refine cN.mono ?_
   rintro e W2 ⟨P, Q, rfl, hwQ, hQP, hPl, hHw, hPw, b2⟩
   have HB2 := hid (HB1.out.trans (b2.mono HB1.out.size) : Below w.heap.size w W2)
   have HX2 := hid ((b2.block w.heap.size (by omega)).trans HX1.out)
   have hs2 : W1.heap.size <= W2.heap.size := b2.size
   have HPW := hid hPw
   have HHW := hid hHw
   clear cN b2 p0 p1 p2 p3 hPw hHw dz dg dg2
   obtain ⟨p0, p1, p2, p3⟩ := TBase.four_box HX2.out
   go_wp2_with fail
   go_loopw [37] (fun i wr => ∃ (q : Nat) (Hq : List Ar), q <= x.b.length /\ i = .int .i64 q /\ bls (shd x) q (x.b.drop q) Hq = Z /\ Gh Hq /\ Hq.length = x.b.length /\ Hw wr Q Hq /\ Xb Q W2 wr) (fun i _ => x.b.length - (intOf i).toNat)
   case atStart => exact ⟨0, hm0 x.b.length, by omega, rfl, HZ2.out, gh_0 _, by simp [hm0], HHW.out, Xb.refl _ _⟩
   case round =>
    clear HZ2 HHW
    obtain ⟨q, Hq, hq, rfl, hM, hgh, hHl, hHq, hX⟩ := hrel
    have HXb := hid hX
    have HHQ := hid hHq
    have HGH := hid hgh
    have HHL := hid hHl
    have hsz : W2.heap.size <= wr.heap.size := hX.1.size
    have hwr : Below w.heap.size w wr := HB2.out.trans (hX.1.mono (by omega))
    have HWR := hid hwr
    by_cases hlt : q < x.b.length
    ·have d0 : decide ((q : Int) < (x.b.length : Int)) = true := by simp; omega
     have i0 : (0 : Int) <= (q : Int) := by omega
     have i1 : (q : Int) < (x.b.length : Int) := by omega
     have hbl : RrS 3 (LyBs (Lo K)) (Lo K) wr (.slice d x.b.length c4) x.b := by
      obtain ⟨_, _, _, _, _, _, _, _, _, _, _, _, e, -, -, -, h4⟩ := HPG.out wr hwr
      cases e
      exact h4
     obtain ⟨g, o, cap', hsl, hl, hm, hg, ⟨ov, uv, k0, k1, k2, hid', hov, huv⟩⟩ := RrS.at hbl hlt
     cases hsl
     have HOV := hid hov
     have HUV := hid huv
     obtain ⟨oa, oc, rfl, -⟩ := hov
     obtain ⟨ua, uc, rfl, -⟩ := huv
     have hqH : q < Hq.length := by rw [hHl]; exact hlt
     have hPw := HPW.out.keep (w' := wr) (fun k hk hl => hX.2 k hk.1 hk.2)
     rw [bls_step hlt] at hM
     have HM := hid hM
     obtain ⟨tv, nv, dv, hPb, -⟩ := hPw
     have z3 := cell_of hPb 3 _ rfl
     have y0 := Hw.cell hHq hqH (j := 0) (by omega) rfl
     rw [Nat.add_zero] at y0
     have y1 := Hw.cell hHq hqH (j := 1) (by omega) rfl
     have y2 := Hw.cell hHq hqH (j := 2) (by omega) rfl
     have y3 := Hw.cell hHq hqH (j := 3) (by omega) rfl
     have y4 := Hw.cell hHq hqH (j := 4) (by omega) rfl
     have hA : Hq.getD q ar0 = Hq[q] := by rw [List.getD_eq_getElem?_getD, List.getElem?_eq_getElem hqH, Option.getD_some]
     have HGA := hid (hgh Hq[q] (List.getElem_mem hqH))
     obtain ⟨A, hAA⟩ : ∃ A, Hq[q] = A := ⟨_, rfl⟩
     rw [hAA] at y0 y1 y2 y3 y4 hA HGA
     have HA := hid hA
     obtain ⟨Vb, hVb⟩ : ∃ Vb, wr.alloc (.cells #[.int .i64 x.b[q].d, .slice oa x.b[q].o.length oc, .slice ua x.b[q].u.length uc] 74) = Vb := ⟨_, rfl⟩
     have bb : Below wr.heap.size wr Vb := by rw [<- hVb]; exact (Below.refl _ _).alloc (Nat.le_refl _) _
     have xb : Vb.heap[wr.heap.size]? = some (.cells #[.int .i64 x.b[q].d, .slice oa x.b[q].o.length oc, .slice ua x.b[q].u.length uc] 74 (0, 0)) := by rw [<- hVb]; exact heap_alloc_new wr _
     have hszb : wr.heap.size < Vb.heap.size := (Array.getElem?_eq_some_iff.1 xb).1
     have kc (k j : Nat) {u : Value} (hk : k < wr.heap.size) (h : wr.cell? ⟨k, j, none⟩ = some u) : Vb.cell? ⟨k, j, none⟩ = some u := below_cell hk h bb
     have hQl : Q < wr.heap.size := by omega
     have z3' := kc P 3 (by omega) z3
     have y0' := kc Q _ hQl y0
     have y1' := kc Q _ hQl y1
     have y2' := kc Q _ hQl y2
     have y3' := kc Q _ hQl y3
     have y4' := kc Q _ hQl y4
     obtain ⟨s0, s1, s2⟩ := three_box xb
     have HVB := hid bb
     have HXVB := hid xb
     clear hbl hM hgh hHl hHq hX hwr hPb hA hAA bb xb kc z3 y0 y1 y2 y3 y4
     have HSV := hid (⟨z3', y0', y1', y2', y3', y4', s1⟩ : _ /\ _ /\ _ /\ _ /\ _ /\ _ /\ _)
     go_wp2_with fail
     refine wp_region_held_drew (S := fun w' => w'.cell? ⟨P, 3, none⟩ = some (.slice (some ⟨Q, 0, none⟩) x.b.length x.b.length) /\ w'.cell? ⟨Q, q * 5, none⟩ = some (.bool A.ow) /\ w'.cell? ⟨Q, q * 5 + 1, none⟩ = some (.bool A.lp) /\ w'.cell? ⟨Q, q * 5 + 2, none⟩ = some (.int .i64 A.st) /\ w'.cell? ⟨Q, q * 5 + 3, none⟩ = some (.int .i64 A.el) /\ w'.cell? ⟨Q, q * 5 + 4, none⟩ = some (.int .i64 A.ls) /\ w'.cell? ⟨wr.heap.size, 1, none⟩ = some (.slice oa x.b[q].o.length oc)) (by kernel_rfl) HSV.out (fun hHeld => ?_)
     refine tkH 0 rfl ?_; try simp only [ptH]
     refine tkH 1 rfl ?_; try simp only [ptH]
     refine tkH 2 rfl ?_; try simp only [ptH]
     refine tkH 3 rfl ?_; try simp only [ptH]
     refine tkH 4 rfl ?_; try simp only [ptH]
     refine tkH 5 rfl ?_; try simp only [ptH]
     refine tkH 6 rfl ?_; try simp only [ptH]
     refine tkH 7 rfl ?_; try simp only [ptH]
     refine tkH 8 rfl ?_; try simp only [ptH]
     refine tkH 9 rfl ?_; try simp only [ptH]
     refine tkH 10 rfl ?_; try simp only [ptH]
     refine tkH 11 rfl ?_; try simp only [ptH]
     obtain ⟨Wz, hWz⟩ : ∃ Wz, (Vb.alloc (.cells #[.pointer none, .bool false, .bool false, .int .i64 0, .int .i64 0, .int .i64 0, .int .i64 0, .slice none 0 0, .int .i64 0, .slice none 0 0, .int .i64 0] 101)).drew = Wz := ⟨_, rfl⟩
     have bz : Below Vb.heap.size Vb Wz := by rw [<- hWz]; exact ((Below.refl _ _).alloc (Nat.le_refl _) _).drew
     have xz : Wz.heap[Vb.heap.size]? = some (.cells #[.pointer none, .bool false, .bool false, .int .i64 0, .int .i64 0, .int .i64 0, .int .i64 0, .slice none 0 0, .int .i64 0, .slice none 0 0, .int .i64 0] 101 (0, 0)) := by rw [<- hWz]; exact heap_alloc_new Vb _
     have HSZ := hid (s_keep bz (by omega) (by omega) hszb HSV.out)
     obtain ⟨W5, hW5⟩ : ∃ W5, (((((((((((Wz.setCell ⟨Vb.heap.size, 0, none⟩ (.pointer (some ⟨P, 0, none⟩))).setCell ⟨Vb.heap.size, 1, none⟩ (.bool A.ow)).setCell ⟨Vb.heap.size, 2, none⟩ (.bool A.lp)).setCell ⟨Vb.heap.size, 3, none⟩ (.int .i64 A.st)).setCell ⟨Vb.heap.size, 4, none⟩ (.int .i64 A.el)).setCell ⟨Vb.heap.size, 5, none⟩ (.int .i64 A.ls)).setCell ⟨Vb.heap.size, 6, none⟩ (.int .i64 q)).setCell ⟨Vb.heap.size, 7, none⟩ (.slice oa x.b[q].o.length oc)).setCell ⟨Vb.heap.size, 8, none⟩ (.int .i64 0)).setCell ⟨Vb.heap.size, 9, none⟩ (.slice none 0 0)).setCell ⟨Vb.heap.size, 10, none⟩ (.int .i64 0)) = W5 := ⟨_, rfl⟩
     have hk5 : ∀ k, k ≠ Vb.heap.size -> W5.heap[k]? = Wz.heap[k]? := fun k hk => by rw [<- hW5]; exact set11 _ _ _ _ _ _ _ _ _ _ _ _ _ hk
     have hB5 : Bw W5 Vb.heap.size P A q (.slice oa x.b[q].o.length oc) 0 (.slice none 0 0) 0 := by rw [<- hW5]; exact box11 xz _ _ _ _ _ _ _ _ _ _ _
     have b5 : Below Vb.heap.size Vb W5 := by rw [<- hW5]; exact (((((((((((bz.setCell (p := ⟨Vb.heap.size, 0, none⟩) (Nat.le_refl _) _).setCell (p := ⟨Vb.heap.size, 1, none⟩) (Nat.le_refl _) _).setCell (p := ⟨Vb.heap.size, 2, none⟩) (Nat.le_refl _) _).setCell (p := ⟨Vb.heap.size, 3, none⟩) (Nat.le_refl _) _).setCell (p := ⟨Vb.heap.size, 4, none⟩) (Nat.le_refl _) _).setCell (p := ⟨Vb.heap.size, 5, none⟩) (Nat.le_refl _) _).setCell (p := ⟨Vb.heap.size, 6, none⟩) (Nat.le_refl _) _).setCell (p := ⟨Vb.heap.size, 7, none⟩) (Nat.le_refl _) _).setCell (p := ⟨Vb.heap.size, 8, none⟩) (Nat.le_refl _) _).setCell (p := ⟨Vb.heap.size, 9, none⟩) (Nat.le_refl _) _).setCell (p := ⟨Vb.heap.size, 10, none⟩) (Nat.le_refl _) _)
     have fz (j : Nat) : Wz.frozen? ⟨Vb.heap.size, j, none⟩ = false := frz xz j
     have HS5 := hid (s_keep b5 (by omega) (by omega) hszb HSV.out)
     have HBW := hid hB5
     have HB5 := hid b5
     have w0 := cell_of xz 0 _ rfl
     have w1 := cell_of xz 1 _ rfl
     have w2 := cell_of xz 2 _ rfl
     have w3 := cell_of xz 3 _ rfl
     have w4 := cell_of xz 4 _ rfl
     have w5 := cell_of xz 5 _ rfl
     have w6 := cell_of xz 6 _ rfl
     have w7 := cell_of xz 7 _ rfl
     have w8 := cell_of xz 8 _ rfl
     have w9 := cell_of xz 9 _ rfl
     have w10 := cell_of xz 10 _ rfl
     have r0 := fz 0
     have r1 := fz 1
     have r2 := fz 2
     have r3 := fz 3
     have r4 := fz 4
     have r5 := fz 5
     have r6 := fz 6
     have r7 := fz 7
     have r8 := fz 8
     have r9 := fz 9
     have r10 := fz 10
     have HW5 := hid hW5
     clear fz bz xz hk5 hB5 b5 hW5
     refine rdH [12] ?_
     refine alH rfl fun K0 hK => ?_
     go_simp
     try rw [hWz]
     refine hK.out _ _ HSZ.out (fun hHeld => ?_)
     clear hK K0
     try simp only [ptH]
     refine rdH [13] ?_
     refine alH rfl fun K0 hK => ?_
     go_simp
     rw [HW5.out]
     refine hK.out _ _ HS5.out (fun hHeld => ?_)
     clear hK K0 hHeld
     try simp only [ptH]
     refine dnH ?_
     have HXV5 := hid ((HB5.out.block wr.heap.size hszb).trans HXVB.out)
     obtain ⟨s0', s1', s2'⟩ := three_box HXV5.out
     have h25 : ∀ k, k < wr.heap.size -> W5.heap[k]? = wr.heap[k]? := fun k hk => (HB5.out.block k (by omega)).trans (HVB.out.block k hk)
     have hpw5 : Pw (fun g => g < W2.heap.size /\ g ≠ Q) W5 P (shd x) (.slice (some ⟨Q, 0, none⟩) Hq.length x.b.length) := by
      rw [HHL.out]
      exact HPW.out.keep fun k hk hl => (h25 k (by have := hk.1; omega)).trans (HXb.out.2 k hk.1 hk.2)
     have hk5 : Keep (Lo K) wr W5 := fun k hk hl => h25 k hl
     have hlr : ∀ k, Lo K k -> k < W2.heap.size /\ k ≠ Q := fun k hk => by
      have : k < K := hk
      exact ⟨by omega, by omega⟩
     have cB := block_c (k := x.b[q]) hpw5 (fun k hk => by have := hk.1; omega) (fun k hk => hk.2) HBW.out (by omega) ((h25 Q (by omega)).trans HHQ.out) (by rw [HHL.out]; exact Nat.le_refl _) (by rw [HHL.out]; exact hb47) (HOV.out.keep hlr fun g o x _ hg h => kO hk5 hlr hg h) (HUV.out.keep hlr fun g o x _ hg h => kI hk5 hg h) HGH.out HA.out HGA.out (dpa_ok x)
     rw [HHL.out] at cB
     unfold bkv at cB
     obtain ⟨Y, hY⟩ : ∃ Y, blf (shd x) q x.b[q] Hq = Y := ⟨_, rfl⟩
     rw [hY] at cB
     have HYY := hid hY
     have HMY := hid (by have := HM.out; rw [hY] at this; exact this)
     have hs5 : Vb.heap.size <= W5.heap.size := HB5.out.size
     have HX5 := hid (⟨HXb.out.1.trans ((HVB.out.mono (by omega)).trans (HB5.out.mono (by omega))), fun k hk hq => (h25 k (by omega)).trans (HXb.out.2 k hk hq)⟩ : Xb Q W2 W5)
     clear hY h25 hpw5 hk5 hlr HM w0 w1 w2 w3 w4 w5 w6 w7 w8 w9 w10 r0 r1 r2 r3 r4 r5 r6 r7 r8 r9 r10 hWz hVb z3' y0' y1' y2' y3' y4' s0 s1 s2 k0 k1 k2
     cases Y with
     | error e2 =>
      have hZ : ((q : Int), e2) = Z := HMY.out
      have hc0 := blf_ne HYY.out
      have dc : (e2.2 != 0) = true := by simp [hc0]
      subst hZ
      clear hc0 HMY HYY
      go_wp2_with fail
      refine cB.mono ?_
      intro e W6 h6
      obtain ⟨⟨h7, h8⟩, h9⟩ := h6
      have h9 : e = .returned (.tuple #[.int .i64 e2.1, .int .i64 e2.2]) := h9
      subst h9
      have HF := hid (HB2.out.trans ((HX5.out.1.trans h7).mono (by omega)) : Below w.heap.size w W6)
      clear cB h7 h8
      go_wp2_with fail
      go_ret3
      exact ⟨rfl, HF.out⟩
     | ok H' =>
      have hM2 : bls (shd x) (q + 1) (x.b.drop (q + 1)) H' = Z := HMY.out
      have HM2 := hid hM2
      clear hM2 HMY HYY
      go_wp2_with fail
      refine cB.mono ?_
      intro e W6 h6
      obtain ⟨⟨h7, h8⟩, h9, h10, h11, h12⟩ := h6
      have h9 : e = .returned (.tuple #[.int .i64 0, .int .i64 0]) := h9
      subst h9
      have HX6 := hid (⟨HX5.out.1.trans h7, fun k hk hq => (h8 k (by omega) hq).trans (HX5.out.2 k hk hq)⟩ : Xb Q W2 W6)
      have HN6 := hid (⟨h10, h11, h12⟩ : _ /\ _ /\ _)
      clear cB h7 h8 h10 h11 h12
      go_wp2_with fail
      go_roundw
      case rel => exact ⟨q + 1, H', by omega, by go_num, HM2.out, HN6.out.2.2, HN6.out.2.1, HN6.out.1, HX6.out⟩
      case measure => simp only [intOf]; omega
    ·have d0 : decide ((q : Int) < (x.b.length : Int)) = false := by simp; omega
     have hZ : ((0 : Int), (0 : Int), (0 : Int)) = Z := by
      rw [List.drop_eq_nil_of_le (by omega), bls] at hM
      exact hM
     subst hZ
     clear hM
     go_wp2_with fail
     go_ret3
     exact ⟨rfl, HWR.out⟩
 ·have dy : (y2 != 0) = true := by simp [hy]
  have hZ := HZ.out
  unfold vf at hZ
  rw [HY.out, if_pos hy] at hZ
  subst hZ
  go_wp2_with fail
  go_ret3
  exact ⟨rfl, HB1.out⟩
end Go.Proofs.YtaiackmmmlhgbaaGreat.BVf
namespace Go.Proofs.YtaiackmmmlhgbaaGreat.BTr
open BPl
open YPl (Oq Bk Pg)
theorem getD_set (H : List Ar) (m n : Nat) (A : Ar) (hm : m < H.length) : (H.set m A).getD n ar0 = if n = m then A else H.getD n ar0 := by
 rw [List.getD_eq_getElem?_getD, List.getD_eq_getElem?_getD, List.getElem?_set]
 by_cases h : m = n
 ·subst h
  simp [hm]
 ·rw [if_neg h, if_neg (fun e => h e.symm)]
section
variable {S : Sh} {nb : Nat} {ops : List Oq}
theorem blf_ok {k : Bk} {H H' : List Ar} (h : blf S nb k H = .ok H') : (H.getD nb ar0).ow = true /\ k.d = (H.getD nb ar0).st /\ ∃ be, gos S nb k.o 0 (k.o.drop 0) ⟨H.getD nb ar0, 0, [], 0⟩ H = .ok (be, H') := by
 unfold blf at h
 split at h
 ·cases h
 split at h
 ·cases h
 rename_i h1 h2
 cases e : gos S nb k.o 0 k.o ⟨H.getD nb ar0, 0, [], 0⟩ H with
 | error q => rw [e] at h; cases h
 | ok y =>
  obtain ⟨be, He⟩ := y
  rw [e] at h
  dsimp only at h
  split at h
  ·cases h
  split at h
  ·cases h
  split at h
  ·cases h
  ·cases h
   refine ⟨by simpa using h1, Decidable.not_not.1 h2, be, ?_⟩
   rw [List.drop_zero]
   exact e
end
end Go.Proofs.YtaiackmmmlhgbaaGreat.BTr
namespace Go.Proofs.YtaiackmmmlhgbaaGreat.BRp
open BPl BGd
open YPl (Oq Bk Pg)
open TBase (T)
open CPu (Ins)
theorem hnm_eq {t d d' o a : Int} (h : o = 6 -> a < d /\ a < d') : CPu.hnm t d o a = CPu.hnm t d' o a := by
 unfold CPu.hnm
 by_cases h6 : o = 6
 ·obtain ⟨h1, h2⟩ := h h6
  simp [h1, h2]
 ·have : (o == 6) = false := by simp [h6]
  rw [this]
  rfl
theorem fls_eq {n : Nat} {t d d' : Int} : ∀ (r : List Ins) (H : Nat -> Int) (i : Nat), (∀ y ∈ r, y.1 = 6 -> y.2 < d /\ y.2 < d') -> CPu.fls n t d H i r = CPu.fls n t d' H i r
 | [], _, _, _ => rfl
 | x :: r, H, i, h => by
  have e : CPu.fl n t d H i x = CPu.fl n t d' H i x := by
   unfold CPu.fl
   rw [hnm_eq (h x (List.mem_cons_self ..))]
  rw [CPu.fls, CPu.fls, e]
  cases CPu.fl n t d' H i x with
  | error c => rfl
  | ok H' => exact fls_eq r H' (i + 1) fun y hy => h y (List.mem_cons_of_mem _ hy)
theorem nst_le : ∀ (L : List Ins) (m d : Int), m <= d -> (∀ y ∈ L, y.1 = 6 -> y.2 + 1 <= d) -> L.foldl BSf.nst m <= d
 | [], m, d, h, _ => h
 | y :: r, m, d, h, hy => by
  rw [List.foldl_cons]
  refine nst_le r _ d ?_ fun z hz => hy z (List.mem_cons_of_mem _ hz)
  unfold BSf.nst
  split
  ·rename_i h6
   have := hy y (List.mem_cons_self ..) h6
   omega
  ·exact h
theorem le_nst : ∀ (L : List Ins) (m : Int), m <= L.foldl BSf.nst m /\ ∀ y ∈ L, y.1 = 6 -> y.2 + 1 <= L.foldl BSf.nst m
 | [], m => ⟨Int.le_refl _, fun y hy => by cases hy⟩
 | x :: r, m => by
  rw [List.foldl_cons]
  obtain ⟨h1, h2⟩ := le_nst r (BSf.nst m x)
  have h0 : m <= BSf.nst m x /\ (x.1 = 6 -> x.2 + 1 <= BSf.nst m x) := by
   unfold BSf.nst
   split
   ·exact ⟨by omega, fun _ => by omega⟩
   ·rename_i h6
    exact ⟨Int.le_refl _, fun h => (h6 h).elim⟩
  refine ⟨by omega, fun y hy h6 => ?_⟩
  rcases List.mem_cons.1 hy with rfl | hy
  ·have := h0.2 h6
   omega
  ·exact h2 y hy h6
theorem ck_need {L : List Ins} {t d : Int} (h : CPu.ck L t 64 = 0) (hd : 0 <= d) : CPu.ck L t d = 0 ↔ need L <= d := by
 have h64 := BNp.ck_var h
 constructor
 ·intro hk
  exact nst_le L 0 d hd fun y hy h6 => by have := BNp.ck_var hk y hy h6; omega
 ·intro hn
  have hv : ∀ y ∈ L, y.1 = 6 -> y.2 < d /\ y.2 < 64 := fun y hy h6 => by
   have h1 : y.2 + 1 <= need L := (le_nst L 0).2 y hy h6
   have h2 := (h64 y hy h6).2
   omega
  unfold CPu.ck at *
  split at h
  ·cases h
  ·rename_i hl
   rw [if_neg hl, fls_eq L _ _ hv]
   exact h
def sgo (n : Nat) : Int -> Nat -> List Oq -> Bool
 | _, _, [] => false
 | c, i, o :: r =>
  if (if o.k = 3 then c + 1 else if o.k = 6 then c - 1 else c) = 0 then (i : Int) == (n : Int) - 1
  else sgo n (if o.k = 3 then c + 1 else if o.k = 6 then c - 1 else c) (i + 1) r
def sgl (ops : List Oq) : Bool :=
 if ops = [] then false else if (ops.getD 0 ⟨0, 0, 0, 0, []⟩).k = 7 then (ops.length : Int) == 1 else if (ops.getD 0 ⟨0, 0, 0, 0, []⟩).k = 3 then sgo ops.length 0 0 ops else false
section
variable {S : Sh} {nb : Nat} {ops : List Oq} {b : Bd} {H H' : List Ar} {p : Nat} {o : Oq}
theorem pass_ou (h : opf S nb ops b H p o = .ok H') : ((pass b p o).ou.length : Int) = (if o.k = 3 then (b.ou.length : Int) + 1 else if o.k = 6 then (b.ou.length : Int) - 1 else b.ou.length) /\ (pass b p o).cl = if o.k = 6 /\ b.ou.length = 1 /\ b.cl = 0 then (p : Int) else b.cl := by
 obtain ⟨-, -, -, h4, -, -, -⟩ := opf_ok h
 by_cases h3 : o.k = 3
 ·rw [pass_3 h3, if_pos h3, if_neg (fun e => by omega)]
  exact ⟨by simp, rfl⟩
 by_cases h6 : o.k = 6
 ·have hne := (stands_close h4 h6).1
  have hl : 0 < b.ou.length := List.length_pos_iff.2 hne
  have e : pass b p o = ⟨{ b.ar with el := b.ar.el - 1 }, b.ou.getD (b.ou.length - 1) 0, b.ou.take (b.ou.length - 1), if b.ou.length = 1 /\ b.cl = 0 then p else b.cl⟩ := by unfold pass; rw [if_neg h3, if_pos h6]
  rw [e, if_neg h3, if_pos h6]
  refine ⟨by rw [List.length_take]; omega, ?_⟩
  by_cases hc : b.ou.length = 1 /\ b.cl = 0
  ·rw [if_pos (show o.k = 6 /\ b.ou.length = 1 /\ b.cl = 0 from ⟨h6, hc⟩)]; dsimp only; rw [if_pos hc]
  ·rw [if_neg (show ¬ (o.k = 6 /\ b.ou.length = 1 /\ b.cl = 0) from fun e => hc e.2)]; dsimp only; rw [if_neg hc]
 rw [if_neg h3, if_neg h6, if_neg (fun e => h6 e.1)]
 by_cases h11 : o.k = 11
 ·rw [pass_11 h11]; exact ⟨rfl, rfl⟩
 by_cases h12 : o.k = 12
 ·rw [pass_12 h12]; exact ⟨rfl, rfl⟩
 rw [pass_0 h3 h6 h11 h12]
 exact ⟨rfl, rfl⟩
theorem gos_cl : ∀ (l : List Oq) (i : Nat) (b : Bd) (H : List Ar) (be : Bd) (He : List Ar), gos S nb ops i l b H = .ok (be, He) -> b.cl ≠ 0 -> be.cl = b.cl
 | [], i, b, H, be, He, h, hc => by rw [gos] at h; cases h; rfl
 | o :: r, i, b, H, be, He, h, hc => by
  rw [gos] at h
  cases e : opf S nb ops b H i o with
  | error c => rw [e] at h; cases h
  | ok H' =>
   rw [e] at h
   have hp := (pass_ou e).2
   rw [if_neg (fun x => hc x.2.2)] at hp
   rw [gos_cl r _ _ _ _ _ h (by rw [hp]; exact hc), hp]
theorem gos_sg {n : Nat} : ∀ (l : List Oq) (i : Nat) (b : Bd) (H : List Ar) (be : Bd) (He : List Ar), gos S nb ops i l b H = .ok (be, He) -> be.ou = [] -> b.cl = 0 -> 0 < i -> 0 < b.ou.length -> sgo n b.ou.length i l = (be.cl == (n : Int) - 1)
 | [], i, b, H, be, He, h, he, hc, hi, hl => by
  rw [gos] at h
  cases h
  rw [he] at hl
  simp at hl
 | o :: r, i, b, H, be, He, h, he, hc, hi, hl => by
  rw [gos] at h
  cases e : opf S nb ops b H i o with
  | error c => rw [e] at h; cases h
  | ok H' =>
   rw [e] at h
   obtain ⟨h1, h2⟩ := pass_ou e
   rw [sgo, <- h1]
   by_cases h0 : ((pass b i o).ou.length : Int) = 0
   ·rw [if_pos h0]
    have h6 : o.k = 6 /\ b.ou.length = 1 /\ b.cl = 0 := by
     rw [h0] at h1
     split at h1
     ·omega
     split at h1
     ·rename_i h6
      exact ⟨h6, by omega, hc⟩
     ·omega
    rw [if_pos h6] at h2
    rw [gos_cl r _ _ _ _ _ h (by rw [h2]; omega), h2]
   ·rw [if_neg h0]
    have h2' : (pass b i o).cl = 0 := by
     rw [h2]
     split
     ·rename_i h6
      rw [if_neg (by omega), if_pos h6.1] at h1
      omega
     ·exact hc
    exact gos_sg r _ _ _ _ _ h he h2' (by omega) (by omega)
theorem sgl_item {A : Ar} {be : Bd} {He : List Ar} (h : gos S nb ops 0 ops ⟨A, 0, [], 0⟩ H = .ok (be, He)) (he : be.ou = []) : sgl ops = item ops be.cl := by
 unfold sgl item
 cases hops : ops with
 | nil => rfl
 | cons o r =>
  have hne : ¬ (o :: r = []) := by simp
  rw [if_neg hne, if_neg hne]
  show (if o.k = 7 then _ else if o.k = 3 then _ else _) = (if o.k = 7 then _ else if o.k = 3 then _ else _)
  by_cases h7 : o.k = 7
  ·rw [if_pos h7, if_pos h7]
  ·rw [if_neg h7, if_neg h7]
   by_cases h3 : o.k = 3
   ·rw [if_pos h3, if_pos h3]
    rw [hops] at h
    rw [gos] at h
    cases e : opf S nb (o :: r) ⟨A, 0, [], 0⟩ H 0 o with
    | error c => rw [e] at h; cases h
    | ok H' =>
     rw [e] at h
     obtain ⟨h1, h2⟩ := pass_ou e
     rw [if_pos h3] at h1
     have hn6 : o.k ≠ 6 := by omega
     rw [if_neg (fun x => hn6 x.1)] at h2
     have hl : (pass ⟨A, 0, [], 0⟩ 0 o).ou.length = 1 := by
      have : ((⟨A, 0, [], 0⟩ : Bd).ou.length : Int) = 0 := rfl
      omega
     have := gos_sg (n := (o :: r).length) r 1 _ _ _ _ h he h2 (by omega) (by omega)
     rw [hl] at this
     rw [sgo, if_pos h3]
     exact this
   ·rw [if_neg h3, if_neg h3]
end
def rup (n : Nat) : Option Int -> Nat -> List Int -> Int × Int
 | _, _, [] => (0, 0)
 | q, i, x :: r => if x < 0 \/ (n : Int) <= x \/ (∃ y, q = some y /\ x <= y) then ((i : Int), 2207) else rup n (some x) (i + 1) r
theorem rup_some {n : Nat} : ∀ (l : List Int) (y : Int) (i : Nat), 0 <= y -> rup n (some y) i l = upd n (y + 1) i l
 | [], _, _, _ => rfl
 | x :: r, y, i, hy => by
  rw [rup, upd]
  by_cases h : x < y + 1 \/ (n : Int) <= x
  ·rw [if_pos h, if_pos (by rcases h with h | h; exact .inr (.inr ⟨y, rfl, by omega⟩); exact .inr (.inl h))]
  ·rw [if_neg h, if_neg (by rintro (e | e | ⟨z, e, e2⟩); omega; omega; (cases e; omega))]
   exact rup_some r x (i + 1) (by omega)
theorem rup_eq (n : Nat) (l : List Int) : rup n none 0 l = upd n 0 0 l := by
 cases l with
 | nil => rfl
 | cons x r =>
  rw [rup, upd]
  by_cases h : x < 0 \/ (n : Int) <= x
  ·rw [if_pos h, if_pos (by rcases h with h | h; exact .inl h; exact .inr (.inl h))]
  ·rw [if_neg h, if_neg (by rintro (e | e | ⟨z, e, e2⟩); omega; omega; cases e)]
   exact rup_some r x 1 (by omega)
end Go.Proofs.YtaiackmmmlhgbaaGreat.BRp
