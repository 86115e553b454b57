import Derived.Test.YtaiackmmmlhgbaaGreatPV25
open Go.Proofs.Tryz
set_option linter.unusedVariables false
set_option maxRecDepth 20000
set_option maxHeartbeats 12800000
namespace Go.Proofs.YtaiackmmmlhgbaaGreat.BQn
open Go.RowKit BPl YRr BQb BRn BRo BRg BQg BQm
open YPl (Oq Bk Pg)
open BSf (hid)
open BPs (Xl)
open TBase (Keep heap_alloc_new)
def OwE (X L E Q : Nat) (tv cv sv bv : Value) (hn hcap nb : Nat) (pl : Int) (p : Nat) (s : Lk) (H : List Ar) (A : Ar) (o : Oq) (w w' : World) : Prop :=
 if rno nb H (bks o) = true then ∃ lv nv, Lv w' X L E tv cv sv bv (.slice (some ⟨Q, 0, none⟩) hn hcap) (nb : Int) (p : Int) 2205 (p : Int) s lv nv /\ Hq w' Q H /\ Xq X Q L E w w'
 else ∃ lv nv, Lv w' X L E tv cv sv bv (.slice (some ⟨Q, 0, none⟩) hn hcap) (nb : Int) (if owf A s o = 0 then pl else (p : Int)) (owf A s o) (p : Int) (rlt s o) lv nv /\ Hq w' Q (if owf A s o = 0 then put (rin A s o) H (bks o) else H) /\ Xq X Q L E w w'
theorem own_c {w : World} {X L E Q nb p hn hcap bn bc : Nat} {ba : Option Addr} {tv cv sv : Value} {pl : Int} {s : Lk} {lv nv : Value} {H : List Ar}
  (h : Lv w X L E tv cv sv (.slice ba bn bc) (.slice (some ⟨Q, 0, none⟩) hn hcap) (nb : Int) pl 0 (p : Int) s lv nv) (hX : X < L) (hL : L <= w.heap.size) (hQ : Q < L) (hXQ : X < Q) (hH : Hq w Q H) (hhn : H.length = hn) (hnb : nb < H.length) (hbn : bn = hn) {A : Ar} (hA : H[nb] = A) (hAb : 0 <= A.el /\ A.el <= 64 /\ 0 <= A.ls /\ A.ls <= 8) (hnl : s.names.length <= 64) (hdp : -100 <= s.dep /\ s.dep <= 100) (hlen : s.lets ≠ []) (hlo : 0 <= lst s.lets 0 /\ lst s.lets 0 <= 64) (hvl : s.lets.length <= 65)
  {o : Oq} {la : Option Addr} {lc ln : Nat} (hln : o.l.length = ln) (h64 : ln <= 64) :
  Calls prog 100 #[.pointer (some ⟨X, 0, none⟩), .agg #[.int .i64 o.k, .int .i64 o.a, .int .i64 o.b, .int .i64 o.c, .slice la ln lc]] w fun e w' => (∃ v, e = .returned v) /\ OwE X L E Q tv cv sv (.slice ba bn bc) hn hcap nb pl p s H A o w w' := by
 obtain ⟨W, hW, bW, sW, xW⟩ := BSm.box5 w (.int .i64 o.k) (.int .i64 o.a) (.int .i64 o.b) (.int .i64 o.c) (.slice la ln lc) 127
 have XW := hid xW
 have z0 := cell_of xW 0 _ rfl
 have z1 := cell_of xW 1 _ rfl
 have z2 := cell_of xW 2 _ rfl
 have z3 := cell_of xW 3 _ rfl
 have z4 := cell_of xW 4 _ rfl
 have hsW : w.heap.size < W.heap.size := by omega
 rcases List.eq_nil_or_concat s.lets with hlm | ⟨l', y, hlm⟩
 ·exact (hlen hlm).elim
 rw [List.concat_eq_append] at hlm
 obtain ⟨g2, vcap, hlv, hk1, hk2, hgX2, -, -, -, -⟩ := h.lets_last hX hlm
 have hgL : L <= g2 := (World.ownsRow.lt h.lets g2 (by rw [hlv]; rfl)).1
 have hgW : g2 ≠ w.heap.size := by
  have := (World.ownsRow.lt h.lets g2 (by rw [hlv]; rfl)).2
  omega
 obtain ⟨ln', hln'⟩ : ∃ z, l'.length = z := ⟨_, rfl⟩
 obtain ⟨vn, hvn⟩ : ∃ z, ln' + 1 = z := ⟨_, rfl⟩
 rw [hln', hvn] at hlv
 have HLM := hid hlm
 have hyb : 0 <= y /\ y <= 64 := by rw [hlm, lst_snoc] at hlo; exact hlo
 have hw7 : IntKind.i64.wrap (y + 1) = y + 1 := by rw [IntKind.wrap_i64]; omega
 have hw8 : IntKind.i64.wrap (s.dep + 1) = s.dep + 1 := by rw [IntKind.wrap_i64]; omega
 have hvb : vn <= 100000 := by rw [hlm] at hvl; simp at hvl; omega
 have hw9 : IntKind.i64.wrap ((vn : Int) - 1) = (ln' : Int) := by rw [IntKind.wrap_i64]; omega
 have v3 : (0 : Int) <= (ln' : Int) := by omega
 have v4 : (ln' : Int) < (vn : Int) := by omega
 have hgX3 : X ≠ g2 := fun e => hgX2 e.symm
 have hgW3 : w.heap.size ≠ g2 := fun e => hgW e.symm
 have HLAST : Hid (∀ wx pl ft, Lv wx X L E tv cv sv (.slice ba bn bc) (.slice (some ⟨Q, 0, none⟩) hn hcap) (nb : Int) pl ft (p : Int) s lv nv -> wx.cell? ⟨g2, ln', none⟩ = some (.int .i64 y) /\ wx.frozen? ⟨g2, ln', none⟩ = false /\ ∀ t, Lv ((wx.setCell ⟨X, 9, none⟩ (.int .i64 (s.dep + 1))).setCell ⟨g2, ln', none⟩ (.int .i64 t)) X L E tv cv sv (.slice ba bn bc) (.slice (some ⟨Q, 0, none⟩) hn hcap) (nb : Int) pl ft (p : Int) ⟨s.dep + 1, l' ++ [t], s.names⟩ lv nv /\ Xe X L E wx ((wx.setCell ⟨X, 9, none⟩ (.int .i64 (s.dep + 1))).setCell ⟨g2, ln', none⟩ (.int .i64 t))) := fun wx pl ft hx => by
  obtain ⟨g3, c3, e3, -, -, -, ky, fy, -⟩ := hx.lets_last hX hlm
  rw [hlv, hln', hvn] at e3
  cases e3
  rw [hln'] at ky fy
  refine ⟨ky, fy, fun t => ?_⟩
  have hd := hx.dep_set hX (s.dep + 1)
  obtain ⟨g4, c4, e4, -, -, -, -, -, hset, -⟩ := hd.lets_last hX (m := l') (x := y) hlm
  rw [hlv, hln', hvn] at e4
  cases e4
  rw [hln'] at hset
  exact ⟨(hset t).1, xl_trans (xl_set hX _ _) (hset t).2⟩
 subst hlv
 have H1 := hid (h.below bW)
 have HH1 : Hid (Hq W Q H) := (bW.block Q (by omega)).trans hH
 have X1 := hid (xq_below hX hL bW : Xq X Q L E w W)
 have hLW : L <= W.heap.size := by omega
 have HLW := hid hLW
 have HHN := hid hhn
 have HNB := hid hnb
 have HA := hid hA
 have HAB := hid hAb
 have HDP := hid hdp
 have HNL := hid hnl
 have HLE := hid hlen
 have HLO := hid hlo
 have HLN := hid hln
 have H64 := hid h64
 have cB := blocks_c o la ln lc W
 have hbl2 := bks_len o
 obtain ⟨bl, hbl⟩ : ∃ x, bks o = x := ⟨_, rfl⟩
 have HBL := hid hbl
 rw [hbl] at cB hbl2
 obtain ⟨n, hn'⟩ : ∃ x, bl.length = x := ⟨_, rfl⟩
 have HN := hid hn'
 rw [hn'] at cB hbl2
 have HBN := hid hbn
 clear bW xW sW h hH hhn hA hAb hdp hnl hlen hlo hln h64 hbl hn' hbn hlm hln' hvn hvl hyb hvb
 go_enter func100, ntmps100
 go_wp2_with fail
 refine cB.mono ?_
 rintro e W1 ⟨u, rfl, hu, b1⟩
 obtain ⟨ua, uc, rfl, huc, -⟩ := own_sh hu
 have HU := hid hu
 have HB1 := hid b1
 have hs1 := b1.size
 have H2 := hid (H1.out.below b1)
 have HH2 : Hid (Hq W1 Q H) := (b1.block Q (by omega)).trans HH1.out
 have XW1 : Hid (W1.heap[w.heap.size]? = some (.cells #[.int .i64 o.k, .int .i64 o.a, .int .i64 o.b, .int .i64 o.c, .slice la ln lc] 127 (0, 0))) := (b1.block w.heap.size hsW).trans XW.out
 have X2 := hid (xq_trans X1.out (xq_below hX HLW.out b1) : Xq X Q L E w W1)
 have HL1 : Hid (L <= W1.heap.size) := by show L <= _; omega
 clear z0 z1 z2 z3 z4 hu b1 cB
 go_wp2_with fail
 go_loopw [5] (fun i wr => ∃ q : Nat, q <= n /\ i = .int .i64 q /\ Hid (okq nb H bl q) /\ Below W1.heap.size W1 wr) (fun i _ => n - (intOf i).toNat)
 case atStart => exact ⟨0, by omega, rfl, ⟨fun j hj h => by omega, fun _ h => by omega⟩, Below.refl _ _⟩
 case round =>
  obtain ⟨q, hq, rfl, HK, hwr⟩ := hrel
  have HWR := hid hwr
  have hsr := hwr.size
  by_cases hlt : q < n
  ·have t0 : decide ((q : Int) < (n : Int)) = true := by simp; omega
   have i0 : (0 : Int) <= (q : Int) := by omega
   have i1 : (q : Int) < (n : Int) := by omega
   have hqb : q < bl.length := by rw [HN.out]; exact hlt
   have hur := own_kp HU.out (w' := wr) fun g e => hwr.block g (World.ownsRow.lt HU.out g e).2
   obtain ⟨gu, uc', e1, -, hgl, hgs, kq⟩ := own_at hur HN.out hqb
   cases e1
   obtain ⟨b, hb⟩ : ∃ x, bl[q] = x := ⟨_, rfl⟩
   rw [hb] at kq
   have hgd : bl.getD q 0 = b := by rw [List.getD_eq_getElem?_getD, List.getElem?_eq_getElem hqb, <- hb]; rfl
   have h3 := H2.out.below hwr
   obtain ⟨-, -, -, c3, c4, c5, -⟩ := h3.box.cell
   have hH3 : Hq wr Q H := (hwr.block Q (by have := HL1.out; omega)).trans HH2.out
   obtain ⟨D, hD⟩ : ∃ D, bdq nb H bl q = D := ⟨_, rfl⟩
   have HD := hid hD
   have HD2 : Hid (D = (rbad nb H b || (decide (q = 1) && decide (bl.getD 0 0 = bl.getD 1 0)))) := by show D = _; rw [<- hD, <- hgd]; rfl
   have H3 := hid h3
   have HH3 := hid hH3
   clear h3 hH3 hD hur hwr
   go_upto_region 5 with fail
   go_cut [64] from 17 to 64 (fun t wx => t = .bool D /\ Below wr.heap.size wr wx)
   case first =>
    have HRB : Hid (rbad nb H b = (decide (b <= (nb : Int)) || (decide ((bn : Int) <= b) || (H.getD b.toNat ar0).ow))) := by show rbad nb H b = _; unfold rbad; rw [HHN.out, HBN.out]
    by_cases b1 : b <= (nb : Int)
    ·have e1 : decide (b <= (nb : Int)) = true := by simp; omega
     have eD : D = true := by rw [HD2.out, HRB.out, e1]; rfl
     clear b1
     go_wp2_with fail
     go_quiet (fail)
     go_wp2_with fail
     go_meet
     exact ⟨by rw [eD], (by repeat first | exact Below.refl _ _ | apply IBase.below_drewN | apply Below.drew)⟩
    have e1 : decide (b <= (nb : Int)) = false := by simp; omega
    by_cases b2 : (bn : Int) <= b
    ·have e2 : decide ((bn : Int) <= b) = true := by simp; omega
     have eD : D = true := by rw [HD2.out, HRB.out, e1, e2]; rfl
     clear b1 b2
     go_wp2_with fail
     go_quiet (fail)
     go_wp2_with fail
     go_meet
     exact ⟨by rw [eD], (by repeat first | exact Below.refl _ _ | apply IBase.below_drewN | apply Below.drew)⟩
    have e2 : decide ((bn : Int) <= b) = false := by simp; omega
    obtain ⟨bq, rfl⟩ : ∃ bq : Nat, b = (bq : Int) := ⟨b.toNat, by omega⟩
    have hbq : bq < H.length := by have := HHN.out; have := HBN.out; omega
    have e1n : decide (bq <= nb) = false := by simp; omega
    have e2n : decide (bn <= bq) = false := by simp; omega
    have co := HH3.out.cell hbq (j := 3) (by omega) (v := .bool H[bq].ow) rfl
    have m0 : (0 : Int) <= (bq : Int) := by omega
    have m1 : (bq : Int) < (hn : Int) := by have := HHN.out; omega
    have hgo : (H.getD (bq : Int).toNat ar0).ow = H[bq].ow := by rw [Int.toNat_natCast, List.getD_eq_getElem?_getD, List.getElem?_eq_getElem hbq]; rfl
    obtain ⟨O, hO⟩ : ∃ x, H[bq].ow = x := ⟨_, rfl⟩
    rw [hO] at co hgo
    have HGO := hid hgo
    clear b1 b2 hgo hO
    cases O with
    | true =>
     have eD : D = true := by rw [HD2.out, HRB.out, e1, e2, HGO.out]; rfl
     go_wp2_with fail
     go_quiet (fail)
     go_wp2_with fail
     go_meet
     exact ⟨by rw [eD], (by repeat first | exact Below.refl _ _ | apply IBase.below_drewN | apply Below.drew)⟩
    | false =>
    by_cases q1 : q = 1
    ·have e4 : ((q : Int) == 1) = true := by simp; omega
     have e4n : (q == 1) = true := by simp; omega
     have h0 : 0 < bl.length := by have := HN.out; omega
     have h1 : 1 < bl.length := by have := HN.out; omega
     have hur := own_kp HU.out (w' := wr) fun g e => HWR.out.block g (World.ownsRow.lt HU.out g e).2
     obtain ⟨g', c', e', -, -, -, k0⟩ := own_at hur HN.out h0
     cases e'
     obtain ⟨g', c', e', -, -, -, k1⟩ := own_at hur HN.out h1
     cases e'
     have n0 : (0 : Int) < (n : Int) := by omega
     have n1 : (1 : Int) < (n : Int) := by omega
     obtain ⟨x0, hx0⟩ : ∃ x, bl[0] = x := ⟨_, rfl⟩
     obtain ⟨x1, hx1⟩ : ∃ x, bl[1] = x := ⟨_, rfl⟩
     have g0 : bl.getD 0 0 = x0 := by rw [List.getD_eq_getElem?_getD, List.getElem?_eq_getElem h0, <- hx0]; rfl
     have g1 : bl.getD 1 0 = x1 := by rw [List.getD_eq_getElem?_getD, List.getElem?_eq_getElem h1, <- hx1]; rfl
     rw [hx0] at k0
     rw [hx1] at k1
     obtain ⟨E, hE⟩ : ∃ E, (x0 == x1) = E := ⟨_, rfl⟩
     have eD : D = E := by
      rw [HD2.out, HRB.out, e1, e2, HGO.out, g0, g1, <- hE, decide_eq_true q1]
      by_cases hx : x0 = x1 <;> simp [hx]
     have ED := hid eD
     clear q1 h0 h1 hx0 hx1 g0 g1 hur eD
     go_wp2_with fail
     go_quiet (fail)
     go_wp2_with fail
     go_meet
     exact ⟨by rw [ED.out], (by repeat first | exact Below.refl _ _ | apply IBase.below_drewN | apply Below.drew)⟩
    have e4 : ((q : Int) == 1) = false := by simp; omega
    have e4n : (q == 1) = false := by simp; omega
    have eD : D = false := by rw [HD2.out, HRB.out, e1, e2, HGO.out, decide_eq_false q1]; rfl
    clear q1
    go_wp2_with fail
    go_quiet (fail)
    go_wp2_with fail
    go_meet
    exact ⟨by rw [eD], (by repeat first | exact Below.refl _ _ | apply IBase.below_drewN | apply Below.drew)⟩
   case rest =>
   obtain ⟨rfl, hwx⟩ := hcut
   have h4 := H3.out.below hwx
   have hH4 : Hq wc Q H := (hwx.block Q (by have := HL1.out; omega)).trans HH3.out
   have X4 := hid (xq_trans (xq_trans X2.out (xq_below hX HL1.out HWR.out)) (xq_below hX (by have := HL1.out; omega) hwx) : Xq X Q L E w wc)
   have B4 := hid (HWR.out.trans (hwx.mono hsr) : Below W1.heap.size W1 wc)
   have hlc : L <= wc.heap.size := by have := HL1.out; have := hwx.size; omega
   clear kq c3 c4 c5 hwx
   cases D with
   | false =>
    have HK2 := hid (okq_next (by rw [HN.out]; exact hbl2) hqb HK.out HD.out)
    clear h4 hH4
    go_wp2_with fail
    go_roundw
    case rel => exact ⟨q + 1, by omega, by go_num, HK2.out, B4.out⟩
    case measure => simp only [intOf]; omega
   | true =>
    have HR : Hid (rno nb H (bks o) = true) := by show rno _ _ _ = _; rw [HBL.out]; exact bdq_t (by rw [HN.out]; exact hbl2) hqb HD.out
    have c8 := h4.box.cell.2.2.2.2.2.2.2.2.1
    have cF := fail_c h4.box 2205 (p : Int)
    rw [if_pos rfl, if_pos rfl] at cF
    have H4 := hid h4
    have HH4 := hid hH4
    clear h4 hH4
    go_wp2_with fail
    refine cF.mono ?_
    rintro e w5 ⟨⟨v, rfl⟩, hb5, x5⟩
    have H5 := hid (Lv.failed H4.out hX hb5 x5)
    have HH5 : Hid (Hq w5 Q H) := (x5.2 Q (by omega) (by omega)).trans HH4.out
    have X5 := hid (xq_trans X4.out (xq_xb x5 hlc))
    clear hb5 x5 cF c8
    go_wp2_with fail
    first | go_end0 | ((try simp only [Exit.inBlock, Exit.then]); refine bodyPost_ret (results_none rfl _ _ _) rfl ?_)
    refine ⟨⟨_, rfl⟩, ?_⟩
    unfold OwE
    rw [if_pos HR.out]
    exact ⟨_, _, H5.out, HH5.out, X5.out⟩
  ·have hqe : n = q := by omega
   subst hqe
   have t0 : decide ((n : Int) < (n : Int)) = false := by simp
   have HR : Hid (rno nb H (bks o) = false) := by show rno _ _ _ = _; rw [HBL.out]; exact okq_rno (by rw [HN.out]; exact HK.out)
   have H3 := hid (H2.out.below hwr)
   have HH3 : Hid (Hq wr Q H) := (hwr.block Q (by have := HL1.out; omega)).trans HH2.out
   have HU3 := hid (own_kp HU.out (w' := wr) fun g e => hwr.block g (World.ownsRow.lt HU.out g e).2)
   have XW3 : Hid (wr.heap[w.heap.size]? = some (.cells #[.int .i64 o.k, .int .i64 o.a, .int .i64 o.b, .int .i64 o.c, .slice la ln lc] 127 (0, 0))) := (hwr.block w.heap.size (by omega)).trans XW1.out
   have X3 := hid (xq_trans X2.out (xq_below hX HL1.out hwr) : Xq X Q L E w wr)
   have hl3 : L <= wr.heap.size := by have := HL1.out; omega
   have HKN := HK
   clear hlt hq hwr HWR H2 HH2 HU X2 XW1 HK
   obtain ⟨P, hP⟩ : ∃ P : Int -> Int -> List Ar -> World -> Prop, P = fun pl ft H' wx => Lv wx X L E tv cv sv (.slice ba bn bc) (.slice (some ⟨Q, 0, none⟩) hn hcap) (nb : Int) pl ft (p : Int) s (.slice (some ⟨g2, 0, none⟩) vn vcap) nv /\ Hq wx Q H' /\ wx.heap[w.heap.size]? = some (.cells #[.int .i64 o.k, .int .i64 o.a, .int .i64 o.b, .int .i64 o.c, .slice la ln lc] 127 (0, 0)) /\ wx.ownsRow W.heap.size 3 1 (.slice ua n uc) n (bl.map (Value.int .i64)) /\ Xq X Q L E w wx /\ W.heap.size <= wx.heap.size := ⟨_, rfl⟩
   have HP : Hid (∀ pl ft H' wx, P pl ft H' wx ↔ (Lv wx X L E tv cv sv (.slice ba bn bc) (.slice (some ⟨Q, 0, none⟩) hn hcap) (nb : Int) pl ft (p : Int) s (.slice (some ⟨g2, 0, none⟩) vn vcap) nv /\ Hq wx Q H' /\ wx.heap[w.heap.size]? = some (.cells #[.int .i64 o.k, .int .i64 o.a, .int .i64 o.b, .int .i64 o.c, .slice la ln lc] 127 (0, 0)) /\ wx.ownsRow W.heap.size 3 1 (.slice ua n uc) n (bl.map (Value.int .i64)) /\ Xq X Q L E w wx /\ W.heap.size <= wx.heap.size)) := fun pl ft H' wx => by rw [hP]
   have HPB : Hid (∀ pl ft H' wx wy, P pl ft H' wx -> Below wx.heap.size wx wy -> P pl ft H' wy) := fun pl ft H' wx wy hp hb => by
    obtain ⟨a1, a2, a3, a4, a5, a6⟩ := (HP.out pl ft H' wx).1 hp
    have := hb.size
    exact (HP.out pl ft H' wy).2 ⟨a1.below hb, (hb.block Q (by omega)).trans a2, (hb.block _ (by omega)).trans a3, own_kp a4 fun g e => hb.block g (World.ownsRow.lt a4 g e).2, xq_trans a5 (xq_below hX (by omega) hb), by omega⟩
   have hP3 : P pl 0 H wr := (HP.out _ _ _ _).2 ⟨H3.out, HH3.out, XW3.out, HU3.out, X3.out, by omega⟩
   have HP3 := hid hP3
   clear hP3 hP
   have hnb' : nb < H.length := HNB.out
   have cls := HH3.out.cell hnb' (j := 2) (by omega) (v := .int .i64 H[nb].ls) rfl
   rw [HA.out] at cls
   obtain ⟨-, -, -, -, c4, c5, -⟩ := H3.out.box.cell
   have z0 := cell_of XW3.out 0 _ rfl
   have z4 := cell_of XW3.out 4 _ rfl
   have i0 : (0 : Int) <= (nb : Int) := by omega
   have i1 : (nb : Int) < (hn : Int) := by have := HHN.out; omega
   obtain ⟨-, -, hl0, hl1⟩ := HAB.out
   have hw1 : IntKind.i64.wrap (A.ls + 1) = A.ls + 1 := by rw [IntKind.wrap_i64]; omega
   obtain ⟨G, hG⟩ : ∃ x, grows o = x := ⟨_, rfl⟩
   obtain ⟨LS, hLS⟩ : ∃ x, (if o.k = 9 then A.ls + 1 else A.ls) = x := ⟨_, rfl⟩
   have HG := hid hG
   have HLS := hid hLS
   have h64 := H64.out
   have hg0 : 0 <= G /\ G <= 64 := by
    rw [<- hG]
    unfold grows
    rw [HLN.out]
    split
    ·omega
    ·split
     ·omega
     ·split <;> omega
   have hls : -1 <= LS /\ LS <= 100 := by rw [<- hLS]; split <;> omega
   clear hG hLS
   go_wp2_with fail
   go_region
   go_upto_block 2 with fail
   go_cut [6, 7] from 84 to 94 (fun m l wx => m = .int .i64 G /\ l = .int .i64 LS /\ Below wr.heap.size wr wx)
   case first =>
    by_cases k9 : o.k = 9
    ·have d9 : (o.k == 9) = true := by simp [k9]
     have eG : G = 2 := by rw [<- HG.out]; unfold grows; rw [if_pos k9]
     have eL : LS = A.ls + 1 := by rw [<- HLS.out, if_pos k9]
     have EE := hid (And.intro eG eL)
     clear k9 eG eL
     go_wp2_with fail
     go_meet
     exact ⟨by rw [EE.out.1], by rw [EE.out.2], (Below.refl _ _).drew⟩
    have d9 : (o.k == 9) = false := by simp [k9]
    have eL : LS = A.ls := by rw [<- HLS.out, if_neg k9]
    have EL := hid eL
    by_cases k10 : o.k = 10
    ·have d10 : (o.k == 10) = true := by simp [k10]
     have eG : G = (ln : Int) := by rw [<- HG.out]; unfold grows; rw [if_neg k9, if_pos k10, HLN.out]
     have EG := hid eG
     clear k9 k10 eG eL
     go_wp2_with fail
     go_meet
     exact ⟨by rw [EG.out], by rw [EL.out], (Below.refl _ _).drew⟩
    have d10 : (o.k == 10) = false := by simp [k10]
    by_cases k11 : o.k = 11
    ·have d11 : (o.k == 11) = true := by simp [k11]
     have eG : G = 1 := by rw [<- HG.out]; unfold grows; rw [if_neg k9, if_neg k10, if_pos k11]
     have EG := hid eG
     clear k9 k10 k11 eG eL
     go_wp2_with fail
     go_meet
     exact ⟨by rw [EG.out], by rw [EL.out], (Below.refl _ _).drew⟩
    have d11 : (o.k == 11) = false := by simp [k11]
    have eG : G = 0 := by rw [<- HG.out]; unfold grows; rw [if_neg k9, if_neg k10, if_neg k11]
    have EG := hid eG
    clear k9 k10 k11 eG eL
    go_wp2_with fail
    go_meet
    exact ⟨by rw [EG.out], by rw [EL.out], (Below.refl _ _).drew⟩
   case rest =>
   obtain ⟨rfl, rfl, hwx⟩ := hcut
   have HP4 : Hid (P pl 0 H wc) := HPB.out _ _ _ _ _ HP3.out hwx
   obtain ⟨W4, hW4⟩ : ∃ W4, W4 = wc := ⟨_, rfl⟩
   subst hW4
   have c9 := ((HP.out _ _ _ _).1 HP4.out).1.box.cell.2.2.2.2.2.2.2.2.2.1
   have c8 := ((HP.out _ _ _ _).1 HP4.out).1.box.cell.2.2.2.2.2.2.2.2.1
   have hdp := HDP.out
   have hw2 : IntKind.i64.wrap (s.dep + G) = s.dep + G := by rw [IntKind.wrap_i64]; omega
   obtain ⟨p1, hp1⟩ : ∃ x, (if 64 < s.dep + G then (p : Int) else pl) = x := ⟨_, rfl⟩
   obtain ⟨f1, hf1⟩ : ∃ x : Int, (if 64 < s.dep + G then 2208 else 0) = x := ⟨_, rfl⟩
   have HP1 := hid hp1
   have HF1 := hid hf1
   obtain ⟨T1, hT1⟩ : ∃ x, decide (64 < s.dep + G) = x := ⟨_, rfl⟩
   obtain ⟨T2, hT2⟩ : ∃ x, decide (8 < LS) = x := ⟨_, rfl⟩
   have HT1 := hid hT1
   have HT2 := hid hT2
   clear cls c4 c5 z0 z4 hwx hp1 hf1 H3 HH3 XW3 HU3 X3 HP3
   go_upto_if 101 with fail
   go_cut [] from 102 to 107 (fun wx => P p1 f1 H wx)
   case first =>
    clear hT1
    cases T1 with
    | true =>
     have ht : 64 < s.dep + G := of_decide_eq_true HT1.out
     have e1 : p1 = (p : Int) := by rw [<- HP1.out, if_pos ht]
     have e2 : f1 = 2208 := by rw [<- HF1.out, if_pos ht]
     subst e1 e2
     have cF := fail_c ((HP.out _ _ _ _).1 HP4.out).1.box 2208 (p : Int)
     rw [if_pos rfl, if_pos rfl] at cF
     clear ht
     go_wp2_with fail
     refine cF.mono ?_
     rintro e w5 ⟨⟨v, rfl⟩, hb5, x5⟩
     have HP5 : Hid (P (p : Int) 2208 H w5) := by
      obtain ⟨a1, a2, a3, a4, a5, a6⟩ := (HP.out _ _ _ _).1 HP4.out
      exact (HP.out _ _ _ _).2 ⟨Lv.failed a1 hX hb5 x5, (x5.2 Q (by omega) (by omega)).trans a2, (x5.2 _ (by omega) (by omega)).trans a3, own_kp a4 fun g e => x5.2 g (World.ownsRow.lt a4 g e).2 (by have := (World.ownsRow.lt a4 g e).1; omega), xq_trans a5 (xq_xb x5 (by omega)), by have := x5.1.size; omega⟩
     clear hb5 x5 cF
     go_wp2_with fail
     go_meet
     exact HP5.out
    | false =>
     have ht : ¬ 64 < s.dep + G := of_decide_eq_false HT1.out
     have e1 : p1 = pl := by rw [<- HP1.out, if_neg ht]
     have e2 : f1 = 0 := by rw [<- HF1.out, if_neg ht]
     subst e1 e2
     clear ht
     go_wp2_with fail
     go_meet
     exact HP4.out
   case rest =>
   have HP5 := hid hcut
   obtain ⟨W5, hW5⟩ : ∃ W5, W5 = wc := ⟨_, rfl⟩
   subst hW5
   have c8' := ((HP.out _ _ _ _).1 HP5.out).1.box.cell.2.2.2.2.2.2.2.2.1
   obtain ⟨p2, hp2⟩ : ∃ x, (if 8 < LS then (if f1 = 0 then (p : Int) else p1) else p1) = x := ⟨_, rfl⟩
   obtain ⟨f2, hf2⟩ : ∃ x : Int, (if 8 < LS then (if f1 = 0 then 2206 else f1) else f1) = x := ⟨_, rfl⟩
   have HP2 := hid hp2
   have HF2 := hid hf2
   clear c9 c8 hp2 hf2 hcut HP4
   have c8 := c8'
   clear c8'
   go_upto_if 109 with fail
   go_cut [] from 110 to 115 (fun wx => P p2 f2 H wx)
   case first =>
    clear hT2
    cases T2 with
    | true =>
     have ht : 8 < LS := of_decide_eq_true HT2.out
     have e1 : p2 = if f1 = 0 then (p : Int) else p1 := by rw [<- HP2.out, if_pos ht]
     have e2 : f2 = if f1 = 0 then 2206 else f1 := by rw [<- HF2.out, if_pos ht]
     have EE := hid (And.intro e1 e2)
     have cF := fail_c ((HP.out _ _ _ _).1 HP5.out).1.box 2206 (p : Int)
     rw [<- e1, <- e2] at cF
     clear ht e1 e2
     go_wp2_with fail
     refine cF.mono ?_
     rintro e w5 ⟨⟨v, rfl⟩, hb5, x5⟩
     have HP6 : Hid (P p2 f2 H w5) := by
      obtain ⟨a1, a2, a3, a4, a5, a6⟩ := (HP.out _ _ _ _).1 HP5.out
      exact (HP.out _ _ _ _).2 ⟨Lv.failed a1 hX hb5 x5, (x5.2 Q (by omega) (by omega)).trans a2, (x5.2 _ (by omega) (by omega)).trans a3, own_kp a4 fun g e => x5.2 g (World.ownsRow.lt a4 g e).2 (by have := (World.ownsRow.lt a4 g e).1; omega), xq_trans a5 (xq_xb x5 (by omega)), by have := x5.1.size; omega⟩
     clear hb5 x5 cF
     go_wp2_with fail
     go_meet
     exact HP6.out
    | false =>
     have ht : ¬ 8 < LS := of_decide_eq_false HT2.out
     have e1 : p2 = p1 := by rw [<- HP2.out, if_neg ht]
     have e2 : f2 = f1 := by rw [<- HF2.out, if_neg ht]
     subst e1 e2
     clear ht
     go_wp2_with fail
     go_meet
     exact HP5.out
   case rest =>
   have HP6 := hid hcut
   obtain ⟨W6, hW6⟩ : ∃ W6, W6 = wc := ⟨_, rfl⟩
   subst hW6
   have HOF : Hid (owf A s o = f2 /\ (if f2 = 0 then pl else (p : Int)) = p2) := by
    show _ /\ _
    rw [<- HP2.out, <- HF2.out, <- HP1.out, <- HF1.out]
    unfold owf
    rw [HG.out, HLS.out]
    by_cases k1 : 64 < s.dep + G
    ·rw [if_pos k1, if_pos k1, if_pos k1]
     by_cases k2 : 8 < LS
     ·rw [if_pos k2, if_pos k2]; exact ⟨rfl, rfl⟩
     ·rw [if_neg k2, if_neg k2]; exact ⟨rfl, rfl⟩
    ·rw [if_neg k1, if_neg k1, if_neg k1]
     by_cases k2 : 8 < LS
     ·rw [if_pos k2, if_pos k2, if_pos k2]; exact ⟨rfl, rfl⟩
     ·rw [if_neg k2, if_neg k2, if_neg k2]; exact ⟨rfl, rfl⟩
   clear hcut hT1 hT2 c8
   go_wp2_with fail
   go_loopw [8] (fun i wr => ∃ q : Nat, q <= n /\ i = .int .i64 q /\ (f2 = 0 \/ q = 0) /\ P p2 f2 (put (rin A s o) H (bl.take q)) wr) (fun i _ => n - (intOf i).toNat)
   case atStart => exact ⟨0, by omega, rfl, .inr rfl, HP6.out⟩
   case round =>
    obtain ⟨q, hq, rfl, hf0, hpq⟩ := hrel
    have hzz : W.heap.size <= wr.heap.size := ((HP.out _ _ _ _).1 hpq).2.2.2.2.2
    obtain ⟨a1, a2, a3, a4, a5, -⟩ := (HP.out _ _ _ _).1 hpq
    obtain ⟨-, -, -, -, c4, c5, -, c7, -, c9, c10, c11⟩ := a1.box.cell
    have z0 := cell_of a3 0 _ rfl
    by_cases hfz : f2 = 0
    ·have eF : (f2 == 0) = true := by simp [hfz]
     by_cases hlt : q < n
     ·have t0 : decide ((q : Int) < (n : Int)) = true := by simp; omega
      have j0 : (0 : Int) <= (q : Int) := by omega
      have j1 : (q : Int) < (n : Int) := by omega
      have hqb : q < bl.length := by rw [HN.out]; exact hlt
      obtain ⟨gu, uc', e1, -, hgl, hgs, kq⟩ := own_at a4 HN.out hqb
      cases e1
      have hrb : rbad nb H bl[q] = false := HKN.out.1 q hqb hlt
      unfold rbad at hrb
      simp only [Bool.or_eq_false_iff] at hrb
      have m1 : ¬ bl[q] <= (nb : Int) := of_decide_eq_false hrb.1
      have m2 : ¬ (H.length : Int) <= bl[q] := of_decide_eq_false hrb.2.1
      obtain ⟨bq, hbq⟩ : ∃ bq : Nat, bl[q] = (bq : Int) := ⟨bl[q].toNat, by omega⟩
      rw [hbq] at kq m1 m2
      have hpl := put_len (rin A s o) (bl.take q) H
      have hpn : (put (rin A s o) H (bl.take q))[nb]? = some A := by
       rw [put_get, List.getElem?_eq_getElem HNB.out, HA.out]
       intro x hx
       obtain ⟨j, hj, rfl⟩ := List.getElem_of_mem hx
       rw [List.getElem_take]
       rw [List.length_take] at hj
       have hrj : rbad nb H bl[j] = false := HKN.out.1 j (by omega) (by omega)
       unfold rbad at hrj
       simp only [Bool.or_eq_false_iff] at hrj
       have := of_decide_eq_false hrj.1
       omega
      have hnx : (bl.take (q + 1)) = bl.take q ++ [bl[q]] := List.take_succ_eq_append_getElem hqb
      have hps : put (rin A s o) H (bl.take (q + 1)) = (put (rin A s o) H (bl.take q)).set bq (rin A s o) := by rw [hnx, put_snoc, hbq, Int.toNat_natCast]
      have HPS := hid hps
      obtain ⟨H', hH'⟩ : ∃ H', put (rin A s o) H (bl.take q) = H' := ⟨_, rfl⟩
      rw [hH'] at hpl hpn a2
      have hnl' : nb < H'.length := by rw [hpl]; exact HNB.out
      have hbl' : bq < H'.length := by omega
      have hAn : H'[nb] = A := by rw [List.getElem?_eq_getElem hnl'] at hpn; exact Option.some.inj hpn
      have ce := a2.cell hnl' (j := 1) (by omega) (v := .int .i64 H'[nb].el) rfl
      rw [hAn] at ce
      have o0 := a2.cell hbl' (j := 0) (by omega) (v := .int .i64 H'[bq].st) rfl
      have o1 := a2.cell hbl' (j := 1) (by omega) (v := .int .i64 H'[bq].el) rfl
      have o2 := a2.cell hbl' (j := 2) (by omega) (v := .int .i64 H'[bq].ls) rfl
      have o3 := a2.cell hbl' (j := 3) (by omega) (v := .bool H'[bq].ow) rfl
      have o4 := a2.cell hbl' (j := 4) (by omega) (v := .bool H'[bq].lp) rfl
      rw [Nat.add_zero] at o0
      obtain ⟨Bq, hBq⟩ : ∃ x, H'[bq] = x := ⟨_, rfl⟩
      rw [hBq] at o0 o1 o2 o3 o4
      have r0 := BIn.frz a2 (bq * 5)
      have r1 := BIn.frz a2 (bq * 5 + 1)
      have r2 := BIn.frz a2 (bq * 5 + 2)
      have r3 := BIn.frz a2 (bq * 5 + 3)
      have r4 := BIn.frz a2 (bq * 5 + 4)
      have hhn := HHN.out
      have n0 : (0 : Int) <= (nb : Int) := by omega
      have n1 : (nb : Int) < (hn : Int) := by have := HNB.out; omega
      have n2 : (0 : Int) <= (bq : Int) := by omega
      have n3 : (bq : Int) < (hn : Int) := by omega
      have hnl := HNL.out
      obtain ⟨ha0, ha1, -, -⟩ := HAB.out
      obtain ⟨na, ncap, hnv, -, -⟩ := own_sh a1.names
      have hw5 : IntKind.i64.wrap (A.el + (s.names.length : Int)) = A.el + (s.names.length : Int) := by rw [IntKind.wrap_i64]; omega
      obtain ⟨K9, hK9⟩ : ∃ x, (o.k == 9) = x := ⟨_, rfl⟩
      have ein : rin A s o = ⟨true, K9, s.dep + G, A.el + s.names.length, LS⟩ := by unfold rin; rw [hK9, HG.out, HLS.out]
      rw [hnv] at c11
      have HSET : Hid (∀ W9, W9 = ((((wr.setCell ⟨Q, bq * 5, none⟩ (.int .i64 (s.dep + G))).setCell ⟨Q, bq * 5 + 1, none⟩ (.int .i64 (A.el + (s.names.length : Int)))).setCell ⟨Q, bq * 5 + 2, none⟩ (.int .i64 LS)).setCell ⟨Q, bq * 5 + 3, none⟩ (.bool true)).setCell ⟨Q, bq * 5 + 4, none⟩ (.bool K9) -> P p2 f2 (put (rin A s o) H (bl.take (q + 1))) W9 /\ P p2 f2 (put (rin A s o) H (bl.take (q + 1))) W9.drew) := fun W9 h9 => by
       have hs := a2.set hbl' (rin A s o)
       rw [ein] at hs
       dsimp only at hs
       rw [<- h9, <- ein, <- hH', <- HPS.out] at hs
       have hk : ∀ g, g ≠ Q -> W9.heap[g]? = wr.heap[g]? := fun g hg => by
        rw [h9]
        iterate 5 rw [Below.heap_setCell _ _ _ _ (by exact hg)]
       have hz9 : W9.heap.size = wr.heap.size := by rw [h9]; simp [World.setCell]
       have hb9 : Below X wr W9 := by
        rw [h9]
        exact (((((Below.refl X wr).setCell (p := ⟨Q, _, none⟩) (by show X <= Q; omega) _).setCell (p := ⟨Q, _, none⟩) (by show X <= Q; omega) _).setCell (p := ⟨Q, _, none⟩) (by show X <= Q; omega) _).setCell (p := ⟨Q, _, none⟩) (by show X <= Q; omega) _).setCell (p := ⟨Q, _, none⟩) (by show X <= Q; omega) _
       have hp9 : P p2 f2 (put (rin A s o) H (bl.take (q + 1))) W9 := (HP.out _ _ _ _).2 ⟨a1.keep (hk X (by omega)) (fun g hg _ => hk g (by omega)) (by omega), hs, (hk _ (by omega)).trans a3, own_kp a4 fun g e => hk g (by have := (World.ownsRow.lt a4 g e).1; omega), xq_trans a5 ⟨hb9, fun g h1 hs h2 h3 => hk g h3⟩, by omega⟩
       exact ⟨hp9, HPB.out _ _ _ W9 _ hp9 (Below.refl _ _).drew⟩
      have HS7 : Hid (wr.drew.cell? ⟨X, 4, none⟩ = some (.slice (some ⟨Q, 0, none⟩) hn hcap) /\ wr.drew.cell? ⟨X, 5, none⟩ = some (.int .i64 (nb : Int)) /\ wr.drew.cell? ⟨X, 9, none⟩ = some (.int .i64 s.dep) /\ wr.drew.cell? ⟨X, 11, none⟩ = some (.slice na s.names.length ncap) /\ wr.drew.cell? ⟨w.heap.size, 0, none⟩ = some (.int .i64 o.k) /\ wr.drew.cell? ⟨gu, q, none⟩ = some (.int .i64 (bq : Int)) /\ wr.drew.cell? ⟨Q, nb * 5 + 1, none⟩ = some (.int .i64 A.el)) := ⟨c4, c5, c9, c11, z0, kq, ce⟩
      have HS8 : Hid ((((((wr.setCell ⟨Q, bq * 5, none⟩ (.int .i64 (s.dep + G))).setCell ⟨Q, bq * 5 + 1, none⟩ (.int .i64 (A.el + (s.names.length : Int)))).setCell ⟨Q, bq * 5 + 2, none⟩ (.int .i64 LS)).setCell ⟨Q, bq * 5 + 3, none⟩ (.bool true)).setCell ⟨Q, bq * 5 + 4, none⟩ (.bool K9)).drew.cell? ⟨X, 4, none⟩ = some (.slice (some ⟨Q, 0, none⟩) hn hcap) /\ (((((wr.setCell ⟨Q, bq * 5, none⟩ (.int .i64 (s.dep + G))).setCell ⟨Q, bq * 5 + 1, none⟩ (.int .i64 (A.el + (s.names.length : Int)))).setCell ⟨Q, bq * 5 + 2, none⟩ (.int .i64 LS)).setCell ⟨Q, bq * 5 + 3, none⟩ (.bool true)).setCell ⟨Q, bq * 5 + 4, none⟩ (.bool K9)).drew.cell? ⟨X, 5, none⟩ = some (.int .i64 (nb : Int)) /\ (((((wr.setCell ⟨Q, bq * 5, none⟩ (.int .i64 (s.dep + G))).setCell ⟨Q, bq * 5 + 1, none⟩ (.int .i64 (A.el + (s.names.length : Int)))).setCell ⟨Q, bq * 5 + 2, none⟩ (.int .i64 LS)).setCell ⟨Q, bq * 5 + 3, none⟩ (.bool true)).setCell ⟨Q, bq * 5 + 4, none⟩ (.bool K9)).drew.cell? ⟨X, 9, none⟩ = some (.int .i64 s.dep) /\ (((((wr.setCell ⟨Q, bq * 5, none⟩ (.int .i64 (s.dep + G))).setCell ⟨Q, bq * 5 + 1, none⟩ (.int .i64 (A.el + (s.names.length : Int)))).setCell ⟨Q, bq * 5 + 2, none⟩ (.int .i64 LS)).setCell ⟨Q, bq * 5 + 3, none⟩ (.bool true)).setCell ⟨Q, bq * 5 + 4, none⟩ (.bool K9)).drew.cell? ⟨X, 11, none⟩ = some (.slice na s.names.length ncap) /\ (((((wr.setCell ⟨Q, bq * 5, none⟩ (.int .i64 (s.dep + G))).setCell ⟨Q, bq * 5 + 1, none⟩ (.int .i64 (A.el + (s.names.length : Int)))).setCell ⟨Q, bq * 5 + 2, none⟩ (.int .i64 LS)).setCell ⟨Q, bq * 5 + 3, none⟩ (.bool true)).setCell ⟨Q, bq * 5 + 4, none⟩ (.bool K9)).drew.cell? ⟨w.heap.size, 0, none⟩ = some (.int .i64 o.k) /\ (((((wr.setCell ⟨Q, bq * 5, none⟩ (.int .i64 (s.dep + G))).setCell ⟨Q, bq * 5 + 1, none⟩ (.int .i64 (A.el + (s.names.length : Int)))).setCell ⟨Q, bq * 5 + 2, none⟩ (.int .i64 LS)).setCell ⟨Q, bq * 5 + 3, none⟩ (.bool true)).setCell ⟨Q, bq * 5 + 4, none⟩ (.bool K9)).drew.cell? ⟨gu, q, none⟩ = some (.int .i64 (bq : Int)) /\ (((((wr.setCell ⟨Q, bq * 5, none⟩ (.int .i64 (s.dep + G))).setCell ⟨Q, bq * 5 + 1, none⟩ (.int .i64 (A.el + (s.names.length : Int)))).setCell ⟨Q, bq * 5 + 2, none⟩ (.int .i64 LS)).setCell ⟨Q, bq * 5 + 3, none⟩ (.bool true)).setCell ⟨Q, bq * 5 + 4, none⟩ (.bool K9)).drew.cell? ⟨Q, nb * 5 + 1, none⟩ = some (.int .i64 A.el)) := by
       obtain ⟨b1, b2, b3, b4, -, -⟩ := (HP.out _ _ _ _).1 (HSET.out _ rfl).2
       obtain ⟨-, -, -, -, e4, e5, -, -, -, e9, -, e11⟩ := b1.box.cell
       obtain ⟨g', c', e', -, -, -, e6⟩ := own_at b4 HN.out hqb
       cases e'
       rw [hbq] at e6
       rw [hnv] at e11
       rw [HPS.out, hH'] at b2
       have hnl2 : nb < (H'.set bq (rin A s o)).length := by rw [List.length_set]; exact hnl'
       have e7 := b2.cell hnl2 (j := 1) (by omega) (v := .int .i64 (H'.set bq (rin A s o))[nb].el) rfl
       rw [List.getElem_set_ne (by omega), hAn] at e7
       exact ⟨e4, e5, e9, e11, cell_of b3 0 _ rfl, e6, e7⟩
      clear a1 a2 a3 a4 a5 hpq hbq hrb m1 m2 hpl hpn hnx hps hH' hBq hnl' hbl' hAn hnv ein
      (try clear XW); (try clear H1); (try clear HH1); (try clear X1); (try clear HLW); (try clear HAB); (try clear HDP); (try clear HNL); (try clear HLE); (try clear HLO); (try clear HLN); (try clear H64); (try clear HBL); (try clear HB1); (try clear HKN); (try clear HPB); (try clear HG); (try clear HLS); (try clear HP1); (try clear HF1); (try clear HT1); (try clear HT2); (try clear HP2); (try clear HF2); (try clear HP5); (try clear HP6); (try clear HLM); (try clear HLAST); (try clear HOF); (try clear HR); (try clear HU); (try clear HL1); (try clear HA); (try clear HNB); (try clear HPS); (try clear HPQ); (try clear HP); (try clear HN); (try clear HBN); (try clear HHN); (try clear HGO)
      go_wp2_with fail
      go_region_held3 (fun w' => w'.cell? ⟨X, 4, none⟩ = some (.slice (some ⟨Q, 0, none⟩) hn hcap) /\ w'.cell? ⟨X, 5, none⟩ = some (.int .i64 (nb : Int)) /\ w'.cell? ⟨X, 9, none⟩ = some (.int .i64 s.dep) /\ w'.cell? ⟨X, 11, none⟩ = some (.slice na s.names.length ncap) /\ w'.cell? ⟨w.heap.size, 0, none⟩ = some (.int .i64 o.k) /\ w'.cell? ⟨gu, q, none⟩ = some (.int .i64 (bq : Int)) /\ w'.cell? ⟨Q, nb * 5 + 1, none⟩ = some (.int .i64 A.el)) (first | with_reducible exact HS7.out | with_reducible exact HS8.out | (obtain ⟨t1, t2, t3, t4, t5, t6, t7⟩ := HS7.out; with_reducible (first | exact t1 | exact t2 | exact t3 | exact t4 | exact t5 | exact t6 | exact t7)) | (obtain ⟨t1, t2, t3, t4, t5, t6, t7⟩ := HS8.out; with_reducible (first | exact t1 | exact t2 | exact t3 | exact t4 | exact t5 | exact t6 | exact t7))) (first | fail)
      rename_i hHeld
      clear hHeld HS8 HS7
      go_wp2_with fail
      go_roundw
      case rel =>
       refine ⟨q + 1, by omega, by go_num, .inl hfz, ?_⟩
       exact (HSET.out _ rfl).2
      case measure => simp only [intOf]; omega
     ·have hqe : n = q := by omega
      have t0 : decide ((q : Int) < (n : Int)) = false := by simp; omega
      have eT : put (rin A s o) H (bl.take q) = put (rin A s o) H (bks o) := by rw [List.take_of_length_le (by rw [HN.out]; omega), HBL.out]
      rw [eT] at a2
      have hOW : Hid (owf A s o = 0) := HOF.out.1.trans hfz
      clear hlt
      by_cases k11 : o.k = 11
      ·have d11 : (o.k == 11) = true := by simp [k11]
       have eR : rlt s o = ⟨s.dep + 1, l' ++ [y + 1], s.names⟩ := by unfold rlt; rw [if_pos k11, HLM.out, set_last, lst_snoc]
       obtain ⟨ky, fy, hst⟩ := HLAST.out _ _ _ a1
       have r9 := BIn.frz a1.box 9
       have HFIN : Hid (∀ W9, W9 = (wr.setCell ⟨X, 9, none⟩ (.int .i64 (s.dep + 1))).setCell ⟨g2, ln', none⟩ (.int .i64 (y + 1)) \/ W9 = ((wr.setCell ⟨X, 9, none⟩ (.int .i64 (s.dep + 1))).setCell ⟨g2, ln', none⟩ (.int .i64 (y + 1))).drew -> OwE X L E Q tv cv sv (.slice ba bn bc) hn hcap nb pl p s H A o w W9) := fun W9 h9 => by
        have hlr : L <= (wr.setCell ⟨X, 9, none⟩ (.int .i64 (s.dep + 1))).heap.size := by simp [World.setCell]; omega
        obtain ⟨k1, k2⟩ := hst (y + 1)
        have hsz : L <= ((wr.setCell ⟨X, 9, none⟩ (.int .i64 (s.dep + 1))).setCell ⟨g2, ln', none⟩ (.int .i64 (y + 1))).heap.size := by simp [World.setCell]; omega
        have q1 : Hq ((wr.setCell ⟨X, 9, none⟩ (.int .i64 (s.dep + 1))).setCell ⟨g2, ln', none⟩ (.int .i64 (y + 1))) Q (if owf A s o = 0 then put (rin A s o) H (bks o) else H) := by
         unfold Hq
         rw [Below.heap_setCell _ _ _ _ (by show Q ≠ g2; omega), Below.heap_setCell _ _ _ _ (by show Q ≠ X; omega)]
         rw [if_pos hOW.out]
         exact a2
        have x9 : Xq X Q L E w ((wr.setCell ⟨X, 9, none⟩ (.int .i64 (s.dep + 1))).setCell ⟨g2, ln', none⟩ (.int .i64 (y + 1))) := xq_trans a5 (xq_xl k2)
        unfold OwE
        rw [if_neg (by rw [HR.out]; simp), eR]
        rw [HOF.out.1] at q1 ⊢
        rw [HOF.out.2]
        rcases h9 with rfl | rfl
        ·exact ⟨_, _, k1, q1, x9⟩
        ·exact ⟨_, _, k1.below (Below.refl _ _).drew, q1, xq_trans x9 (xq_below hX hsz (Below.refl _ _).drew)⟩
       clear k11 eR a1 a2 a3 a4 a5 hst hpq
       (try clear hOW); (try clear eT); (try clear XW); (try clear H1); (try clear HH1); (try clear X1); (try clear HLW); (try clear HAB); (try clear HDP); (try clear HNL); (try clear HLE); (try clear HLO); (try clear HLN); (try clear H64); (try clear HBL); (try clear HB1); (try clear HKN); (try clear HPB); (try clear HG); (try clear HLS); (try clear HP1); (try clear HF1); (try clear HT1); (try clear HT2); (try clear HP2); (try clear HF2); (try clear HP5); (try clear HP6); (try clear HLM); (try clear HLAST); (try clear HOF); (try clear HR); (try clear HU); (try clear HL1); (try clear HA); (try clear HNB); (try clear HPS); (try clear HPQ); (try clear HP); (try clear HN); (try clear HBN); (try clear HHN); (try clear HGO)
       go_wp2_with fail
       go_region
       go_wp2_with fail
       go_end0
       exact ⟨⟨_, rfl⟩, HFIN.out _ (.inr rfl)⟩
      have d11 : (o.k == 11) = false := by simp [k11]
      have HFIN : Hid (OwE X L E Q tv cv sv (.slice ba bn bc) hn hcap nb pl p s H A o w wr) := by
       show OwE X L E Q tv cv sv (.slice ba bn bc) hn hcap nb pl p s H A o w wr
       unfold OwE
       rw [if_neg (by rw [HR.out]; simp), show rlt s o = s by unfold rlt; rw [if_neg k11]]
       refine ⟨.slice (some ⟨g2, 0, none⟩) vn vcap, nv, ?_, ?_, a5⟩
       ·rw [HOF.out.1, HOF.out.2]; exact a1
       ·rw [if_pos hOW.out]; exact a2
      clear k11 a1 a2 a3 a4 a5 hpq
      (try clear hOW); (try clear eT); (try clear XW); (try clear H1); (try clear HH1); (try clear X1); (try clear HLW); (try clear HAB); (try clear HDP); (try clear HNL); (try clear HLE); (try clear HLO); (try clear HLN); (try clear H64); (try clear HBL); (try clear HB1); (try clear HKN); (try clear HPB); (try clear HG); (try clear HLS); (try clear HP1); (try clear HF1); (try clear HT1); (try clear HT2); (try clear HP2); (try clear HF2); (try clear HP5); (try clear HP6); (try clear HLM); (try clear HLAST); (try clear HOF); (try clear HR); (try clear HU); (try clear HL1); (try clear HA); (try clear HNB); (try clear HPS); (try clear HPQ); (try clear HP); (try clear HN); (try clear HBN); (try clear HHN); (try clear HGO)
      go_wp2_with fail
      go_end0
      exact ⟨⟨_, rfl⟩, HFIN.out⟩
    ·have eF : (f2 == 0) = false := by simp [hfz]
     have hq0 : q = 0 := hf0.resolve_left hfz
     have eT : put (rin A s o) H (bl.take q) = H := by rw [hq0]; rfl
     rw [eT] at a2
     have hOW : Hid (¬ owf A s o = 0) := fun e => hfz (HOF.out.1.symm.trans e)
     by_cases hlt : q < n
     ·have t0 : decide ((q : Int) < (n : Int)) = true := by simp; omega
      have t0n : decide (q < n) = true := by simp; omega
      clear hlt hq0
      by_cases k11 : o.k = 11
      ·have d11 : (o.k == 11) = true := by simp [k11]
       have eR : rlt s o = ⟨s.dep + 1, l' ++ [y + 1], s.names⟩ := by unfold rlt; rw [if_pos k11, HLM.out, set_last, lst_snoc]
       obtain ⟨ky, fy, hst⟩ := HLAST.out _ _ _ a1
       have r9 := BIn.frz a1.box 9
       have HFIN : Hid (∀ W9, W9 = (wr.setCell ⟨X, 9, none⟩ (.int .i64 (s.dep + 1))).setCell ⟨g2, ln', none⟩ (.int .i64 (y + 1)) \/ W9 = ((wr.setCell ⟨X, 9, none⟩ (.int .i64 (s.dep + 1))).setCell ⟨g2, ln', none⟩ (.int .i64 (y + 1))).drew -> OwE X L E Q tv cv sv (.slice ba bn bc) hn hcap nb pl p s H A o w W9) := fun W9 h9 => by
        have hlr : L <= (wr.setCell ⟨X, 9, none⟩ (.int .i64 (s.dep + 1))).heap.size := by simp [World.setCell]; omega
        obtain ⟨k1, k2⟩ := hst (y + 1)
        have hsz : L <= ((wr.setCell ⟨X, 9, none⟩ (.int .i64 (s.dep + 1))).setCell ⟨g2, ln', none⟩ (.int .i64 (y + 1))).heap.size := by simp [World.setCell]; omega
        have q1 : Hq ((wr.setCell ⟨X, 9, none⟩ (.int .i64 (s.dep + 1))).setCell ⟨g2, ln', none⟩ (.int .i64 (y + 1))) Q (if owf A s o = 0 then put (rin A s o) H (bks o) else H) := by
         unfold Hq
         rw [Below.heap_setCell _ _ _ _ (by show Q ≠ g2; omega), Below.heap_setCell _ _ _ _ (by show Q ≠ X; omega)]
         rw [if_neg hOW.out]
         exact a2
        have x9 : Xq X Q L E w ((wr.setCell ⟨X, 9, none⟩ (.int .i64 (s.dep + 1))).setCell ⟨g2, ln', none⟩ (.int .i64 (y + 1))) := xq_trans a5 (xq_xl k2)
        unfold OwE
        rw [if_neg (by rw [HR.out]; simp), eR]
        rw [HOF.out.1] at q1 ⊢
        rw [HOF.out.2]
        rcases h9 with rfl | rfl
        ·exact ⟨_, _, k1, q1, x9⟩
        ·exact ⟨_, _, k1.below (Below.refl _ _).drew, q1, xq_trans x9 (xq_below hX hsz (Below.refl _ _).drew)⟩
       clear k11 eR a1 a2 a3 a4 a5 hst hpq
       (try clear hOW); (try clear eT); (try clear XW); (try clear H1); (try clear HH1); (try clear X1); (try clear HLW); (try clear HAB); (try clear HDP); (try clear HNL); (try clear HLE); (try clear HLO); (try clear HLN); (try clear H64); (try clear HBL); (try clear HB1); (try clear HKN); (try clear HPB); (try clear HG); (try clear HLS); (try clear HP1); (try clear HF1); (try clear HT1); (try clear HT2); (try clear HP2); (try clear HF2); (try clear HP5); (try clear HP6); (try clear HLM); (try clear HLAST); (try clear HOF); (try clear HR); (try clear HU); (try clear HL1); (try clear HA); (try clear HNB); (try clear HPS); (try clear HPQ); (try clear HP); (try clear HN); (try clear HBN); (try clear HHN); (try clear HGO)
       go_wp2_with fail
       go_region
       go_wp2_with fail
       go_end0
       exact ⟨⟨_, rfl⟩, HFIN.out _ (.inr rfl)⟩
      have d11 : (o.k == 11) = false := by simp [k11]
      have HFIN : Hid (OwE X L E Q tv cv sv (.slice ba bn bc) hn hcap nb pl p s H A o w wr) := by
       show OwE X L E Q tv cv sv (.slice ba bn bc) hn hcap nb pl p s H A o w wr
       unfold OwE
       rw [if_neg (by rw [HR.out]; simp), show rlt s o = s by unfold rlt; rw [if_neg k11]]
       refine ⟨.slice (some ⟨g2, 0, none⟩) vn vcap, nv, ?_, ?_, a5⟩
       ·rw [HOF.out.1, HOF.out.2]; exact a1
       ·rw [if_neg hOW.out]; exact a2
      clear k11 a1 a2 a3 a4 a5 hpq
      (try clear hOW); (try clear eT); (try clear XW); (try clear H1); (try clear HH1); (try clear X1); (try clear HLW); (try clear HAB); (try clear HDP); (try clear HNL); (try clear HLE); (try clear HLO); (try clear HLN); (try clear H64); (try clear HBL); (try clear HB1); (try clear HKN); (try clear HPB); (try clear HG); (try clear HLS); (try clear HP1); (try clear HF1); (try clear HT1); (try clear HT2); (try clear HP2); (try clear HF2); (try clear HP5); (try clear HP6); (try clear HLM); (try clear HLAST); (try clear HOF); (try clear HR); (try clear HU); (try clear HL1); (try clear HA); (try clear HNB); (try clear HPS); (try clear HPQ); (try clear HP); (try clear HN); (try clear HBN); (try clear HHN); (try clear HGO)
      go_wp2_with fail
      go_end0
      exact ⟨⟨_, rfl⟩, HFIN.out⟩
     ·have t0 : decide ((q : Int) < (n : Int)) = false := by simp; omega
      have t0n : decide (q < n) = false := by simp; omega
      clear hlt hq0
      by_cases k11 : o.k = 11
      ·have d11 : (o.k == 11) = true := by simp [k11]
       have eR : rlt s o = ⟨s.dep + 1, l' ++ [y + 1], s.names⟩ := by unfold rlt; rw [if_pos k11, HLM.out, set_last, lst_snoc]
       obtain ⟨ky, fy, hst⟩ := HLAST.out _ _ _ a1
       have r9 := BIn.frz a1.box 9
       have HFIN : Hid (∀ W9, W9 = (wr.setCell ⟨X, 9, none⟩ (.int .i64 (s.dep + 1))).setCell ⟨g2, ln', none⟩ (.int .i64 (y + 1)) \/ W9 = ((wr.setCell ⟨X, 9, none⟩ (.int .i64 (s.dep + 1))).setCell ⟨g2, ln', none⟩ (.int .i64 (y + 1))).drew -> OwE X L E Q tv cv sv (.slice ba bn bc) hn hcap nb pl p s H A o w W9) := fun W9 h9 => by
        have hlr : L <= (wr.setCell ⟨X, 9, none⟩ (.int .i64 (s.dep + 1))).heap.size := by simp [World.setCell]; omega
        obtain ⟨k1, k2⟩ := hst (y + 1)
        have hsz : L <= ((wr.setCell ⟨X, 9, none⟩ (.int .i64 (s.dep + 1))).setCell ⟨g2, ln', none⟩ (.int .i64 (y + 1))).heap.size := by simp [World.setCell]; omega
        have q1 : Hq ((wr.setCell ⟨X, 9, none⟩ (.int .i64 (s.dep + 1))).setCell ⟨g2, ln', none⟩ (.int .i64 (y + 1))) Q (if owf A s o = 0 then put (rin A s o) H (bks o) else H) := by
         unfold Hq
         rw [Below.heap_setCell _ _ _ _ (by show Q ≠ g2; omega), Below.heap_setCell _ _ _ _ (by show Q ≠ X; omega)]
         rw [if_neg hOW.out]
         exact a2
        have x9 : Xq X Q L E w ((wr.setCell ⟨X, 9, none⟩ (.int .i64 (s.dep + 1))).setCell ⟨g2, ln', none⟩ (.int .i64 (y + 1))) := xq_trans a5 (xq_xl k2)
        unfold OwE
        rw [if_neg (by rw [HR.out]; simp), eR]
        rw [HOF.out.1] at q1 ⊢
        rw [HOF.out.2]
        rcases h9 with rfl | rfl
        ·exact ⟨_, _, k1, q1, x9⟩
        ·exact ⟨_, _, k1.below (Below.refl _ _).drew, q1, xq_trans x9 (xq_below hX hsz (Below.refl _ _).drew)⟩
       clear k11 eR a1 a2 a3 a4 a5 hst hpq
       (try clear hOW); (try clear eT); (try clear XW); (try clear H1); (try clear HH1); (try clear X1); (try clear HLW); (try clear HAB); (try clear HDP); (try clear HNL); (try clear HLE); (try clear HLO); (try clear HLN); (try clear H64); (try clear HBL); (try clear HB1); (try clear HKN); (try clear HPB); (try clear HG); (try clear HLS); (try clear HP1); (try clear HF1); (try clear HT1); (try clear HT2); (try clear HP2); (try clear HF2); (try clear HP5); (try clear HP6); (try clear HLM); (try clear HLAST); (try clear HOF); (try clear HR); (try clear HU); (try clear HL1); (try clear HA); (try clear HNB); (try clear HPS); (try clear HPQ); (try clear HP); (try clear HN); (try clear HBN); (try clear HHN); (try clear HGO)
       go_wp2_with fail
       go_region
       go_wp2_with fail
       go_end0
       exact ⟨⟨_, rfl⟩, HFIN.out _ (.inr rfl)⟩
      have d11 : (o.k == 11) = false := by simp [k11]
      have HFIN : Hid (OwE X L E Q tv cv sv (.slice ba bn bc) hn hcap nb pl p s H A o w wr) := by
       show OwE X L E Q tv cv sv (.slice ba bn bc) hn hcap nb pl p s H A o w wr
       unfold OwE
       rw [if_neg (by rw [HR.out]; simp), show rlt s o = s by unfold rlt; rw [if_neg k11]]
       refine ⟨.slice (some ⟨g2, 0, none⟩) vn vcap, nv, ?_, ?_, a5⟩
       ·rw [HOF.out.1, HOF.out.2]; exact a1
       ·rw [if_neg hOW.out]; exact a2
      clear k11 a1 a2 a3 a4 a5 hpq
      (try clear hOW); (try clear eT); (try clear XW); (try clear H1); (try clear HH1); (try clear X1); (try clear HLW); (try clear HAB); (try clear HDP); (try clear HNL); (try clear HLE); (try clear HLO); (try clear HLN); (try clear H64); (try clear HBL); (try clear HB1); (try clear HKN); (try clear HPB); (try clear HG); (try clear HLS); (try clear HP1); (try clear HF1); (try clear HT1); (try clear HT2); (try clear HP2); (try clear HF2); (try clear HP5); (try clear HP6); (try clear HLM); (try clear HLAST); (try clear HOF); (try clear HR); (try clear HU); (try clear HL1); (try clear HA); (try clear HNB); (try clear HPS); (try clear HPQ); (try clear HP); (try clear HN); (try clear HBN); (try clear HHN); (try clear HGO)
      go_wp2_with fail
      go_end0
      exact ⟨⟨_, rfl⟩, HFIN.out⟩
end Go.Proofs.YtaiackmmmlhgbaaGreat.BQn
