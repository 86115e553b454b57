import Derived.Deep.RegionHeld3
import Derived.Test.YtaiackmmmlhgbaaGreatPR05
import Derived.Test.YtaiackmmmlhgbaaGreatPR16
import Derived.Test.YtaiackmmmlhgbaaGreatPR19
import Derived.Test.YtaiackmmmlhgbaaGreatPR27
open Go.Proofs.Tryz
set_option linter.unusedVariables false
set_option maxRecDepth 20000
set_option maxHeartbeats 12800000
namespace Go.Proofs.YtaiackmmmlhgbaaGreat.ZQi
open Go.RowKit YPl YRd YWr YRr YRs YRb YRl ZQa ZQe ZQf ZQg ZQh
open TBase (T Keep heap_alloc_new frozen_box)
open Tak
abbrev Tb (W : World) (B : Nat) (g s : ByteArray) (nv lv : Value) : Prop := W.heap[B]? = some (.cells #[.string g, .string s, nv, lv] 68 (0, 0))
theorem Tb.set1 {W : World} {B : Nat} {g s : ByteArray} {nv lv : Value} (h : Tb W B g s nv lv) (x : ByteArray) : Tb (W.setCell ⟨B, 1, none⟩ (.string x)) B g x nv lv := by unfold Tb; rw [YCb.block_set h]; rfl
theorem Tb.set2 {W : World} {B : Nat} {g s : ByteArray} {nv lv : Value} (h : Tb W B g s nv lv) (x : Value) : Tb (W.setCell ⟨B, 2, none⟩ x) B g s x lv := by unfold Tb; rw [YCb.block_set h]; rfl
theorem Tb.set3 {W : World} {B : Nat} {g s : ByteArray} {nv lv : Value} (h : Tb W B g s nv lv) (x : Value) : Tb (W.setCell ⟨B, 3, none⟩ x) B g s nv x := by unfold Tb; rw [YCb.block_set h]; rfl
theorem ax_sl' {S : Nat -> Prop} {w : World} {v : Value} {l : List (ByteArray × ByteArray)} (h : TBase.Ax false S w v l) : ∃ a c, v = .slice a l.length c /\ l.length <= 140737488351232 := by
  obtain ⟨a, cap, rfl, -, -, h, -⟩ := h
  exact ⟨a, cap, rfl, by omega⟩
theorem inl_sl' {S : Nat -> Prop} {w : World} {m : Nat} {v : Value} {l : List T} (h : TBase.InL false S w m v l) : ∃ a c, v = .slice a l.length c /\ l.length <= 140737488351232 := by
  obtain ⟨a, cap, rfl, -, -, h, -⟩ := h
  exact ⟨a, cap, rfl, by omega⟩
theorem hdT_parts {m : Nat} {S : Nat -> Prop} {w : World} {cc : List Value} {g s : ByteArray} {n : List (ByteArray × ByteArray)} {l : List T} (h : HdT (m + 1) S w cc (.mk g s n l)) : ∃ a1 a2 a3 b1 b2 b3, cc = [.string g, .string s, .slice a1 a2 a3, .slice b1 b2 b3] := by
  obtain ⟨xnv, xlv, rfl, hxin⟩ := h
  obtain ⟨xnv', xlv', exx, -, -, hxax, hxil⟩ := TBase.in_iff.1 hxin
  obtain ⟨xa1, xa3, rfl, -⟩ := ax_sl' hxax
  obtain ⟨xb1, xb3, rfl, -⟩ := inl_sl' hxil
  simp at exx
  obtain ⟨-, -, rfl, rfl⟩ := exx
  exact ⟨_, _, _, _, _, _, rfl⟩
theorem tree_s2 {b : By} {m k p0 : Nat} {i : Int} {s s1 s2 : Except Nat Nat} {TT : Bool} {g : ByteArray} (hp0 : ∀ p, s = .ok p -> p0 = p) (hi : bad s = false -> i = k) (hT : (decide (4096 <= i) || decide ((64 : Int) < 65 - (m : Int))) = TT) (h1 : (if TT = true then fl s p0 else s) = s1) (h2 : st (lf (rtxt b) s1) = s2) (hg : ∀ y q, lf (rtxt b) s1 = .ok (y, q) -> g = y) :
    (bad s2 = true -> stT (lfT (rnd b m) s k) = s2 /\ ∀ y q j, lfT (rnd b m) s k ≠ .ok (y, q, j)) /\ (bad s2 = false -> ∃ p q m', s = .ok p /\ m = m' + 1 /\ k < 4096 /\ i = k /\ s2 = .ok q /\ rtxt b p = .ok (g, q) /\ p0 = p) := by
  cases s with
  | error z =>
    have e1 : s1 = .error z := by rw [<- h1]; split <;> rfl
    subst e1
    have e2 : s2 = .error z := h2.symm
    subst e2
    exact ⟨fun _ => ⟨rfl, fun y q j e => (by cases e)⟩, fun e => (by cases e)⟩
  | ok p =>
    obtain rfl := hp0 p rfl
    have hi := hi rfl
    cases TT with
    | true =>
      rw [if_pos rfl] at h1
      subst h1
      have e2 : s2 = .error p0 := h2.symm
      subst e2
      have hn : m = 0 \/ 4096 <= k := by
        rw [Bool.or_eq_true, decide_eq_true_iff, decide_eq_true_iff] at hT
        omega
      have ha : lfT (rnd b m) (.ok p0) k = .error p0 := rnd_no hn
      rw [ha]
      exact ⟨fun _ => ⟨rfl, fun y q j e => (by cases e)⟩, fun e => (by cases e)⟩
    | false =>
      rw [if_neg (by simp)] at h1
      subst h1
      rw [Bool.or_eq_false_iff, decide_eq_false_iff_not, decide_eq_false_iff_not] at hT
      obtain ⟨m', rfl⟩ : ∃ m', m = m' + 1 := ⟨m - 1, by omega⟩
      simp only [lf] at h2 hg
      cases hr : rtxt b p0 with
      | error z =>
        rw [hr] at h2
        subst h2
        have ha : lfT (rnd b (m' + 1)) (.ok p0) k = .error z := rnd_txt (by omega) hr
        rw [ha]
        exact ⟨fun _ => ⟨rfl, fun y q j e => (by cases e)⟩, fun e => (by cases e)⟩
      | ok t =>
        obtain ⟨y, q⟩ := t
        obtain rfl := hg _ _ hr
        rw [hr] at h2
        subst h2
        exact ⟨fun e => (by cases e), fun _ => ⟨p0, q, m', rfl, rfl, by omega, hi, rfl, hr, rfl⟩⟩
def TQ (K : Nat) (b : By) (m : Nat) : Prop := ∀ (R G k : Nat) (w : World) (s : Except Nat Nat), Qs K w R b s -> Gn w G s k -> R ≠ G -> K <= G ->
  Calls prog 27 #[ptw R, .int .i64 (65 - (m : Int)), .pointer (some ⟨G, 0, none⟩)] w fun e w' => Cx (fun j => j = R \/ j = G) w w' /\ ∃ (v : Value) (x : T) (k' : Nat), e = .returned v /\ VA (HdT (m + 1)) (fun g => w.heap.size <= g /\ g < w'.heap.size) w' v x /\ Qs K w' R b (stT (lfT (rnd b m) s k)) /\ Gn w' G (stT (lfT (rnd b m) s k)) k' /\ ∀ y q j, lfT (rnd b m) s k = .ok (y, q, j) -> x = y /\ k' = j
theorem tree_of {K : Nat} {b : By} (m : Nat) (hm64 : m <= 64) (ih : ∀ m', m = m' + 1 -> TQ K b m') : TQ K b m := by
  intro R G k w s h hG hRG hKG
  have hRlt := h.lt
  have hKR := h.1
  obtain ⟨i, hGi, hik⟩ := hG.int
  have hGlt : G < w.heap.size := (Array.getElem?_eq_some_iff.1 hGi).1
  obtain ⟨i0, hi, hz0, hz1, hz2⟩ := info_parts YRe.info_a
  obtain ⟨j0, hj, hy0, hy1, hy2⟩ := info_parts TBase.infoT
  obtain ⟨aa, haa⟩ : ∃ a, lfT (rnd b m) s k = a := ⟨_, rfl⟩
  rw [haa]
  have HAA : Hid (lfT (rnd b m) s k = aa) := haa
  clear haa
  obtain ⟨B0, hB0⟩ : ∃ B0, w.heap.size = B0 := ⟨_, rfl⟩
  obtain ⟨W0, hW0⟩ : ∃ W, w.alloc (.cells #[.string ⟨#[]⟩, .string ⟨#[]⟩, .slice none 0 0, .slice none 0 0] 68) = W := ⟨_, rfl⟩
  have b0 : Below w.heap.size w W0 := by rw [<- hW0]; exact (Below.refl _ w).alloc (Nat.le_refl _) _
  have s0 : W0.heap.size = B0 + 1 := by rw [<- hW0, <- hB0]; simp
  have g0 : Tb W0 B0 ⟨#[]⟩ ⟨#[]⟩ (.slice none 0 0) (.slice none 0 0) := by rw [<- hW0, <- hB0]; exact heap_alloc_new w _
  have HB0 : Hid (w.heap.size = B0 /\ R < B0 /\ G < B0 /\ R ≠ G /\ K <= R /\ K <= G) := ⟨hB0, by omega, by omega, hRG, hKR, hKG⟩
  have hG0 : W0.heap[G]? = some (.cells #[.int .i64 i] 3 (0, 0)) := (b0.block G hGlt).trans hGi
  have h0 := h.below b0
  obtain ⟨ia, n, cap, p0, pl, hx, -, -⟩ := h0.cells
  have hp0 : ∀ p, s = .ok p -> p0 = p := fun p e => by
    subst e
    obtain ⟨-, -, -, ia', n', cap', -, -, -, hx'⟩ := h0
    rw [hx] at hx'
    simp at hx'
    omega
  have HP0 : Hid (∀ p, s = .ok p -> p0 = p) := hp0
  have HIK : Hid (bad s = false -> i = k) := hik
  have HQ0 : Hid (Cx (fun j => j = R \/ j = G) w W0 /\ Qs K W0 R b s /\ W0.heap[G]? = some (.cells #[.int .i64 i] 3 (0, 0)) /\ Tb W0 B0 ⟨#[]⟩ ⟨#[]⟩ (.slice none 0 0) (.slice none 0 0) /\ W0.heap.size = B0 + 1) := ⟨Cx.bel b0, h0, hG0, g0, s0⟩
  have z1 := cell_of hx 1 _ rfl
  have zg := cell_of hG0 0 _ rfl
  obtain ⟨TB, hT⟩ : ∃ T, (decide (4096 <= i) || decide ((64 : Int) < 65 - (m : Int))) = T := ⟨_, rfl⟩
  have HT : Hid ((decide (4096 <= i) || decide ((64 : Int) < 65 - (m : Int))) = TB) := hT
  obtain ⟨dp, hdp⟩ : ∃ d : Int, 65 - (m : Int) = d := ⟨_, rfl⟩
  have HDP : Hid (65 - (m : Int) = dp /\ (m : Int) <= 64) := ⟨hdp, by omega⟩
  rw [hdp]
  rw [hdp] at hT
  obtain ⟨s1, hs1⟩ : ∃ s1, (if TB = true then fl s p0 else s) = s1 := ⟨_, rfl⟩
  have HS1 : Hid ((if TB = true then fl s p0 else s) = s1) := hs1
  clear h hGi hik b0 g0 hRG hKG hKR hG0 h0 hx hp0 hs1 hdp hm64 hRlt hGlt hG s0
  go_enter func27, ntmps27
  go_upto_region 2 with fail
  try rw [hW0]
  go_cut [24] from 17 to 24 (fun t wx => t = .bool TB /\ wx = W0)
  case first =>
    clear hW0
    by_cases h4 : (4096 : Int) <= i
    · have d1 : decide ((4096 : Int) <= i) = true := by simp; omega
      have ET : Hid (TB = true) := by show _ = _; rw [<- hT, d1]; rfl
      clear h4 hT
      go_wp2_with fail
      go_meet
      exact ⟨by rw [ET.out], rfl⟩
    · have d1 : decide ((4096 : Int) <= i) = false := by simp; omega
      obtain ⟨D, hD⟩ : ∃ D, decide ((64 : Int) < dp) = D := ⟨_, rfl⟩
      have ET : Hid (TB = D) := by show _ = _; rw [<- hT, d1, hD]; rfl
      clear h4 hT
      go_wp2_with fail
      go_meet
      exact ⟨by rw [ET.out], rfl⟩
  case rest =>
  obtain ⟨rfl, hwx⟩ := hcut
  obtain rfl := hwx.symm
  clear hT hW0 z1 zg
  go_upto_if 24 with fail
  go_cut [] from 25 to 27 (fun wx => Cx (fun j => j = R \/ j = G) w wx /\ Qs K wx R b s1 /\ wx.heap[G]? = some (.cells #[.int .i64 i] 3 (0, 0)) /\ Tb wx B0 ⟨#[]⟩ ⟨#[]⟩ (.slice none 0 0) (.slice none 0 0) /\ B0 + 1 <= wx.heap.size)
  case first =>
    cases TB with
    | false =>
      have e1 : s1 = s := HS1.out.symm
      subst e1
      go_wp2_with fail
      go_meet
      exact ⟨HQ0.out.1, HQ0.out.2.1, HQ0.out.2.2.1, HQ0.out.2.2.2.1, by have := HQ0.out.2.2.2.2; omega⟩
    | true =>
      have e1 : s1 = fl s p0 := HS1.out.symm
      have cF := fail_c HQ0.out.2.1 p0
      rw [<- e1] at cF
      clear e1
      go_wp2_with fail
      refine cF.mono ?_
      rintro e w5 ⟨⟨r, rfl⟩, g5, q5⟩
      have H5 : Hid (Cx (fun j => j = R \/ j = G) w w5 /\ Qs K w5 R b s1 /\ w5.heap[G]? = some (.cells #[.int .i64 i] 3 (0, 0)) /\ Tb w5 B0 ⟨#[]⟩ ⟨#[]⟩ (.slice none 0 0) (.slice none 0 0) /\ B0 + 1 <= w5.heap.size) := by
        have h1 := HB0.out
        have h2 := HQ0.out.2.2.2.2
        exact ⟨HQ0.out.1.trans (Cx.of g5 (.inl rfl)), q5, (g5.block G (by omega) (fun e => by cases e; omega)).trans HQ0.out.2.2.1, (g5.block B0 (by omega) (fun e => by cases e; omega)).trans HQ0.out.2.2.2.1, by have := g5.size; omega⟩
      clear g5 q5 cF
      go_wp2_with fail
      go_meet
      exact H5.out
  case rest =>
  obtain ⟨W1, hW1⟩ : ∃ W1, W1 = wc := ⟨_, rfl⟩
  subst hW1
  have HW1 : Hid _ := hcut
  clear hcut
  have zg := cell_of HW1.out.2.2.1 0 _ rfl
  have fg := frozen_box HW1.out.2.2.1 0
  obtain ⟨i1, hi1⟩ : ∃ j, IntKind.i64.wrap (i + 1) = j := ⟨_, rfl⟩
  have HI1 : Hid (bad s = false -> i < 4096 -> i1 = ((k + 1 : Nat) : Int)) := fun h1 h2 => by
    have h3 := HIK.out h1
    rw [<- hi1, IntKind.wrap_i64]
    omega
  obtain ⟨W2, hW2⟩ : ∃ W, W1.setCell ⟨G, 0, none⟩ (.int .i64 i1) = W := ⟨_, rfl⟩
  have HW2 : Hid (Cx (fun j => j = R \/ j = G) w W2 /\ Qs K W2 R b s1 /\ W2.heap[G]? = some (.cells #[.int .i64 i1] 3 (0, 0)) /\ Tb W2 B0 ⟨#[]⟩ ⟨#[]⟩ (.slice none 0 0) (.slice none 0 0) /\ B0 + 1 <= W2.heap.size) := by
    have h1 := HB0.out
    obtain ⟨a1, a2, a3, a4, a5⟩ := HW1.out
    have hg := gb_set W1 G 0 (.int .i64 i1)
    rw [hW2] at hg
    refine ⟨a1.trans (Cx.of (R := G) hg (.inr rfl)), a2.keep ⟨hg.os, hg.tape, hg.output, hg.size, fun j hj => hg.block j (by have := a2.2.1; omega) (fun e => by cases e; omega)⟩ (hg.block R a2.lt (fun e => by cases e; omega)), ?_, (hg.block B0 (by omega) (fun e => by cases e; omega)).trans a4, by have := hg.size; omega⟩
    rw [<- hW2, YCb.block_set a3]
    rfl
  have cT := text_s HW2.out.2.1
  go_wp2_with fail
  try rw [hW2]
  refine cT.mono ?_
  rintro e W3 ⟨g3, v, g, rfl, ⟨rfl, hgs⟩, q3, x3⟩
  obtain ⟨s2, hs2⟩ : ∃ S, st (lf (rtxt b) s1) = S := ⟨_, rfl⟩
  have hts := tree_s2 HP0.out HIK.out HT.out HS1.out hs2 x3
  rw [HAA.out] at hts
  rw [hs2] at q3
  have HTS : Hid _ := hts
  have HGS : Hid (g.size <= 4096) := hgs
  obtain ⟨B1, hB1⟩ : ∃ B, W3.heap.size = B := ⟨_, rfl⟩
  obtain ⟨V1, hV1⟩ : ∃ W, W3.alloc (.cells #[.string ⟨#[]⟩, .string ⟨#[]⟩, .slice none 0 0, .slice none 0 0] 68) = W := ⟨_, rfl⟩
  have gV : Tb V1 B1 ⟨#[]⟩ ⟨#[]⟩ (.slice none 0 0) (.slice none 0 0) := by rw [<- hV1, <- hB1]; exact heap_alloc_new W3 _
  have bV : Below W3.heap.size W3 V1 := by rw [<- hV1]; exact (Below.refl _ _).alloc (Nat.le_refl _) _
  obtain ⟨V2, hV2⟩ : ∃ W, (((V1.setCell ⟨B1, 0, none⟩ (.string g)).setCell ⟨B1, 1, none⟩ (.string ⟨#[]⟩)).setCell ⟨B1, 2, none⟩ (.slice none 0 0)).setCell ⟨B1, 3, none⟩ (.slice none 0 0) = W := ⟨_, rfl⟩
  obtain ⟨m2, g2⟩ := YRg.set4 _ _ _ _ gV hV2
  have u0 := cell_of gV 0 _ rfl
  have u1 := cell_of gV 1 _ rfl
  have u2 := cell_of gV 2 _ rfl
  have u3 := cell_of gV 3 _ rfl
  have v0 := frozen_box gV 0
  have v1 := frozen_box gV 1
  have v2 := frozen_box gV 2
  have v3 := frozen_box gV 3
  have HB1 : Hid (B0 < B1) := by have := g3.size; have := HW2.out.2.2.2.2; show _ < _; omega
  have HE0 : Hid (Cx (fun j => j = R \/ j = G) w V2 /\ Qs K V2 R b s2 /\ V2.heap[G]? = some (.cells #[.int .i64 i1] 3 (0, 0)) /\ Tb V2 B0 ⟨#[]⟩ ⟨#[]⟩ (.slice none 0 0) (.slice none 0 0) /\ Tb V2 B1 g ⟨#[]⟩ (.slice none 0 0) (.slice none 0 0)) := by
    have h1 := HB0.out
    have h2 := HB1.out
    have h5 := HW2.out.2.2.2.2
    have h6 := g3.size
    have hv := bV.size
    exact ⟨((HW2.out.1.trans (Cx.of g3 (.inl rfl))).trans (Cx.bel bV)).row g2 (fun r hr => by cases hr; omega), (q3.below bV).row (lo := B1) g2 (by omega) (fun r hr => by cases hr; exact Nat.le_refl _), (g2.block G (by omega) (fun e => by cases e; omega)).trans ((bV.block G (by omega)).trans ((g3.block G (by omega) (fun e => by cases e; omega)).trans HW2.out.2.2.1)), (g2.block B0 (by omega) (fun e => by cases e; omega)).trans ((bV.block B0 (by omega)).trans ((g3.block B0 (by omega) (fun e => by cases e; omega)).trans HW2.out.2.2.2.1)), m2⟩
  obtain ⟨ja, jn, jc, jp, jl, hx, -, -⟩ := HE0.out.2.1.cells
  obtain ⟨BD, hBD⟩ : ∃ B, bad s2 = B := ⟨_, rfl⟩
  rw [hBD] at hx
  have zf := cell_of hx 2 _ rfl
  have HBD : Hid (bad s2 = BD) := hBD
  clear g3 q3 x3 hs2 hts hgs gV bV m2 g2 cT hx hBD
  go_upto_if 40 with fail
  try rw [hV2]
  clear hV2 hV1 hW2 hi1 u0 u1 u2 u3 v0 v1 v2 v3 hB1 zg fg
  cases BD with
  | true =>
    have HE := HE0
    have HST : Hid _ := HTS.out.1 HBD.out
    obtain ⟨W9, hW9⟩ : ∃ W, (((V2.setCell ⟨B0, 0, none⟩ (.string g)).setCell ⟨B0, 1, none⟩ (.string ⟨#[]⟩)).setCell ⟨B0, 2, none⟩ (.slice none 0 0)).setCell ⟨B0, 3, none⟩ (.slice none 0 0) = W := ⟨_, rfl⟩
    obtain ⟨m9, g9⟩ := YRg.set4 _ _ _ _ HE.out.2.2.2.1 hW9
    have y0 := cell_of HE.out.2.2.2.2 0 _ rfl
    have y1 := cell_of HE.out.2.2.2.2 1 _ rfl
    have y2 := cell_of HE.out.2.2.2.2 2 _ rfl
    have y3 := cell_of HE.out.2.2.2.2 3 _ rfl
    have t0 := cell_of HE.out.2.2.2.1 0 _ rfl
    have t1 := cell_of HE.out.2.2.2.1 1 _ rfl
    have t2 := cell_of HE.out.2.2.2.1 2 _ rfl
    have t3 := cell_of HE.out.2.2.2.1 3 _ rfl
    have r0 := frozen_box HE.out.2.2.2.1 0
    have r1 := frozen_box HE.out.2.2.2.1 1
    have r2 := frozen_box HE.out.2.2.2.1 2
    have r3 := frozen_box HE.out.2.2.2.1 3
    have HM9 : Hid _ := m9
    have HG9 : Hid (V2.grownBy W9 (some B0)) := g9
    have HFIN : Hid (Cx (fun j => j = R \/ j = G) w W9 /\ VA (HdT (m + 1)) (fun g => w.heap.size <= g /\ g < W9.heap.size) W9 (.agg #[.string g, .string ⟨#[]⟩, (.slice none 0 0), (.slice none 0 0)]) (T.mk g ⟨#[]⟩ [] []) /\ Qs K W9 R b (stT aa) /\ Gn W9 G (stT aa) 0) := by
      have h1 := HB0.out
      have h9 := HG9.out.size
      have hB0l := (Array.getElem?_eq_some_iff.1 HE.out.2.2.2.1).1
      have hGl := (Array.getElem?_eq_some_iff.1 HE.out.2.2.1).1
      have hgn := (HG9.out.block G hGl (fun e => by cases e; omega)).trans HE.out.2.2.1
      have hqs := HE.out.2.1.row (lo := B0) HG9.out (by omega) (fun r hr => by cases hr; exact Nat.le_refl _)
      refine ⟨HE.out.1.row HG9.out (fun r hr => by cases hr; omega), ⟨_, rfl, _, _, rfl, ?_⟩, ?_, ?_⟩
      · exact TBase.in_iff.2 ⟨_, _, rfl, by have := HGS.out; omega, by decide, ⟨none, 0, rfl, by simp, by omega, by simp, by simp, by simp, .inl ⟨rfl, rfl⟩⟩, ⟨none, 0, rfl, by simp, by omega, by simp, by simp, .inl ⟨rfl, rfl⟩⟩⟩
      · rw [HST.out.1]; exact hqs
      · rw [HST.out.1]; exact Gn.of hgn (fun e => by rw [HBD.out] at e; cases e)
    clear m9 g9
    go_wp2_with fail
    try rw [hW9]
    refine bodyPost_ret (results_cell_row rfl _ W9 B0 68 _ (0, 0) _ rfl HM9.out underlying68 rfl (by kernel_rfl)) rfl ?_
    exact ⟨HFIN.out.1, _, _, _, rfl, HFIN.out.2.1, HFIN.out.2.2.1, HFIN.out.2.2.2, fun y q j e => (HST.out.2 y q j e).elim⟩
  | false =>
    obtain ⟨p, q, m', rfl, rfl, hk4, hik, rfl, hrt, rfl⟩ := HTS.out.2 HBD.out
    have HRT : Hid (rtxt b p0 = .ok (g, q)) := hrt
    have HK4 : Hid (k < 4096) := hk4
    have HI2 : Hid (i1 = ((k + 1 : Nat) : Int)) := HI1.out rfl (by omega)
    clear hk4 hik hrt zf
    by_cases hz : g.size = 0
    · obtain rfl : g = ⟨#[]⟩ := by
        have : g.data = #[] := Array.eq_empty_of_size_eq_zero hz
        cases g; simp at this; rw [this]
      have yt := cell_of HE0.out.2.2.2.2 0 _ rfl
      have c2 := text_s HE0.out.2.1
      clear hz
      go_wp2_with fail
      refine c2.mono ?_
      rintro e W4 ⟨g4, v, sx, rfl, ⟨rfl, hsx⟩, q4, x4⟩
      change ∀ y r, rtxt b q = .ok (y, r) -> sx = y at x4
      change Qs K W4 R b (st (rtxt b q)) at q4
      have hb1 := (g4.block B1 (Array.getElem?_eq_some_iff.1 HE0.out.2.2.2.2).1 (fun e => by cases e; have := HB0.out; have := HB1.out; omega)).trans HE0.out.2.2.2.2
      have w1 := cell_of hb1 1 _ rfl
      have x1 := frozen_box hb1 1
      obtain ⟨W5, hW5⟩ : ∃ W, W4.setCell ⟨B1, 1, none⟩ (.string sx) = W := ⟨_, rfl⟩
      have gs := gb_set W4 B1 1 (.string sx)
      rw [hW5] at gs
      have HSX : Hid (sx.size <= 4096 /\ ∀ y r, rtxt b q = .ok (y, r) -> sx = y) := ⟨hsx, x4⟩
      have HE : Hid (Cx (fun j => j = R \/ j = G) w W5 /\ Qs K W5 R b (st (rtxt b q)) /\ W5.heap[G]? = some (.cells #[.int .i64 i1] 3 (0, 0)) /\ Tb W5 B0 ⟨#[]⟩ ⟨#[]⟩ (.slice none 0 0) (.slice none 0 0) /\ Tb W5 B1 ⟨#[]⟩ sx (.slice none 0 0) (.slice none 0 0)) := by
        have h1 := HB0.out
        have h2 := HB1.out
        have hGl := (Array.getElem?_eq_some_iff.1 HE0.out.2.2.1).1
        have hBl := (Array.getElem?_eq_some_iff.1 HE0.out.2.2.2.1).1
        have h4 := g4.size
        exact ⟨(HE0.out.1.trans (Cx.of g4 (.inl rfl))).row gs (fun r hr => by cases hr; omega), q4.row (lo := B1) gs (by omega) (fun r hr => by cases hr; exact Nat.le_refl _), (gs.block G (by omega) (fun e => by cases e; omega)).trans ((g4.block G hGl (fun e => by cases e; omega)).trans HE0.out.2.2.1), (gs.block B0 (by omega) (fun e => by cases e; omega)).trans ((g4.block B0 hBl (fun e => by cases e; omega)).trans HE0.out.2.2.2.1), by rw [<- hW5]; exact Tb.set1 hb1 _⟩
      have hAA : aa = match rtxt b q with
          | .error r => .error r
          | .ok (s, r) => .ok (.mk ⟨#[]⟩ s [] [], r, k + 1) := by
        rw [<- HAA.out]
        exact rnd_leaf HK4.out HRT.out rfl
      have HST : Hid (stT aa = st (rtxt b q) /\ ∀ y r j, aa = .ok (y, r, j) -> (T.mk ⟨#[]⟩ sx [] []) = y /\ k + 1 = j) := by
        rw [hAA]
        cases hr : rtxt b q with
        | error z => exact ⟨rfl, fun y r j e => (by cases e)⟩
        | ok t =>
          obtain ⟨y, r⟩ := t
          obtain rfl := x4 _ _ hr
          exact ⟨rfl, fun y r j e => (by cases e; exact ⟨rfl, rfl⟩)⟩
      clear g4 q4 x4 hsx hb1 gs hAA c2 yt
      go_upto_region 10 with fail
      try rw [hW5]
      clear hW5 w1 x1
      obtain ⟨W9, hW9⟩ : ∃ W, (((W5.setCell ⟨B0, 0, none⟩ (.string ⟨#[]⟩)).setCell ⟨B0, 1, none⟩ (.string sx)).setCell ⟨B0, 2, none⟩ (.slice none 0 0)).setCell ⟨B0, 3, none⟩ (.slice none 0 0) = W := ⟨_, rfl⟩
      obtain ⟨m9, g9⟩ := YRg.set4 _ _ _ _ HE.out.2.2.2.1 hW9
      have y0 := cell_of HE.out.2.2.2.2 0 _ rfl
      have y1 := cell_of HE.out.2.2.2.2 1 _ rfl
      have y2 := cell_of HE.out.2.2.2.2 2 _ rfl
      have y3 := cell_of HE.out.2.2.2.2 3 _ rfl
      have t0 := cell_of HE.out.2.2.2.1 0 _ rfl
      have t1 := cell_of HE.out.2.2.2.1 1 _ rfl
      have t2 := cell_of HE.out.2.2.2.1 2 _ rfl
      have t3 := cell_of HE.out.2.2.2.1 3 _ rfl
      have r0 := frozen_box HE.out.2.2.2.1 0
      have r1 := frozen_box HE.out.2.2.2.1 1
      have r2 := frozen_box HE.out.2.2.2.1 2
      have r3 := frozen_box HE.out.2.2.2.1 3
      have HM9 : Hid _ := m9
      have HG9 : Hid (W5.grownBy W9 (some B0)) := g9
      have HFIN : Hid (Cx (fun j => j = R \/ j = G) w W9 /\ VA (HdT (m' + 1 + 1)) (fun g => w.heap.size <= g /\ g < W9.heap.size) W9 (.agg #[.string ⟨#[]⟩, .string sx, (.slice none 0 0), (.slice none 0 0)]) (T.mk ⟨#[]⟩ sx [] []) /\ Qs K W9 R b (stT aa) /\ Gn W9 G (stT aa) (k + 1)) := by
        have h1 := HB0.out
        have h9 := HG9.out.size
        have hB0l := (Array.getElem?_eq_some_iff.1 HE.out.2.2.2.1).1
        have hGl := (Array.getElem?_eq_some_iff.1 HE.out.2.2.1).1
        have hgn := (HG9.out.block G hGl (fun e => by cases e; omega)).trans HE.out.2.2.1
        have hqs := HE.out.2.1.row (lo := B0) HG9.out (by omega) (fun r hr => by cases hr; exact Nat.le_refl _)
        refine ⟨HE.out.1.row HG9.out (fun r hr => by cases hr; omega), ⟨_, rfl, _, _, rfl, ?_⟩, ?_, ?_⟩
        · exact TBase.in_iff.2 ⟨_, _, rfl, by decide, by have := HSX.out.1; omega, ⟨none, 0, rfl, by simp, by omega, by simp, by simp, by simp, .inl ⟨rfl, rfl⟩⟩, ⟨none, 0, rfl, by simp, by omega, by simp, by simp, .inl ⟨rfl, rfl⟩⟩⟩
        · rw [HST.out.1]; exact hqs
        · rw [HST.out.1]; exact Gn.of hgn (fun _ => HI2.out)
      clear m9 g9
      go_wp2_with fail
      try rw [hW9]
      refine bodyPost_ret (results_cell_row rfl _ W9 B0 68 _ (0, 0) _ rfl HM9.out underlying68 rfl (by kernel_rfl)) rfl ?_
      exact ⟨HFIN.out.1, _, _, _, rfl, HFIN.out.2.1, HFIN.out.2.2.1, HFIN.out.2.2.2, HST.out.2⟩
    · have HZ : Hid (g.size ≠ 0) := hz
      have hz' : (g.toList == ([] : List UInt8)) = false := by
        rw [TPure.list_eq]
        cases hl : g.data.toList with
        | nil => exact absurd (show g.size = 0 by have := congrArg List.length hl; simpa using this) hz
        | cons c r => rfl
      have yt := cell_of HE0.out.2.2.2.2 0 _ rfl
      clear hz
      have c11 := count_s 4096 (by omega) HE0.out.2.1
      go_wp2_with fail
      refine c11.mono ?_
      rintro e W4 ⟨g4, v, n, rfl, ⟨rfl, hn⟩, q4, x4⟩
      change ∀ y r, rcnt 4096 b q = .ok (y, r) -> n = y at x4
      change Qs K W4 R b (st (rcnt 4096 b q)) at q4
      obtain ⟨s3, hs3⟩ : ∃ S, st (rcnt 4096 b q) = S := ⟨_, rfl⟩
      rw [hs3] at q4
      have HN : Hid (n <= 4096) := hn
      have HE1 : Hid (Cx (fun j => j = R \/ j = G) w W4 /\ Tb W4 B1 g ⟨#[]⟩ (.slice none 0 0) (.slice none 0 0) /\ Qs K W4 R b s3 /\ W4.heap[G]? = some (.cells #[.int .i64 i1] 3 (0, 0)) /\ Tb W4 B0 ⟨#[]⟩ ⟨#[]⟩ (.slice none 0 0) (.slice none 0 0)) := by
        have h1 := HB0.out
        have h2 := HB1.out
        have hGl := (Array.getElem?_eq_some_iff.1 HE0.out.2.2.1).1
        have hB0l := (Array.getElem?_eq_some_iff.1 HE0.out.2.2.2.1).1
        have hB1l := (Array.getElem?_eq_some_iff.1 HE0.out.2.2.2.2).1
        exact ⟨HE0.out.1.trans (Cx.of g4 (.inl rfl)), (g4.block B1 hB1l (fun e => by cases e; omega)).trans HE0.out.2.2.2.2, q4, (g4.block G hGl (fun e => by cases e; omega)).trans HE0.out.2.2.1, (g4.block B0 hB0l (fun e => by cases e; omega)).trans HE0.out.2.2.2.1⟩
      obtain ⟨aA, haA⟩ : ∃ a, lf (rmany (ratt b) n) s3 = a := ⟨_, rfl⟩
      have HAL : Hid (rlst 4096 (ratt b) b q = aA) := by
        show _ = _
        rw [<- haA, <- hs3]
        exact lst_eq (f := ratt b) (lim := 4096) (b := b) (s := .ok q) (n := n) x4
      have HA2 : Hid (lf (rmany (ratt b) n) s3 = aA) := haA
      have HOF : Hid (w.heap.size <= B1 /\ R < B1 /\ B1 < B1 + 1 /\ G < B1 /\ B0 < B1 /\ R < B0 /\ G < B0 /\ R ≠ G /\ K <= R /\ K <= G) := by
        have h1 := HB0.out
        have h2 := HB1.out
        exact ⟨by omega, by omega, by omega, by omega, by omega, by omega, by omega, by omega, by omega, by omega⟩
      clear g4 q4 x4 hn hs3 haA c11 yt hz'
      go_upto_block 0 with fail
      go_cut [] from 51 to 73 (fun wx => ∃ (nv : Value) (xs : List (ByteArray × ByteArray)), xs.length <= n /\ Cx (fun j => j = R \/ j = G) w wx /\ Tb wx B1 g ⟨#[]⟩ nv (.slice none 0 0) /\ RowI HdA 124 2 (B1 + 1) wx nv xs /\ Qs K wx R b (st aA) /\ (wx.heap[G]? = some (.cells #[.int .i64 i1] 3 (0, 0)) /\ Tb wx B0 ⟨#[]⟩ ⟨#[]⟩ (.slice none 0 0) (.slice none 0 0)) /\ ∀ y q, aA = .ok (y, q) -> xs = y)
      case first => as_aux_lemma =>
        go_wp2_with fail
        go_loopw [10, 11] (fun i _ wr => ∃ (q1 : Nat) (nv : Value) (xs : List (ByteArray × ByteArray)) (s' : Except Nat Nat), i = .int .i64 q1 /\ q1 <= n /\ xs.length = q1 /\ Hid (Cx (fun j => j = R \/ j = G) w wr /\ Tb wr B1 g ⟨#[]⟩ nv (.slice none 0 0) /\ RowI HdA 124 2 (B1 + 1) wr nv xs /\ Qs K wr R b s' /\ (wr.heap[G]? = some (.cells #[.int .i64 i1] 3 (0, 0)) /\ Tb wr B0 ⟨#[]⟩ ⟨#[]⟩ (.slice none 0 0) (.slice none 0 0))) /\ Hid (LI (ratt b) n q1 xs s' aA)) (fun i _ _ => n - (intOf i).toNat)
        case atStart => exact ⟨0, _, [], s3, rfl, by omega, rfl, ⟨HE1.out.1, HE1.out.2.1, RowI.nil _ _ _ _ _, HE1.out.2.2.1, HE1.out.2.2.2.1, HE1.out.2.2.2.2⟩, by rw [<- HA2.out]; exact li_0⟩
        case round =>
          obtain ⟨q1, nv, xs, s', rfl, hq, hxl, HG, HS⟩ := hrel
          obtain ⟨va, vm, vc, rfl⟩ := RowI.slice HG.out.2.2.1
          obtain ⟨ja, jn, jc, jp, jl, hx, -, -⟩ := HG.out.2.2.2.1.cells
          obtain ⟨BB, hBB⟩ : ∃ B, bad s' = B := ⟨_, rfl⟩
          rw [hBB] at hx
          have zf := cell_of hx 2 _ rfl
          clear hx
          by_cases hgo : q1 < n /\ BB = false
          · obtain ⟨hlt, rfl⟩ := hgo
            obtain ⟨p', rfl⟩ : ∃ p, s' = .ok p := by cases s' with | ok p => exact ⟨p, rfl⟩ | error z => cases hBB
            have c15 := text_s HG.out.2.2.2.1
            clear hBB
            go_wp2_with fail
            refine c15.mono ?_
            rintro e u1 ⟨g1, v, nm, rfl, ⟨rfl, hnm⟩, q1', x1⟩
            obtain ⟨t1, ht1⟩ : ∃ S, st (lf (rtxt b) (.ok p')) = S := ⟨_, rfl⟩
            rw [ht1] at q1'
            have HT1 : Hid (t1 = st (lf (rtxt b) (.ok p'))) := ht1.symm
            have HNM : Hid (nm.size <= 4096 /\ ∀ y q, lf (rtxt b) (.ok p') = .ok (y, q) -> nm = y) := ⟨hnm, x1⟩
            have HGR : Hid (Cx (fun j => j = R \/ j = G) w u1 /\ Tb u1 B1 g ⟨#[]⟩ (.slice va vm vc) (.slice none 0 0) /\ RowI HdA 124 2 (B1 + 1) u1 (.slice va vm vc) xs /\ Qs K u1 R b t1 /\ (u1.heap[G]? = some (.cells #[.int .i64 i1] 3 (0, 0)) /\ Tb u1 B0 ⟨#[]⟩ ⟨#[]⟩ (.slice none 0 0) (.slice none 0 0))) := by
              have h1 := HOF.out
              exact ⟨HG.out.1.trans (Cx.of g1 (.inl rfl)), (g1.block B1 (Array.getElem?_eq_some_iff.1 HG.out.2.1).1 (fun e => by cases e; omega)).trans HG.out.2.1, rowi_cx (D := (fun j => j = R \/ j = G)) sA HG.out.2.2.1 (fun k hk => by rcases hk with rfl | rfl <;> omega) (Cx.of g1 (.inl rfl)), q1', (g1.block G (Array.getElem?_eq_some_iff.1 HG.out.2.2.2.2.1).1 (fun e => by cases e; omega)).trans HG.out.2.2.2.2.1, (g1.block B0 (Array.getElem?_eq_some_iff.1 HG.out.2.2.2.2.2).1 (fun e => by cases e; omega)).trans HG.out.2.2.2.2.2⟩
            have HXR : Hid (B1 < u1.heap.size /\ R < u1.heap.size /\ B1 + 1 <= u1.heap.size) := ⟨(Array.getElem?_eq_some_iff.1 HGR.out.2.1).1, HGR.out.2.2.2.1.lt, (Array.getElem?_eq_some_iff.1 HGR.out.2.1).1⟩
            have cx := text_s (Qs.drew HGR.out.2.2.2.1)
            have zl := cell_of HGR.out.2.1 2 _ rfl
            have hn4 : n <= 4096 := HN.out
            clear g1 q1' x1 hnm ht1 c15 zf
            go_wp2_with fail
            refine wp_region_held_drew (S := fun _ => True) (by kernel_rfl) trivial (fun hHeld => ?_)
            refine tkH 0 rfl ?_; try simp only [ptH]
            refine tkH 2 rfl ?_; try simp only [ptH]
            refine tkH 3 rfl ?_; try simp only [ptH]
            refine rdH [1, 4] ?_
            refine AllReadyH.cons rfl (fun K0 hK => ?_) (AllReadyH.cons rfl (fun K0 hK => ?_) (AllReadyH.nil))
            · skip
              go_simp
              refine hK.out _ _ trivial (fun hHeld => ?_)
              clear hK K0
              try simp only [ptH]
              refine rdH [4] ?_
              refine alH rfl fun K0 hK => ?_
              go_simp
              refine cx.mono ?_
              rintro e w2 ⟨g2, ve, x, rfl, ⟨rfl, hxb⟩, q2, x2⟩
              have HC2 : Hid (Cx (fun j => j = R) u1 w2) := Cx.of (Gx.trans (Gx.of (Below.refl u1.heap.size u1).drew : Gx R u1 u1.drew) g2) rfl
              have HQ2' : Hid (Qs K w2 R b (st (lf (rtxt b) t1))) := q2
              have HX2 : Hid (x.size <= 4096 /\ ∀ y q, lf (rtxt b) t1 = .ok (y, q) -> x = y) := ⟨hxb, x2⟩
              clear g2 q2 x2 hxb
              obtain ⟨W3, hW3⟩ : ∃ W, w2.alloc (.cells #[.string nm, .string x] 124) = W := ⟨_, rfl⟩
              have b3 : Below w2.heap.size w2 W3 := by rw [<- hW3]; exact (Below.refl _ w2).alloc (Nat.le_refl _) _
              have n3 : W3.heap[w2.heap.size]? = some (.cells #[.string nm, .string x] 124 (0, 0)) := by rw [<- hW3]; exact heap_alloc_new w2 _
              obtain ⟨css, k1, k2, k3, k4, k5⟩ := rowi_push sA HGR.out.2.2.1 HC2.out.size (fun k h1 h2 => HC2.out.block k h2 (by have := HOF.out; rintro rfl; omega)) (c := [.string nm, .string x]) (x := (nm, x)) (S := fun g => u1.heap.size <= g /\ g < w2.heap.size) ⟨rfl, by have := HNM.out.1; show nm.size <= _; omega, by have := HX2.out.1; show x.size <= _; omega⟩ (fun b hb => ⟨by have := HXR.out; omega, hb.1, hb.2⟩) b3
              have HK1 := Hid.mk' k1
              have HK2 : Hid (_ /\ _ /\ _ /\ _) := And.intro k2 (And.intro k3 (And.intro k4 k5))
              have HN3 : Hid (W3.heap[w2.heap.size]? = some (.cells #[.string nm, .string x] 124 (0, 0))) := n3
              have HC3 : Hid (Cx (fun j => j = R) u1 W3 /\ (B1 + 1) <= W3.heap.size) := ⟨HC2.out.trans (Cx.bel b3), by have := HC2.out.size; have := b3.size; have := HXR.out.2.2; omega⟩
              have HQ3' : Hid (Qs K W3 R b (st (lf (rtxt b) t1))) := HQ2'.out.below b3
              have hb2 := (HC2.out.block B1 HXR.out.1 (by have := HOF.out; rintro rfl; omega)).trans HGR.out.2.1
              have HB3 : Hid (Tb W3 B1 g ⟨#[]⟩ (Value.slice va vm vc) (.slice none 0 0)) := (HC3.out.1.block B1 HXR.out.1 (by have := HOF.out; rintro rfl; omega)).trans HGR.out.2.1
              have y0 := cell_of hb2 2 _ rfl
              have y1 := cell_of HB3.out 2 _ rfl
              clear b3 n3 k1 k2 k3 k4 k5 hb2
              refine hK.out _ _ trivial (fun hHeld => ?_)
              clear hK K0
              try simp only [ptH]
              refine tkH 5 rfl ?_; try simp only [ptH]
              refine rdH [6] ?_
              refine alH rfl fun K0 hK => ?_
              go_simp
              try rw [hW3]
              refine hK.out _ _ trivial (fun hHeld => ?_)
              clear hK K0
              try simp only [ptH]
              refine rdH [7] ?_
              refine alH rfl fun K0 hK => ?_
              refine ZQd.step_any rfl _ _ 66 rfl (B1 + 1) 124 i0 (.agg #[.string ⟨#[]⟩, .string ⟨#[]⟩]) 2 32 underlying66 hi hz0 hz1 hz2 rfl (by decide) _ _ _ rfl HK1.out _ _ [.string nm, .string x] rfl rfl (ZQd.src_cells HN3.out) (by intro u hu; simp only [List.mem_cons, List.not_mem_nil, or_false] at hu; rcases hu with rfl | rfl <;> rfl) (by unfold maxLen; omega) (by omega) HC3.out.2 ?_
              intro v' W4 hown hgrow hnb
              have HF : Hid (W3.grownBy W4 (Value.slice va vm vc).ownBlock /\ RowI HdA 124 2 (B1 + 1) W4 v' (xs ++ [(nm, x)])) := ⟨hgrow, RowI.snoc sA HK1.out HK2.out.1 HK2.out.2.1 HK2.out.2.2.1 HK2.out.2.2.2 rfl hgrow hown hnb⟩
              obtain ⟨va2, vm2, vc2, rfl⟩ := RowI.slice HF.out.2
              have HB4 : Hid (Tb W4 B1 g ⟨#[]⟩ (Value.slice va vm vc) (.slice none 0 0)) := (hgrow.block B1 (by have := HC3.out.2; have := HOF.out; omega) (fun e => by have := (World.ownsRow.lt HK1.out _ e.symm).1; have := HOF.out; omega)).trans HB3.out
              have y2 := cell_of HB4.out 2 _ rfl
              have r2 := frozen_box HB4.out 2
              clear hown hgrow hnb
              refine hK.out _ _ trivial (fun hHeld => ?_)
              clear hK K0
              try simp only [ptH]
              refine tkH 8 rfl ?_; try simp only [ptH]
              refine rdH [9] ?_
              refine alH rfl fun K0 hK => ?_
              go_simp
              refine hK.out _ _ trivial (fun hHeld => ?_)
              clear hK K0 hHeld
              try simp only [ptH]
              refine dnH ?_
              go_wp2_with fail
              go_roundw
              case rel =>
                have h1 := HOF.out
                obtain ⟨e5, e6⟩ := att_end HT1.out HNM.out.2 (s2 := st (lf (rtxt b) t1)) rfl HX2.out.2
                change st (lf (rtxt b) t1) = st (ratt b p') at e5
                have gs := gb_set W4 B1 2 (.slice va2 vm2 vc2)
                have hlo := fun r hr => (World.ownsRow.lt HK1.out r hr).1
                have c4 : Cx (fun j => j = R \/ j = G) w W4 := (HGR.out.1.trans (HC3.out.1.wide (fun k _ h => .inl h))).row HF.out.1 (fun r hr => by have := hlo r hr; omega)
                have old : ∀ j, j < u1.heap.size -> j ≠ R -> j < B1 -> (W4.setCell ⟨B1, 2, none⟩ (.slice va2 vm2 vc2)).heap[j]? = u1.heap[j]? := fun j hj h2 h3 => by
                  have hl1 := HC3.out.1.size
                  have hl2 := HF.out.1.size
                  exact (gs.block j (by omega) (fun e => by cases e; omega)).trans ((HF.out.1.block j (by omega) (fun e => by have := hlo _ e.symm; omega)).trans (HC3.out.1.block j hj h2))
                have hGk := (old G (Array.getElem?_eq_some_iff.1 HGR.out.2.2.2.2.1).1 (by omega) (by omega)).trans HGR.out.2.2.2.2.1
                have hBk := (old B0 (Array.getElem?_eq_some_iff.1 HGR.out.2.2.2.2.2).1 (by omega) (by omega)).trans HGR.out.2.2.2.2.2
                exact ⟨q1 + 1, _, xs ++ [(nm, x)], st (ratt b p'), by go_num, by omega, by simp [hxl], ⟨c4.row gs (fun r hr => by cases hr; omega), Tb.set2 HB4.out _, rowi_own sA HF.out.2 (by omega) gs, by rw [<- e5]; exact (HQ3'.out.row (lo := B1 + 1) HF.out.1 (by omega) hlo).row (lo := B1) gs (by omega) (fun r hr => by cases hr; exact Nat.le_refl _), ⟨hGk, hBk⟩⟩, li_step hlt HS.out e6⟩
              case measure => simp only [intOf]; omega
            · skip
              go_simp
              refine cx.mono ?_
              rintro e w2 ⟨g2, ve, x, rfl, ⟨rfl, hxb⟩, q2, x2⟩
              have HC2 : Hid (Cx (fun j => j = R) u1 w2) := Cx.of (Gx.trans (Gx.of (Below.refl u1.heap.size u1).drew : Gx R u1 u1.drew) g2) rfl
              have HQ2' : Hid (Qs K w2 R b (st (lf (rtxt b) t1))) := q2
              have HX2 : Hid (x.size <= 4096 /\ ∀ y q, lf (rtxt b) t1 = .ok (y, q) -> x = y) := ⟨hxb, x2⟩
              clear g2 q2 x2 hxb
              obtain ⟨W3, hW3⟩ : ∃ W, w2.alloc (.cells #[.string nm, .string x] 124) = W := ⟨_, rfl⟩
              have b3 : Below w2.heap.size w2 W3 := by rw [<- hW3]; exact (Below.refl _ w2).alloc (Nat.le_refl _) _
              have n3 : W3.heap[w2.heap.size]? = some (.cells #[.string nm, .string x] 124 (0, 0)) := by rw [<- hW3]; exact heap_alloc_new w2 _
              obtain ⟨css, k1, k2, k3, k4, k5⟩ := rowi_push sA HGR.out.2.2.1 HC2.out.size (fun k h1 h2 => HC2.out.block k h2 (by have := HOF.out; rintro rfl; omega)) (c := [.string nm, .string x]) (x := (nm, x)) (S := fun g => u1.heap.size <= g /\ g < w2.heap.size) ⟨rfl, by have := HNM.out.1; show nm.size <= _; omega, by have := HX2.out.1; show x.size <= _; omega⟩ (fun b hb => ⟨by have := HXR.out; omega, hb.1, hb.2⟩) b3
              have HK1 := Hid.mk' k1
              have HK2 : Hid (_ /\ _ /\ _ /\ _) := And.intro k2 (And.intro k3 (And.intro k4 k5))
              have HN3 : Hid (W3.heap[w2.heap.size]? = some (.cells #[.string nm, .string x] 124 (0, 0))) := n3
              have HC3 : Hid (Cx (fun j => j = R) u1 W3 /\ (B1 + 1) <= W3.heap.size) := ⟨HC2.out.trans (Cx.bel b3), by have := HC2.out.size; have := b3.size; have := HXR.out.2.2; omega⟩
              have HQ3' : Hid (Qs K W3 R b (st (lf (rtxt b) t1))) := HQ2'.out.below b3
              have hb2 := (HC2.out.block B1 HXR.out.1 (by have := HOF.out; rintro rfl; omega)).trans HGR.out.2.1
              have HB3 : Hid (Tb W3 B1 g ⟨#[]⟩ (Value.slice va vm vc) (.slice none 0 0)) := (HC3.out.1.block B1 HXR.out.1 (by have := HOF.out; rintro rfl; omega)).trans HGR.out.2.1
              have y0 := cell_of hb2 2 _ rfl
              have y1 := cell_of HB3.out 2 _ rfl
              clear b3 n3 k1 k2 k3 k4 k5 hb2
              refine hK.out _ _ trivial (fun hHeld => ?_)
              clear hK K0
              try simp only [ptH]
              refine tkH 5 rfl ?_; try simp only [ptH]
              refine rdH [1, 6] ?_
              refine AllReadyH.cons rfl (fun K0 hK => ?_) (AllReadyH.cons rfl (fun K0 hK => ?_) (AllReadyH.nil))
              · skip
                go_simp
                refine hK.out _ _ trivial (fun hHeld => ?_)
                clear hK K0
                try simp only [ptH]
                refine rdH [6] ?_
                refine alH rfl fun K0 hK => ?_
                go_simp
                try rw [hW3]
                refine hK.out _ _ trivial (fun hHeld => ?_)
                clear hK K0
                try simp only [ptH]
                refine rdH [7] ?_
                refine alH rfl fun K0 hK => ?_
                refine ZQd.step_any rfl _ _ 66 rfl (B1 + 1) 124 i0 (.agg #[.string ⟨#[]⟩, .string ⟨#[]⟩]) 2 32 underlying66 hi hz0 hz1 hz2 rfl (by decide) _ _ _ rfl HK1.out _ _ [.string nm, .string x] rfl rfl (ZQd.src_cells HN3.out) (by intro u hu; simp only [List.mem_cons, List.not_mem_nil, or_false] at hu; rcases hu with rfl | rfl <;> rfl) (by unfold maxLen; omega) (by omega) HC3.out.2 ?_
                intro v' W4 hown hgrow hnb
                have HF : Hid (W3.grownBy W4 (Value.slice va vm vc).ownBlock /\ RowI HdA 124 2 (B1 + 1) W4 v' (xs ++ [(nm, x)])) := ⟨hgrow, RowI.snoc sA HK1.out HK2.out.1 HK2.out.2.1 HK2.out.2.2.1 HK2.out.2.2.2 rfl hgrow hown hnb⟩
                obtain ⟨va2, vm2, vc2, rfl⟩ := RowI.slice HF.out.2
                have HB4 : Hid (Tb W4 B1 g ⟨#[]⟩ (Value.slice va vm vc) (.slice none 0 0)) := (hgrow.block B1 (by have := HC3.out.2; have := HOF.out; omega) (fun e => by have := (World.ownsRow.lt HK1.out _ e.symm).1; have := HOF.out; omega)).trans HB3.out
                have y2 := cell_of HB4.out 2 _ rfl
                have r2 := frozen_box HB4.out 2
                clear hown hgrow hnb
                refine hK.out _ _ trivial (fun hHeld => ?_)
                clear hK K0
                try simp only [ptH]
                refine tkH 8 rfl ?_; try simp only [ptH]
                refine rdH [9] ?_
                refine alH rfl fun K0 hK => ?_
                go_simp
                refine hK.out _ _ trivial (fun hHeld => ?_)
                clear hK K0 hHeld
                try simp only [ptH]
                refine dnH ?_
                go_wp2_with fail
                go_roundw
                case rel =>
                  have h1 := HOF.out
                  obtain ⟨e5, e6⟩ := att_end HT1.out HNM.out.2 (s2 := st (lf (rtxt b) t1)) rfl HX2.out.2
                  change st (lf (rtxt b) t1) = st (ratt b p') at e5
                  have gs := gb_set W4 B1 2 (.slice va2 vm2 vc2)
                  have hlo := fun r hr => (World.ownsRow.lt HK1.out r hr).1
                  have c4 : Cx (fun j => j = R \/ j = G) w W4 := (HGR.out.1.trans (HC3.out.1.wide (fun k _ h => .inl h))).row HF.out.1 (fun r hr => by have := hlo r hr; omega)
                  have old : ∀ j, j < u1.heap.size -> j ≠ R -> j < B1 -> (W4.setCell ⟨B1, 2, none⟩ (.slice va2 vm2 vc2)).heap[j]? = u1.heap[j]? := fun j hj h2 h3 => by
                    have hl1 := HC3.out.1.size
                    have hl2 := HF.out.1.size
                    exact (gs.block j (by omega) (fun e => by cases e; omega)).trans ((HF.out.1.block j (by omega) (fun e => by have := hlo _ e.symm; omega)).trans (HC3.out.1.block j hj h2))
                  have hGk := (old G (Array.getElem?_eq_some_iff.1 HGR.out.2.2.2.2.1).1 (by omega) (by omega)).trans HGR.out.2.2.2.2.1
                  have hBk := (old B0 (Array.getElem?_eq_some_iff.1 HGR.out.2.2.2.2.2).1 (by omega) (by omega)).trans HGR.out.2.2.2.2.2
                  exact ⟨q1 + 1, _, xs ++ [(nm, x)], st (ratt b p'), by go_num, by omega, by simp [hxl], ⟨c4.row gs (fun r hr => by cases hr; omega), Tb.set2 HB4.out _, rowi_own sA HF.out.2 (by omega) gs, by rw [<- e5]; exact (HQ3'.out.row (lo := B1 + 1) HF.out.1 (by omega) hlo).row (lo := B1) gs (by omega) (fun r hr => by cases hr; exact Nat.le_refl _), ⟨hGk, hBk⟩⟩, li_step hlt HS.out e6⟩
                case measure => simp only [intOf]; omega
              · skip
                go_simp
                try rw [hW3]
                refine hK.out _ _ trivial (fun hHeld => ?_)
                clear hK K0
                try simp only [ptH]
                refine rdH [1] ?_
                refine alH rfl fun K0 hK => ?_
                go_simp
                refine hK.out _ _ trivial (fun hHeld => ?_)
                clear hK K0
                try simp only [ptH]
                refine rdH [7] ?_
                refine alH rfl fun K0 hK => ?_
                refine ZQd.step_any rfl _ _ 66 rfl (B1 + 1) 124 i0 (.agg #[.string ⟨#[]⟩, .string ⟨#[]⟩]) 2 32 underlying66 hi hz0 hz1 hz2 rfl (by decide) _ _ _ rfl HK1.out _ _ [.string nm, .string x] rfl rfl (ZQd.src_cells HN3.out) (by intro u hu; simp only [List.mem_cons, List.not_mem_nil, or_false] at hu; rcases hu with rfl | rfl <;> rfl) (by unfold maxLen; omega) (by omega) HC3.out.2 ?_
                intro v' W4 hown hgrow hnb
                have HF : Hid (W3.grownBy W4 (Value.slice va vm vc).ownBlock /\ RowI HdA 124 2 (B1 + 1) W4 v' (xs ++ [(nm, x)])) := ⟨hgrow, RowI.snoc sA HK1.out HK2.out.1 HK2.out.2.1 HK2.out.2.2.1 HK2.out.2.2.2 rfl hgrow hown hnb⟩
                obtain ⟨va2, vm2, vc2, rfl⟩ := RowI.slice HF.out.2
                have HB4 : Hid (Tb W4 B1 g ⟨#[]⟩ (Value.slice va vm vc) (.slice none 0 0)) := (hgrow.block B1 (by have := HC3.out.2; have := HOF.out; omega) (fun e => by have := (World.ownsRow.lt HK1.out _ e.symm).1; have := HOF.out; omega)).trans HB3.out
                have y2 := cell_of HB4.out 2 _ rfl
                have r2 := frozen_box HB4.out 2
                clear hown hgrow hnb
                refine hK.out _ _ trivial (fun hHeld => ?_)
                clear hK K0
                try simp only [ptH]
                refine tkH 8 rfl ?_; try simp only [ptH]
                refine rdH [9] ?_
                refine alH rfl fun K0 hK => ?_
                go_simp
                refine hK.out _ _ trivial (fun hHeld => ?_)
                clear hK K0 hHeld
                try simp only [ptH]
                refine dnH ?_
                go_wp2_with fail
                go_roundw
                case rel =>
                  have h1 := HOF.out
                  obtain ⟨e5, e6⟩ := att_end HT1.out HNM.out.2 (s2 := st (lf (rtxt b) t1)) rfl HX2.out.2
                  change st (lf (rtxt b) t1) = st (ratt b p') at e5
                  have gs := gb_set W4 B1 2 (.slice va2 vm2 vc2)
                  have hlo := fun r hr => (World.ownsRow.lt HK1.out r hr).1
                  have c4 : Cx (fun j => j = R \/ j = G) w W4 := (HGR.out.1.trans (HC3.out.1.wide (fun k _ h => .inl h))).row HF.out.1 (fun r hr => by have := hlo r hr; omega)
                  have old : ∀ j, j < u1.heap.size -> j ≠ R -> j < B1 -> (W4.setCell ⟨B1, 2, none⟩ (.slice va2 vm2 vc2)).heap[j]? = u1.heap[j]? := fun j hj h2 h3 => by
                    have hl1 := HC3.out.1.size
                    have hl2 := HF.out.1.size
                    exact (gs.block j (by omega) (fun e => by cases e; omega)).trans ((HF.out.1.block j (by omega) (fun e => by have := hlo _ e.symm; omega)).trans (HC3.out.1.block j hj h2))
                  have hGk := (old G (Array.getElem?_eq_some_iff.1 HGR.out.2.2.2.2.1).1 (by omega) (by omega)).trans HGR.out.2.2.2.2.1
                  have hBk := (old B0 (Array.getElem?_eq_some_iff.1 HGR.out.2.2.2.2.2).1 (by omega) (by omega)).trans HGR.out.2.2.2.2.2
                  exact ⟨q1 + 1, _, xs ++ [(nm, x)], st (ratt b p'), by go_num, by omega, by simp [hxl], ⟨c4.row gs (fun r hr => by cases hr; omega), Tb.set2 HB4.out _, rowi_own sA HF.out.2 (by omega) gs, by rw [<- e5]; exact (HQ3'.out.row (lo := B1 + 1) HF.out.1 (by omega) hlo).row (lo := B1) gs (by omega) (fun r hr => by cases hr; exact Nat.le_refl _), ⟨hGk, hBk⟩⟩, li_step hlt HS.out e6⟩
                case measure => simp only [intOf]; omega
          · have HEND := li_end HS.out (fun h => by cases BB with | true => exact hBB | false => exact (hgo ⟨h, rfl⟩).elim) hq
            have HEN : Hid _ := HEND
            clear HEND hBB
            by_cases hlt : q1 < n
            · obtain rfl : BB = true := by cases BB with | true => rfl | false => exact (hgo ⟨hlt, rfl⟩).elim
              clear hgo
              go_wp2_with fail
              go_meet
              exact ⟨_, xs, by omega, HG.out.1, HG.out.2.1, HG.out.2.2.1, by rw [HEN.out.1]; exact HG.out.2.2.2.1, HG.out.2.2.2.2, HEN.out.2⟩
            · have d0 : decide ((q1 : Int) < (n : Int)) = false := by simp; omega
              clear hgo
              go_wp2_with fail
              go_meet
              exact ⟨_, xs, by omega, HG.out.1, HG.out.2.1, HG.out.2.2.1, by rw [HEN.out.1]; exact HG.out.2.2.2.1, HG.out.2.2.2.2, HEN.out.2⟩
      case rest =>
      obtain ⟨nv, xs, hxl, hcx, hb1, hrow, hqs, ⟨hgg, hb0⟩, hxe⟩ := hcut
      obtain ⟨W5, hW5⟩ : ∃ W5, W5 = wc := ⟨_, rfl⟩
      subst hW5
      obtain ⟨na, nm, nc, rfl⟩ := RowI.slice hrow
      have HXL : Hid (xs.length <= 4096) := by show _ <= _; have := HN.out; omega
      have HXE : Hid (∀ y r, aA = .ok (y, r) -> xs = y) := hxe
      have HE5 : Hid (Cx (fun j => j = R \/ j = G) w W5 /\ Tb W5 B1 g ⟨#[]⟩ (.slice na nm nc) (.slice none 0 0) /\ Qs K W5 R b (st aA) /\ W5.heap[G]? = some (.cells #[.int .i64 i1] 3 (0, 0)) /\ Tb W5 B0 ⟨#[]⟩ ⟨#[]⟩ (.slice none 0 0) (.slice none 0 0) /\ RowI HdA 124 2 (B1 + 1) W5 (.slice na nm nc) xs) := ⟨hcx, hb1, hqs, hgg, hb0, hrow⟩
      have hax : TBase.Ax false (fun j => B1 < j /\ j < W5.heap.size) W5 (.slice na nm nc) xs := YRn.rrs_ax (RowI.rr hrow (by have := HXL.out; omega) (fun b h1 h2 => ⟨by omega, h2⟩) (YRe.ly_a (fun b hb => ⟨by have := hb.1; omega, hb.2.1⟩))) HXL.out
      have HAX : Hid _ := hax
      have hin : TBase.In false TBase.All W5 1 (.agg #[.string g, .string ⟨#[]⟩, .slice na nm nc, .slice none 0 0]) (.mk g ⟨#[]⟩ xs []) := TBase.in_iff.2 ⟨_, _, rfl, by have := HGS.out; omega, by decide, hax.weak (fun _ _ => trivial) false id, ⟨none, 0, rfl, by simp, by omega, by simp, by simp, .inl ⟨rfl, rfl⟩⟩⟩
      obtain ⟨al, hal⟩ : ∃ a, TPure.alone (.mk g ⟨#[]⟩ xs []) = a := ⟨_, rfl⟩
      have cA := RAlone.ralone_c 1 _ _ W5 hin
      rw [hal] at cA
      obtain ⟨ja, jn, jc, jp, jl, hx, -, -⟩ := hqs.cells
      obtain ⟨BE, hBE⟩ : ∃ B, bad (st aA) = B := ⟨_, rfl⟩
      rw [hBE] at hx
      have zf := cell_of hx 2 _ rfl
      obtain ⟨y0, y1, y2, y3⟩ : W5.cell? ⟨B1, 0, none⟩ = some (.string g) /\ W5.cell? ⟨B1, 1, none⟩ = some (.string ⟨#[]⟩) /\ W5.cell? ⟨B1, 2, none⟩ = some (.slice na nm nc) /\ W5.cell? ⟨B1, 3, none⟩ = some (.slice none 0 0) := ⟨cell_of hb1 0 _ rfl, cell_of hb1 1 _ rfl, cell_of hb1 2 _ rfl, cell_of hb1 3 _ rfl⟩
      obtain ⟨U, hU⟩ : ∃ U, (!BE && !al) = U := ⟨_, rfl⟩
      have HU : Hid ((!BE && !al) = U) := hU
      obtain ⟨s4, hs4⟩ : ∃ s, (if U = true then fl (st aA) p0 else st aA) = s := ⟨_, rfl⟩
      have HS4 : Hid ((if U = true then fl (st aA) p0 else st aA) = s4) := hs4
      have h4 : Kx b m' k g xs aa s4 := by
        unfold Kx
        have hAA : aa = match rlst 4096 (ratt b) b q with
            | .error r => .error r
            | .ok (n, r) => if TPure.alone (.mk g ⟨#[]⟩ n []) = true then rkd b m' k g n r else .error p0 := by
          rw [<- HAA.out]
          exact rnd_elem HK4.out HRT.out HZ.out
        rw [HAL.out] at hAA
        rw [<- hs4, <- hU, <- hBE]
        rw [hAA]
        cases aA with
        | error z => simp [st, bad]
        | ok t =>
          obtain ⟨y, r⟩ := t
          obtain rfl := hxe y r rfl
          simp only [st, bad, hal, Bool.not_false, Bool.true_and]
          cases al with
          | true => simp
          | false => simp [fl]
      have H4 : Hid (Kx b m' k g xs aa s4) := h4
      clear hxl hcx hb1 hrow hqs hgg hb0 hxe hax hin hx hs4 h4 hal
      go_upto_region 17 with fail
      go_cut [83] from 74 to 83 (fun t wx => t = .bool U /\ Below W5.heap.size W5 wx)
      case first =>
        cases BE with
        | true =>
          have ET : Hid (U = false) := hU.symm
          clear hU
          go_wp2_with fail
          go_meet
          exact ⟨by rw [ET.out], Below.refl _ _⟩
        | false =>
          have ET : Hid (U = !al) := hU.symm
          clear hU
          go_wp2_with (first | (go_at_call 69; refine cA.mono ?_; rintro e w6 ⟨rfl, b6⟩; have HB6 : Hid (Below W5.heap.size W5 w6) := b6; clear b6))
          go_meet
          exact ⟨by rw [ET.out], HB6.out⟩
      case rest =>
      obtain ⟨rfl, hwx⟩ := hcut
      obtain ⟨W6, hW6⟩ : ∃ W6, W6 = wc := ⟨_, rfl⟩
      subst hW6
      have HE6 : Hid (Cx (fun j => j = R \/ j = G) w W6 /\ Tb W6 B1 g ⟨#[]⟩ (.slice na nm nc) (.slice none 0 0) /\ Qs K W6 R b (st aA) /\ W6.heap[G]? = some (.cells #[.int .i64 i1] 3 (0, 0)) /\ Tb W6 B0 ⟨#[]⟩ ⟨#[]⟩ (.slice none 0 0) (.slice none 0 0) /\ TBase.Ax false (fun j => B1 < j /\ j < W6.heap.size) W6 (.slice na nm nc) xs) := by
        have hs := hwx.size
        have h5 := HE5.out
        exact ⟨h5.1.trans (Cx.bel hwx), (hwx.block B1 (Array.getElem?_eq_some_iff.1 h5.2.1).1).trans h5.2.1, h5.2.2.1.below hwx, (hwx.block G (Array.getElem?_eq_some_iff.1 h5.2.2.2.1).1).trans h5.2.2.2.1, (hwx.block B0 (Array.getElem?_eq_some_iff.1 h5.2.2.2.2.1).1).trans h5.2.2.2.2.1, (TBase.Ax.keep HAX.out (fun j hj hl => hwx.block j hl)).weak (fun j hj => ⟨hj.1, by have := hj.2; omega⟩) false id⟩
      clear hwx hU hBE cA zf y0 y1 y2 y3
      go_upto_if 83 with fail
      go_cut [] from 84 to 86 (fun wx => Cx (fun j => j = R \/ j = G) w wx /\ Tb wx B1 g ⟨#[]⟩ (.slice na nm nc) (.slice none 0 0) /\ Qs K wx R b s4 /\ wx.heap[G]? = some (.cells #[.int .i64 i1] 3 (0, 0)) /\ Tb wx B0 ⟨#[]⟩ ⟨#[]⟩ (.slice none 0 0) (.slice none 0 0) /\ TBase.Ax false (fun j => B1 < j /\ j < wx.heap.size) wx (.slice na nm nc) xs)
      case first =>
        cases U with
        | false =>
          have e1 : s4 = st aA := HS4.out.symm
          subst e1
          go_wp2_with fail
          go_meet
          exact HE6.out
        | true =>
          have e1 : s4 = fl (st aA) p0 := HS4.out.symm
          have cF := fail_c HE6.out.2.2.1 p0
          rw [<- e1] at cF
          clear e1
          go_wp2_with fail
          refine cF.mono ?_
          rintro e w5 ⟨⟨r, rfl⟩, g5, q5⟩
          have H5 : Hid (Cx (fun j => j = R \/ j = G) w w5 /\ Tb w5 B1 g ⟨#[]⟩ (.slice na nm nc) (.slice none 0 0) /\ Qs K w5 R b s4 /\ w5.heap[G]? = some (.cells #[.int .i64 i1] 3 (0, 0)) /\ Tb w5 B0 ⟨#[]⟩ ⟨#[]⟩ (.slice none 0 0) (.slice none 0 0) /\ TBase.Ax false (fun j => B1 < j /\ j < w5.heap.size) w5 (.slice na nm nc) xs) := by
            have h1 := HOF.out
            have h6 := HE6.out
            have hs := g5.size
            exact ⟨h6.1.trans (Cx.of g5 (.inl rfl)), (g5.block B1 (Array.getElem?_eq_some_iff.1 h6.2.1).1 (fun e => by cases e; omega)).trans h6.2.1, q5, (g5.block G (Array.getElem?_eq_some_iff.1 h6.2.2.2.1).1 (fun e => by cases e; omega)).trans h6.2.2.2.1, (g5.block B0 (Array.getElem?_eq_some_iff.1 h6.2.2.2.2.1).1 (fun e => by cases e; omega)).trans h6.2.2.2.2.1, (TBase.Ax.keep h6.2.2.2.2.2 (fun j hj hl => g5.block j hl (fun e => by have := hj.1; cases e; omega))).weak (fun j hj => ⟨hj.1, by have := hj.2; omega⟩) false id⟩
          clear g5 q5 cF
          go_wp2_with fail
          go_meet
          exact H5.out
      case rest =>
      obtain ⟨W7, hW7⟩ : ∃ W7, W7 = wc := ⟨_, rfl⟩
      subst hW7
      have HE7 : Hid _ := hcut
      clear hcut
      have c19 := count_s 4096 (by omega) HE7.out.2.2.1
      go_wp2_with fail
      refine c19.mono ?_
      rintro e W8 ⟨g8, v, c, rfl, ⟨rfl, hc⟩, q8, x8⟩
      obtain ⟨s5, hs5⟩ : ∃ S, st (lf (rcnt 4096 b) s4) = S := ⟨_, rfl⟩
      rw [hs5] at q8
      have HS5 : Hid (s5 = st (lf (rcnt 4096 b) s4)) := hs5.symm
      have HX8 : Hid (∀ y r, lf (rcnt 4096 b) s4 = .ok (y, r) -> c = y) := x8
      have HC8 : Hid (c <= 4096) := hc
      obtain ⟨LO, hLO⟩ : ∃ L, W8.heap.size = L := ⟨_, rfl⟩
      have HE8 : Hid (Cx (fun j => j = R \/ j = G) w W8 /\ Tb W8 B1 g ⟨#[]⟩ (.slice na nm nc) (.slice none 0 0) /\ Qs K W8 R b s5 /\ W8.heap[G]? = some (.cells #[.int .i64 i1] 3 (0, 0)) /\ Tb W8 B0 ⟨#[]⟩ ⟨#[]⟩ (.slice none 0 0) (.slice none 0 0) /\ TBase.Ax false (fun j => B1 < j /\ j < LO) W8 (.slice na nm nc) xs /\ W8.heap.size = LO /\ B1 < LO) := by
        have h1 := HOF.out
        have h6 := HE7.out
        have hs := g8.size
        have hB1l := (Array.getElem?_eq_some_iff.1 h6.2.1).1
        exact ⟨h6.1.trans (Cx.of g8 (.inl rfl)), (g8.block B1 hB1l (fun e => by cases e; omega)).trans h6.2.1, q8, (g8.block G (Array.getElem?_eq_some_iff.1 h6.2.2.2.1).1 (fun e => by cases e; omega)).trans h6.2.2.2.1, (g8.block B0 (Array.getElem?_eq_some_iff.1 h6.2.2.2.2.1).1 (fun e => by cases e; omega)).trans h6.2.2.2.2.1, (TBase.Ax.keep h6.2.2.2.2.2 (fun j hj hl => g8.block j hl (fun e => by have := hj.1; cases e; omega))).weak (fun j hj => ⟨hj.1, by have := hj.2; omega⟩) false id, hLO, by omega⟩
      have HOL : Hid (w.heap.size <= B1 /\ R < B1 /\ B1 < LO /\ G < B1 /\ B0 < B1 /\ R < B0 /\ G < B0 /\ R ≠ G /\ K <= R /\ K <= G) := by
        have h1 := HOF.out
        have h2 := HE8.out.2.2.2.2.2.2.2
        exact ⟨h1.1, h1.2.1, h2, h1.2.2.2⟩
      obtain ⟨aK, haK⟩ : ∃ a, lfT (rmanyT (rnd b m') c) s5 (k + 1) = a := ⟨_, rfl⟩
      have HAK : Hid (lfT (rmanyT (rnd b m') c) s5 (k + 1) = aK) := haK
      obtain ⟨dq, hdq⟩ : ∃ d : Int, 65 - (m' : Int) = d := ⟨_, rfl⟩
      have hd1 : dp + 1 = dq := by have := HDP.out.1; omega
      have hd2 : IntKind.i64.wrap dq = dq := by have := HDP.out; rw [IntKind.wrap_i64]; omega
      have HIH : Hid (TQ K b m') := ih m' rfl
      clear g8 q8 x8 hc hs5 hLO c19 haK
      have HOF0 := HOF
      clear HOF
      have HOF := HOL
      go_upto_block 2 with fail
      go_cut [] from 89 to 110 (fun wx => ∃ (lv : Value) (ys : List T) (k' : Nat), ys.length <= c /\ Cx (fun j => j = R \/ j = G) w wx /\ Tb wx B1 g ⟨#[]⟩ (.slice na nm nc) lv /\ RowI (HdT (m' + 1)) 68 4 LO wx lv ys /\ Qs K wx R b (stT aK) /\ (Gn wx G (stT aK) k' /\ Tb wx B0 ⟨#[]⟩ ⟨#[]⟩ (.slice none 0 0) (.slice none 0 0) /\ LO <= wx.heap.size /\ ∀ j, B1 < j -> j < LO -> wx.heap[j]? = W8.heap[j]?) /\ ∀ y r j, aK = .ok (y, r, j) -> ys = y /\ k' = j)
      case first => as_aux_lemma =>
        go_wp2_with fail
        go_loopw [12] (fun i wr => ∃ (q1 : Nat) (lv : Value) (ys : List T) (s' : Except Nat Nat) (k' : Nat), i = .int .i64 q1 /\ q1 <= c /\ ys.length = q1 /\ Hid (Cx (fun j => j = R \/ j = G) w wr /\ Tb wr B1 g ⟨#[]⟩ (.slice na nm nc) lv /\ RowI (HdT (m' + 1)) 68 4 LO wr lv ys /\ Qs K wr R b s' /\ (Gn wr G s' k' /\ Tb wr B0 ⟨#[]⟩ ⟨#[]⟩ (.slice none 0 0) (.slice none 0 0) /\ LO <= wr.heap.size /\ ∀ j, B1 < j -> j < LO -> wr.heap[j]? = W8.heap[j]?)) /\ Hid (LT (rnd b m') c q1 ys s' k' aK)) (fun i _ => c - (intOf i).toNat)
        case atStart => exact ⟨0, _, [], s5, k + 1, rfl, by omega, rfl, ⟨HE8.out.1, HE8.out.2.1, RowI.nil _ _ _ _ _, HE8.out.2.2.1, Gn.of HE8.out.2.2.2.1 (fun _ => HI2.out), HE8.out.2.2.2.2.1, by have := HE8.out.2.2.2.2.2.2.1; omega, fun _ _ _ => rfl⟩, by rw [<- HAK.out]; exact lt_0⟩
        case round =>
          obtain ⟨q1, lv, ys, s', k', rfl, hq, hyl, HGR, HS⟩ := hrel
          obtain ⟨Wr, hWr⟩ : ∃ W, W = wr := ⟨_, rfl⟩
          subst hWr
          obtain ⟨va, vm, vc, rfl⟩ := RowI.slice HGR.out.2.2.1
          obtain ⟨ja, jn, jc, jp, jl, hx, -, -⟩ := HGR.out.2.2.2.1.cells
          obtain ⟨BB, hBB⟩ : ∃ B, bad s' = B := ⟨_, rfl⟩
          rw [hBB] at hx
          have zf := cell_of hx 2 _ rfl
          clear hx
          by_cases hgo : q1 < c /\ BB = false
          · obtain ⟨hlt, rfl⟩ := hgo
            obtain ⟨p', rfl⟩ : ∃ p, s' = .ok p := by cases s' with | ok p => exact ⟨p, rfl⟩ | error z => cases hBB
            have HXR : Hid (B1 < Wr.heap.size /\ R < Wr.heap.size /\ LO <= Wr.heap.size) := ⟨(Array.getElem?_eq_some_iff.1 HGR.out.2.1).1, HGR.out.2.2.2.1.lt, HGR.out.2.2.2.2.2.2.1⟩
            have cx := HIH.out R G k' Wr.drew (.ok p') (Qs.drew HGR.out.2.2.2.1) HGR.out.2.2.2.2.1 (by have := HOF.out; omega) (by have := HOF.out; omega)
            rw [hdq] at cx
            have zl := cell_of HGR.out.2.1 3 _ rfl
            have hc4 : c <= 4096 := HC8.out
            clear hBB
            go_wp2_with fail
            refine wp_region_held_drew (S := fun _ => True) (by kernel_rfl) trivial (fun hHeld => ?_)
            refine tkH 0 rfl ?_; try simp only [ptH]
            refine tkH 2 rfl ?_; try simp only [ptH]
            refine tkH 3 rfl ?_; try simp only [ptH]
            refine tkH 4 rfl ?_; try simp only [ptH]
            refine tkH 5 rfl ?_; try simp only [ptH]
            refine rdH [1, 6] ?_
            refine AllReadyH.cons rfl (fun K0 hK => ?_) (AllReadyH.cons rfl (fun K0 hK => ?_) (AllReadyH.nil))
            · skip
              go_simp
              refine hK.out _ _ trivial (fun hHeld => ?_)
              clear hK K0
              try simp only [ptH]
              refine rdH [6] ?_
              refine alH rfl fun K0 hK => ?_
              go_simp
              refine cx.mono ?_
              rintro e w2 ⟨c2, ve, x, kk, rfl, ⟨cc, rfl, hhd⟩, q2, gn2, x2⟩
              change Qs K w2 R b (stT (rnd b m' p' k')) at q2
              change Gn w2 G (stT (rnd b m' p' k')) kk at gn2
              change ∀ y r j, rnd b m' p' k' = .ok (y, r, j) -> x = y /\ kk = j at x2
              obtain ⟨xg, xs', xn, xl⟩ := x
              obtain ⟨xa1, xa2, xa3, xb1, xb2, xb3, rfl⟩ := hdT_parts hhd
              have HC2 : Hid (Cx (fun j => j = R \/ j = G) Wr w2) := (Cx.bel (Below.refl Wr.heap.size Wr).drew).trans c2
              have HQ2' : Hid (Qs K w2 R b (stT (rnd b m' p' k'))) := q2
              have HHD : Hid (HdT (m' + 1) (fun g => Wr.heap.size <= g /\ g < w2.heap.size) w2 [.string xg, .string xs', .slice xa1 xa2 xa3, .slice xb1 xb2 xb3] (.mk xg xs' xn xl)) := hhd
              have HX2 : Hid (Gn w2 G (stT (rnd b m' p' k')) kk /\ ∀ y r j, rnd b m' p' k' = .ok (y, r, j) -> (T.mk xg xs' xn xl) = y /\ kk = j) := ⟨gn2, x2⟩
              clear c2 q2 x2 gn2 hhd
              obtain ⟨W3, hW3⟩ : ∃ W, w2.alloc (.cells #[.string xg, .string xs', .slice xa1 xa2 xa3, .slice xb1 xb2 xb3] 68) = W := ⟨_, rfl⟩
              have b3 : Below w2.heap.size w2 W3 := by rw [<- hW3]; exact (Below.refl _ w2).alloc (Nat.le_refl _) _
              have n3 : W3.heap[w2.heap.size]? = some (.cells #[.string xg, .string xs', .slice xa1 xa2 xa3, .slice xb1 xb2 xb3] 68 (0, 0)) := by rw [<- hW3]; exact heap_alloc_new w2 _
              obtain ⟨css, k1, k2, k3, k4, k5⟩ := rowi_push sT HGR.out.2.2.1 HC2.out.size (fun k h1 h2 => HC2.out.block k h2 (by have := HOF.out; rintro (h | h) <;> omega)) (c := [.string xg, .string xs', .slice xa1 xa2 xa3, .slice xb1 xb2 xb3]) (x := (.mk xg xs' xn xl)) (S := fun g => Wr.heap.size <= g /\ g < w2.heap.size) HHD.out (fun b hb => ⟨by have := HXR.out; have := hb.1; omega, hb.1, hb.2⟩) b3
              have HK1 := Hid.mk' k1
              have HK2 : Hid (_ /\ _ /\ _ /\ _) := And.intro k2 (And.intro k3 (And.intro k4 k5))
              have HN3 : Hid (W3.heap[w2.heap.size]? = some (.cells #[.string xg, .string xs', .slice xa1 xa2 xa3, .slice xb1 xb2 xb3] 68 (0, 0))) := n3
              have HC3 : Hid (Cx (fun j => j = R \/ j = G) Wr W3 /\ LO <= W3.heap.size) := ⟨HC2.out.trans (Cx.bel b3), by have := HC2.out.size; have := b3.size; have := HXR.out.2.2; omega⟩
              have HQ3' : Hid (Qs K W3 R b (stT (rnd b m' p' k'))) := HQ2'.out.below b3
              have hb2 := (HC2.out.block B1 HXR.out.1 (by have := HOF.out; rintro (h | h) <;> omega)).trans HGR.out.2.1
              have HB3 : Hid (Tb W3 B1 g ⟨#[]⟩ (.slice na nm nc) (Value.slice va vm vc)) := (HC3.out.1.block B1 HXR.out.1 (by have := HOF.out; rintro (h | h) <;> omega)).trans HGR.out.2.1
              have y0 := cell_of hb2 3 _ rfl
              have y1 := cell_of HB3.out 3 _ rfl
              clear b3 n3 k1 k2 k3 k4 k5 hb2
              refine hK.out _ _ trivial (fun hHeld => ?_)
              clear hK K0
              try simp only [ptH]
              refine rdH [7] ?_
              refine alH rfl fun K0 hK => ?_
              go_simp
              try rw [hW3]
              refine hK.out _ _ trivial (fun hHeld => ?_)
              clear hK K0
              try simp only [ptH]
              refine rdH [8] ?_
              refine alH rfl fun K0 hK => ?_
              refine ZQd.step_any rfl _ _ 26 rfl LO 68 j0 (.agg #[.string ⟨#[]⟩, .string ⟨#[]⟩, .slice none 0 0, .slice none 0 0]) 4 80 underlying26 hj hy0 hy1 hy2 rfl (by decide) _ _ _ rfl HK1.out _ _ [.string xg, .string xs', .slice xa1 xa2 xa3, .slice xb1 xb2 xb3] rfl rfl (ZQd.src_cells HN3.out) (by intro u hu; simp only [List.mem_cons, List.not_mem_nil, or_false] at hu; rcases hu with rfl | rfl | rfl | rfl <;> rfl) (by unfold maxLen; omega) (by omega) HC3.out.2 ?_
              intro v' W4 hown hgrow hnb
              have HF : Hid (W3.grownBy W4 (Value.slice va vm vc).ownBlock /\ RowI (HdT (m' + 1)) 68 4 LO W4 v' (ys ++ [(.mk xg xs' xn xl)])) := ⟨hgrow, RowI.snoc sT HK1.out HK2.out.1 HK2.out.2.1 HK2.out.2.2.1 HK2.out.2.2.2 rfl hgrow hown hnb⟩
              obtain ⟨va2, vm2, vc2, rfl⟩ := RowI.slice HF.out.2
              have HB4 : Hid (Tb W4 B1 g ⟨#[]⟩ (.slice na nm nc) (Value.slice va vm vc)) := (hgrow.block B1 (by have := HC3.out.2; have := HOF.out; omega) (fun e => by have := (World.ownsRow.lt HK1.out _ e.symm).1; have := HOF.out; omega)).trans HB3.out
              have y2 := cell_of HB4.out 3 _ rfl
              have r2 := frozen_box HB4.out 3
              clear hown hgrow hnb
              refine hK.out _ _ trivial (fun hHeld => ?_)
              clear hK K0
              try simp only [ptH]
              refine tkH 9 rfl ?_; try simp only [ptH]
              refine rdH [10] ?_
              refine alH rfl fun K0 hK => ?_
              go_simp
              refine hK.out _ _ trivial (fun hHeld => ?_)
              clear hK K0 hHeld
              try simp only [ptH]
              refine dnH ?_
              go_wp2_with fail
              go_roundw
              case rel =>
                have h1 := HOF.out
                have gs := gb_set W4 B1 3 (.slice va2 vm2 vc2)
                have hlo := fun r hr => (World.ownsRow.lt HK1.out r hr).1
                have c4 : Cx (fun j => j = R \/ j = G) w W4 := (HGR.out.1.trans HC3.out.1).row HF.out.1 (fun r hr => by have := hlo r hr; omega)
                have hl0 := HXR.out
                have hl1 := HC3.out.1.size
                have hl2 := HF.out.1.size
                have old : ∀ j, j < Wr.heap.size -> j ≠ R -> j ≠ G -> j ≠ B1 -> j < LO -> (W4.setCell ⟨B1, 3, none⟩ (.slice va2 vm2 vc2)).heap[j]? = Wr.heap[j]? := fun j hj h2 h3 h4 h5 =>
                  (gs.block j (by omega) (fun e => by cases e; omega)).trans ((HF.out.1.block j (by omega) (fun e => by have := hlo _ e.symm; omega)).trans (HC3.out.1.block j hj (by rintro (h | h); exact h2 h; exact h3 h)))
                have hBk := (old B0 (Array.getElem?_eq_some_iff.1 HGR.out.2.2.2.2.2.1).1 (by omega) (by omega) (by omega) (by omega)).trans HGR.out.2.2.2.2.2.1
                have hGk : (W4.setCell ⟨B1, 3, none⟩ (.slice va2 vm2 vc2)).heap[G]? = w2.heap[G]? := by
                  obtain ⟨ii, hii, -⟩ := HX2.out.1.int
                  have hg2 := (Array.getElem?_eq_some_iff.1 hii).1
                  have h3G : W3.heap[G]? = w2.heap[G]? := by rw [<- hW3]; exact Below.heap_alloc _ _ _ hg2
                  have h3l : w2.heap.size <= W3.heap.size := by rw [<- hW3]; simp
                  exact (gs.block G (by omega) (fun e => by cases e; omega)).trans ((HF.out.1.block G (by omega) (fun e => by have := hlo _ e.symm; omega)).trans h3G)
                have hgn : Gn (W4.setCell ⟨B1, 3, none⟩ (.slice va2 vm2 vc2)) G (stT (rnd b m' p' k')) kk := by
                  obtain ⟨ii, hii, hik⟩ := HX2.out.1.int
                  exact Gn.of (hGk.trans hii) hik
                exact ⟨q1 + 1, _, ys ++ [.mk xg xs' xn xl], stT (rnd b m' p' k'), kk, by go_num, by omega, by simp [hyl], ⟨c4.row gs (fun r hr => by cases hr; omega), Tb.set3 HB4.out _, rowi_own sT HF.out.2 (by omega) gs, (HQ3'.out.row (lo := LO) HF.out.1 (by omega) hlo).row (lo := B1) gs (by omega) (fun r hr => by cases hr; exact Nat.le_refl _), hgn, hBk, by simp [World.setCell]; omega, fun j hj1 hj2 => (old j (by omega) (by omega) (by omega) (by omega) hj2).trans (HGR.out.2.2.2.2.2.2.2 j hj1 hj2)⟩, lt_step hlt HS.out HX2.out.2⟩
              case measure => simp only [intOf]; omega
            · skip
              go_simp
              refine cx.mono ?_
              rintro e w2 ⟨c2, ve, x, kk, rfl, ⟨cc, rfl, hhd⟩, q2, gn2, x2⟩
              change Qs K w2 R b (stT (rnd b m' p' k')) at q2
              change Gn w2 G (stT (rnd b m' p' k')) kk at gn2
              change ∀ y r j, rnd b m' p' k' = .ok (y, r, j) -> x = y /\ kk = j at x2
              obtain ⟨xg, xs', xn, xl⟩ := x
              obtain ⟨xa1, xa2, xa3, xb1, xb2, xb3, rfl⟩ := hdT_parts hhd
              have HC2 : Hid (Cx (fun j => j = R \/ j = G) Wr w2) := (Cx.bel (Below.refl Wr.heap.size Wr).drew).trans c2
              have HQ2' : Hid (Qs K w2 R b (stT (rnd b m' p' k'))) := q2
              have HHD : Hid (HdT (m' + 1) (fun g => Wr.heap.size <= g /\ g < w2.heap.size) w2 [.string xg, .string xs', .slice xa1 xa2 xa3, .slice xb1 xb2 xb3] (.mk xg xs' xn xl)) := hhd
              have HX2 : Hid (Gn w2 G (stT (rnd b m' p' k')) kk /\ ∀ y r j, rnd b m' p' k' = .ok (y, r, j) -> (T.mk xg xs' xn xl) = y /\ kk = j) := ⟨gn2, x2⟩
              clear c2 q2 x2 gn2 hhd
              obtain ⟨W3, hW3⟩ : ∃ W, w2.alloc (.cells #[.string xg, .string xs', .slice xa1 xa2 xa3, .slice xb1 xb2 xb3] 68) = W := ⟨_, rfl⟩
              have b3 : Below w2.heap.size w2 W3 := by rw [<- hW3]; exact (Below.refl _ w2).alloc (Nat.le_refl _) _
              have n3 : W3.heap[w2.heap.size]? = some (.cells #[.string xg, .string xs', .slice xa1 xa2 xa3, .slice xb1 xb2 xb3] 68 (0, 0)) := by rw [<- hW3]; exact heap_alloc_new w2 _
              obtain ⟨css, k1, k2, k3, k4, k5⟩ := rowi_push sT HGR.out.2.2.1 HC2.out.size (fun k h1 h2 => HC2.out.block k h2 (by have := HOF.out; rintro (h | h) <;> omega)) (c := [.string xg, .string xs', .slice xa1 xa2 xa3, .slice xb1 xb2 xb3]) (x := (.mk xg xs' xn xl)) (S := fun g => Wr.heap.size <= g /\ g < w2.heap.size) HHD.out (fun b hb => ⟨by have := HXR.out; have := hb.1; omega, hb.1, hb.2⟩) b3
              have HK1 := Hid.mk' k1
              have HK2 : Hid (_ /\ _ /\ _ /\ _) := And.intro k2 (And.intro k3 (And.intro k4 k5))
              have HN3 : Hid (W3.heap[w2.heap.size]? = some (.cells #[.string xg, .string xs', .slice xa1 xa2 xa3, .slice xb1 xb2 xb3] 68 (0, 0))) := n3
              have HC3 : Hid (Cx (fun j => j = R \/ j = G) Wr W3 /\ LO <= W3.heap.size) := ⟨HC2.out.trans (Cx.bel b3), by have := HC2.out.size; have := b3.size; have := HXR.out.2.2; omega⟩
              have HQ3' : Hid (Qs K W3 R b (stT (rnd b m' p' k'))) := HQ2'.out.below b3
              have hb2 := (HC2.out.block B1 HXR.out.1 (by have := HOF.out; rintro (h | h) <;> omega)).trans HGR.out.2.1
              have HB3 : Hid (Tb W3 B1 g ⟨#[]⟩ (.slice na nm nc) (Value.slice va vm vc)) := (HC3.out.1.block B1 HXR.out.1 (by have := HOF.out; rintro (h | h) <;> omega)).trans HGR.out.2.1
              have y0 := cell_of hb2 3 _ rfl
              have y1 := cell_of HB3.out 3 _ rfl
              clear b3 n3 k1 k2 k3 k4 k5 hb2
              refine hK.out _ _ trivial (fun hHeld => ?_)
              clear hK K0
              try simp only [ptH]
              refine rdH [1, 7] ?_
              refine AllReadyH.cons rfl (fun K0 hK => ?_) (AllReadyH.cons rfl (fun K0 hK => ?_) (AllReadyH.nil))
              · skip
                go_simp
                refine hK.out _ _ trivial (fun hHeld => ?_)
                clear hK K0
                try simp only [ptH]
                refine rdH [7] ?_
                refine alH rfl fun K0 hK => ?_
                go_simp
                try rw [hW3]
                refine hK.out _ _ trivial (fun hHeld => ?_)
                clear hK K0
                try simp only [ptH]
                refine rdH [8] ?_
                refine alH rfl fun K0 hK => ?_
                refine ZQd.step_any rfl _ _ 26 rfl LO 68 j0 (.agg #[.string ⟨#[]⟩, .string ⟨#[]⟩, .slice none 0 0, .slice none 0 0]) 4 80 underlying26 hj hy0 hy1 hy2 rfl (by decide) _ _ _ rfl HK1.out _ _ [.string xg, .string xs', .slice xa1 xa2 xa3, .slice xb1 xb2 xb3] rfl rfl (ZQd.src_cells HN3.out) (by intro u hu; simp only [List.mem_cons, List.not_mem_nil, or_false] at hu; rcases hu with rfl | rfl | rfl | rfl <;> rfl) (by unfold maxLen; omega) (by omega) HC3.out.2 ?_
                intro v' W4 hown hgrow hnb
                have HF : Hid (W3.grownBy W4 (Value.slice va vm vc).ownBlock /\ RowI (HdT (m' + 1)) 68 4 LO W4 v' (ys ++ [(.mk xg xs' xn xl)])) := ⟨hgrow, RowI.snoc sT HK1.out HK2.out.1 HK2.out.2.1 HK2.out.2.2.1 HK2.out.2.2.2 rfl hgrow hown hnb⟩
                obtain ⟨va2, vm2, vc2, rfl⟩ := RowI.slice HF.out.2
                have HB4 : Hid (Tb W4 B1 g ⟨#[]⟩ (.slice na nm nc) (Value.slice va vm vc)) := (hgrow.block B1 (by have := HC3.out.2; have := HOF.out; omega) (fun e => by have := (World.ownsRow.lt HK1.out _ e.symm).1; have := HOF.out; omega)).trans HB3.out
                have y2 := cell_of HB4.out 3 _ rfl
                have r2 := frozen_box HB4.out 3
                clear hown hgrow hnb
                refine hK.out _ _ trivial (fun hHeld => ?_)
                clear hK K0
                try simp only [ptH]
                refine tkH 9 rfl ?_; try simp only [ptH]
                refine rdH [10] ?_
                refine alH rfl fun K0 hK => ?_
                go_simp
                refine hK.out _ _ trivial (fun hHeld => ?_)
                clear hK K0 hHeld
                try simp only [ptH]
                refine dnH ?_
                go_wp2_with fail
                go_roundw
                case rel =>
                  have h1 := HOF.out
                  have gs := gb_set W4 B1 3 (.slice va2 vm2 vc2)
                  have hlo := fun r hr => (World.ownsRow.lt HK1.out r hr).1
                  have c4 : Cx (fun j => j = R \/ j = G) w W4 := (HGR.out.1.trans HC3.out.1).row HF.out.1 (fun r hr => by have := hlo r hr; omega)
                  have hl0 := HXR.out
                  have hl1 := HC3.out.1.size
                  have hl2 := HF.out.1.size
                  have old : ∀ j, j < Wr.heap.size -> j ≠ R -> j ≠ G -> j ≠ B1 -> j < LO -> (W4.setCell ⟨B1, 3, none⟩ (.slice va2 vm2 vc2)).heap[j]? = Wr.heap[j]? := fun j hj h2 h3 h4 h5 =>
                    (gs.block j (by omega) (fun e => by cases e; omega)).trans ((HF.out.1.block j (by omega) (fun e => by have := hlo _ e.symm; omega)).trans (HC3.out.1.block j hj (by rintro (h | h); exact h2 h; exact h3 h)))
                  have hBk := (old B0 (Array.getElem?_eq_some_iff.1 HGR.out.2.2.2.2.2.1).1 (by omega) (by omega) (by omega) (by omega)).trans HGR.out.2.2.2.2.2.1
                  have hGk : (W4.setCell ⟨B1, 3, none⟩ (.slice va2 vm2 vc2)).heap[G]? = w2.heap[G]? := by
                    obtain ⟨ii, hii, -⟩ := HX2.out.1.int
                    have hg2 := (Array.getElem?_eq_some_iff.1 hii).1
                    have h3G : W3.heap[G]? = w2.heap[G]? := by rw [<- hW3]; exact Below.heap_alloc _ _ _ hg2
                    have h3l : w2.heap.size <= W3.heap.size := by rw [<- hW3]; simp
                    exact (gs.block G (by omega) (fun e => by cases e; omega)).trans ((HF.out.1.block G (by omega) (fun e => by have := hlo _ e.symm; omega)).trans h3G)
                  have hgn : Gn (W4.setCell ⟨B1, 3, none⟩ (.slice va2 vm2 vc2)) G (stT (rnd b m' p' k')) kk := by
                    obtain ⟨ii, hii, hik⟩ := HX2.out.1.int
                    exact Gn.of (hGk.trans hii) hik
                  exact ⟨q1 + 1, _, ys ++ [.mk xg xs' xn xl], stT (rnd b m' p' k'), kk, by go_num, by omega, by simp [hyl], ⟨c4.row gs (fun r hr => by cases hr; omega), Tb.set3 HB4.out _, rowi_own sT HF.out.2 (by omega) gs, (HQ3'.out.row (lo := LO) HF.out.1 (by omega) hlo).row (lo := B1) gs (by omega) (fun r hr => by cases hr; exact Nat.le_refl _), hgn, hBk, by simp [World.setCell]; omega, fun j hj1 hj2 => (old j (by omega) (by omega) (by omega) (by omega) hj2).trans (HGR.out.2.2.2.2.2.2.2 j hj1 hj2)⟩, lt_step hlt HS.out HX2.out.2⟩
                case measure => simp only [intOf]; omega
              · skip
                go_simp
                try rw [hW3]
                refine hK.out _ _ trivial (fun hHeld => ?_)
                clear hK K0
                try simp only [ptH]
                refine rdH [1] ?_
                refine alH rfl fun K0 hK => ?_
                go_simp
                refine hK.out _ _ trivial (fun hHeld => ?_)
                clear hK K0
                try simp only [ptH]
                refine rdH [8] ?_
                refine alH rfl fun K0 hK => ?_
                refine ZQd.step_any rfl _ _ 26 rfl LO 68 j0 (.agg #[.string ⟨#[]⟩, .string ⟨#[]⟩, .slice none 0 0, .slice none 0 0]) 4 80 underlying26 hj hy0 hy1 hy2 rfl (by decide) _ _ _ rfl HK1.out _ _ [.string xg, .string xs', .slice xa1 xa2 xa3, .slice xb1 xb2 xb3] rfl rfl (ZQd.src_cells HN3.out) (by intro u hu; simp only [List.mem_cons, List.not_mem_nil, or_false] at hu; rcases hu with rfl | rfl | rfl | rfl <;> rfl) (by unfold maxLen; omega) (by omega) HC3.out.2 ?_
                intro v' W4 hown hgrow hnb
                have HF : Hid (W3.grownBy W4 (Value.slice va vm vc).ownBlock /\ RowI (HdT (m' + 1)) 68 4 LO W4 v' (ys ++ [(.mk xg xs' xn xl)])) := ⟨hgrow, RowI.snoc sT HK1.out HK2.out.1 HK2.out.2.1 HK2.out.2.2.1 HK2.out.2.2.2 rfl hgrow hown hnb⟩
                obtain ⟨va2, vm2, vc2, rfl⟩ := RowI.slice HF.out.2
                have HB4 : Hid (Tb W4 B1 g ⟨#[]⟩ (.slice na nm nc) (Value.slice va vm vc)) := (hgrow.block B1 (by have := HC3.out.2; have := HOF.out; omega) (fun e => by have := (World.ownsRow.lt HK1.out _ e.symm).1; have := HOF.out; omega)).trans HB3.out
                have y2 := cell_of HB4.out 3 _ rfl
                have r2 := frozen_box HB4.out 3
                clear hown hgrow hnb
                refine hK.out _ _ trivial (fun hHeld => ?_)
                clear hK K0
                try simp only [ptH]
                refine tkH 9 rfl ?_; try simp only [ptH]
                refine rdH [10] ?_
                refine alH rfl fun K0 hK => ?_
                go_simp
                refine hK.out _ _ trivial (fun hHeld => ?_)
                clear hK K0 hHeld
                try simp only [ptH]
                refine dnH ?_
                go_wp2_with fail
                go_roundw
                case rel =>
                  have h1 := HOF.out
                  have gs := gb_set W4 B1 3 (.slice va2 vm2 vc2)
                  have hlo := fun r hr => (World.ownsRow.lt HK1.out r hr).1
                  have c4 : Cx (fun j => j = R \/ j = G) w W4 := (HGR.out.1.trans HC3.out.1).row HF.out.1 (fun r hr => by have := hlo r hr; omega)
                  have hl0 := HXR.out
                  have hl1 := HC3.out.1.size
                  have hl2 := HF.out.1.size
                  have old : ∀ j, j < Wr.heap.size -> j ≠ R -> j ≠ G -> j ≠ B1 -> j < LO -> (W4.setCell ⟨B1, 3, none⟩ (.slice va2 vm2 vc2)).heap[j]? = Wr.heap[j]? := fun j hj h2 h3 h4 h5 =>
                    (gs.block j (by omega) (fun e => by cases e; omega)).trans ((HF.out.1.block j (by omega) (fun e => by have := hlo _ e.symm; omega)).trans (HC3.out.1.block j hj (by rintro (h | h); exact h2 h; exact h3 h)))
                  have hBk := (old B0 (Array.getElem?_eq_some_iff.1 HGR.out.2.2.2.2.2.1).1 (by omega) (by omega) (by omega) (by omega)).trans HGR.out.2.2.2.2.2.1
                  have hGk : (W4.setCell ⟨B1, 3, none⟩ (.slice va2 vm2 vc2)).heap[G]? = w2.heap[G]? := by
                    obtain ⟨ii, hii, -⟩ := HX2.out.1.int
                    have hg2 := (Array.getElem?_eq_some_iff.1 hii).1
                    have h3G : W3.heap[G]? = w2.heap[G]? := by rw [<- hW3]; exact Below.heap_alloc _ _ _ hg2
                    have h3l : w2.heap.size <= W3.heap.size := by rw [<- hW3]; simp
                    exact (gs.block G (by omega) (fun e => by cases e; omega)).trans ((HF.out.1.block G (by omega) (fun e => by have := hlo _ e.symm; omega)).trans h3G)
                  have hgn : Gn (W4.setCell ⟨B1, 3, none⟩ (.slice va2 vm2 vc2)) G (stT (rnd b m' p' k')) kk := by
                    obtain ⟨ii, hii, hik⟩ := HX2.out.1.int
                    exact Gn.of (hGk.trans hii) hik
                  exact ⟨q1 + 1, _, ys ++ [.mk xg xs' xn xl], stT (rnd b m' p' k'), kk, by go_num, by omega, by simp [hyl], ⟨c4.row gs (fun r hr => by cases hr; omega), Tb.set3 HB4.out _, rowi_own sT HF.out.2 (by omega) gs, (HQ3'.out.row (lo := LO) HF.out.1 (by omega) hlo).row (lo := B1) gs (by omega) (fun r hr => by cases hr; exact Nat.le_refl _), hgn, hBk, by simp [World.setCell]; omega, fun j hj1 hj2 => (old j (by omega) (by omega) (by omega) (by omega) hj2).trans (HGR.out.2.2.2.2.2.2.2 j hj1 hj2)⟩, lt_step hlt HS.out HX2.out.2⟩
                case measure => simp only [intOf]; omega
          · have HEND := lt_end HS.out (fun h => by cases BB with | true => exact hBB | false => exact (hgo ⟨h, rfl⟩).elim) hq
            have HEN : Hid _ := HEND
            clear HEND hBB
            by_cases hlt : q1 < c
            · obtain rfl : BB = true := by cases BB with | true => rfl | false => exact (hgo ⟨hlt, rfl⟩).elim
              clear hgo
              go_wp2_with fail
              go_meet
              exact ⟨_, ys, k', by omega, HGR.out.1, HGR.out.2.1, HGR.out.2.2.1, by rw [HEN.out.1]; exact HGR.out.2.2.2.1, by rw [HEN.out.1]; exact HGR.out.2.2.2.2, HEN.out.2⟩
            · have d0 : decide ((q1 : Int) < (c : Int)) = false := by simp; omega
              clear hgo
              go_wp2_with fail
              go_meet
              exact ⟨_, ys, k', by omega, HGR.out.1, HGR.out.2.1, HGR.out.2.2.1, by rw [HEN.out.1]; exact HGR.out.2.2.2.1, by rw [HEN.out.1]; exact HGR.out.2.2.2.2, HEN.out.2⟩
      case rest =>
      obtain ⟨lv, ys, k', hyl, hcx, hb1, hrow, hqs, ⟨hgn, hb0, hlo, hkp⟩, hye⟩ := hcut
      obtain ⟨X, hX⟩ : ∃ X, X = wc := ⟨_, rfl⟩
      subst hX
      obtain ⟨la, lm, lc, rfl⟩ := RowI.slice hrow
      have hend := kid_end H4.out HS5.out HX8.out HAK.out hye
      obtain ⟨iz, hiz, hik⟩ := hgn.int
      have HEN : Hid _ := hend
      have HIZ : Hid (bad (stT aK) = false -> iz = k') := hik
      have hin : TBase.InL false (fun j => B1 < j /\ j < X.heap.size) X (m' + 1) (.slice la lm lc) ys := YRt.rrs_inl (RowI.rr (Ly := LyTs (m' + 1) (fun j => B1 < j /\ j < X.heap.size)) hrow (by have := HC8.out; omega) (fun b h1 h2 => ⟨by have := HOF.out; omega, h2⟩) (YRt.ly_t (fun b hb => ⟨by have := hb.1; have := HOF.out; omega, hb.2.1⟩))) (by have := HC8.out; omega)
      have hax : TBase.Ax false (fun j => B1 < j /\ j < X.heap.size) X (.slice na nm nc) xs := (TBase.Ax.keep HE8.out.2.2.2.2.2.1 (fun j hj hl => hkp j hj.1 hj.2)).weak (fun j hj => ⟨hj.1, by have := hj.2; omega⟩) false id
      have HIN : Hid _ := hin
      have HAX2 : Hid _ := hax
      have HE : Hid (Cx (fun j => j = R \/ j = G) w X /\ Qs K X R b (stT aK) /\ X.heap[G]? = some (.cells #[.int .i64 iz] 3 (0, 0)) /\ Tb X B0 ⟨#[]⟩ ⟨#[]⟩ (.slice none 0 0) (.slice none 0 0) /\ Tb X B1 g ⟨#[]⟩ (.slice na nm nc) (.slice la lm lc)) := ⟨hcx, hqs, hiz, hb0, hb1⟩
      clear hyl hcx hb1 hrow hqs hgn hb0 hlo hkp hye hend hiz hik hin hax
      go_upto_region 24 with fail
      obtain ⟨W9, hW9⟩ : ∃ W, (((X.setCell ⟨B0, 0, none⟩ (.string g)).setCell ⟨B0, 1, none⟩ (.string ⟨#[]⟩)).setCell ⟨B0, 2, none⟩ (.slice na nm nc)).setCell ⟨B0, 3, none⟩ (.slice la lm lc) = W := ⟨_, rfl⟩
      obtain ⟨m9, g9⟩ := YRg.set4 _ _ _ _ HE.out.2.2.2.1 hW9
      have y0 := cell_of HE.out.2.2.2.2 0 _ rfl
      have y1 := cell_of HE.out.2.2.2.2 1 _ rfl
      have y2 := cell_of HE.out.2.2.2.2 2 _ rfl
      have y3 := cell_of HE.out.2.2.2.2 3 _ rfl
      have t0 := cell_of HE.out.2.2.2.1 0 _ rfl
      have t1 := cell_of HE.out.2.2.2.1 1 _ rfl
      have t2 := cell_of HE.out.2.2.2.1 2 _ rfl
      have t3 := cell_of HE.out.2.2.2.1 3 _ rfl
      have r0 := frozen_box HE.out.2.2.2.1 0
      have r1 := frozen_box HE.out.2.2.2.1 1
      have r2 := frozen_box HE.out.2.2.2.1 2
      have r3 := frozen_box HE.out.2.2.2.1 3
      have HM9 : Hid _ := m9
      have HG9 : Hid (X.grownBy W9 (some B0)) := g9
      have HFIN : Hid (Cx (fun j => j = R \/ j = G) w W9 /\ VA (HdT (m' + 1 + 1)) (fun g => w.heap.size <= g /\ g < W9.heap.size) W9 (.agg #[.string g, .string ⟨#[]⟩, (.slice na nm nc), (.slice la lm lc)]) (T.mk g ⟨#[]⟩ xs ys) /\ Qs K W9 R b (stT aa) /\ Gn W9 G (stT aa) k') := by
        have h1 := HB0.out
        have h9 := HG9.out.size
        have hB0l := (Array.getElem?_eq_some_iff.1 HE.out.2.2.2.1).1
        have hGl := (Array.getElem?_eq_some_iff.1 HE.out.2.2.1).1
        have hgn := (HG9.out.block G hGl (fun e => by cases e; omega)).trans HE.out.2.2.1
        have hqs := HE.out.2.1.row (lo := B0) HG9.out (by omega) (fun r hr => by cases hr; exact Nat.le_refl _)
        refine ⟨HE.out.1.row HG9.out (fun r hr => by cases hr; omega), ⟨_, rfl, _, _, rfl, ?_⟩, ?_, ?_⟩
        · have kp : TBase.Keep (fun j => B1 < j /\ j < X.heap.size) X W9 := fun j hj hl => HG9.out.block j hl (fun e => by cases e; have := HB1.out; have := hj.1; omega)
          exact TBase.in_iff.2 ⟨_, _, rfl, by have := HGS.out; omega, by decide, (TBase.Ax.keep HAX2.out kp).weak (fun j hj => ⟨by have := hj.1; have := HB1.out; omega, by have := hj.2; omega⟩) false id, (TBase.InL.keep HIN.out kp).weak (fun j hj => ⟨by have := hj.1; have := HB1.out; omega, by have := hj.2; omega⟩) false id _ (Nat.le_refl _)⟩
        · rw [HEN.out.1]; exact hqs
        · rw [HEN.out.1]; exact Gn.of hgn HIZ.out
      clear m9 g9
      go_wp2_with fail
      try rw [hW9]
      refine bodyPost_ret (results_cell_row rfl _ W9 B0 68 _ (0, 0) _ rfl HM9.out underlying68 rfl (by kernel_rfl)) rfl ?_
      exact ⟨HFIN.out.1, _, _, _, rfl, HFIN.out.2.1, HFIN.out.2.2.1, HFIN.out.2.2.2, HEN.out.2⟩
end Go.Proofs.YtaiackmmmlhgbaaGreat.ZQi
