import Derived.Test.YtiijfmdfccdagaaGreatDoorPL02
import Derived.Test.YtiijfmdfccdagaaGreatDoorPL29
import Derived.Test.YtiijfmdfccdagaaGreatDoorPL33
import Derived.Test.YtiijfmdfccdagaaGreatDoorPL34
open Go.Proofs.Tryz
set_option linter.unusedVariables false
set_option maxRecDepth 20000
set_option maxHeartbeats 6400000
namespace Go.Proofs.YtiijfmdfccdagaaGreatDoor.GLB
open Go.RowKit Base GEn GBu GBe GNs GNg
open VPure hiding evL
open TBase (T)
theorem gl_lp {f : Nat -> Int -> Except Nat (List T × Int)} {g : Nat -> C -> Int -> Except Nat (List T × Int)} {l : List C} (hfg : ∀ q (h : q < l.length), f q = g q l[q]) : ∀ (n q : Nat) (x : Int) (F : List T), n + q = l.length -> gl f n q x F = GRn.lp g (l.drop q) q x F
 | 0, q, x, F, h => by rw [List.drop_eq_nil_of_le (by omega)]; rfl
 | n + 1, q, x, F, h => by
  rw [List.drop_eq_getElem_cons (by omega : q < l.length), gl, hfg q (by omega), GRn.lp]
  congr 1
  funext a
  exact gl_lp hfg n (q + 1) a.2 (F ++ a.1) (by omega)
theorem loop_c {K m lo n : Nat} {w : World} {tv : Value} {F0 : List T} {B Bb : Nat} {Pv : Value} {sv : Sz} {r num : Int} {L : List C} {ka : Option Addr} {kc : Nat} {caps : Array Value} {f : Nat -> Int -> Except Nat (List T × Int)} (h : Wr K m w B Bb Pv sv r L) (hr : 0 <= r /\ r <= 65536) (hb : Bt lo w Bb Pv.ownBlock tv F0) (hFr : (F0.length : Int) + r <= 65536) (hn : n <= 100000)
  (hf : ∀ q x a, 0 <= x -> f q x = .ok a -> (a.1.length : Int) + a.2 <= x /\ 0 <= a.2)
  (hone : ∀ q, q < n -> ∀ W Pv' x F tv', Fm B Bb Pv.ownBlock tv.ownBlock w W -> Wr K m W B Bb Pv' sv x L -> Bt lo W Bb Pv'.ownBlock tv' F -> (F.length : Int) + x <= 65536 -> 0 <= x -> (Pv'.ownBlock = Pv.ownBlock \/ ∃ y, Pv'.ownBlock = some y /\ w.heap.size <= y) -> (tv'.ownBlock = tv.ownBlock \/ ∃ y, tv'.ownBlock = some y /\ w.heap.size <= y) -> Calls prog 142 (#[.int .i64 q] ++ caps) W fun e w' => LR (Rs K m B Bb sv L) lo B Bb Pv'.ownBlock tv' F W (f q x) e w') :
  Calls prog 209 #[ptr Bb, .int .i64 num, .slice ka n kc, .func (.func 142) #[] caps] w fun e w' => LR (Rs K m B Bb sv L) lo B Bb Pv.ownBlock tv F0 w (gl f n 0 r []) e w' := by
 have HFF := hid hf
 have HON := hid hone
 have HW := hid h
 have HBT := hid hb
 obtain ⟨T0, hT⟩ : ∃ T0, gl f n 0 r [] = T0 := ⟨_, rfl⟩
 rw [hT]
 have HT := hid hT
 clear h hb hf hone hT
 go_enter func209, ntmps209
 go_wp2_with fail
 go_loopw [11] (fun i wr => ∃ (q : Nat) (x : Int) (F : List T) (Pv' tv' : Value), i = .int .i64 q /\ q <= n /\ gl f (n - q) q x F = T0 /\ Wr K m wr B Bb Pv' sv x L /\ Bt lo wr Bb Pv'.ownBlock tv' (F0 ++ F) /\ ((F0 ++ F).length : Int) + x <= 65536 /\ 0 <= x /\ Fm B Bb Pv.ownBlock tv.ownBlock w wr /\ (Pv'.ownBlock = Pv.ownBlock \/ ∃ y, Pv'.ownBlock = some y /\ w.heap.size <= y) /\ (tv'.ownBlock = tv.ownBlock \/ ∃ y, tv'.ownBlock = some y /\ w.heap.size <= y)) (fun i _ => n - (intOf i).toNat)
 case atStart => exact ⟨0, r, [], Pv, tv, rfl, by omega, HT.out, HW.out, by rw [List.append_nil]; exact HBT.out, by rw [List.append_nil]; exact hFr, hr.1, ⟨fun _ _ _ _ _ => Below.refl _ _, Nat.le_refl _, fun _ _ _ _ _ _ => rfl⟩, .inl rfl, .inl rfl⟩
 case round =>
  clear HT
  obtain ⟨q, x, F, Pv', tv', rfl, hq, hM, hwr, hbt, hFx, hx0, hfm, hpx, htx⟩ := hrel
  have HTX := hid htx
  have HWR := hid hwr
  have HFm := hid hfm
  have HPX := hid hpx
  have hsz := hfm.size
  by_cases hlt : q < n
  ·have d0 : decide ((q : Int) < (n : Int)) = true := by simp; omega
   have cN := HON.out q hlt wr Pv' x (F0 ++ F) tv' hfm hwr hbt hFx hx0 hpx htx
   obtain ⟨U, hU⟩ : ∃ U, f q x = U := ⟨_, rfl⟩
   rw [hU] at cN
   have hM2 : bnd U (fun a => gl f (n - (q + 1)) (q + 1) a.2 (F ++ a.1)) = T0 := by
    rw [<- hU, <- hM, show n - q = (n - (q + 1)) + 1 by omega]
    rfl
   have HM := hid hM2
   have HUE := hid hU
   have HC : Hid (∀ W2, Fm B Bb Pv'.ownBlock tv'.ownBlock wr W2 -> Fm B Bb Pv.ownBlock tv.ownBlock w W2) := by
    intro W2 h2
    have hnx : ∀ b, b < w.heap.size -> some b ≠ Pv.ownBlock -> some b ≠ Pv'.ownBlock := by
     intro b h3 h4 e
     rcases HPX.out with k | ⟨y, k, hy⟩
     ·exact h4 (e.trans k)
     ·rw [k] at e
      have := Option.some.inj e
      omega
    refine ⟨fun n h3 h4 h5 h6 => (HFm.out.below n h3 h4 h5 h6).trans (h2.below n h3 h4 (fun y e => ?_) (fun y e => ?_)), by have := h2.size; omega, fun b h3 h4 h5 h6 h7 => ?_⟩
    ·rcases HPX.out with k | ⟨z, k, hz⟩
     ·exact h5 y (k ▸ e)
     ·rw [k] at e
      have := Option.some.inj e
      have := HW.out.lt
      omega
    ·rcases HTX.out with k | ⟨z, k, hz⟩
     ·exact h6 y (k ▸ e)
     ·rw [k] at e
      have := Option.some.inj e
      have := HW.out.lt
      omega
    ·rw [h2.other b (by omega) h4 h5 (hnx b h3 h6) (fun e => by
      rcases HTX.out with k | ⟨z, k, hz⟩
      ·exact h7 (e.trans k)
      ·rw [k] at e
       have := Option.some.inj e
       omega), HFm.out.other b h3 h4 h5 h6 h7]
   clear hU hM hM2 hwr hbt hfm hpx htx
   go_wp2_with fail
   refine cN.mono ?_
   intro ee W2 hA2
   cases U with
   | error z =>
    obtain ⟨rfl, hf2⟩ := hA2
    have hT := HM.out
    subst hT
    exact ⟨rfl, rfl, HC.out W2 hf2⟩
   | ok aa =>
    obtain ⟨⟨v8, rfl⟩, hf2, X2, tv2, hx2, hx3, ⟨Pv2, hP2, hwr2⟩, hbt2, hat2⟩ := hA2
    subst hP2
    have hfa := HFF.out q x aa hx0 HUE.out
    have HE : Hid (∃ (q' : Nat) (x : Int) (F : List T) (Pv' tv' : Value), q' = q + 1 /\ gl f (n - q') q' x F = T0 /\ Wr K m W2 B Bb Pv' sv x L /\ Bt lo W2 Bb Pv'.ownBlock tv' (F0 ++ F) /\ ((F0 ++ F).length : Int) + x <= 65536 /\ 0 <= x /\ Fm B Bb Pv.ownBlock tv.ownBlock w W2 /\ (Pv'.ownBlock = Pv.ownBlock \/ ∃ y, Pv'.ownBlock = some y /\ w.heap.size <= y) /\ (tv'.ownBlock = tv.ownBlock \/ ∃ y, tv'.ownBlock = some y /\ w.heap.size <= y)) := by
     refine ⟨q + 1, aa.2, F ++ aa.1, Pv2, tv2, rfl, HM.out, hwr2, by rw [<- List.append_assoc]; exact hbt2, by rw [<- List.append_assoc, List.length_append]; omega, hfa.2, HC.out W2 hf2, ?_, ?_⟩
     ·rcases hx2 with k | ⟨y, k, hy⟩
      ·rcases HPX.out with k' | ⟨y, k', hy⟩
       ·exact .inl (k.trans k')
       ·exact .inr ⟨y, k.trans k', hy⟩
      ·exact .inr ⟨y, k, by omega⟩
     ·rcases hat2 with k | ⟨y, k, hy⟩
      ·rcases HTX.out with k' | ⟨y, k', hy⟩
       ·exact .inl (k.trans k')
       ·exact .inr ⟨y, k.trans k', hy⟩
      ·exact .inr ⟨y, k, by omega⟩
    clear hwr2 hbt2 hx2 hx3 hf2 hfa cN hat2
    go_wp2_with fail
    go_roundw
    case rel =>
     obtain ⟨q', x', F', Pv3, tv3, rfl, h1, h2, h3, h4, h5, h6, h7⟩ := HE.out
     exact ⟨q + 1, x', F', Pv3, tv3, by go_num, by omega, h1, h2, h3, h4, h5, h6, h7⟩
    case measure => simp only [intOf]; omega
  ·obtain rfl : q = n := by omega
   have hnlt : decide ((q : Int) < (q : Int)) = false := by simp
   rw [Nat.sub_self] at hM
   have HM := hid hM
   have HBt := hid hbt
   clear hM hwr hbt hfm hpx htx
   go_wp2_with fail
   go_end0
   have hT := HM.out
   subst hT
   exact ⟨⟨_, rfl⟩, HFm.out, Pv'.ownBlock, tv', HPX.out, fun y e => (HWR.out.xb y e).2.1, ⟨Pv', rfl, HWR.out⟩, HBt.out, HTX.out⟩
end Go.Proofs.YtiijfmdfccdagaaGreatDoor.GLB
namespace Go.Proofs.YtiijfmdfccdagaaGreatDoor.GLk
open Tak
open Go.RowKit Base VSm GEn GBu GBe GNs GNo GPu GRn GNg GKy
open VPure hiding evL
open TBase (T)
theorem fm_trans {B Bb : Nat} {X Y X1 Y1 : Option Nat} {w w1 w2 : World} (h : Fm B Bb X Y w w1) (k : Fm B Bb X1 Y1 w1 w2) (hX : X1 = X \/ ∃ x, X1 = some x /\ w.heap.size <= x) (hY : Y1 = Y \/ Y1 = none \/ ∃ y, Y1 = some y /\ w.heap.size <= y) (hB : B < w.heap.size) : Fm B Bb X Y w w2 := by
 have hs := h.size
 refine ⟨fun n h1 h2 h3 h4 => (h.below n h1 h2 h3 h4).trans (k.below n h1 h2 (fun x e => ?_) (fun y e => ?_)), Nat.le_trans h.size k.size, fun b h1 h2 h3 h4 h5 => (k.other b (by omega) h2 h3 (fun e => ?_) (fun e => ?_)).trans (h.other b h1 h2 h3 h4 h5)⟩
 ·rcases hX with q | ⟨z, q, hz⟩
  ·exact h3 x (q ▸ e)
  ·rw [q] at e; have := Option.some.inj e; omega
 ·rcases hY with q | q | ⟨z, q, hz⟩
  ·exact h4 y (q ▸ e)
  ·rw [q] at e; cases e
  ·rw [q] at e; have := Option.some.inj e; omega
 ·rcases hX with q | ⟨z, q, hz⟩
  ·exact h4 (e.trans q)
  ·rw [q] at e; have := Option.some.inj e; omega
 ·rcases hY with q | q | ⟨z, q, hz⟩
  ·exact h5 (e.trans q)
  ·rw [q] at e; cases e
  ·rw [q] at e; have := Option.some.inj e; omega
theorem fm_wk {B Bb : Nat} {X Y : Option Nat} {w w' : World} (h : Fm B B X Y w w') : Fm B Bb X Y w w' := ⟨fun n h1 _ h3 h4 => h.below n h1 h1 h3 h4, h.size, fun b h1 h2 _ h4 h5 => h.other b h1 h2 h2 h4 h5⟩
theorem bt_move {lo Bb : Nat} {w w' : World} {X X' : Option Nat} {tv : Value} {F : List T} (h : Bt lo w Bb X tv F) (hs : w.heap.size <= w'.heap.size) (hb : w'.heap[Bb]? = w.heap[Bb]?) (ho : ∀ b, lo <= b -> b < w.heap.size -> some b ≠ X -> w'.heap[b]? = w.heap[b]?) (hx : X' = X \/ ∃ x, X' = some x /\ w.heap.size <= x) : Bt lo w' Bb X' tv F := by
 obtain ⟨us, how, hus, hel⟩ := h.own
 have hne : ∀ b, b < w.heap.size -> some b ≠ X -> some b ≠ X' := by
  intro b hb h0 e
  rcases hx with k | ⟨y, k, hy⟩
  ·exact h0 (e.trans k)
  ·rw [k] at e; have := Option.some.inj e; omega
 refine ⟨hb.trans h.box, h.lob, Nat.le_trans h.hi hs, fun g hg => hne g (World.ownsRow.lt how.1 g hg).2 (h.xne g hg), us, ⟨Fresh.own_keep how.1 (fun g hg => ho g (World.ownsRow.lt how.1 g hg).1 (World.ownsRow.lt how.1 g hg).2 (h.xne g hg)), how.2⟩, hus, fun j h1 h2 => ?_⟩
 obtain ⟨m, hi⟩ := hel j h1 h2
 refine ⟨m, ?_⟩
 have hi2 : TBase.In false (fun b => Es lo w.heap.size X tv b) w' m us[j] F[j] := hi.keep (w' := w') (fun b hb _ => ho b hb.1 hb.2.1 hb.2.2.1)
 exact hi2.weak (fun b hb => ⟨hb.1, Nat.lt_of_lt_of_le hb.2.1 hs, hne b hb.2.1 hb.2.2.1, hb.2.2.2⟩) false id m (Nat.le_refl _)
theorem round_c {K m lo q num : Nat} {W : World} {B Bb b0 bl b1 b2 : Nat} {Pv tv lsv fv pv xv lv uv : Value} {sv : Sz} {x k : Int} {t : ByteArray} {L l : List C} {F : List T} {A : Except Nat (List T × Int)} (hw : Wr K m W B Bb Pv sv x L) (hb : Bt lo W Bb Pv.ownBlock tv F) (hBlo : B < lo) (hF : (F.length : Int) + x <= 65536)
  (g0 : W.heap[b0]? = some (.cells #[ptr B] 130 (0, 0))) (gl : W.heap[bl]? = some (.cells #[lsv] 24 (0, 0))) (g1 : W.heap[b1]? = some (.cells #[.int .i64 k, .string t, fv, pv, xv, lv, uv] 45 (0, 0))) (g2 : W.heap[b2]? = some (.cells #[.int .i64 num] 3 (0, 0)))
  (hbx : ∀ b, b = b0 \/ b = bl \/ b = b1 \/ b = b2 -> (b ≠ B /\ b ≠ Bb) /\ some b ≠ Pv.ownBlock /\ some b ≠ tv.ownBlock) (hl : Base.InL false (fun b => b < K) W m lsv l) (hq : q < l.length) (hq9 : q <= 90000) (hwf : wf l[q]) (hL2 : L.length + 2 <= 100000) (h0 : 0 < L.length) (hnum : num <= 100000)
  (hN : ∀ W' Pv', Wr K m W' B Bb Pv' sv x (L ++ [l[q], iV q]) -> Bt lo W' Bb Pv'.ownBlock tv F -> Below K W W' -> Calls prog 48 #[ptr B, lv, .int .i64 ((num : Int) + 1)] W' fun e w' => LR (Rs K m B Bb sv (L ++ [l[q], iV q])) lo B Bb Pv'.ownBlock tv F W' A e w') :
  Calls prog 142 #[.int .i64 q, ptr b0, ptr bl, ptr b1, ptr b2] W fun e w' => LR (Rs K m B Bb sv L) lo B Bb Pv.ownBlock tv F W A e w' := by
 have hBw := hw.lt
 have hBbw := (Array.getElem?_eq_some_iff.1 hb.box).1
 obtain ⟨la, lcap, rfl, hlc, hcm, hlen, hnil, hLA⟩ := hl
 obtain ⟨g, o, u, rfl, hgK, hu, hi⟩ := elem_at hLA hq
 obtain ⟨c, hc⟩ : ∃ c, l[q] = c := ⟨_, rfl⟩
 rw [hc] at hi hwf hN
 obtain ⟨an, ln, cn, al, ll, cl, rfl⟩ := VRs.in_shape hi
 obtain ⟨v0, v1, v2, v3, v4, v5, he, k0, k1, k2, k3, k4, k5⟩ := hu
 simp only [Value.agg.injEq, Array.mk.injEq, List.cons.injEq, and_true] at he
 obtain ⟨rfl, rfl, rfl, rfl, rfl, rfl⟩ := he
 have hKB := hw.lB
 have hgl := (Array.getElem?_eq_some_iff.1 gl).1
 have hg0 := (Array.getElem?_eq_some_iff.1 g0).1
 have hg1 := (Array.getElem?_eq_some_iff.1 g1).1
 have hg2 := (Array.getElem?_eq_some_iff.1 g2).1
 have HBX : Hid (∀ W' : World, (∀ b, b < W.heap.size -> (b ≠ B /\ b ≠ Bb) -> some b ≠ Pv.ownBlock -> W'.heap[b]? = W.heap[b]?) -> W'.heap[b0]? = some (.cells #[ptr B] 130 (0, 0)) /\ W'.heap[bl]? = some (.cells #[.slice (some ⟨g, o, none⟩) l.length lcap] 24 (0, 0)) /\ W'.cell? ⟨g, o + q * 6, none⟩ = some (.int .i64 c.k) /\ W'.cell? ⟨g, o + q * 6 + 1, none⟩ = some (.bool c.b) /\ W'.cell? ⟨g, o + q * 6 + 2, none⟩ = some (.int .i64 c.i) /\ W'.cell? ⟨g, o + q * 6 + 3, none⟩ = some (.string c.s) /\ W'.cell? ⟨g, o + q * 6 + 4, none⟩ = some (.slice an ln cn) /\ W'.cell? ⟨g, o + q * 6 + 5, none⟩ = some (.slice al ll cl)) := by
  intro W' hW
  have hgb : W'.heap[g]? = W.heap[g]? := hW g (by omega) ⟨by omega, by have := hw.lb; omega⟩ (fun e => by have := (hw.xb g e.symm).1; omega)
  exact ⟨(hW b0 hg0 (hbx b0 (.inl rfl)).1 (hbx b0 (.inl rfl)).2.1).trans g0, (hW bl hgl (hbx bl (.inr (.inl rfl))).1 (hbx bl (.inr (.inl rfl))).2.1).trans gl, (World.cell?_of_block (w := W) hgb).trans k0, (World.cell?_of_block (w := W) hgb).trans k1, (World.cell?_of_block (w := W) hgb).trans k2, (World.cell?_of_block (w := W) hgb).trans k3, (World.cell?_of_block (w := W) hgb).trans k4, (World.cell?_of_block (w := W) hgb).trans k5⟩
 have hBbB : Bb ≠ B := fun e => hw.ne e.symm
 have hBbX : some Bb ≠ Pv.ownBlock := fun e => (hw.xb Bb e.symm).2.2.2 rfl
 have HW := hid hw
 have HBT := hid hb
 have HIN := hid hi
 have HWF := hid hwf
 have HNN := hid hN
 have HBQ := hid hbx
 have HG1 := hid g1
 have HG2 := hid g2
 have p0 := one_b g0
 have pl := one_b gl
 have i0 : (0 : Int) <= (q : Int) := by omega
 have i1 : (q : Int) < (l.length : Int) := by omega
 obtain ⟨e0, e1, e2, e3, e4, e5⟩ := And.intro k0 (And.intro k1 (And.intro k2 (And.intro k3 (And.intro k4 k5))))
 clear hw hb hi hwf hN hbx g0 gl g1 g2 hLA hc k0 k1 k2 k3 k4 k5 hnil
 go_enter func142, ntmps142
 go_wp2_with fail
 refine wp_region_held_drew (S := fun w' => w'.cell? ⟨b0, 0, none⟩ = some (ptr B) /\ w'.cell? ⟨bl, 0, none⟩ = some (.slice (some ⟨g, o, none⟩) l.length lcap) /\ w'.cell? ⟨g, o + q * 6, none⟩ = some (.int .i64 c.k) /\ w'.cell? ⟨g, o + q * 6 + 1, none⟩ = some (.bool c.b) /\ w'.cell? ⟨g, o + q * 6 + 2, none⟩ = some (.int .i64 c.i) /\ w'.cell? ⟨g, o + q * 6 + 3, none⟩ = some (.string c.s) /\ w'.cell? ⟨g, o + q * 6 + 4, none⟩ = some (.slice an ln cn) /\ w'.cell? ⟨g, o + q * 6 + 5, none⟩ = some (.slice al ll cl)) (by kernel_rfl) (by exact ⟨p0, pl, e0, e1, e2, e3, e4, e5⟩) (fun hHeld => ?_)
 refine tkH 0 rfl ?_; try simp only [ptH]
 refine tkH 1 rfl ?_; try simp only [ptH]
 refine tkH 2 rfl ?_; try simp only [ptH]
 refine tkH 3 rfl ?_; try simp only [ptH]
 refine tkH 4 rfl ?_; try simp only [ptH]
 refine tkH 5 rfl ?_; try simp only [ptH]
 refine tkH 6 rfl ?_; try simp only [ptH]
 refine tkH 7 rfl ?_; try simp only [ptH]
 refine rdH [8] ?_
 refine alH rfl fun K0 hK => ?_
 go_simp
 refine (whole_c q W.drew).mono ?_
 rintro ee W2 ⟨rfl, b2d⟩
 have bb2 : Below W.heap.size W W2 := (Below.refl _ W).drew.trans b2d
 have s2 := bb2.size
 have p0 := one_b (HBX.out W2 (fun b h1 h2 h3 => bb2.block b h1)).1
 have pl := one_b (HBX.out W2 (fun b h1 h2 h3 => bb2.block b h1)).2.1
 obtain ⟨e0, e1, e2, e3, e4, e5⟩ := (HBX.out W2 (fun b h1 h2 h3 => bb2.block b h1)).2.2
 refine hK.out _ _ (by exact ⟨p0, pl, e0, e1, e2, e3, e4, e5⟩) (fun hHeld => ?_)
 clear hK K0
 try simp only [ptH]
 obtain ⟨W3, hW3⟩ : ∃ W', W2.alloc (.cells #[.int .i64 c.k, .bool c.b, .int .i64 c.i, .string c.s, .slice an ln cn, .slice al ll cl, .int .i64 3, .bool false, .int .i64 q, .string ⟨#[]⟩, .slice none 0 0, .slice none 0 0] 26) = W' := ⟨_, rfl⟩
 have b3 := alB hW3
 have s3 := alS hW3
 have b13 := bb2.trans (b3.mono s2)
 have hnc : ∀ j u, (flat [.agg #[.int .i64 c.k, .bool c.b, .int .i64 c.i, .string c.s, .slice an ln cn, .slice al ll cl], .agg #[.int .i64 3, .bool false, .int .i64 q, .string ⟨#[]⟩, .slice none 0 0, .slice none 0 0]])[j]? = some u -> W3.cell? ((⟨W2.heap.size, 0, none⟩ : Addr).add j) = some u := by
  rw [<- hW3]
  exact Base.new_cells W2 _ 26
 have cP := push_c (cp := 2) (N := [c, iV q]) (Ns := [.agg #[.int .i64 c.k, .bool c.b, .int .i64 c.i, .string c.s, .slice an ln cn, .slice al ll cl], .agg #[.int .i64 3, .bool false, .int .i64 q, .string ⟨#[]⟩, .slice none 0 0, .slice none 0 0]]) (HW.out.below b13) (by simpa using hL2) (by omega) rfl (fun u hu => ?_) (fun j a b => ?_) (fun c' hc' => ?_) hnc
 rotate_left 1
 ·rcases List.mem_cons.1 hu with e | hu
  ·rw [e]; exact ⟨_, _, _, _, _, _, rfl, by simp [Value.oneCell']⟩
  ·rw [List.mem_singleton.1 hu]; exact ⟨_, _, _, _, _, _, rfl, by simp [Value.oneCell']⟩
 ·match j, a with
  | 0, _ => exact (HIN.out.below b13).weak (fun _ h => h) false id _ (by omega)
  | 1, _ => exact int_in W3 (fun b => b < K) m q (by omega)
  | j + 2, a => simp at a; omega
 ·rcases List.mem_cons.1 hc' with e | hc'
  ·rw [e]; exact HWF.out
  ·rw [List.mem_singleton.1 hc']; exact int_wf q
 have HW3 := hid hW3
 have p0 := one_b (HBX.out W3 (fun b h1 h2 h3 => b13.block b h1)).1
 have pl := one_b (HBX.out W3 (fun b h1 h2 h3 => b13.block b h1)).2.1
 obtain ⟨e0, e1, e2, e3, e4, e5⟩ := (HBX.out W3 (fun b h1 h2 h3 => b13.block b h1)).2.2
 refine rdH [9] ?_
 refine alH rfl fun K0 hK => ?_
 go_simp
 try rw [HW3.out]
 refine hK.out _ _ (by exact ⟨p0, pl, e0, e1, e2, e3, e4, e5⟩) (fun hHeld => ?_)
 clear hK K0
 try simp only [ptH]
 refine rdH [10] ?_
 refine alH rfl fun K0 hK => ?_
 go_simp
 refine cP.mono ?_
 rintro ee W4 ⟨⟨v4, rfl⟩, Pv4, hw4, hat4, hf4⟩
 have s4 := hf4.size
 have hfW : Fm B Bb Pv.ownBlock tv.ownBlock W W4 := fm_trans (fm_below b13 hBw) (fm_wk hf4) (.inl rfl) (.inr (.inl rfl)) hBw
 have hX4 : Pv4.ownBlock = Pv.ownBlock \/ ∃ y, Pv4.ownBlock = some y /\ W.heap.size <= y := hat4.imp (fun e => e) (fun ⟨y, e, hy⟩ => ⟨y, e, by omega⟩)
 have hbb4 : W4.heap[Bb]? = W.heap[Bb]? := (hf4.other Bb (by omega) hBbB hBbB hBbX (by simp)).trans (b13.block Bb hBbw)
 have hbt4 : Bt lo W4 Bb Pv4.ownBlock tv F := bt_move HBT.out (by omega) hbb4 (fun b h1 h2 h3 => (hf4.other b (by omega) (by omega) (by omega) h3 (by simp)).trans (b13.block b h2)) hX4
 have HO4 : Hid (∀ b, b < W.heap.size -> b ≠ B -> b ≠ Bb -> some b ≠ Pv.ownBlock -> W4.heap[b]? = W.heap[b]?) := fun b h1 h2 h3 h4 => (hf4.other b (by omega) h2 h2 h4 (by simp)).trans (b13.block b h1)
 have p0 := one_b (HBX.out W4 (fun b h1 h2 h3 => HO4.out b h1 h2.1 h2.2 h3)).1
 have pl := one_b (HBX.out W4 (fun b h1 h2 h3 => HO4.out b h1 h2.1 h2.2 h3)).2.1
 obtain ⟨e0, e1, e2, e3, e4, e5⟩ := (HBX.out W4 (fun b h1 h2 h3 => HO4.out b h1 h2.1 h2.2 h3)).2.2
 refine hK.out _ _ (by exact ⟨p0, pl, e0, e1, e2, e3, e4, e5⟩) (fun hHeld => ?_)
 clear hK K0
 try simp only [ptH]
 refine dnH ?_
 have hne0 : ∀ b, b = b0 \/ b = bl \/ b = b1 \/ b = b2 -> b < W.heap.size := by
  intro b hb
  rcases hb with rfl | rfl | rfl | rfl
  ·exact hg0
  ·exact hgl
  ·exact hg1
  ·exact hg2
 have hc1 := (HO4.out b1 hg1 (HBQ.out b1 (.inr (.inr (.inl rfl)))).1.1 (HBQ.out b1 (.inr (.inr (.inl rfl)))).1.2 (HBQ.out b1 (.inr (.inr (.inl rfl)))).2.1).trans HG1.out
 have hc2 := (HO4.out b2 hg2 (HBQ.out b2 (.inr (.inr (.inr rfl)))).1.1 (HBQ.out b2 (.inr (.inr (.inr rfl)))).1.2 (HBQ.out b2 (.inr (.inr (.inr rfl)))).2.1).trans HG2.out
 obtain ⟨-, -, -, -, -, y5, -⟩ := seven_b hc1
 have y2 := one_b hc2
 have hwn : IntKind.i64.wrap ((num : Int) + 1) = (num : Int) + 1 := by rw [IntKind.wrap_i64]; omega
 have htl : ∀ y, tv.ownBlock = some y -> K <= y := fun y hy => by have := (bt_own HBT.out y hy).1; omega
 have bK := hfW.below K hKB HW.out.lb (fun y hy => (HW.out.xb y hy).1) htl
 have cN := HNN.out W4 Pv4 hw4 hbt4 bK
 have HFW := hid hfW
 have HX4 := hid hX4
 clear hfW hX4 hw4 hbt4 hf4 hat4 hbb4 bK htl hc1 hc2 cP
 go_wp2_with fail
 refine cN.mono ?_
 intro ee W5 hA5
 cases A with
 | error z =>
  obtain ⟨rfl, hf5⟩ := hA5
  exact ⟨rfl, rfl, fm_trans HFW.out hf5 HX4.out (.inl rfl) hBw⟩
 | ok a =>
  obtain ⟨⟨v5, rfl⟩, hf5, X5, tv5, hx5, hx5l, ⟨Pv5, hP5, hw5⟩, hbt5, hat5⟩ := hA5
  subst hP5
  have s5 := hf5.size
  have hb5 : W5.heap[b0]? = _ := (hf5.other b0 (by omega) (HBQ.out b0 (.inl rfl)).1.1 (HBQ.out b0 (.inl rfl)).1.2 (fun e => by
   rcases HX4.out with k | ⟨y, k, hy⟩
   ·exact (HBQ.out b0 (.inl rfl)).2.1 (e.trans k)
   ·rw [k] at e; have := Option.some.inj e; omega) (HBQ.out b0 (.inl rfl)).2.2).trans (HBX.out W4 (fun b h1 h2 h3 => HO4.out b h1 h2.1 h2.2 h3)).1
  have hX5 : Pv5.ownBlock = Pv.ownBlock \/ ∃ y, Pv5.ownBlock = some y /\ W.heap.size <= y := by
   rcases hx5 with k | ⟨y, k, hy⟩
   ·rcases HX4.out with k' | ⟨y, k', hy⟩
    ·exact .inl (k.trans k')
    ·exact .inr ⟨y, k.trans k', hy⟩
   ·exact .inr ⟨y, k, by omega⟩
  have HF5 := hid (fm_trans HFW.out hf5 HX4.out (.inl rfl) hBw)
  have cD := drop_c (N := [c, iV q]) hw5 h0
  have p5 := one_b hb5
  have HX5 := hid hX5
  have HBT5 := hid hbt5
  have HAT5 : Hid (tv5.ownBlock = tv.ownBlock \/ ∃ g, tv5.ownBlock = some g /\ W.heap.size <= g) := hat5.imp (fun e => e) (fun ⟨y, e, hy⟩ => ⟨y, e, by omega⟩)
  have hW5x : some Bb ≠ Pv5.ownBlock := fun e => (hw5.xb Bb e.symm).2.2.2 rfl
  clear hf5 hx5 hx5l hw5 hbt5 hat5 hX5 hb5 cN p0 pl e0 e1 e2 e3 e4 e5 y5 y2
  go_wp2_with fail
  refine cD.mono ?_
  rintro e W6 ⟨⟨v6, rfl⟩, Pv6, hw6, hp6, hf6⟩
  have HE : Hid (Fm B Bb Pv.ownBlock tv.ownBlock W W6 /\ Bt lo W6 Bb Pv6.ownBlock tv5 (F ++ a.1) /\ (Pv6.ownBlock = Pv.ownBlock \/ ∃ y, Pv6.ownBlock = some y /\ W.heap.size <= y)) := by
   refine ⟨fm_trans HF5.out (fm_wk hf6) HX5.out (.inr (.inl rfl)) hBw, bt_move HBT5.out hf6.size (hf6.other Bb (by omega) hBbB hBbB hW5x (by simp)) (fun b h1 h2 h3 => hf6.other b h2 (by omega) (by omega) h3 (by simp)) (.inl hp6), ?_⟩
   rw [hp6]
   exact HX5.out
  have HW6 := hid hw6
  clear cD hp6 hf6 hw6
  go_wp2_with fail
  go_end0
  exact ⟨⟨_, rfl⟩, HE.out.1, Pv6.ownBlock, tv5, HE.out.2.2, fun y e => (HW6.out.xb y e).2.1, ⟨Pv6, rfl, HW6.out⟩, HE.out.2.1, HAT5.out⟩
end Go.Proofs.YtiijfmdfccdagaaGreatDoor.GLk
