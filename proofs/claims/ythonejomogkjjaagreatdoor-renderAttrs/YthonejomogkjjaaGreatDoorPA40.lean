import Derived.Test.YthonejomogkjjaaGreatDoorPA05
import Derived.Test.YthonejomogkjjaaGreatDoorPA25
import Derived.Test.YthonejomogkjjaaGreatDoorPA34
import Derived.Test.YthonejomogkjjaaGreatDoorPA38
import Derived.Test.YthonejomogkjjaaGreatDoorPA39
set_option linter.unusedVariables false
set_option maxRecDepth 20000
namespace Go.Proofs.YthonejomogkjjaaGreatDoor.GRn
open Go.RowKit Base EPure JPure GPl GTr GNo GNe
open VPure hiding evL
open TBase (T)
open KBase (Pt Fld Co)
def rnL (f : Co → Int → Except Nat (List T × Int)) : List Co → Int → List T → Except Nat (List T × Int)
 | [], r, F => .ok (F, r)
 | c :: cs, r, F => bnd (f c r) fun a => rnL f cs a.2 (F ++ a.1)
def lp (f : Nat → C → Int → Except Nat (List T × Int)) : List C → Nat → Int → List T → Except Nat (List T × Int)
 | [], _, r, F => .ok (F, r)
 | v :: t, i, r, F => bnd (f i v r) fun a => lp f t (i + 1) a.2 (F ++ a.1)
def iV (i : Int) : C := .mk 3 false i ⟨#[]⟩ [] []
def kin (k : Int × Int × ByteArray) (ks : List (Int × Int × ByteArray)) : Bool := ks.any fun j => decide (j.1 = k.1) && decide (j.2.1 = k.2.1) && decide (j.2.2.data = k.2.2.data)
def kys (L : List C) (x : Ex) : List C → Nat → List (Int × Int × ByteArray) → Except Nat (List (Int × Int × ByteArray))
 | [], _, ks => .ok ks
 | v :: t, i, ks => bnd (bnd (ev (rh (L ++ [v, iV i])) x) isK) fun k => if kin k ks = true then .error 1600 else kys L x t (i + 1) (ks ++ [k])
def wth : List C → List Ex → Except Nat (List C)
 | L, [] => .ok L
 | L, x :: t => bnd (ev (rh L) x) fun v => wth (L ++ [v]) t
def one (A : Except Nat (T × Int)) : Except Nat (List T × Int) := bnd A fun a => .ok ([a.1], a.2)
def x0 (c : Co) : Ex := c.x.getD 0 (.mk 0 0 ⟨#[]⟩ [])
def x1 (c : Co) : Ex := c.x.getD 1 (.mk 0 0 ⟨#[]⟩ [])
def rn : Nat → List C → Co → Int → Except Nat (List T × Int)
 | 0, _, _, _ => .error 1108
 | n + 1, L, c, r =>
  if c.k = 1 then one (nT L c.p r)
  else if c.k = 2 then one (nE L c.t c.f (rnL (rn n L) c.l (r - 1) []) r)
  else if c.k = 3 then bnd (bnd (ev (rh L) (x0 c)) isT) fun b => rnL (rn n L) (if b = true then c.l else c.u) r []
  else if c.k = 4 then bnd (bnd (ev (rh L) (x0 c)) isL) fun l => bnd (kys L (x1 c) l 0 []) fun _ => lp (fun i v x => rnL (rn n (L ++ [v, iV i])) c.l x []) l 0 r []
  else bnd (wth L c.x) fun L' => rnL (rn n L') c.l r []
theorem bnd_ok {α β : Type} {A : Except Nat α} {f : α → Except Nat β} {b : β} (h : bnd A f = .ok b) : ∃ a, A = .ok a ∧ f a = .ok b := by
 cases A with
 | error q => cases h
 | ok a => exact ⟨a, rfl, h⟩
theorem rnL_le {f : Co → Int → Except Nat (List T × Int)} (hf : ∀ c x a, 0 ≤ x → f c x = .ok a → (a.1.length : Int) + a.2 ≤ x ∧ 0 ≤ a.2) : ∀ (cs : List Co) (r : Int) (F : List T) (a : List T × Int), 0 ≤ r → rnL f cs r F = .ok a → (a.1.length : Int) + a.2 ≤ F.length + r ∧ 0 ≤ a.2
 | [], r, F, a, hr, h => by
  injection h with h
  subst h
  exact ⟨Int.le_refl _, hr⟩
 | c :: cs, r, F, a, hr, h => by
  obtain ⟨b, h1, h2⟩ := bnd_ok h
  have i1 := hf c r b hr h1
  have i2 := rnL_le hf cs b.2 (F ++ b.1) a i1.2 h2
  rw [List.length_append] at i2
  omega
theorem lp_le {f : Nat → C → Int → Except Nat (List T × Int)} (hf : ∀ i v x a, 0 ≤ x → f i v x = .ok a → (a.1.length : Int) + a.2 ≤ x ∧ 0 ≤ a.2) : ∀ (l : List C) (i : Nat) (r : Int) (F : List T) (a : List T × Int), 0 ≤ r → lp f l i r F = .ok a → (a.1.length : Int) + a.2 ≤ F.length + r ∧ 0 ≤ a.2
 | [], i, r, F, a, hr, h => by
  injection h with h
  subst h
  exact ⟨Int.le_refl _, hr⟩
 | c :: cs, i, r, F, a, hr, h => by
  obtain ⟨b, h1, h2⟩ := bnd_ok h
  have i1 := hf i c r b hr h1
  have i2 := lp_le hf cs (i + 1) b.2 (F ++ b.1) a i1.2 h2
  rw [List.length_append] at i2
  omega
theorem rn_le : ∀ (n : Nat) (L : List C) (c : Co) (r : Int) (a : List T × Int), 0 ≤ r → rn n L c r = .ok a → (a.1.length : Int) + a.2 ≤ r ∧ 0 ≤ a.2
 | 0, L, c, r, a, hr, h => by cases h
 | n + 1, L, c, r, a, hr, h => by
  have ih : ∀ L c x a, 0 ≤ x → rn n L c x = .ok a → (a.1.length : Int) + a.2 ≤ x ∧ 0 ≤ a.2 := fun L c x a => rn_le n L c x a
  rw [rn] at h
  split at h
  ·obtain ⟨b, h1, h2⟩ := bnd_ok h
   injection h2 with h2
   subst h2
   unfold nT at h1
   split at h1
   ·cases h1
   ·obtain ⟨s, h3, h4⟩ := bnd_ok h1
    injection h4 with h4
    subst h4
    simp
    omega
  ·split at h
   ·obtain ⟨b, h1, h2⟩ := bnd_ok h
    injection h2 with h2
    subst h2
    unfold nE at h1
    split at h1
    ·cases h1
    ·obtain ⟨s, h3, h4⟩ := bnd_ok h1
     obtain ⟨d, h5, h6⟩ := bnd_ok h4
     injection h6 with h6
     subst h6
     have := rnL_le (ih L) c.l (r - 1) [] d (by omega) h5
     simp at this ⊢
     omega
   ·split at h
    ·obtain ⟨b, h1, h2⟩ := bnd_ok h
     have := rnL_le (ih L) _ r [] a hr h2
     simpa using this
    ·split at h
     ·obtain ⟨l, h1, h2⟩ := bnd_ok h
      obtain ⟨ks, h3, h4⟩ := bnd_ok h2
      have := lp_le (fun i v x a hx ha => by have := rnL_le (ih (L ++ [v, iV i])) c.l x [] a hx ha; simpa using this) l 0 r [] a hr h4
      simpa using this
     ·obtain ⟨L', h1, h2⟩ := bnd_ok h
      have := rnL_le (ih L') c.l r [] a hr h2
      simpa using this
end Go.Proofs.YthonejomogkjjaaGreatDoor.GRn
namespace Go.Proofs.YthonejomogkjjaaGreatDoor.GNg
open Go.RowKit Base EPure JPure VSm VIn VJn VRs JVr JVa JRv GPl GVa GTr GEn GAt GAs GTx GBu GBt GBe GNs GNo
open VPure hiding evL
open TBase (T)
open KBase (Pt Fld Co RP RF)
def LR (R : Int → World → Option Nat → Prop) (lo B Bb : Nat) (X : Option Nat) (tv : Value) (F : List T) (w : World) (A : Except Nat (List T × Int)) (e : Ending) (w' : World) : Prop := match A with
 | .ok a => (∃ v, e = .returned v) ∧ Fm B Bb X tv.ownBlock w w' ∧ ∃ X' tv', (X' = X ∨ ∃ x, X' = some x ∧ w.heap.size ≤ x) ∧ (∀ x, X' = some x → x < w'.heap.size) ∧ R a.2 w' X' ∧ Bt lo w' Bb X' tv' (F ++ a.1) ∧ (tv'.ownBlock = tv.ownBlock ∨ ∃ g, tv'.ownBlock = some g ∧ w.heap.size ≤ g)
 | .error q => e = .panicked (pkE q) ∧ Fm B Bb X tv.ownBlock w w'
theorem ER.lr {R : Int → World → Option Nat → Prop} {lo B Bb : Nat} {X : Option Nat} {tv : Value} {F : List T} {w : World} {A : Except Nat (T × Int)} {e : Ending} {w' : World} (h : ER R lo B Bb X tv F w A e w') : LR R lo B Bb X tv F w (GRn.one A) e w' := by
 cases A with
 | error q => exact h
 | ok a => exact h
def gl (f : Nat → Int → Except Nat (List T × Int)) : Nat → Nat → Int → List T → Except Nat (List T × Int)
 | 0, _, r, F => .ok (F, r)
 | n + 1, q, r, F => bnd (f q r) fun a => gl f n (q + 1) a.2 (F ++ a.1)
theorem gl_rnL {f : Nat → Int → Except Nat (List T × Int)} {g : Co → Int → Except Nat (List T × Int)} {cs : List Co} (hfg : ∀ q (h : q < cs.length), f q = g cs[q]) : ∀ (n q : Nat) (x : Int) (F : List T), n + q = cs.length → gl f n q x F = GRn.rnL g (cs.drop q) x F
 | 0, q, x, F, h => by rw [List.drop_eq_nil_of_le (by omega)]; rfl
 | n + 1, q, x, F, h => by
  rw [List.drop_eq_getElem_cons (by omega : q < cs.length), gl, hfg q (by omega), GRn.rnL]
  congr 1
  funext a
  exact gl_rnL hfg n (q + 1) a.2 (F ++ a.1) (by omega)
set_option maxHeartbeats 6400000 in
theorem nodes_of {K m mc lo : Nat} {w : World} {tv : Value} {F0 : List T} {B Bb : Nat} {Pv : Value} {sv : Sz} {r : Int} {L : List C} {cv : Value} {cs : List Co} {nb : Nat → Nat} {f : Nat → Int → Except Nat (List T × Int)} (h : Wr K m w B Bb Pv sv r L) (hr : 0 ≤ r ∧ r ≤ 65536) (hb : Bt lo w Bb Pv.ownBlock tv F0) (hFr : (F0.length : Int) + r ≤ 65536) (hin : KBase.InL false (fun b => b < K) w mc cv cs)
  (hnb : ∀ q, q < cs.length → ∃ h : nb q < sv.2.1.length, sv.2.1[nb q] = ((nb (q + 1) : Int) - nb q) ∧ nb q ≤ 100000 ∧ nb (q + 1) ≤ 100000) (hf : ∀ q x a, 0 ≤ x → f q x = .ok a → (a.1.length : Int) + a.2 ≤ x ∧ 0 ≤ a.2)
  (hone : ∀ q (h : q < cs.length) W Pv' x F tv' u, KBase.In false (fun b => b < K) w mc u cs[q] → Below K w W → Wr K m W B Bb Pv' sv x L → Bt lo W Bb Pv'.ownBlock tv' F → (F.length : Int) + x ≤ 65536 → 0 ≤ x → Calls Tryz.prog 130 #[ptr B, u, .int .i64 (nb q)] W fun e w' => LR (Rs K m B Bb sv L) lo B Bb Pv'.ownBlock tv' F W (f q x) e w') :
  Calls Tryz.prog 87 #[ptr B, cv, .int .i64 (nb 0)] w fun e w' => LR (Rs K m B Bb sv L) lo B Bb Pv.ownBlock tv F0 w (gl f cs.length 0 r []) e w' := by
 have hhi := hb.hi
 have hob0 := bt_own hb
 have HOB0 : Hid _ := hob0
 have HF : Hid (KBase.InL false (fun b => b < K) w mc cv cs) := hin
 have HNB : Hid _ := hnb
 have HFF : Hid _ := hf
 have HON : Hid _ := hone
 have HW : Hid (Wr K m w B Bb Pv sv r L) := h
 have HBT : Hid _ := hb
 obtain ⟨T0, hT⟩ : ∃ T0, gl f cs.length 0 r [] = T0 := ⟨_, rfl⟩
 rw [hT]
 have HT : Hid (gl f (cs.length - 0) 0 r [] = T0) := hT
 obtain ⟨a, cap, rfl, hlc, hcm, hlen, -, -⟩ := hin
 have hBl := h.lt
 clear h hb hnb hf hone hT hob0
 go_enter Tryz.func87, Tryz.ntmps87
 go_wp2_with fail
 go_loopw [2, 10] (fun nm i wr => ∃ (q : Nat) (x : Int) (F : List T) (Pv' tv' : Value), i = .int .i64 q ∧ nm = .int .i64 (nb q) ∧ q ≤ cs.length ∧ gl f (cs.length - q) q x F = T0 ∧ Wr K m wr B Bb Pv' sv x L ∧ Bt lo wr Bb Pv'.ownBlock tv' (F0 ++ F) ∧ ((F0 ++ F).length : Int) + x ≤ 65536 ∧ 0 ≤ x ∧ Fm B Bb Pv.ownBlock tv.ownBlock w wr ∧ (Pv'.ownBlock = Pv.ownBlock ∨ ∃ y, Pv'.ownBlock = some y ∧ w.heap.size ≤ y) ∧ (tv'.ownBlock = tv.ownBlock ∨ ∃ y, tv'.ownBlock = some y ∧ w.heap.size ≤ y)) (fun _ i _ => cs.length - (intOf i).toNat)
 case atStart => exact ⟨0, r, [], Pv, tv, rfl, rfl, by omega, HT.out, HW.out, by rw [List.append_nil]; exact HBT.out, by rw [List.append_nil]; exact hFr, hr.1, ⟨fun _ _ _ _ _ => Below.refl _ _, Nat.le_refl _, fun _ _ _ _ _ _ => rfl⟩, .inl rfl, .inl rfl⟩
 case round =>
  clear HT
  obtain ⟨q, x, F, Pv', tv', rfl, rfl, hq, hM, hwr, hbt, hFx, hx0, hfm, hpx, htx⟩ := hrel
  have HTX : Hid _ := htx
  have HWR : Hid (Wr K m wr B Bb Pv' sv x L) := hwr
  have HFm : Hid _ := hfm
  have HPX : Hid _ := hpx
  have hob := bt_own hbt
  have hsz := hfm.size
  have bK : Below K w wr := hfm.below K HW.out.lB HW.out.lb (fun y e => (HW.out.xb y e).1) (fun y e => by have := (HOB0.out y e).1; have := HBT.out.lob; have := HW.out.lb; omega)
  by_cases hlt : q < cs.length
  ·have d0 : decide ((q : Int) < (cs.length : Int)) = true := by simp; omega
   have i0 : (0 : Int) ≤ (q : Int) := by omega
   have i1 : (q : Int) < (cs.length : Int) := by omega
   obtain ⟨aa, cc, hsl, -, -, -, -, hLA⟩ := HF.out
   cases hsl
   obtain ⟨g, o, u, rfl, hgK, hu, hi⟩ := hLA.elem hlt
   obtain ⟨mc', fv, pv, xv, lv, uv, -, rfl, -, -, hF1, hP1, hX1, hL1, hU1⟩ := hi.shape
   obtain ⟨fa, fcp, rfl, -⟩ := hF1
   obtain ⟨pa, pcp, rfl, -⟩ := hP1
   obtain ⟨mx, xa, xcp, rfl, -⟩ := hX1
   obtain ⟨la, lcp, rfl, -⟩ := hL1
   obtain ⟨ua, ucp, rfl, -⟩ := hU1
   obtain ⟨v0, v1, v2, v3, v4, v5, v6, he, c0, c1, c2, c3, c4, c5, c6⟩ := hu
   simp only [Value.agg.injEq, Array.mk.injEq, List.cons.injEq, and_true] at he
   obtain ⟨rfl, rfl, rfl, rfl, rfl, rfl, rfl⟩ := he
   have c0 := (World.cell?_of_block (w := w) (bK.block g hgK)).trans c0
   have c1 := (World.cell?_of_block (w := w) (bK.block g hgK)).trans c1
   have c2 := (World.cell?_of_block (w := w) (bK.block g hgK)).trans c2
   have c3 := (World.cell?_of_block (w := w) (bK.block g hgK)).trans c3
   have c4 := (World.cell?_of_block (w := w) (bK.block g hgK)).trans c4
   have c5 := (World.cell?_of_block (w := w) (bK.block g hgK)).trans c5
   have c6 := (World.cell?_of_block (w := w) (bK.block g hgK)).trans c6
   obtain ⟨W1, hW1⟩ : ∃ W1, wr.alloc (.cells #[.int .i64 cs[q].k, .string cs[q].t, .slice fa cs[q].f.length fcp, .slice pa cs[q].p.length pcp, .slice xa cs[q].x.length xcp, .slice la cs[q].l.length lcp, .slice ua cs[q].u.length ucp] 66) = W1 := ⟨_, rfl⟩
   have b1 : Below wr.heap.size wr W1 := by rw [← hW1]; exact (Below.refl _ wr).alloc (Nat.le_refl _) _
   have hs1 : W1.heap.size = wr.heap.size + 1 := by rw [← hW1]; simp
   have hx1 : W1.heap[wr.heap.size]? = some (.cells #[.int .i64 cs[q].k, .string cs[q].t, .slice fa cs[q].f.length fcp, .slice pa cs[q].p.length pcp, .slice xa cs[q].x.length xcp, .slice la cs[q].l.length lcp, .slice ua cs[q].u.length ucp] 66 (0, 0)) := by rw [← hW1]; exact heap_alloc_new wr _
   obtain ⟨z0, z1, z2, z3, z4, z5, z6⟩ := GNo.seven_b hx1
   have hlB := HW.out.lB
   have hw1 := hwr.below b1
   have hBbl : Bb < wr.heap.size := (Array.getElem?_eq_some_iff.1 hbt.box).1
   have bt1 := bt_keep hbt b1.size (b1.block Bb hBbl) (fun b _ h2 _ => b1.block b h2)
   have cN := HON.out q hlt W1 Pv' x (F0 ++ F) tv' _ hi (bK.trans (b1.mono (by omega))) hw1 bt1 hFx hx0
   obtain ⟨hz, hz1, hz2, hz3⟩ := HNB.out q hlt
   have HZ1 : Hid _ := hz1
   obtain ⟨U, hU⟩ : ∃ U, f q x = U := ⟨_, rfl⟩
   rw [hU] at cN
   have hM2 : bnd U (fun a => gl f (cs.length - (q + 1)) (q + 1) a.2 (F ++ a.1)) = T0 := by
    rw [← hU, ← hM, show cs.length - q = (cs.length - (q + 1)) + 1 by omega]
    rfl
   have HM : Hid _ := hM2
   have HUE : Hid (f q x = U) := hU
   have HW1 : Hid (wr.alloc (.cells #[.int .i64 cs[q].k, .string cs[q].t, .slice fa cs[q].f.length fcp, .slice pa cs[q].p.length pcp, .slice xa cs[q].x.length xcp, .slice la cs[q].l.length lcp, .slice ua cs[q].u.length ucp] 66) = W1) := hW1
   have HC : Hid (∀ W2, Fm B Bb Pv'.ownBlock tv'.ownBlock W1 W2 → Fm B Bb Pv.ownBlock tv.ownBlock w W2) := by
    intro W2 h2
    have hnx : ∀ b, b < w.heap.size → some b ≠ Pv.ownBlock → some b ≠ Pv'.ownBlock := by
     intro b h3 h4 e
     rcases HPX.out with k | ⟨y, k, hy⟩
     ·exact h4 (e.trans k)
     ·rw [k] at e
      have := Option.some.inj e
      omega
    refine ⟨fun n h3 h4 h5 h6 => ((HFm.out.below n h3 h4 h5 h6).trans (b1.mono (by omega))).trans (h2.below n h3 h4 (fun y e => ?_) (fun y e => ?_)), by have := h2.size; omega, fun b h3 h4 h5 h6 h7 => ?_⟩
    ·rcases HPX.out with k | ⟨z, k, hz⟩
     ·exact h5 y (k ▸ e)
     ·rw [k] at e
      have := Option.some.inj e
      omega
    ·rcases HTX.out with k | ⟨z, k, hz⟩
     ·exact h6 y (k ▸ e)
     ·rw [k] at e
      have := Option.some.inj e
      omega
    ·rw [h2.other b (by omega) h4 h5 (hnx b h3 h6) (fun e => by
      rcases HTX.out with k | ⟨z, k, hz⟩
      ·exact h7 (e.trans k)
      ·rw [k] at e
       have := Option.some.inj e
       omega), b1.block b (by omega), HFm.out.other b h3 h4 h5 h6 h7]
   have HOB : Hid _ := hob
   clear hLA hi hU hM hM2 hwr hbt hfm hpx htx bK b1 hx1 hw1 bt1 hW1 hz1 hob
   go_wp2_with fail
   try rw [HW1.out]
   refine cN.mono ?_
   intro ee W2 hA2
   cases U with
   | error z =>
    obtain ⟨rfl, hf2⟩ := hA2
    have hT := HM.out
    subst hT
    exact ⟨rfl, rfl, HC.out W2 hf2⟩
   | ok aa =>
    obtain ⟨⟨v8, rfl⟩, hf2, X2, tv2, hx2, hx3, ⟨Pv2, hP2, hwr2⟩, hbt2, hat2⟩ := hA2
    subst hP2
    obtain ⟨-, -, k2, -⟩ := wk_box hwr2.box
    have kz := hwr2.zc (nb q) hz
    rw [HZ1.out] at kz
    have j0 : (0 : Int) ≤ (nb q : Int) := by omega
    have j1 : (nb q : Int) < (sv.2.1.length : Int) := by omega
    have hwp : IntKind.i64.wrap ((nb q : Int) + ((nb (q + 1) : Int) - nb q)) = nb (q + 1) := by rw [IntKind.wrap_i64]; omega
    have hfa := HFF.out q x aa hx0 HUE.out
    have HE : Hid (∃ (q' : Nat) (x : Int) (F : List T) (Pv' tv' : Value), q' = q + 1 ∧ gl f (cs.length - q') q' x F = T0 ∧ Wr K m W2 B Bb Pv' sv x L ∧ Bt lo W2 Bb Pv'.ownBlock tv' (F0 ++ F) ∧ ((F0 ++ F).length : Int) + x ≤ 65536 ∧ 0 ≤ x ∧ Fm B Bb Pv.ownBlock tv.ownBlock w W2 ∧ (Pv'.ownBlock = Pv.ownBlock ∨ ∃ y, Pv'.ownBlock = some y ∧ w.heap.size ≤ y) ∧ (tv'.ownBlock = tv.ownBlock ∨ ∃ y, tv'.ownBlock = some y ∧ w.heap.size ≤ y)) := by
     refine ⟨q + 1, aa.2, F ++ aa.1, Pv2, tv2, rfl, HM.out, hwr2, by rw [← List.append_assoc]; exact hbt2, by rw [← List.append_assoc, List.length_append]; omega, hfa.2, HC.out W2 hf2, ?_, ?_⟩
     ·rcases hx2 with k | ⟨y, k, hy⟩
      ·rcases HPX.out with k' | ⟨y, k', hy⟩
       ·exact .inl (k.trans k')
       ·exact .inr ⟨y, k.trans k', hy⟩
      ·exact .inr ⟨y, k, by omega⟩
     ·rcases hat2 with k | ⟨y, k, hy⟩
      ·rcases HTX.out with k' | ⟨y, k', hy⟩
       ·exact .inl (k.trans k')
       ·exact .inr ⟨y, k.trans k', hy⟩
      ·exact .inr ⟨y, k, by omega⟩
    clear hwr2 hbt2 hx2 hx3 hf2 hfa cN hat2
    go_wp2_with fail
    go_roundw
    case rel =>
     obtain ⟨q', x', F', Pv3, tv3, rfl, h1, h2, h3, h4, h5, h6, h7⟩ := HE.out
     exact ⟨q + 1, x', F', Pv3, tv3, by go_num, rfl, by omega, h1, h2, h3, h4, h5, h6, h7⟩
    case measure => simp only [intOf]; omega
  ·obtain rfl : q = cs.length := by omega
   have hnlt : decide ((cs.length : Int) < (cs.length : Int)) = false := by simp
   rw [Nat.sub_self] at hM
   have HM : Hid (Except.ok (F, x) = T0) := hM
   have HBt : Hid _ := hbt
   clear hM hwr hbt hfm hpx htx bK hob
   go_wp2_with fail
   go_end0
   have hT := HM.out
   subst hT
   exact ⟨⟨_, rfl⟩, HFm.out, Pv'.ownBlock, tv', HPX.out, fun y e => (HWR.out.xb y e).2.1, ⟨Pv', rfl, HWR.out⟩, HBt.out, HTX.out⟩
end Go.Proofs.YthonejomogkjjaaGreatDoor.GNg
namespace Go.Proofs.YthonejomogkjjaaGreatDoor.GN2
open Go.RowKit Base EPure JPure VSm VIn VJn VRs JVr JVa JRv GPl GVa GTr GEn GAt GAs GTx GBu GBt GBe GNs GNo GNe GZp GRn GNg
open VPure hiding evL
open TBase (T)
open KBase (Pt Fld Co RP RF)
open KVp (szL szL_cons szL_nil)
def NDs (K m B Bb : Nat) (sv : Sz) (n : Nat) (L : List C) (c : Co) : Prop := ∀ (W : World) (Pv : Value) (x : Int) (F : List T) (tv u : Value) (num mc lo : Nat), KBase.In false (fun b => b < K) W mc u c → Ats sv.2.1 num [c] → Wr K m W B Bb Pv sv x L → Bt lo W Bb Pv.ownBlock tv F → B < lo → sv.1 < lo → (F.length : Int) + x ≤ 65536 → 0 ≤ x →
 Calls Tryz.prog 130 #[ptr B, u, .int .i64 num] W fun e w' => LR (Rs K m B Bb sv L) lo B Bb Pv.ownBlock tv F W (rn n L c x) e w'
theorem ats_one {Z : List Int} {n : Nat} {cs : List Co} (h : Ats Z n cs) {q : Nat} (hq : q < cs.length) : Ats Z (n + szL (cs.take q)) [cs[q]] := by
 obtain ⟨P, S, rfl, rfl⟩ := h
 have e : zs cs = zs (cs.take q) ++ (zs [cs[q]] ++ zs (cs.drop (q + 1))) := by
  have := zs_app (cs.take (q + 1)) (cs.drop (q + 1))
  rw [List.take_append_drop, zs_take hq] at this
  rw [this, zs_cons, zs_nil]
  simp
 refine ⟨P ++ zs (cs.take q), zs (cs.drop (q + 1)) ++ S, ?_, ?_⟩
 ·rw [e]; simp
 ·simp only [List.length_append, zs_len]
theorem nodes_c {K m B Bb : Nat} {sv : Sz} {n : Nat} {L : List C} {cs : List Co} (hd : ∀ d ∈ cs, NDs K m B Bb sv n L d) (hZ : sv.2.1.length ≤ 50000) {w : World} {Pv tv cv : Value} {r : Int} {F : List T} {num mc lo : Nat} (hin : KBase.InL false (fun b => b < K) w mc cv cs) (ha : Ats sv.2.1 num cs) (h : Wr K m w B Bb Pv sv r L) (hb : Bt lo w Bb Pv.ownBlock tv F) (hBlo : B < lo) (hzl : sv.1 < lo) (hF : (F.length : Int) + r ≤ 65536) (hr : 0 ≤ r) :
  Calls Tryz.prog 87 #[ptr B, cv, .int .i64 num] w fun e w' => LR (Rs K m B Bb sv L) lo B Bb Pv.ownBlock tv F w (rnL (rn n L) cs r []) e w' := by
 obtain ⟨f, hf⟩ : ∃ f : Nat → Int → Except Nat (List T × Int), f = fun q x => if h : q < cs.length then rn n L cs[q] x else .error 0 := ⟨_, rfl⟩
 have hfq : ∀ q (h : q < cs.length), f q = rn n L cs[q] := fun q h => by rw [hf]; funext x; exact dif_pos h
 have hg := gl_rnL hfq cs.length 0 r [] (by omega)
 rw [List.drop_zero] at hg
 have hal := ha.len
 have key := nodes_of (f := f) (nb := fun q => num + szL (cs.take q)) h ⟨hr, by omega⟩ hb hF hin (fun q hq => by
   obtain ⟨h1, h2⟩ := ha.get hq
   refine ⟨h1, ?_, by omega, by have := sz_take_le cs (q + 1); omega⟩
   rw [h2, sz_take hq]
   omega) (fun q x a hx e => by
   by_cases hq : q < cs.length
   ·rw [hfq q hq] at e
    exact rn_le n L _ x a hx e
   ·rw [hf] at e
    simp only [dif_neg hq] at e
    cases e) (fun q hq W Pv' x F' tv' u hu hbK hw hbt hFx hx => by
   rw [hfq q hq]
   exact hd cs[q] (List.getElem_mem hq) W Pv' x F' tv' u _ mc lo (hu.keep (fun b hb _ => hbK.block b hb)) (ats_one ha hq) hw hbt hBlo hzl hFx hx)
 rw [hg] at key
 simpa [szL_nil] using key
theorem text_d {K m B Bb : Nat} {sv : Sz} {n : Nat} {L : List C} {c : Co} (hk : c.k = 1) (hg : ∀ j (h : j < c.p.length), c.p[j].b = true → gd c.p[j].e ∧ ops okOp c.p[j].e) : NDs K m B Bb sv (n + 1) L c := by
 intro W Pv x F tv u num mc lo hin ha hw hb hBlo hzl hF hx
 obtain ⟨mc', fv, pv, xv, lv, uv, -, rfl, -, -, hF1, hP1, hX1, hL1, hU1⟩ := hin.shape
 have e : rn (n + 1) L c x = GRn.one (nT L c.p x) := by rw [rn, if_pos hk]
 rw [e, hk]
 by_cases h0 : x = 0
 ·subst h0
  exact (text_no hw).mono fun e w' h => ER.lr h
 ·exact (text_ok hw ⟨by omega, by omega⟩ hb hBlo hzl (by omega) hP1 hg).mono fun e w' h => ER.lr h
theorem elem_d {K m B Bb : Nat} {sv : Sz} {n : Nat} {L : List C} {c : Co} (hZ : sv.2.1.length ≤ 50000) (hk : c.k = 2) (hg : ∀ j (h : j < c.f.length), c.f[j].b = true → gd c.f[j].e ∧ ops okOp c.f[j].e) (hfn : c.f.length ≤ 4096) (hsz : ∀ n, ats L c.f = .ok n → n.length ≤ 4096 ∧ ∀ t ∈ n, t.1.size ≤ 140737488351232 ∧ t.2.size ≤ 140737488351232) (hd : ∀ d ∈ c.l, NDs K m B Bb sv n L d) : NDs K m B Bb sv (n + 1) L c := by
 intro W Pv x F tv u num mc lo hin ha hw hb hBlo hzl hF hx
 obtain ⟨mc', fv, pv, xv, lv, uv, -, rfl, hk2, ht, hF1, hP1, hX1, hL1, hU1⟩ := hin.shape
 have e : rn (n + 1) L c x = GRn.one (nE L c.t c.f (rnL (rn n L) c.l (x - 1) []) x) := by rw [rn, if_neg (by omega), if_pos hk]
 rw [e, hk]
 by_cases h0 : x = 0
 ·subst h0
  exact (elem_no hw).mono fun e w' h => ER.lr h
 ·have hak := (ha.kids (q := 0) (by simp)).1
  simp only [List.take_zero, szL_nil, Nat.add_zero, List.getElem_cons_zero] at hak
  have hal := ha.len
  refine (elem_ok hw ⟨by omega, by omega⟩ hb hBlo hzl (by omega) ⟨by omega, by omega⟩ ht hF1 hg hfn hsz (fun W1 hw1 hbt hbK => ?_)).mono fun e w' h => ER.lr h
  have key := nodes_c hd hZ (hL1.keep (w' := W1) (fun b hb _ => hbK.block b hb)) hak hw1 hbt hw1.lt hw1.zb.1 (by simp; omega) (by omega)
  refine Calls.mono key fun e w' h => ?_
  cases hA : rnL (rn n L) c.l (x - 1) [] with
  | error q => rw [hA] at h; exact h
  | ok a =>
   rw [hA] at h
   have hle := rnL_le (fun c x a hx ha => rn_le n L c x a hx ha) c.l (x - 1) [] a (by omega) hA
   obtain ⟨h1, h2, X', tv', h3, h4, h5, h6, -⟩ := h
   exact ⟨by simp at hle; omega, h1, h2, X', tv', h3, h4, h5, h6⟩
end Go.Proofs.YthonejomogkjjaaGreatDoor.GN2
namespace Go.Proofs.YthonejomogkjjaaGreatDoor.GWf
open Go.RowKit Base VPure
theorem ft_fm {c : C} {d q : Int} (h : Fault.ft c d q = 0) : Fault.fm c = true := by
 unfold Fault.ft at h
 by_cases h1 : 16384 < q
 ·rw [if_pos h1] at h; cases h
 rw [if_neg h1] at h
 by_cases h2 : 24 < d
 ·rw [if_pos h2] at h; cases h
 rw [if_neg h2] at h
 by_cases h3 : c.k < 1 ∨ 6 < c.k
 ·rw [if_pos h3] at h; cases h
 rw [if_neg h3] at h
 by_cases h4 : Fault.fm c = true
 ·exact h4
 ·rw [if_neg h4] at h; cases h
theorem ms_fm : ∀ (r : List (Nat × C)) (D k : Nat), (Measure.ms D k r).2.2 = 0 → ∀ p ∈ r, Fault.fm p.2 = true
 | [], _, _, _, p, hp => absurd hp (by simp)
 | (d, c) :: r, D, k, h, p, hp => by
  rw [Measure.ms] at h
  by_cases hf : Fault.ft c d (k + 1 : Nat) = 0
  ·rw [if_pos hf] at h
   rcases List.mem_cons.1 hp with rfl | hp
   ·exact ft_fm hf
   ·exact ms_fm r _ _ h p hp
  ·rw [if_neg hf] at h; exact (hf h).elim
theorem fm_six {c : C} (h : Fault.fm c = true) (h6 : c.k = 6) : c.n.length ≤ c.l.length := by
 unfold Fault.fm Names.nmb at h
 simp only [Bool.and_eq_true, Bool.or_eq_true, Bool.not_eq_true', decide_eq_false_iff_not, decide_eq_true_eq] at h
 rcases h.2 with h | h
 ·exact (h h6).elim
 ·omega
theorem wfL_of : ∀ (l : List C) (d : Nat), (∀ p ∈ Walk.plL d l, Fault.fm p.2 = true) → wfL l
 | [], _, _ => by rw [wfL]; trivial
 | .mk k b i s n l :: t, d, h => by
  rw [Walk.plL] at h
  rw [wfL]
  refine ⟨⟨fun h6 => fm_six (h _ (List.mem_append_left _ (List.mem_cons_self ..))) h6, wfL_of l (d + 1) fun p hp => h p (List.mem_append_left _ (List.mem_cons_of_mem _ hp))⟩, wfL_of t d fun p hp => h p (List.mem_append_right _ hp)⟩
theorem code_wf {c : C} (h : (Measure.ms 0 0 (Walk.pl 1 c)).2.2 = 0) : wf c := by
 have hm := ms_fm _ _ _ h
 obtain ⟨k, b, i, s, n, l⟩ := c
 rw [Walk.pl] at hm
 exact ⟨fun h6 => fm_six (hm _ (List.mem_cons_self ..)) h6, wfL_of l _ fun p hp => hm p (List.mem_cons_of_mem _ hp)⟩
end Go.Proofs.YthonejomogkjjaaGreatDoor.GWf
namespace Go.Proofs.YthonejomogkjjaaGreatDoor.GRd
open Go.RowKit Base EPure JPure VSm VIn VJn VRs GPl GEn GBu GBe GNs GRe GZp GRn GNg GN2 GTh
open VPure hiding evL
open TBase (T)
open KBase (Pt Fld Co RP RF)
open KVp (szL szL_cons szL_nil)
open Shallow (dep)
theorem kr_of {R : Int → World → Option Nat → Prop} {lo B Bb : Nat} {X : Option Nat} {w : World} {A : Except Nat (List T × Int)} {e : Ending} {w' : World} (h : LR R lo B Bb X (.slice none 0 0) [] w A e w') (hl : ∀ a, A = .ok a → a.1.length ≤ 65536) : KR R lo B Bb X w A e w' := by
 cases A with
 | error q => exact h
 | ok a =>
  obtain ⟨h1, h2, X', tv', h3, h4, h5, h6, -⟩ := h
  exact ⟨hl a rfl, h1, h2, X', tv', h3, h4, h5, h6⟩
theorem render_c {m mc n : Nat} {w : World} {cv v : Value} {cs : List Co} {c : C} (hcs : KBase.InL false (fun b => b < w.heap.size) w mc cv cs) (hin : Base.In false (fun b => b < w.heap.size) w (m + 1) v c) (hpos : 0 < szL cs) (hchk : KNd.chk cs = 0) (hdep : dep c ≤ 4096) (hms : (Measure.ms 0 0 (Walk.pl 1 c)).2.2 = 0) (ht : Tb w) (hA0 : rnL (rn n [c]) cs 4096 [] ≠ .error 0)
  (hd : ∀ B Bb sv, sv.2.1 = zs cs → ∀ d ∈ cs, NDs w.heap.size m B Bb sv n [c] d) :
  Calls Tryz.prog 12 #[cv, v] w fun e w' => RR w (bnd (rnL (rn n [c]) cs 4096 []) fun a => .ok a.1) e w' := by
 obtain ⟨an, ln, cn, al, ll, cl, rfl⟩ := in_shape hin
 obtain ⟨W0, hW0⟩ : ∃ W0, (w.alloc (.cells #[.int .i64 c.k, .bool c.b, .int .i64 c.i, .string c.s, .slice an ln cn, .slice al ll cl] 26)).alloc (.cells #[.slice none 0 0] 84) = W0 := ⟨_, rfl⟩
 have b0 : Below w.heap.size w W0 := by rw [← hW0]; exact ((Below.refl _ w).alloc (Nat.le_refl _) _).alloc (by simp) _
 have s0 : W0.heap.size = w.heap.size + 2 := by rw [← hW0]; simp
 have hbb : W0.heap[w.heap.size + 1]? = some (.cells #[.slice none 0 0] 84 (0, 0)) := by
  rw [← hW0]
  have := heap_alloc_new (w.alloc (.cells #[.int .i64 c.k, .bool c.b, .int .i64 c.i, .string c.s, .slice an ln cn, .slice al ll cl] 26)) (.cells #[.slice none 0 0] 84)
  rwa [World.size_alloc] at this
 refine render_of hW0 (through_of (K := w.heap.size) (m := m) (mc := mc) ⟨by omega, by omega⟩ (hcs.keep (w' := W0) (fun b hb _ => b0.block b hb)) (hin.keep (w' := W0) (fun b hb _ => b0.block b hb)) hbb hpos hchk hdep hms (GWf.code_wf hms) (fun W hW => ht W ((b0.mono (Nat.le_refl _)).trans hW)) hA0 (fun W B Pv sv hw hz hbt hbK => ?_))
 have hsz := sz_ok hchk
 have key := nodes_c (num := 0) (hd B _ sv hz) (by rw [hz, zs_len]; omega) (hcs.keep (w' := W) (fun b hb _ => (b0.trans hbK).block b hb)) (by rw [hz]; exact ats_all cs) hw hbt hw.lt hw.zb.1 (by simp) (by omega)
 refine Calls.mono key fun e w' h => kr_of h fun a ha => ?_
 have := rnL_le (fun c' x a hx ha => rn_le n [c] c' x a hx ha) cs 4096 [] a (by omega) ha
 simp at this
 omega
end Go.Proofs.YthonejomogkjjaaGreatDoor.GRd
namespace Go.Proofs.YthonejomogkjjaaGreatDoor.GAp
open Go.RowKit Base EPure KBase KAr KEx KLe KNp KNd JPure JVa GPl GTr GAt GAs GTx GNo GNe GRn
open VPure hiding evL
open TBase (T)
abbrev nl : ByteArray := ⟨#[]⟩
def vE (p : Int) : Ex := .mk 6 p nl []
def tC (p : Int) : Co := .mk 1 nl [] [⟨nl, true, vE p⟩] [] [] []
def eC (t : ByteArray) (p : Int) : Co := .mk 2 t [] [] [] [tC p] []
def aF : Fld := ⟨⟨#[97]⟩, nl, true, vE 0, 0⟩
def aC : Co := .mk 2 ⟨#[112]⟩ [aF] [] [] [] []
theorem bh_leaf {o i : Int} (hk : SFit.kd o = 0) (hf : SFit.ft KSh.rlf o i nl = true) : KSh.rsv (.mk o i nl []) = true := by
 unfold KSh.rsv
 rw [SBe.bhL_one (by rw [hk, hf]; simp), SBe.bhL_nil]
 decide
theorem rs_v (p : Int) : KSh.rsv (vE p) = true := bh_leaf (by decide) (by
 unfold SFit.ft
 rw [if_pos (by omega)]
 rfl)
theorem gd_v (p : Int) : gd (vE p) ∧ ops okOp (vE p) := by
 refine ⟨⟨by show ((0 : Nat) : Int) = SFit.kd 6; decide, trivial, ?_⟩, ?_⟩
 ·show gdL []
  rw [gdL]; trivial
 ·refine ⟨?_, ?_⟩
  ·show okOp 6
   unfold okOp
   omega
  ·show opsL okOp []
   rw [opsL]
   trivial
theorem xs_t (p : Int) : xsC (tC p) = [vE p] := rfl
theorem xs_e (t : ByteArray) (p : Int) : xsC (eC t p) = [] := rfl
theorem xs_a : xsC aC = [vE 0] := rfl
theorem lft_t (p r : Int) (hr : 2 ≤ r) : lft (tC p) r = r - 3 := by
 unfold lft
 rw [xs_t]
 have e1 : (tC p).f = [] := rfl
 have e2 : (tC p).p.length = 1 := rfl
 have e3 : (tC p).x = [] := rfl
 rw [e1, e2, e3]
 unfold vE
 rw [KPi.bq_one (by simp; omega), KPi.bq_nil]
 simp
 omega
theorem lft_e (t : ByteArray) (p r : Int) : lft (eC t p) r = r - 1 := by
 unfold lft
 rw [xs_e, KPi.bq_nil]
 simp [eC, Co.f, Co.p, Co.x]
theorem lft_a (r : Int) (hr : 2 ≤ r) : lft aC r = r - 3 := by
 unfold lft
 rw [xs_a]
 have e1 : aC.f.length = 1 := rfl
 have e2 : aC.p = [] := rfl
 have e3 : aC.x = [] := rfl
 rw [e1, e2, e3]
 unfold vE
 rw [KPi.bq_one (by simp; omega), KPi.bq_nil]
 simp
 omega
theorem ent_t (p s e l : Int) : ent (tC p) s e l = ((s, e, l), true) := rfl
theorem ent_e {t : ByteArray} (ht : UBase.word t 45 = true) (p s e l : Int) : ent (eC t p) s e l = ((s, e + 1, l), true) := by
 have : ent (eC t p) s e l = ((s, e + 1, l), (UBase.word t 45 && KFd.fl1 none []) && bare ⟨#[]⟩ 0 0 0 0 0) := rfl
 rw [this, ht]
 rfl
theorem wd_p : UBase.word ⟨#[112]⟩ 45 = true := by decide
theorem ent_a (s e l : Int) : ent aC s e l = ((s, e + 1, l), true) := by
 have : ent aC s e l = ((s, e + 1, l), (UBase.word ⟨#[112]⟩ 45 && KFd.fl1 none [aF]) && bare ⟨#[]⟩ 0 0 0 0 0) := rfl
 have h2 : KFd.fl1 none [aF] = true := by decide
 rw [this, wd_p, h2]
 rfl
theorem hs_v (p s : Int) : KHs.hs s [vE p] = (decide (0 ≤ p) && decide (p < s)) := by
 unfold vE
 rw [KHs.hs_one, KHs.hs_nil]
 by_cases h1 : 0 ≤ p
 ·by_cases h2 : p < s
  ·simp [h1, h2]
  ·simp [h1, h2]
   omega
 ·simp [h1]
theorem own_t {p r s e l : Int} (hr : 0 ≤ r) (hs : s ≤ 64) (he : e ≤ 63) (hl : l ≤ 8) (hp : 0 ≤ p ∧ p < s) : own (tC p) r s e l = 0 := by
 unfold own
 rw [if_neg (by omega), ent_t, if_neg (by simp [deep]; omega), if_neg (by simp), xs_t]
 have h1 : [vE p].all KSh.rsv = true := by simp [rs_v]
 have h2 : plc (tC p) s s = true := by
  unfold plc
  have hk : (tC p).k = 1 := rfl
  rw [hk, if_neg (by omega), xs_t]
  simp only [List.all_cons, List.all_nil, hs_v, Bool.and_true]
  simp [hp.1, hp.2]
 rw [h1, if_neg (by simp), h2, if_neg (by simp)]
theorem own_e {t : ByteArray} (ht : UBase.word t 45 = true) {p r s e l : Int} (hr : 0 ≤ r) (hs : s ≤ 64) (he : e ≤ 62) (hl : l ≤ 8) : own (eC t p) r s e l = 0 := by
 unfold own
 rw [if_neg (by omega), ent_e ht, if_neg (by simp [deep]; omega), if_neg (by simp), xs_e, if_neg (by simp), if_neg]
 unfold plc
 have hk : (eC t p).k = 2 := rfl
 rw [hk, if_neg (by decide), xs_e]
 simp
theorem own_a {r s e l : Int} (hr : 0 ≤ r) (hs : s ≤ 64) (he : e ≤ 62) (hl : l ≤ 8) (h0 : 0 < s) : own aC r s e l = 0 := by
 unfold own
 have h1 : [vE 0].all KSh.rsv = true := by simp [rs_v]
 have h2 : plc aC s s = true := by
  unfold plc
  have hk : aC.k = 2 := rfl
  rw [hk, if_neg (by omega), xs_a]
  simp only [List.all_cons, List.all_nil, hs_v, Bool.and_true]
  simp [h0]
 rw [if_neg (by omega), ent_a, if_neg (by simp [deep]; omega), if_neg (by simp), xs_a, h1, if_neg (by simp), h2, if_neg (by simp)]
theorem nd_t {p r s e l : Int} (hr : 3 ≤ r) (hs : s ≤ 64) (he : e ≤ 63) (hl : l ≤ 8) (hp : 0 ≤ p ∧ p < s) : ndL [tC p] r s e l = (r - 3, 0) := by
 have h1 : (tC p).l = [] := rfl
 have h2 : (tC p).u = [] := rfl
 rw [ndL_one, lft_t p r (by omega), own_t (by omega) hs he hl hp, if_neg (by simp), ent_t, h1, h2, ndL_nil, if_neg (by simp), ndL_nil]
theorem nd_e {t : ByteArray} (ht : UBase.word t 45 = true) {p r s e l : Int} (hr : 4 ≤ r) (hs : s ≤ 64) (he : e ≤ 62) (hl : l ≤ 8) (hp : 0 ≤ p ∧ p < s) : ndL [eC t p] r s e l = (r - 4, 0) := by
 have h1 : (eC t p).l = [tC p] := rfl
 have h2 : (eC t p).u = [] := rfl
 rw [ndL_one, lft_e, own_e ht (by omega) hs he hl, if_neg (by simp), ent_e ht, h1, h2]
 dsimp only
 rw [nd_t (by omega) hs (by omega) hl hp, if_neg (by simp), ndL_nil]
 simp
 omega
theorem nd_a {r s e l : Int} (hr : 3 ≤ r) (hs : s ≤ 64) (he : e ≤ 62) (hl : l ≤ 8) (h0 : 0 < s) : ndL [aC] r s e l = (r - 3, 0) := by
 have h1 : aC.l = [] := rfl
 have h2 : aC.u = [] := rfl
 rw [ndL_one, lft_a r (by omega), own_a (by omega) hs he hl h0, if_neg (by simp), ent_a, h1, h2, ndL_nil, if_neg (by simp), ndL_nil]
theorem chk_e : chk [eC ⟨#[112]⟩ 0] = 0 := by
 unfold chk
 rw [nd_e wd_p (by omega) (by omega) (by omega) (by omega) (by omega)]
theorem chk_a : chk [aC] = 0 := by
 unfold chk
 rw [nd_a (by omega) (by omega) (by omega) (by omega) (by omega)]
theorem ev_v {L : List C} {p : Int} {c : C} (h : rh L p = some c) : ev (rh L) (vE p) = .ok c := by
 unfold ev vE
 show node (fun _ => rh L p) 6 p nl (evL (rh L) []) = _
 unfold node
 rw [if_neg (by omega), if_neg (by omega), if_neg (by omega), if_neg (by omega), if_pos rfl, h]
theorem rh0 (c : C) : rh [c] 0 = some c := rfl
def tT (c : C) (r : Int) : Except Nat (T × Int) := if r = 0 then .error 1601 else bnd (txt c) fun s => if 4096 < s.size then .error 1107 else .ok (T.mk nl s [] [], r - 1)
theorem nT_t {L : List C} {p : Int} {c : C} (h : rh L p = some c) (r : Int) : nT L (tC p).p r = tT c r := by
 unfold nT tT
 split
 ·rfl
 ·have e1 : (tC p).p = [⟨nl, true, vE p⟩] := rfl
  have e2 : tpc L nl true (vE p) = txt c := by unfold tpc; rw [if_pos rfl, ev_v h]; rfl
  rw [e1, tgo, e2]
  cases txt c with
  | error q => rfl
  | ok s =>
   show bnd (if 4096 < 0 + s.size then _ else _) _ = (if 4096 < s.size then _ else _)
   rw [Nat.zero_add]
   split
   ·rfl
   ·rw [tgo]
    show Except.ok _ = Except.ok _
    simp
theorem rn_e {L : List C} {p : Int} {c : C} (h : rh L p = some c) (n : Nat) (t : ByteArray) (r : Int) (hr : r ≠ 0) : rn (n + 2) L (eC t p) r = bnd (tT c (r - 1)) fun a => .ok ([T.mk t nl [] [a.1]], a.2) := by
 have e1 : (eC t p).k = 2 := rfl
 have e2 : (eC t p).f = [] := rfl
 have e3 : (eC t p).l = [tC p] := rfl
 have e4 : (eC t p).t = t := rfl
 have e5 : (tC p).k = 1 := rfl
 have e6 : rn (n + 1) L (tC p) (r - 1) = GRn.one (tT c (r - 1)) := by rw [rn, if_pos e5, nT_t h]
 rw [rn, if_neg (by rw [e1]; decide), if_pos e1, e2, e3, e4]
 unfold nE
 rw [if_neg hr, ats, rnL, e6]
 cases tT c (r - 1) with
 | error q => rfl
 | ok a => rfl
def aT (c : C) : Except Nat (List (ByteArray × ByteArray)) := if c.k = 1 then .ok [] else if c.k = 2 then .ok (if c.b = true then [(⟨#[97]⟩, nl)] else []) else bnd (txt c) fun s => .ok [(⟨#[97]⟩, s)]
theorem ats_a (c : C) : ats [c] [aF] = aT c := by
 unfold aT
 rw [ats, ats]
 have e : atr [c] aF.p aF.b aF.e = aV c := by
  unfold atr
  rw [if_pos (show aF.b = true from rfl)]
  show bnd (ev (rh [c]) (vE 0)) aV = _
  rw [ev_v (rh0 c)]
  rfl
 rw [e]
 unfold aV
 split
 ·rfl
 ·split
  ·cases c.b <;> rfl
  ·cases txt c <;> rfl
theorem rn_a (c : C) (n : Nat) (r : Int) (hr : r ≠ 0) : rn (n + 1) [c] aC r = bnd (aT c) fun a => .ok ([T.mk ⟨#[112]⟩ nl a []], r - 1) := by
 have e1 : aC.k = 2 := rfl
 have e2 : aC.f = [aF] := rfl
 have e3 : aC.l = [] := rfl
 rw [rn, if_neg (by rw [e1]; decide), if_pos e1, e2, e3]
 unfold nE
 rw [if_neg hr, ats_a, rnL]
 cases aT c <;> rfl
end Go.Proofs.YthonejomogkjjaaGreatDoor.GAp
