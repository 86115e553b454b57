import Derived.Laws.Cover1
import Derived.Test.YtiijfmdfccdagaaGreatDoorPM39
open Go.Proofs.Tryz
set_option linter.unusedVariables false
set_option maxRecDepth 20000
namespace Go.Proofs.YtiijfmdfccdagaaGreatDoor.GKl
open Go.RowKit EPure KBase KAr KEx KLe KNp KNd JPure JVa JGd JGe
open VPure hiding evL
open KVp (szL szL_cons szL_nil)
def irL : List Ex -> Prop
 | [] => True
 | .mk o i s l :: t => (rg i /\ irL l) /\ irL t
def ir (x : Ex) : Prop := rg x.i /\ irL x.l
theorem bh_all : ∀ (l : List Ex) (r : Int), -1 <= r -> 0 <= SBe.bhL KSh.rlf l r -> irL l -> gdL l /\ opsL okOp l /\ xrL l
 | [], _, _, _, _ => by rw [gdL, opsL, xrL]; exact ⟨trivial, trivial, trivial⟩
 | .mk o i s l :: t, r, hr, h, hi => by
  rw [SBe.bhL] at h
  rw [irL] at hi
  by_cases hc : r <= 0 \/ (l.length : Int) ≠ SFit.kd o \/ SFit.ft KSh.rlf o i s = false
  ·rw [if_pos hc] at h
   have := (SBe.bhL_le KSh.rlf _ t (-1) (Nat.le_refl _) (by omega)).2
   omega
  ·rw [if_neg hc] at h
   have hr0 : 0 < r := by
    rcases Int.lt_or_le 0 r with h | h
    ·exact h
    ·exact (hc (.inl h)).elim
   have hk : (l.length : Int) = SFit.kd o := by
    by_cases e : (l.length : Int) = SFit.kd o
    ·exact e
    ·exact (hc (.inr (.inl e))).elim
   have hf : SFit.ft KSh.rlf o i s = true := by
    cases e : SFit.ft KSh.rlf o i s
    ·exact (hc (.inr (.inr e))).elim
    ·rfl
   have b1 := SBe.bhL_le KSh.rlf _ l (r - 1) (Nat.le_refl _) (by omega)
   have b2 := SBe.bhL_le KSh.rlf _ t _ (Nat.le_refl _) b1.1
   obtain ⟨g1, g2, g3⟩ := bh_all l (r - 1) (by omega) (by omega) hi.1.2
   obtain ⟨k1, k2, k3⟩ := bh_all t _ b1.1 h hi.2
   rw [gdL, opsL, xrL]
   refine ⟨⟨⟨hk, trivial, g1⟩, k1⟩, ⟨⟨?_, g2⟩, k2⟩, ⟨hi.1.1, fun h5 => ?_, g3⟩, k3⟩
   ·unfold SFit.kd at hk
    unfold okOp
    repeat' split at hk
    all_goals omega
   ·subst h5
    have e : SFit.ft KSh.rlf 5 i s = ((i == 0) && STx.tg s) := rfl
    rw [e] at hf
    simp only [Bool.and_eq_true] at hf
    exact hf.2
theorem rs_all {x : Ex} (h : KSh.rsv x = true) (hi : ir x) : gd x /\ ops okOp x /\ xr x := by
 obtain ⟨o, i, s, l⟩ := x
 have := bh_all [.mk o i s l] 1024 (by omega) (by simpa [KSh.rsv] using h) (by rw [irL, irL]; exact ⟨hi, trivial⟩)
 rw [gdL, opsL, xrL] at this
 exact ⟨this.1.1, this.2.1.1, this.2.2.1⟩
def icL : List Co -> Prop
 | [] => True
 | .mk k t f p x l u :: cs => ((∀ y ∈ xsC (.mk k t f p x l u), ir y) /\ icL l /\ icL u) /\ icL cs
theorem icL_cons {c : Co} {t : List Co} : icL (c :: t) ↔ ((∀ y ∈ xsC c, ir y) /\ icL c.l /\ icL c.u) /\ icL t := by
 obtain ⟨k, t', f, p, x, l, u⟩ := c
 rw [icL]
 exact Iff.rfl
def oks : Nat -> Nat -> Co -> Prop
 | 0, _, _ => False
 | n + 1, s, c => (∀ x ∈ xsC c, gd x /\ ops okOp x /\ xr x) /\ c.f.length <= 4096 /\ s <= 64 /\
  (c.k = 1 \/ (c.k = 2 /\ KFd.fl1 none c.f = true /\ ∀ d ∈ c.l, oks n s d) \/ (c.k = 3 /\ c.x.length = 1 /\ (∀ d ∈ c.l, oks n s d) /\ ∀ d ∈ c.u, oks n s d) \/ (c.k = 4 /\ c.x.length = 2 /\ s + 2 <= 64 /\ ∀ d ∈ c.l, oks n (s + 2) d) \/ (c.k = 5 /\ s + c.x.length <= 64 /\ ∀ d ∈ c.l, oks n (s + c.x.length) d))
theorem own_zero {c : Co} {r s e l : Int} (h : own c r s e l = 0) : 0 <= r /\ (ent c s e l).1.1 <= 64 /\ (ent c s e l).2 = true /\ (xsC c).all KSh.rsv = true := by
 unfold own at h
 by_cases h1 : r < 0
 ·rw [if_pos h1] at h; cases h
 rw [if_neg h1] at h
 by_cases h2 : deep (ent c s e l).1.1 (ent c s e l).1.2.1 (ent c s e l).1.2.2 = true
 ·rw [if_pos h2] at h; cases h
 rw [if_neg h2] at h
 by_cases h3 : (ent c s e l).2 = false
 ·rw [if_pos h3] at h; cases h
 rw [if_neg h3] at h
 by_cases h4 : (xsC c).all KSh.rsv = false
 ·rw [if_pos h4] at h; cases h
 refine ⟨by omega, ?_, by simpa using h3, by simpa using h4⟩
 unfold deep at h2
 simp only [Bool.or_eq_true, decide_eq_true_eq, not_or] at h2
 omega
theorem nd_oks : ∀ (n : Nat) (cs : List Co) (r : Int) (s : Nat) (e l : Int), szL cs <= n -> (ndL cs r s e l).2 = 0 -> r <= 4096 -> s <= 64 -> icL cs -> ∀ c ∈ cs, oks n s c := by
 intro n
 induction n with
 | zero =>
  intro cs r s e l hz h hr hs hi c hc
  cases cs with
  | nil => cases hc
  | cons d t => rw [szL_cons] at hz; omega
 | succ n ih =>
  intro cs
  induction cs with
  | nil => intro r s e l hz h hr hs hi c hc; cases hc
  | cons d t iht =>
   intro r s e l hz h hr hs hi c hc
   rw [szL_cons] at hz
   rw [icL_cons] at hi
   rw [ndL_cons] at h
   by_cases h1 : (ndL [d] r s e l).2 ≠ 0
   ·rw [if_pos h1] at h; exact (h1 h).elim
   rw [if_neg h1] at h
   have h1' : (ndL [d] r s e l).2 = 0 := by omega
   have h1n := h1'
   rw [ndL_one] at h1n
   by_cases o1 : own d (lft d r) s e l ≠ 0
   ·rw [if_pos o1] at h1n; exact (o1 h1n).elim
   rw [if_neg o1] at h1n
   obtain ⟨z1, z2, z3, z4⟩ := own_zero (c := d) (r := lft d r) (s := s) (e := e) (l := l) (by omega)
   by_cases o2 : (ndL d.l (lft d r) (ent d s e l).1.1 (ent d s e l).1.2.1 (ent d s e l).1.2.2).2 ≠ 0
   ·rw [if_pos o2] at h1n; exact (o2 h1n).elim
   rw [if_neg o2] at h1n
   have o2' : (ndL d.l (lft d r) (ent d s e l).1.1 (ent d s e l).1.2.1 (ent d s e l).1.2.2).2 = 0 := by omega
   have hlr : lft d r <= r - (1 + d.f.length + d.p.length + d.x.length) := (KPi.bq_le _ (xsC d) _ (Nat.le_refl _)).1
   have r1 := ndL_room _ d.l (lft d r) (ent d s e l).1.1 (ent d s e l).1.2.1 (ent d s e l).1.2.2 (Nat.le_refl _) o2' z1
   rcases List.mem_cons.1 hc with rfl | hc
   ·have hx : ∀ x ∈ xsC c, gd x /\ ops okOp x /\ xr x := fun x hx => rs_all (List.all_eq_true.1 z4 x hx) (hi.1.1 x hx)
    have kl := ih c.l (lft c r)
    have ku := ih c.u (ndL c.l (lft c r) (ent c s e l).1.1 (ent c s e l).1.2.1 (ent c s e l).1.2.2).1
    rw [oks]
    refine ⟨hx, by omega, hs, ?_⟩
    unfold ent at z2 z3 o2' h1n
    by_cases k1 : c.k = 1
    ·exact .inl k1
    rw [if_neg k1] at z2 z3 o2' h1n
    by_cases k2 : c.k = 2
    ·rw [if_pos k2] at z2 z3 o2' h1n
     simp only [Bool.and_eq_true] at z3
     exact .inr (.inl ⟨k2, z3.1.2, kl s _ _ (by omega) o2' (by omega) hs hi.1.2.1⟩)
    rw [if_neg k2] at z2 z3 o2' h1n
    by_cases k3 : c.k = 3
    ·rw [if_pos k3] at z2 z3 o2' h1n
     simp only [Bool.and_eq_true, beq_iff_eq] at z3
     unfold ent at ku r1
     rw [if_neg k1, if_neg k2, if_pos k3] at ku r1
     exact .inr (.inr (.inl ⟨k3, by omega, kl s _ _ (by omega) o2' (by omega) hs hi.1.2.1, ku s _ _ (by omega) h1n (by omega) hs hi.1.2.2⟩))
    rw [if_neg k3] at z2 z3 o2' h1n
    by_cases k4 : c.k = 4
    ·rw [if_pos k4] at z2 z3 o2' h1n
     simp only [Bool.and_eq_true, beq_iff_eq] at z3
     dsimp only at z2
     exact .inr (.inr (.inr (.inl ⟨k4, by omega, by omega, kl (s + 2) _ _ (by omega) o2' (by omega) (by omega) hi.1.2.1⟩)))
    rw [if_neg k4] at z2 z3 o2' h1n
    by_cases k5 : c.k = 5
    ·rw [if_pos k5] at z2 z3 o2' h1n
     dsimp only at z2
     exact .inr (.inr (.inr (.inr ⟨k5, by omega, kl (s + c.x.length) _ _ (by omega) (by rw [Int.natCast_add]; exact o2') (by omega) (by omega) hi.1.2.1⟩)))
    ·rw [if_neg k5] at z3; cases z3
   ·have r2 := ndL_room _ [d] r s e l (Nat.le_refl _) h1' (by omega)
    exact iht _ s e l (by omega) h (by omega) hs hi.2 c hc
theorem chk_oks {cs : List Co} (h : chk cs = 0) (hi : icL cs) : ∀ c ∈ cs, oks (szL cs) 1 c := nd_oks _ cs 4096 1 0 0 (Nat.le_refl _) h (by omega) (by omega) hi
end Go.Proofs.YtiijfmdfccdagaaGreatDoor.GKl
namespace Go.Proofs.YtiijfmdfccdagaaGreatDoor.GAn
open Go.RowKit Base EPure KBase KEx JPure JGd JGe GPl GTr GAt GAs GNs GRn GN2 GN4 GN5 GKl
open VPure hiding evL
def gds (L : List C) : Prop := ∀ c ∈ L, Gd c
theorem gds.rh {L : List C} (h : gds L) : ∀ (j : Int) c, rh L j = some c -> Gd c := by
 intro j c hj
 unfold GPl.rh at hj
 split at hj
 ·exact h c (List.mem_of_getElem? hj)
 ·cases hj
theorem gds.app {L N : List C} (h : gds L) (k : gds N) : gds (L ++ N) := fun c hc => (List.mem_append.1 hc).elim (h c) (k c)
theorem Gd.mem {c d : C} (h : Gd c) (hd : d ∈ c.l) : Gd d := by
 obtain ⟨q, hq, rfl⟩ := List.getElem_of_mem hd
 have := Gd.sub h hq
 rwa [List.getD_eq_getElem?_getD, List.getElem?_eq_getElem hq] at this
theorem mem_f {c : Co} {j : Nat} (h : j < c.f.length) (hb : c.f[j].b = true) : c.f[j].e ∈ xsC c := by
 unfold xsC ex1
 refine List.mem_append_left _ (List.mem_map.2 ⟨c.f[j], List.mem_filter.2 ⟨List.getElem_mem h, hb⟩, rfl⟩)
theorem mem_p {c : Co} {j : Nat} (h : j < c.p.length) (hb : c.p[j].b = true) : c.p[j].e ∈ xsC c := by
 unfold xsC ex2
 refine List.mem_append_right _ (List.mem_append_left _ (List.mem_map.2 ⟨c.p[j], List.mem_filter.2 ⟨List.getElem_mem h, hb⟩, rfl⟩))
theorem mem_x {c : Co} {y : Ex} (h : y ∈ c.x) : y ∈ xsC c := List.mem_append_right _ (List.mem_append_right _ h)
theorem atr_sz {L : List C} (hL : gds L) {p : ByteArray} {b : Bool} {x : Ex} (hp : b = false -> STx.tg p = true) (hx : b = true -> xr x) {a : ByteArray × Bool} (h : atr L p b x = .ok a) : a.1.size <= 4096 := by
 unfold atr at h
 by_cases hb : b = true
 ·rw [if_pos hb] at h
  obtain ⟨v, h1, h2⟩ := bnd_ok h
  have hg := ev_gd hL.rh (hx hb) h1
  unfold aV at h2
  by_cases k1 : v.k = 1
  ·rw [if_pos k1] at h2; injection h2 with h2; rw [<- h2]; decide
  rw [if_neg k1] at h2
  by_cases k2 : v.k = 2
  ·rw [if_pos k2] at h2; injection h2 with h2; rw [<- h2]; exact Nat.zero_le _
  rw [if_neg k2] at h2
  obtain ⟨t, h3, h4⟩ := bnd_ok h2
  injection h4 with h4
  rw [<- h4]
  exact tg_size (txt_tg hg h3)
 ·rw [if_neg hb] at h
  injection h with h
  rw [<- h]
  exact tg_size (hp (by simpa using hb))
theorem ats_sz {L : List C} (hL : gds L) : ∀ (z : Option ByteArray) (f : List Fld), KFd.fl1 z f = true -> (∀ j (h : j < f.length), f[j].b = true -> xr f[j].e) -> ∀ n, ats L f = .ok n -> n.length <= f.length /\ ∀ t ∈ n, t.1.size <= 4096 /\ t.2.size <= 4096
 | _, [], _, _, n, h => by
  rw [ats] at h
  injection h with h
  rw [<- h]
  exact ⟨Nat.le_refl _, fun t ht => absurd ht (by simp)⟩
 | z, c :: t, hf, hx, n, h => by
  rw [KFd.fl1] at hf
  simp only [Bool.and_eq_true] at hf
  rw [ats] at h
  obtain ⟨a, h1, h2⟩ := bnd_ok h
  obtain ⟨r, h3, h4⟩ := bnd_ok h2
  obtain ⟨i1, i2⟩ := ats_sz hL _ t hf.2 (fun j hj => by have := hx (j + 1) (by simp; omega); simpa using this) r h3
  have hn : c.n.size <= 4096 := by
   have := hf.1.1
   unfold UBase.word at this
   simp only [Bool.and_eq_true, decide_eq_true_eq] at this
   omega
  have ha := atr_sz hL (fun hb => by
   have := hf.1.2.2.2
   unfold KSh.vOk at this
   rw [hb] at this
   simp only [Bool.false_eq_true, if_false, Bool.and_eq_true] at this
   exact this.1) (fun hb => hx 0 (by simp) hb) h1
  injection h4 with h4
  rw [<- h4]
  by_cases e : a.2 = true
  ·rw [if_pos e]
   refine ⟨by simpa using i1, fun u hu => ?_⟩
   rcases List.mem_cons.1 hu with rfl | hu
   ·exact ⟨hn, ha⟩
   ·exact i2 u hu
  ·rw [if_neg e]
   exact ⟨by simp; omega, i2⟩
theorem wth_gd : ∀ {xs : List Ex} {L L' : List C}, gds L -> (∀ x ∈ xs, xr x) -> wth L xs = .ok L' -> gds L'
 | [], L, L', hL, _, h => by
  rw [wth] at h
  injection h with h
  rw [<- h]
  exact hL
 | x :: t, L, L', hL, hx, h => by
  rw [wth] at h
  obtain ⟨v, h1, h2⟩ := bnd_ok h
  refine wth_gd (hL.app fun c hc => ?_) (fun y hy => hx y (List.mem_cons_of_mem _ hy)) h2
  rw [List.mem_singleton.1 hc]
  exact ev_gd hL.rh (hx x (List.mem_cons_self ..)) h1
theorem nds_all {K m B Bb : Nat} {sv : Sz} (hZ : sv.2.1.length <= 50000) : ∀ (n : Nat) (L : List C) (c : Co), oks n L.length c -> gds L -> 0 < L.length -> NDs K m B Bb sv n L c := by
 intro n
 induction n with
 | zero => intro L c h; rw [oks] at h; exact h.elim
 | succ n ih =>
  intro L c h hL h0
  rw [oks] at h
  obtain ⟨hx, hf, hs, h⟩ := h
  rcases h with k | ⟨k, hfl, hl⟩ | ⟨k, hn, hl, hu⟩ | ⟨k, hn, h2, hl⟩ | ⟨k, h2, hl⟩
  ·exact text_d k (fun j hj hb => ⟨(hx _ (mem_p hj hb)).1, (hx _ (mem_p hj hb)).2.1⟩)
  ·refine elem_d hZ k (fun j hj hb => ⟨(hx _ (mem_f hj hb)).1, (hx _ (mem_f hj hb)).2.1⟩) hf (fun r hr => ?_) (fun d hd => ih L d (hl d hd) hL h0)
   obtain ⟨i1, i2⟩ := ats_sz hL none c.f hfl (fun j hj hb => (hx _ (mem_f hj hb)).2.2) r hr
   exact ⟨by omega, fun t ht => ⟨by have := (i2 t ht).1; omega, by have := (i2 t ht).2; omega⟩⟩
  ·obtain ⟨y, hy⟩ : ∃ y, c.x = [y] := List.length_eq_one_iff.1 hn
   have hg := hx y (mem_x (by rw [hy]; simp))
   exact choose_d hZ k hy ⟨hg.1, hg.2.1⟩ (fun d hd => ih L d (hl d hd) hL h0) (fun d hd => ih L d (hu d hd) hL h0)
  ·obtain ⟨y0, y1, hy⟩ : ∃ y0 y1, c.x = [y0, y1] := by
    match hc : c.x with
    | [] => rw [hc] at hn; simp at hn
    | [a] => rw [hc] at hn; simp at hn
    | [a, b] => exact ⟨a, b, rfl⟩
    | a :: b :: d :: t => rw [hc] at hn; simp at hn
   have hg0 := hx y0 (mem_x (by rw [hy]; simp))
   have hg1 := hx y1 (mem_x (by rw [hy]; simp))
   have hlg : ∀ l, bnd (ev (rh L) y0) isL = .ok l -> l.length <= 16384 /\ gds l := fun l h => by
    obtain ⟨v, e1, e2⟩ := bnd_ok h
    have hv := ev_gd hL.rh hg0.2.2 e1
    unfold isL at e2
    by_cases k5 : v.k = 5
    ·rw [if_pos k5] at e2
     injection e2 with e2
     subst e2
     exact ⟨hv.self.2.2.2, fun d hd => Gd.mem hv hd⟩
    ·rw [if_neg k5] at e2; cases e2
   refine loop_d hZ k hy ⟨hg0.1, hg0.2.1⟩ ⟨hg1.1, hg1.2.1⟩ (fun l h => ⟨by have := (hlg l h).1; omega, fun d hd => Gd.wf ((hlg l h).2 d hd)⟩) (by omega) h0 (fun l q hq h d hd => ih _ d ?_ (hL.app ?_) (by simp))
   ·have := hl d hd
    simpa using this
   ·have hq' := (hlg l h).1
    intro v hv
    rcases List.mem_cons.1 hv with rfl | hv
    ·exact (hlg l h).2 _ (List.getElem_mem hq)
    ·rw [List.mem_singleton.1 hv]
     exact gd_int ⟨by omega, by omega⟩
  ·refine with_d hZ k (fun j hj => ⟨(hx _ (mem_x (List.getElem_mem hj))).1, (hx _ (mem_x (List.getElem_mem hj))).2.1⟩) (by omega) h0 (fun N hN d hd => ih _ d ?_ (wth_gd hL (fun x hxx => (hx x (mem_x hxx)).2.2) hN) (by rw [List.length_append]; omega))
   obtain ⟨N', e, hN'⟩ := GWi.wth_app hN
   have : N = N' := List.append_cancel_left e
   rw [this, List.length_append, hN']
   exact hl d hd
end Go.Proofs.YtiijfmdfccdagaaGreatDoor.GAn
namespace Go.Proofs.YtiijfmdfccdagaaGreatDoor.TPure
open Go.RowKit TBase UBase UValid UOwn
def tg (s : ByteArray) : Bool := decide (s.size <= 4096) && (verr s == 0)
theorem iter_below (w : World) (s : ByteArray) (p : Nat) : Below w.heap.size w (w.iter s p) := (Below.refl _ w).alloc (Nat.le_refl _) _
theorem verr_cases (s : ByteArray) : verr s = 0 \/ verr s = 300 := by
 cases h : bad s 0 with
 | none => exact .inl (verr_none h).2
 | some i => exact .inr (verr_some h).2
theorem short_c (s : ByteArray) (hs : s.size <= 140737488351232) (w : World) :
  Calls prog 63 #[.string s] w fun r w' => r = .returned (.bool (tg s)) /\ Below w.heap.size w w' := by
 have c71 := valid_c s (by omega) w
 by_cases h : s.size <= 4096
 ·have e : tg s = (verr s == 0) := by simp [tg, h]
  rw [e]
  have hv := verr_cases s
  generalize verr s = x at *
  generalize vat s = y at *
  have h' : decide ((4096 : Int) < (s.size : Int)) = false := decide_eq_false (by omega)
  clear e
  rcases hv with rfl | rfl
  ·go_enter func63, ntmps63
   go_wp2_with (first | (go_at_call 87; refine c71.mono ?_; rintro e w' ⟨rfl, p, rfl⟩))
   go_ret
   exact ⟨rfl, iter_below _ _ _⟩
  ·go_enter func63, ntmps63
   go_wp2_with (first | (go_at_call 87; refine c71.mono ?_; rintro e w' ⟨rfl, p, rfl⟩))
   go_ret
   exact ⟨rfl, iter_below _ _ _⟩
 ·have e : tg s = false := by simp [tg, h]
  rw [e]
  have h' : decide ((4096 : Int) < (s.size : Int)) = true := decide_eq_true (by omega)
  clear c71 e
  go_enter func63, ntmps63
  go_wp2_with fail
  go_ret
  exact ⟨rfl, Below.refl _ _⟩
def lt (a b : ByteArray) : Bool := Op.bytesLess a.toList b.toList
def eqB (a b : ByteArray) : Bool := a.toList == b.toList
def cmpB (a b : ByteArray) : Int := if lt a b = true then -1 else if eqB a b = true then 0 else 1
theorem nan_c (a : ByteArray) (w : World) : Calls prog 113 #[.string a] w fun r w' => r = .returned (.bool false) /\ w' = w := by
 go_enter func113, ntmps113
 go_wp2_with fail
 go_ret
 exact ⟨rfl, rfl⟩
theorem cmp_c (a b : ByteArray) (w : World) : Calls prog 84 #[.string a, .string b] w fun r w' => r = .returned (.int .i64 (cmpB a b)) /\ w' = w := by
 have c1 := nan_c a w
 have c2 := nan_c b w
 cases h1 : Op.bytesLess a.toList b.toList with
 | true =>
  have e : cmpB a b = -1 := by simp [cmpB, lt, h1]
  rw [e]
  go_enter func84, ntmps84
  go_wp2_with (first | (go_at_call 113; first | (refine c1.mono ?_; rintro e w' ⟨rfl, rfl⟩) | (refine c2.mono ?_; rintro e w' ⟨rfl, rfl⟩)))
  go_ret
  exact ⟨rfl, rfl⟩
 | false =>
  cases h2 : (a.toList == b.toList) with
  | true =>
   have e : cmpB a b = 0 := by simp only [cmpB, lt, eqB, h1, h2]; rfl
   rw [e]
   go_enter func84, ntmps84
   go_wp2_with (first | (go_at_call 113; first | (refine c1.mono ?_; rintro e w' ⟨rfl, rfl⟩) | (refine c2.mono ?_; rintro e w' ⟨rfl, rfl⟩)))
   go_ret
   exact ⟨rfl, rfl⟩
  | false =>
   have e : cmpB a b = 1 := by simp only [cmpB, lt, eqB, h1, h2]; rfl
   rw [e]
   go_enter func84, ntmps84
   go_wp2_with (first | (go_at_call 113; first | (refine c1.mono ?_; rintro e w' ⟨rfl, rfl⟩) | (refine c2.mono ?_; rintro e w' ⟨rfl, rfl⟩)))
   go_ret
   exact ⟨rfl, rfl⟩
theorem cmpB_ge (a b : ByteArray) : decide ((0 : Int) <= cmpB a b) = !lt a b := by
 unfold cmpB
 cases lt a b with
 | true => simp
 | false =>
  cases eqB a b <;> simp
def aok (n : List (ByteArray × ByteArray)) (i : Nat) (h : i < n.length) : Bool := UBase.word n[i].1 45 && (tg n[i].2 && (decide (i = 0) || lt (n[i - 1]'(by omega)).1 n[i].1))
def attrsOK (n : List (ByteArray × ByteArray)) : Bool := decide (∀ i (h : i < n.length), aok n i h = true)
def alone (c : T) : Bool := if c.g.toList.isEmpty = true then decide (c.n.length = 0) && (decide (c.l.length = 0) && tg c.s) else UBase.word c.g 45 && (c.s.toList.isEmpty && attrsOK c.n)
theorem attrsOK_true {n : List (ByteArray × ByteArray)} (h : ∀ i (h : i < n.length), aok n i h = true) : attrsOK n = true := decide_eq_true h
theorem attrsOK_false {n : List (ByteArray × ByteArray)} {i : Nat} (hi : i < n.length) (h : aok n i hi = false) : attrsOK n = false := decide_eq_false fun H => by rw [H i hi] at h; cases h
end Go.Proofs.YtiijfmdfccdagaaGreatDoor.TPure
namespace Go.Proofs.YtiijfmdfccdagaaGreatDoor.Order
open Go.RowKit
theorem less_trans : ∀ (x y z : List UInt8), Op.bytesLess x y = true -> Op.bytesLess y z = true -> Op.bytesLess x z = true
 | _, [], _, h, _ => by cases ‹List UInt8› <;> simp [Op.bytesLess] at h
 | _, _ :: _, [], _, h => by simp [Op.bytesLess] at h
 | [], _ :: _, _ :: _, _, _ => rfl
 | a :: x, b :: y, c :: z, h1, h2 => by
  simp only [Op.bytesLess, Bool.or_eq_true, Bool.and_eq_true, decide_eq_true_eq, beq_iff_eq] at h1 h2 ⊢
  rcases h1 with h1 | ⟨rfl, h1⟩
  ·rcases h2 with h2 | ⟨rfl, h2⟩
   ·have h1 : a.toNat < b.toNat := h1
    have h2 : b.toNat < c.toNat := h2
    exact .inl (show a.toNat < c.toNat by omega)
   ·exact .inl h1
  ·rcases h2 with h2 | ⟨rfl, h2⟩
   ·exact .inl h2
   ·exact .inr ⟨rfl, less_trans x y z h1 h2⟩
end Go.Proofs.YtiijfmdfccdagaaGreatDoor.Order
namespace Go.Proofs.YtiijfmdfccdagaaGreatDoor.GOa
open Go.RowKit Base EPure JGe GPl GAt GAs GTx GRn GAn
open VPure hiding evL
open KBase (Pt Fld Co)
open TBase (T)
theorem atr_tg {L : List C} (hL : gds L) {p : ByteArray} {b : Bool} {x : Ex} (hp : b = false -> STx.tg p = true) (hx : b = true -> xr x) {a : ByteArray × Bool} (h : atr L p b x = .ok a) : Pure.tg a.1 = true := by
 unfold atr at h
 by_cases hb : b = true
 ·rw [if_pos hb] at h
  obtain ⟨v, h1, h2⟩ := bnd_ok h
  have hg := ev_gd hL.rh (hx hb) h1
  unfold aV at h2
  by_cases k1 : v.k = 1
  ·rw [if_pos k1] at h2; injection h2 with h2; rw [<- h2]; exact tg_e
  rw [if_neg k1] at h2
  by_cases k2 : v.k = 2
  ·rw [if_pos k2] at h2; injection h2 with h2; rw [<- h2]; exact tg_e
  rw [if_neg k2] at h2
  obtain ⟨t, h3, h4⟩ := bnd_ok h2
  injection h4 with h4
  rw [<- h4]
  exact txt_tg hg h3
 ·rw [if_neg hb] at h
  injection h with h
  rw [<- h]
  exact hp (by simpa using hb)
def aft (z : Option ByteArray) (n : ByteArray) : Prop := ∀ m, z = some m -> Op.bytesLess m.toList n.toList = true
theorem aft_of {z : Option ByteArray} {n : ByteArray} (h : KFd.nlt z n = true) : aft z n := fun m e => by subst e; exact h
def asc : Option ByteArray -> List (ByteArray × ByteArray) -> Prop
 | _, [] => True
 | z, a :: t => aft z a.1 /\ asc (some a.1) t
theorem asc_up {z : Option ByteArray} {n : ByteArray} (h : aft z n) : ∀ {l : List (ByteArray × ByteArray)}, asc (some n) l -> asc z l
 | [], _ => trivial
 | a :: t, k => ⟨fun m e => Order.less_trans _ _ _ (h m e) (k.1 n rfl), k.2⟩
theorem ats_ok {L : List C} (hL : gds L) : ∀ (z : Option ByteArray) (f : List Fld), KFd.fl1 z f = true -> (∀ j (h : j < f.length), f[j].b = true -> xr f[j].e) -> ∀ n, ats L f = .ok n -> asc z n /\ ∀ t ∈ n, UBase.word t.1 45 = true /\ Pure.tg t.2 = true
 | _, [], _, _, n, h => by
  rw [ats] at h
  injection h with h
  rw [<- h]
  exact ⟨trivial, fun t ht => absurd ht (by simp)⟩
 | z, c :: t, hf, hx, n, h => by
  rw [KFd.fl1] at hf
  simp only [Bool.and_eq_true] at hf
  rw [ats] at h
  obtain ⟨a, h1, h2⟩ := bnd_ok h
  obtain ⟨r, h3, h4⟩ := bnd_ok h2
  obtain ⟨i1, i2⟩ := ats_ok hL _ t hf.2 (fun j hj => by have := hx (j + 1) (by simp; omega); simpa using this) r h3
  have ha := atr_tg hL (fun hb => by
   have := hf.1.2.2.2
   unfold KSh.vOk at this
   rw [hb] at this
   simp only [Bool.false_eq_true, if_false, Bool.and_eq_true] at this
   exact this.1) (fun hb => hx 0 (by simp) hb) h1
  have hz := aft_of hf.1.2.1
  injection h4 with h4
  rw [<- h4]
  by_cases e : a.2 = true
  ·rw [if_pos e]
   refine ⟨⟨hz, i1⟩, fun u hu => ?_⟩
   rcases List.mem_cons.1 hu with rfl | hu
   ·exact ⟨hf.1.1, ha⟩
   ·exact i2 u hu
  ·rw [if_neg e]
   exact ⟨asc_up hz i1, i2⟩
theorem asc_get : ∀ {z : Option ByteArray} {l : List (ByteArray × ByteArray)}, asc z l -> ∀ i (h : i + 1 < l.length), Op.bytesLess l[i].1.toList l[i + 1].1.toList = true
 | _, [], _, i, h => absurd h (by simp)
 | _, [a], _, i, h => absurd h (by simp)
 | _, a :: b :: t, k, 0, h => k.2.1 _ rfl
 | _, a :: b :: t, k, i + 1, h => asc_get k.2 i (by simpa using h)
theorem attrs_ok {z : Option ByteArray} {n : List (ByteArray × ByteArray)} (h : asc z n) (k : ∀ t ∈ n, UBase.word t.1 45 = true /\ Pure.tg t.2 = true) : TPure.attrsOK n = true := by
 unfold TPure.attrsOK
 rw [decide_eq_true_eq]
 intro i hi
 obtain ⟨k1, k2⟩ := k _ (List.getElem_mem hi)
 unfold TPure.aok
 have k3 : TPure.tg n[i].2 = true := k2
 rw [k1, k3]
 cases i with
 | zero => rfl
 | succ i =>
  have := asc_get h i hi
  simp only [Bool.true_and, Bool.or_eq_true, Nat.add_sub_cancel]
  exact .inr this
theorem tpc_tg {L : List C} (hL : gds L) {p : ByteArray} {b : Bool} {x : Ex} (hp : b = false -> STx.tg p = true) (hx : b = true -> xr x) {a : ByteArray} (h : tpc L p b x = .ok a) : Pure.tg a = true := by
 unfold tpc at h
 by_cases hb : b = true
 ·rw [if_pos hb] at h
  obtain ⟨v, h1, h2⟩ := bnd_ok h
  exact txt_tg (ev_gd hL.rh (hx hb) h1) h2
 ·rw [if_neg hb] at h
  injection h with h
  rw [<- h]
  exact hp (by simpa using hb)
theorem arr_app (s : ByteArray) (r : List UInt8) : (⟨(s.data.toList ++ r).toArray⟩ : ByteArray) = s ++ ⟨r.toArray⟩ := by
 apply ByteArray.ext
 simp
theorem tgo_tg {L : List C} (hL : gds L) : ∀ (ps : List Pt) (n : Nat), n <= 4096 -> (∀ j (h : j < ps.length), ps[j].b = true -> xr ps[j].e) -> ps.all KSh.vOk = true -> ∀ l, tgo L ps n = .ok l -> Pure.tg ⟨l.toArray⟩ = true /\ n + l.length <= 4096
 | [], n, hn, _, _, l, h => by
  rw [tgo] at h
  injection h with h
  rw [<- h]
  exact ⟨tg_e, by simpa using hn⟩
 | c :: t, n, hn, hx, hv, l, h => by
  rw [List.all_cons, Bool.and_eq_true] at hv
  rw [tgo] at h
  obtain ⟨s, h1, h2⟩ := bnd_ok h
  have ts := tpc_tg hL (fun hb => by
   have := hv.1
   unfold KSh.vOk at this
   rw [hb] at this
   simp only [Bool.false_eq_true, if_false, Bool.and_eq_true] at this
   exact this.1) (fun hb => hx 0 (by simp) hb) h1
  by_cases q : 4096 < n + s.size
  ·rw [if_pos q] at h2; cases h2
  rw [if_neg q] at h2
  obtain ⟨r, h3, h4⟩ := bnd_ok h2
  obtain ⟨i1, i2⟩ := tgo_tg hL t (n + s.size) (by omega) (fun j hj => by have := hx (j + 1) (by simp; omega); simpa using this) hv.2 r h3
  injection h4 with h4
  have e2 : (⟨r.toArray⟩ : ByteArray).size = r.length := by show r.toArray.size = _; simp
  rw [<- h4, arr_app]
  refine ⟨tg_join ts i1 (by omega), ?_⟩
  have : s.data.toList.length = s.size := by simp
  rw [List.length_append]
  omega
end Go.Proofs.YtiijfmdfccdagaaGreatDoor.GOa
namespace Go.Proofs.YtiijfmdfccdagaaGreatDoor.GIr
open Go.RowKit Base EPure KEx JPure JGd JGe JEr GTr GAt GAs GTx GNo GNe GRn GKl GAn
open VPure hiding evL
open KBase (Pt Fld Co)
open TBase (T)
open Walk (pl plL)
theorem in_rg {S : Nat -> Prop} {w : World} : ∀ (m : Nat) (v : Value) (c : C) (d : Nat), Base.In false S w m v c -> ∀ p ∈ pl d c, rg p.2.i := by
 intro m
 induction m with
 | zero => intro v c d h; rw [Base.In] at h; exact h.elim
 | succ m ih =>
  intro v c d h p hp
  obtain ⟨k, b, i, s, n, l⟩ := c
  obtain ⟨nv, lv, -, -, hi, -, -, a, cap, -, -, -, -, -, hL⟩ := in_iff.1 h
  rw [pl] at hp
  rcases List.mem_cons.1 hp with rfl | hp
  ·exact hi
  ·have hl : ∀ (t : List C), (∀ c ∈ t, c ∈ l) -> ∀ p ∈ plL (d + 1) t, rg p.2.i := by
    intro t
    induction t with
    | nil => intro _ p hp; rw [plL] at hp; cases hp
    | cons c t iht =>
     intro ht p hp
     rw [Walk.plL_cons] at hp
     rcases List.mem_append.1 hp with hp | hp
     ·obtain ⟨j, hj, e⟩ := List.mem_iff_getElem.1 (ht c (by simp))
      obtain ⟨g, o, u, -, -, -, hin⟩ := elem_at hL hj
      rw [e] at hin
      exact ih u c (d + 1) hin p hp
     ·exact iht (fun c hc => ht c (by simp [hc])) p hp
   exact hl l (fun _ h => h) p hp
theorem in_gd {S : Nat -> Prop} {w : World} {m : Nat} {v : Value} {c : C} (h : Base.In false S w m v c) (hc : code c = 0) : Gd c := ⟨hc, in_rg m v c 1 h⟩
theorem in_ir {S : Nat -> Prop} {w : World} : ∀ (m : Nat) (v : Value) (x : Ex), XBase.In false S w m v x -> ir x := by
 intro m
 induction m with
 | zero => intro v c h; rw [XBase.In] at h; exact h.elim
 | succ m ih =>
  intro v x h
  obtain ⟨o, i, s, l⟩ := x
  obtain ⟨lv, -, -, hi, -, a, cap, -, -, -, -, -, hL⟩ := XBase.in_iff.1 h
  refine ⟨hi, ?_⟩
  have hl : ∀ (t : List Ex), (∀ c ∈ t, c ∈ l) -> irL t := by
   intro t
   induction t with
   | nil => intro _; rw [irL]; exact trivial
   | cons c t iht =>
    intro ht
    obtain ⟨j, hj, e⟩ := List.mem_iff_getElem.1 (ht c (by simp))
    obtain ⟨g, o', u, -, -, -, hin⟩ := XBase.elem_at hL hj
    rw [e] at hin
    have := ih u c hin
    obtain ⟨o2, i2, s2, l2⟩ := c
    rw [irL]
    exact ⟨this, iht fun c hc => ht c (by simp [hc])⟩
  exact hl l fun _ h => h
theorem xs_ir {S : Nat -> Prop} {w : World} {m : Nat} {v : Value} {c : Co} (h : KBase.In false S w m v c) : ∀ y ∈ xsC c, ir y := by
 obtain ⟨m', fv, pv, xv, lv, uv, -, -, -, -, hF, hP, ⟨nx, hX⟩, -, -⟩ := h.shape
 obtain ⟨a1, c1, -, -, -, -, -, hLF⟩ := hF
 obtain ⟨a2, c2, -, -, -, -, -, hLP⟩ := hP
 obtain ⟨a3, c3, -, -, -, -, -, hLX⟩ := hX
 intro y hy
 unfold xsC ex1 ex2 at hy
 rcases List.mem_append.1 hy with hy | hy
 ·obtain ⟨f, hf, rfl⟩ := List.mem_map.1 hy
  obtain ⟨j, hj, e⟩ := List.mem_iff_getElem.1 (List.mem_filter.1 hf).1
  obtain ⟨g, o, u, -, -, -, mm, e0, e1, e2, e3, -, -, -, hx, -⟩ := hLF.elem hj
  rw [e] at hx
  exact in_ir _ _ _ hx
 ·rcases List.mem_append.1 hy with hy | hy
  ·obtain ⟨f, hf, rfl⟩ := List.mem_map.1 hy
   obtain ⟨j, hj, e⟩ := List.mem_iff_getElem.1 (List.mem_filter.1 hf).1
   obtain ⟨g, o, u, -, -, -, mm, e0, e1, e2, e3, -, -, hx⟩ := hLP.elem hj
   rw [e] at hx
   exact in_ir _ _ _ hx
  ·obtain ⟨j, hj, rfl⟩ := List.mem_iff_getElem.1 hy
   obtain ⟨g, o, u, -, -, -, hx⟩ := XBase.elem_at hLX hj
   exact in_ir _ _ _ hx
theorem ic_of {S : Nat -> Prop} {w : World} : ∀ (m : Nat) (v : Value) (cs : List Co), KBase.InL false S w m v cs -> icL cs := by
 intro m
 induction m with
 | zero =>
  intro v cs h
  obtain ⟨a, cap, -, -, -, -, -, hL⟩ := h
  cases cs with
  | nil => rw [icL]; trivial
  | cons c t =>
   obtain ⟨g, o, u, -, -, -, hi⟩ := hL.elem (q := 0) (by simp)
   exact (KBase.in_zero hi).elim
 | succ m ih =>
  intro v cs h
  obtain ⟨a, cap, -, -, -, -, -, hL⟩ := h
  have hl : ∀ (t : List Co), (∀ c ∈ t, c ∈ cs) -> icL t := by
   intro t
   induction t with
   | nil => intro _; rw [icL]; trivial
   | cons c t iht =>
    intro ht
    obtain ⟨j, hj, e⟩ := List.mem_iff_getElem.1 (ht c (by simp))
    obtain ⟨g, o', u, -, -, -, hin⟩ := hL.elem hj
    rw [e] at hin
    obtain ⟨m', fv, pv, xv, lv, uv, hm, -, -, -, -, -, -, h1, h2⟩ := hin.shape
    obtain rfl : m = m' := by omega
    rw [icL_cons]
    exact ⟨⟨xs_ir hin, ih _ _ h1, ih _ _ h2⟩, iht fun c hc => ht c (by simp [hc])⟩
  exact hl cs fun _ h => h
theorem isL0 (c : C) : N0 (isL c) := by unfold isL; split <;> first | exact ok0 _ | exact er0 (by decide)
theorem isK0 (c : C) : N0 (isK c) := by unfold isK; split <;> first | exact ok0 _ | exact er0 (by decide)
theorem aV0 (c : C) : N0 (aV c) := by
 unfold aV
 split
 ·exact ok0 _
 ·split
  ·exact ok0 _
  ·exact bnd0 (txt0 c) fun _ => ok0 _
theorem atr0 {L : List C} {p : ByteArray} {b : Bool} {x : Ex} (hg : b = true -> gd x) : N0 (atr L p b x) := by
 unfold atr
 split
 ·rename_i h; exact bnd0 (ev0 (hg h)) aV0
 ·exact ok0 _
theorem tpc0 {L : List C} {p : ByteArray} {b : Bool} {x : Ex} (hg : b = true -> gd x) : N0 (tpc L p b x) := by
 unfold tpc
 split
 ·rename_i h; exact bnd0 (ev0 (hg h)) txt0
 ·exact ok0 _
theorem ats0 {L : List C} : ∀ (f : List Fld), (∀ j (h : j < f.length), f[j].b = true -> gd f[j].e) -> N0 (ats L f)
 | [], _ => by rw [ats]; exact ok0 _
 | c :: t, h => by
  rw [ats]
  exact bnd0 (atr0 (h 0 (by simp))) fun a => bnd0 (ats0 t fun j hj => by have := h (j + 1) (by simp; omega); simpa using this) fun _ => ok0 _
theorem tgo0 {L : List C} : ∀ (f : List Pt) (n : Nat), (∀ j (h : j < f.length), f[j].b = true -> gd f[j].e) -> N0 (tgo L f n)
 | [], _, _ => by rw [tgo]; exact ok0 _
 | c :: t, n, h => by
  rw [tgo]
  refine bnd0 (tpc0 (h 0 (by simp))) fun s => ?_
  split
  ·exact er0 (by decide)
  ·exact bnd0 (tgo0 t _ fun j hj => by have := h (j + 1) (by simp; omega); simpa using this) fun _ => ok0 _
theorem kys0 {L : List C} {x : Ex} (hg : gd x) : ∀ (l : List C) (i : Nat) (ks : List (Int × Int × ByteArray)), N0 (kys L x l i ks)
 | [], _, _ => by rw [kys]; exact ok0 _
 | v :: t, i, ks => by
  rw [kys]
  refine bnd0 (bnd0 (ev0 hg) isK0) fun k => ?_
  split
  ·exact er0 (by decide)
  ·exact kys0 hg t _ _
theorem wth0 : ∀ (xs : List Ex) (L : List C), (∀ x ∈ xs, gd x) -> N0 (wth L xs)
 | [], L, _ => by rw [wth]; exact ok0 _
 | x :: t, L, h => by
  rw [wth]
  exact bnd0 (ev0 (h x (by simp))) fun v => wth0 t _ fun y hy => h y (by simp [hy])
theorem rnL0 {f : Co -> Int -> Except Nat (List T × Int)} : ∀ (cs : List Co) (r : Int) (F : List T), (∀ d ∈ cs, ∀ x, N0 (f d x)) -> N0 (rnL f cs r F)
 | [], r, F, _ => by rw [rnL]; exact ok0 _
 | c :: t, r, F, h => by
  rw [rnL]
  exact bnd0 (h c (by simp) r) fun a => rnL0 t _ _ fun d hd => h d (by simp [hd])
theorem lp0 {f : Nat -> C -> Int -> Except Nat (List T × Int)} (h : ∀ i v x, N0 (f i v x)) : ∀ (l : List C) (i : Nat) (r : Int) (F : List T), N0 (lp f l i r F)
 | [], _, _, _ => by rw [lp]; exact ok0 _
 | v :: t, i, r, F => by
  rw [lp]
  exact bnd0 (h i v r) fun a => lp0 h t _ _ _
theorem rn0 : ∀ (n : Nat) (s : Nat) (c : Co), oks n s c -> ∀ (L : List C) (x : Int), N0 (rn n L c x)
 | 0, s, c, h => by rw [oks] at h; exact h.elim
 | n + 1, s, c, h => by
  intro L x
  rw [oks] at h
  obtain ⟨hx, hf, hs, h⟩ := h
  rcases h with k | ⟨k, hfl, hl⟩ | ⟨k, hn, hl, hu⟩ | ⟨k, hn, h2, hl⟩ | ⟨k, h2, hl⟩
  ·rw [rn, if_pos k]
   refine bnd0 ?_ fun _ => ok0 _
   unfold nT
   split
   ·exact er0 (by decide)
   ·exact bnd0 (tgo0 _ _ fun j hj hb => (hx _ (mem_p hj hb)).1) fun _ => ok0 _
  ·rw [rn, if_neg (by omega), if_pos k]
   refine bnd0 ?_ fun _ => ok0 _
   unfold nE
   split
   ·exact er0 (by decide)
   ·exact bnd0 (ats0 _ fun j hj hb => (hx _ (mem_f hj hb)).1) fun _ => bnd0 (rnL0 _ _ _ fun d hd x => rn0 n s d (hl d hd) L x) fun _ => ok0 _
  ·obtain ⟨y, hy⟩ : ∃ y, c.x = [y] := List.length_eq_one_iff.1 hn
   rw [rn, if_neg (by omega), if_neg (by omega), if_pos k]
   have e0 : GRn.x0 c = y := by unfold GRn.x0; rw [hy]; rfl
   rw [e0]
   refine bnd0 (bnd0 (ev0 (hx y (mem_x (by rw [hy]; simp))).1) isT0) fun b => ?_
   cases b
   ·exact rnL0 _ _ _ fun d hd x => rn0 n s d (hu d hd) L x
   ·exact rnL0 _ _ _ fun d hd x => rn0 n s d (hl d hd) L x
  ·obtain ⟨y0, y1, hy⟩ : ∃ y0 y1, c.x = [y0, y1] := by
    match hc : c.x with
    | [] => rw [hc] at hn; simp at hn
    | [a] => rw [hc] at hn; simp at hn
    | [a, b] => exact ⟨a, b, rfl⟩
    | a :: b :: d :: t => rw [hc] at hn; simp at hn
   rw [rn, if_neg (by omega), if_neg (by omega), if_neg (by omega), if_pos k]
   have e0 : GRn.x0 c = y0 := by unfold GRn.x0; rw [hy]; rfl
   have e1 : GRn.x1 c = y1 := by unfold GRn.x1; rw [hy]; rfl
   rw [e0, e1]
   exact bnd0 (bnd0 (ev0 (hx y0 (mem_x (by rw [hy]; simp))).1) isL0) fun l => bnd0 (kys0 (hx y1 (mem_x (by rw [hy]; simp))).1 _ _ _) fun _ => lp0 (fun i v x => rnL0 _ _ _ fun d hd x => rn0 n (s + 2) d (hl d hd) _ x) _ _ _ _
  ·rw [rn, if_neg (by omega), if_neg (by omega), if_neg (by omega), if_neg (by omega)]
   exact bnd0 (wth0 _ _ fun y hy => (hx y (mem_x hy)).1) fun L' => rnL0 _ _ _ fun d hd x => rn0 n _ d (hl d hd) L' x
end Go.Proofs.YtiijfmdfccdagaaGreatDoor.GIr
