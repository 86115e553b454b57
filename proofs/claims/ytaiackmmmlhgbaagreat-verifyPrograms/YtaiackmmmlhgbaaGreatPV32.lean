import Derived.Deep.RegionHeld3
import Derived.Test.YtaiackmmmlhgbaaGreatPV26
import Derived.Test.YtaiackmmmlhgbaaGreatPV27
import Derived.Test.YtaiackmmmlhgbaaGreatPV31
open Go.Proofs.Tryz
set_option linter.unusedVariables false
set_option maxRecDepth 20000
set_option maxHeartbeats 12800000
namespace Go.Proofs.YtaiackmmmlhgbaaGreat.BQr
open Go.RowKit BPl BGd YRr YRs BBx BQb BRn BRo BRp BRg BRh BQa BQg BQm BQn BQp BQv
open YPl (Oq Bk Pg)
open BSf (hid)
open CPu (Ins)
open TBase (T Keep heap_alloc_new)
def Xr (X Q : Nat) (w w' : World) : Prop := Below X w w' /\ ∀ g, g < w.heap.size -> g ≠ X -> g ≠ Q -> w'.heap[g]? = w.heap[g]?
def Rl (X z Q : Nat) (tv cv sv bv iv : Value) (nb : Nat) (W3 : World) (p : Nat) (fq pq : Int) (s : Lk) (H' : List Ar) (wr : World) : Prop := ∃ lv nv, Lv wr X (z + 2) z tv cv sv bv iv (nb : Int) pq fq (p : Int) s lv nv /\ Hq wr Q H' /\ Xq X Q (z + 2) z W3 wr
def Lp (e : Bool) (X z Q : Nat) (tv cv sv bv iv : Value) (nb n : Nat) (W3 : World) (S : Sh) (ops : List Oq) (A : Ar) (H : List Ar) (f2 p2 : Int) (wr : World) : Prop := ∃ p s H' fq pq, p <= n /\ s.lets ≠ [] /\ Rl X z Q tv cv sv bv iv nb W3 p fq pq s H' wr /\ (e = true -> fq = 0 -> p = n) /\
 ((fq = 0 /\ f2 = 0 /\ pq = p2 /\ Inv s /\ H'.length = H.length /\ H'[nb]? = some A /\ rgo S nb ops A 0 ops ⟨A.st, [0], []⟩ H = rgo S nb ops A p (ops.drop p) s H') \/ (fq ≠ 0 /\ f2 ≠ 0 /\ fq = f2 /\ pq = p2) \/ (fq ≠ 0 /\ f2 = 0 /\ rgo S nb ops A 0 ops ⟨A.st, [0], []⟩ H = .error (pq, fq)))
theorem Lv.other {w : World} {X L E E' : Nat} {tv cv sv bv iv : Value} {bk pl ft at' : Int} {s : Lk} {lv nv : Value} (h : Lv w X L E tv cv sv bv iv bk pl ft at' s lv nv) (hE : E' < w.heap.size) (h1 : lv.ownBlock ≠ some E') (h2 : nv.ownBlock ≠ some E') : Lv w X L E' tv cv sv bv iv bk pl ft at' s lv nv := ⟨h.box, h.lets, h.names, h.two, hE, h1, h2⟩
theorem Lv.at_set {w : World} {X L E : Nat} {tv cv sv bv iv : Value} {bk pl ft at' : Int} {s : Lk} {lv nv : Value} (h : Lv w X L E tv cv sv bv iv bk pl ft at' s lv nv) (hX : X < L) (a : Int) : Lv (w.setCell ⟨X, 8, none⟩ (.int .i64 a)) X L E tv cv sv bv iv bk pl ft a s lv nv :=
 ⟨BVf.cell_set h.box 8 _, own_kp h.lets fun q e => Below.heap_setCell _ _ _ _ (by have := (World.ownsRow.lt h.lets q e).1; show q ≠ X; omega), own_kp h.names fun q e => Below.heap_setCell _ _ _ _ (by have := (World.ownsRow.lt h.names q e).1; show q ≠ X; omega), h.two, by have := h.ex; simpa [World.setCell] using this, h.nl, h.nn⟩
theorem rone_e {S : Sh} {nb : Nat} {k : Bk} {H : List Ar} {A : Ar} (hA : H.getD nb ar0 = A) (h1 : A.ow = true) (h2 : k.d = A.st) {q : Int × Int} (h : rgo S nb k.o A 0 k.o ⟨A.st, [0], []⟩ H = .error q) : rone S nb k H = .error q := by
 unfold rone
 rw [hA, if_neg (by rw [h1]; simp), if_neg (by simp [h2]), h]
def OnE (X Q : Nat) (tv cv sv bv iv : Value) (nb : Nat) (r : Except (Int × Int) (List Ar)) (w w' : World) : Prop :=
 match r with
 | .error q => (∃ a d lv nv, Lw w' X tv cv sv bv iv (nb : Int) q.1 q.2 a d lv nv) /\ Xr X Q w w'
 | .ok H => (∃ p a d l1 l2 l3 n1 n2 n3, Lw w' X tv cv sv bv iv (nb : Int) p 0 a d (.slice l1 l2 l3) (.slice n1 n2 n3)) /\ Hq w' Q H /\ Xr X Q w w'
theorem one_c {R : Nat -> Prop} {w : World} {X Q nb hn hcap nc cc ns sc bn bc tn tc m : Nat} {ta ca sa ba : Option Addr} {pl a0 d0 : Int} {l1 n1 : Option Addr} {l2 l3 n2 n3 : Nat} {H : List Ar} {S : Sh} {C : List (List Ins)} {ds : List T} {B : List Bk}
  (h : Lw w X (.slice ta tn tc) (.slice ca nc cc) (.slice sa ns sc) (.slice ba bn bc) (.slice (some ⟨Q, 0, none⟩) hn hcap) (nb : Int) pl 0 a0 d0 (.slice l1 l2 l3) (.slice n1 n2 n3)) (hXQ : X < Q) (hQ : Q < w.heap.size) (hH : Hq w Q H) (hhn : H.length = hn) (hnb : nb < H.length) (hbn : bn = hn) (hG : Gh H)
  (ht : RrS 1 LyS R w (.slice ta tn tc) S.t) (hc : RrS 1 (LyCs R) R w (.slice ca nc cc) C) (hSn : S.n = C.map need) (hCk : ∀ L ∈ C, CPu.ck L (tn : Int) 64 = 0) (hs : TBase.InL false R w m (.slice sa ns sc) ds) (hSd : S.d = ds.map fun t => (TMeas.dp [t] : Int)) (hok : ∀ t ∈ ds, TShallow.depL [t] <= 4096) (hB : RrS 3 (LyBs R) R w (.slice ba bn bc) B) (hR : ∀ g, R g -> g < w.heap.size) (hRX : ¬ R X) (hRQ : ¬ R Q) (hnB : nb < B.length) {k : Bk} (hk : B[nb] = k) :
  Calls prog 49 #[.pointer (some ⟨X, 0, none⟩)] w fun e w' => (∃ v, e = .returned v) /\ OnE X Q (.slice ta tn tc) (.slice ca nc cc) (.slice sa ns sc) (.slice ba bn bc) (.slice (some ⟨Q, 0, none⟩) hn hcap) nb (rone S nb k H) w w' := by
 obtain ⟨gb, ob, cb, hsb, hbl, hbm, hbg, hly⟩ := RrS.at hB hnB
 rw [hk] at hly
 obtain ⟨ov, uv, by0, by1, by2, hkd, hro, hru⟩ := hly
 cases hsb
 have HRO := hid hro
 have HRU := hid hru
 obtain ⟨oa, oc, rfl, -⟩ : ∃ a c, ov = .slice a k.o.length c /\ True := by obtain ⟨a, c, e, -⟩ := hro; exact ⟨a, c, e, trivial⟩
 obtain ⟨ua, uc, rfl, -⟩ : ∃ a c, uv = .slice a k.u.length c /\ True := by obtain ⟨a, c, e, -⟩ := hru; exact ⟨a, c, e, trivial⟩
 obtain ⟨A, hA⟩ : ∃ A, H[nb] = A := ⟨_, rfl⟩
 have u0 := hH.cell hnb (j := 0) (by omega) (v := .int .i64 H[nb].st) rfl
 have u1 := hH.cell hnb (j := 1) (by omega) (v := .int .i64 H[nb].el) rfl
 have u2 := hH.cell hnb (j := 2) (by omega) (v := .int .i64 H[nb].ls) rfl
 have u3 := hH.cell hnb (j := 3) (by omega) (v := .bool H[nb].ow) rfl
 have u4 := hH.cell hnb (j := 4) (by omega) (v := .bool H[nb].lp) rfl
 rw [Nat.add_zero] at u0
 rw [hA] at u0 u1 u2 u3 u4
 obtain ⟨-, -, -, c3, c4, c5, -⟩ := h.cell
 have HX := hid h
 have i0 : (0 : Int) <= (nb : Int) := by omega
 have i1 : (nb : Int) < (hn : Int) := by omega
 have i2 : (nb : Int) < (B.length : Int) := by omega
 obtain ⟨z, hz⟩ : ∃ z, w.heap.size = z := ⟨_, rfl⟩
 have HK : Hid (∀ W' : World, (∀ g, g < z -> W'.heap[g]? = w.heap[g]?) -> (W'.cell? ⟨X, 3, none⟩ = some (.slice (some ⟨gb, ob, none⟩) B.length bc) /\ W'.cell? ⟨X, 4, none⟩ = some (.slice (some ⟨Q, 0, none⟩) hn hcap) /\ W'.cell? ⟨X, 5, none⟩ = some (.int .i64 (nb : Int))) /\ (W'.cell? ⟨gb, ob + nb * 3, none⟩ = some (.int .i64 k.d) /\ W'.cell? ⟨gb, ob + nb * 3 + 1, none⟩ = some (.slice oa k.o.length oc) /\ W'.cell? ⟨gb, ob + nb * 3 + 2, none⟩ = some (.slice ua k.u.length uc)) /\ W'.cell? ⟨Q, nb * 5, none⟩ = some (.int .i64 A.st) /\ W'.cell? ⟨Q, nb * 5 + 1, none⟩ = some (.int .i64 A.el) /\ W'.cell? ⟨Q, nb * 5 + 2, none⟩ = some (.int .i64 A.ls) /\ W'.cell? ⟨Q, nb * 5 + 3, none⟩ = some (.bool A.ow) /\ W'.cell? ⟨Q, nb * 5 + 4, none⟩ = some (.bool A.lp)) := fun W' hw => by
  have tr : ∀ {g j : Nat} {v : Value}, w.cell? ⟨g, j, none⟩ = some v -> W'.cell? ⟨g, j, none⟩ = some v := fun {g j v} hc => (World.cell?_of_block (w := w) (hw g (by have h := IBase.cell_lt hc; rw [<- hz]; exact h))).trans hc
  exact ⟨⟨tr c3, tr c4, tr c5⟩, ⟨tr by0, tr by1, tr by2⟩, tr u0, tr u1, tr u2, tr u3, tr u4⟩
 obtain ⟨W0, hW0⟩ : ∃ W0, w.alloc (.cells #[.int .i64 0, .slice none 0 0, .slice none 0 0] 74) = W0 := ⟨_, rfl⟩
 have e0 : W0.heap[z]? = some (.cells #[.int .i64 0, .slice none 0 0, .slice none 0 0] 74 (0, 0)) := by rw [<- hW0, <- hz]; exact heap_alloc_new w _
 have k0 : ∀ g, g < z -> W0.heap[g]? = w.heap[g]? := fun g hg => by rw [<- hW0]; exact Below.heap_alloc _ _ _ (by omega)
 have s0 : W0.heap.size = z + 1 := by rw [<- hW0, World.size_alloc, hz]
 have f0 := BIn.frz e0 0
 have f1 := BIn.frz e0 1
 have f2 := BIn.frz e0 2
 have g0 := cell_of e0 0 _ rfl
 have g1 := cell_of e0 1 _ rfl
 have g2 := cell_of e0 2 _ rfl
 obtain ⟨⟨c3', c4', c5'⟩, ⟨by0', by1', by2'⟩, -⟩ := HK.out W0 k0
 have HE0 := hid e0
 have HK0 := hid k0
 clear e0 k0
 go_enter func49, ntmps49
 go_wp2_with fail
 go_region
 obtain ⟨W1, hW1⟩ : ∃ W1, (((W0.setCell ⟨z, 0, none⟩ (.int .i64 k.d)).setCell ⟨z, 1, none⟩ (.slice oa k.o.length oc)).setCell ⟨z, 2, none⟩ (.slice ua k.u.length uc)).drew = W1 := ⟨_, rfl⟩
 rw [hW1]
 obtain ⟨e1, k1', s1', b1'⟩ := BQq.three_all HE0.out hW1
 have k1 : ∀ g, g < z -> W1.heap[g]? = w.heap[g]? := fun g hg => (k1' g (by omega)).trans (HK0.out g hg)
 have s1 : W1.heap.size = z + 1 := by rw [s1', s0]
 have b1 : Below z w W1 := (show Below z w W0 by rw [<- hW0]; exact (Below.refl z w).alloc (by omega) _).trans (b1' z (Nat.le_refl _))
 clear k1' s1' b1'
 obtain ⟨W2, hW2⟩ : ∃ W2, W1.alloc (.cells #[.int .i64 0, .int .i64 0, .int .i64 0, .bool false, .bool false] 109) = W2 := ⟨_, rfl⟩
 have e2 : W2.heap[z + 1]? = some (.cells #[.int .i64 0, .int .i64 0, .int .i64 0, .bool false, .bool false] 109 (0, 0)) := by rw [<- hW2, <- s1]; exact heap_alloc_new W1 _
 have k2 : ∀ g, g < z + 1 -> W2.heap[g]? = W1.heap[g]? := fun g hg => by rw [<- hW2]; exact Below.heap_alloc _ _ _ (by omega)
 have s2 : W2.heap.size = z + 2 := by rw [<- hW2, World.size_alloc, s1]
 have k2' : ∀ g, g < z -> W2.heap[g]? = w.heap[g]? := fun g hg => (k2 g (by omega)).trans (k1 g hg)
 clear c3 c4 c5 by0 by1 by2 u0 u1 u2 u3 u4 c3' c4' c5' by0' by1' by2' f0 f1 f2 g0 g1 g2 hW1
 obtain ⟨⟨-, c4, c5⟩, -, u0, u1, u2, u3, u4⟩ := HK.out W1 k1
 obtain ⟨⟨-, c4', c5'⟩, -, u0', u1', u2', u3', u4'⟩ := HK.out W2 k2'
 have f0 := BIn.frz e2 0
 have f1 := BIn.frz e2 1
 have f2 := BIn.frz e2 2
 have f3 := BIn.frz e2 3
 have f4 := BIn.frz e2 4
 have g0 := cell_of e2 0 _ rfl
 have g1 := cell_of e2 1 _ rfl
 have g2 := cell_of e2 2 _ rfl
 have g3 := cell_of e2 3 _ rfl
 have g4 := cell_of e2 4 _ rfl
 have b2 : Below z w W2 := b1.trans (by rw [<- hW2]; exact (Below.refl z W1).alloc (by omega) _)
 have HE1 := hid e1
 have HE2 := hid e2
 have HK2 := hid (And.intro k2 k2')
 clear e1 e2 k1 k2 k2' s0
 go_wp2_with fail
 go_region
 obtain ⟨W3, hW3⟩ : ∃ W3, (((((W2.setCell ⟨z + 1, 0, none⟩ (.int .i64 A.st)).setCell ⟨z + 1, 1, none⟩ (.int .i64 A.el)).setCell ⟨z + 1, 2, none⟩ (.int .i64 A.ls)).setCell ⟨z + 1, 3, none⟩ (.bool A.ow)).setCell ⟨z + 1, 4, none⟩ (.bool A.lp)).drew = W3 := ⟨_, rfl⟩
 rw [hW3]
 obtain ⟨e3, k3', s3', b3'⟩ := BQq.five_all HE2.out hW3
 have k3 : ∀ g, g < z + 1 -> W3.heap[g]? = W2.heap[g]? := fun g hg => k3' g (by omega)
 have s3 : W3.heap.size = z + 2 := by rw [s3', s2]
 have b3 : Below z w W3 := b2.trans (b3' z (by omega))
 clear k3' s3' b3'
 have y3 : W3.heap[z]? = some (.cells #[.int .i64 k.d, .slice oa k.o.length oc, .slice ua k.u.length uc] 74 (0, 0)) := (k3 z (by omega)).trans ((HK2.out.1 z (by omega)).trans HE1.out)
 have kw : ∀ g, g < z -> W3.heap[g]? = w.heap[g]? := fun g hg => (k3 g (by omega)).trans (HK2.out.2 g hg)
 have HKW := hid kw
 have HY3 := hid y3
 have HE3 := hid e3
 clear c4 c5 u0 u1 u2 u3 u4 c4' c5' u0' u1' u2' u3' u4' f0 f1 f2 f3 f4 g0 g1 g2 g3 g4 s1 s2 b1 b2 hW3 hW2 hW0 HE0 HE1 HE2 HK0 HK2 e3 k3 y3 kw
 have HB3 := hid b3
 have HS3 := hid s3
 obtain ⟨n, hn'⟩ : ∃ n, k.o.length = n := ⟨_, rfl⟩
 obtain ⟨un, hun⟩ : ∃ n, k.u.length = n := ⟨_, rfl⟩
 have HN := hid hn'
 have HUN := hid hun
 have hXz : X < z := by have := (Array.getElem?_eq_some_iff.1 h).1; omega
 have hQz : Q < z := by omega
 have L3 : Lw W3 X (.slice ta tn tc) (.slice ca nc cc) (.slice sa ns sc) (.slice (some ⟨gb, ob, none⟩) B.length bc) (.slice (some ⟨Q, 0, none⟩) hn hcap) (nb : Int) pl 0 a0 d0 (.slice l1 l2 l3) (.slice n1 n2 n3) := (HKW.out X hXz).trans HX.out
 have HL3 := hid L3
 have HH3 : Hid (Hq W3 Q H) := (HKW.out Q hQz).trans hH
 obtain ⟨OW, hOW⟩ : ∃ x, A.ow = x := ⟨_, rfl⟩
 obtain ⟨LP, hLP⟩ : ∃ x, A.lp = x := ⟨_, rfl⟩
 obtain ⟨DN, hDN⟩ : ∃ x, (k.d != A.st) = x := ⟨_, rfl⟩
 have v0 := cell_of HE3.out 0 _ rfl
 have v3 := cell_of HE3.out 3 _ rfl
 have y0 := cell_of HY3.out 0 _ rfl
 obtain ⟨p1, hp1⟩ : ∃ x : Int, (if OW = false then 0 else pl) = x := ⟨_, rfl⟩
 obtain ⟨f1, hf1⟩ : ∃ x : Int, (if OW = false then 2205 else 0) = x := ⟨_, rfl⟩
 obtain ⟨p2, hp2⟩ : ∃ x : Int, (if DN = true then (if f1 = 0 then 0 else p1) else p1) = x := ⟨_, rfl⟩
 obtain ⟨f2, hf2⟩ : ∃ x : Int, (if DN = true then (if f1 = 0 then 2208 else f1) else f1) = x := ⟨_, rfl⟩
 have HP1 := hid hp1
 have HF1 := hid hf1
 have HP2 := hid hp2
 have HF2 := hid hf2
 have HOW := hid hOW
 have HLP := hid hLP
 have HDN := hid hDN
 have HHN := hid hhn
 have HNB := hid hnb
 have HBN := hid hbn
 have HG := hid hG
 have HT := hid ht
 have HC := hid hc
 have HSN := hid hSn
 have HCK := hid hCk
 have HSS := hid hs
 have HSD := hid hSd
 have HOK := hid hok
 have HBB := hid hB
 have HR := hid hR
 have HRX := hid hRX
 have HRQ := hid hRQ
 have HNBB := hid hnB
 have HKB := hid hk
 have HA := hid hA
 have HHW := hid hH
 have HZ := hid hz
 rw [hOW] at v3
 have HV0 := hid v0
 clear L3 h hH hhn hbn hG ht hc hSn hCk hs hSd hok hB hR hRX hRQ hp1 hf1 hp2 hf2 hLP hOW hkd hro hru hbl hbm hbg b3 hn' hun
 rw [HN.out, HUN.out] at HY3
 go_upto_if 29 with fail
 go_cut [] from 27 to 31 (fun wx => Lw wx X (.slice ta tn tc) (.slice ca nc cc) (.slice sa ns sc) (.slice (some ⟨gb, ob, none⟩) B.length bc) (.slice (some ⟨Q, 0, none⟩) hn hcap) (nb : Int) p1 f1 a0 d0 (.slice l1 l2 l3) (.slice n1 n2 n3) /\ BHm.Xb X W3 wx)
 case first =>
  cases OW with
  | true =>
   have e1 : p1 = pl := by rw [<- HP1.out]; rfl
   have e2 : f1 = 0 := by rw [<- HF1.out]; rfl
   subst e1 e2
   go_wp2_with fail
   go_meet
   exact ⟨HL3.out, BHm.Xb.refl _ _⟩
  | false =>
   have e1 : p1 = 0 := by rw [<- HP1.out]; rfl
   have e2 : f1 = 2205 := by rw [<- HF1.out]; rfl
   have EE := hid (And.intro e1 e2)
   have cF := fail_c HL3.out 2205 0
   rw [if_pos rfl, if_pos rfl] at cF
   clear e1 e2
   go_wp2_with fail
   refine cF.mono ?_
   rintro e w5 ⟨⟨v, rfl⟩, hb5, x5⟩
   have HB5 := hid (And.intro hb5 x5)
   clear hb5 x5 cF
   go_wp2_with fail
   go_meet
   rw [EE.out.1, EE.out.2]
   exact HB5.out
 case rest =>
 have HC1 := hid hcut
 obtain ⟨W4, hW4⟩ : ∃ W4, W4 = wc := ⟨_, rfl⟩
 subst hW4
 have y0' := cell_of ((hcut.2.2 z (by omega) (by omega)).trans HY3.out) 0 _ rfl
 have v0' := cell_of ((hcut.2.2 (z + 1) (by omega) (by omega)).trans HE3.out) 0 _ rfl
 clear y0 v0 v3 hcut
 go_upto_if 36 with fail
 go_cut [] from 32 to 38 (fun wx => Lw wx X (.slice ta tn tc) (.slice ca nc cc) (.slice sa ns sc) (.slice (some ⟨gb, ob, none⟩) B.length bc) (.slice (some ⟨Q, 0, none⟩) hn hcap) (nb : Int) p2 f2 a0 d0 (.slice l1 l2 l3) (.slice n1 n2 n3) /\ BHm.Xb X W3 wx)
 case first =>
  clear hDN
  cases DN with
  | false =>
   have e1 : p2 = p1 := by rw [<- HP2.out]; rfl
   have e2 : f2 = f1 := by rw [<- HF2.out]; rfl
   subst e1 e2
   go_wp2_with fail
   go_meet
   exact HC1.out
  | true =>
   have e1 : p2 = if f1 = 0 then 0 else p1 := by rw [<- HP2.out]; rfl
   have e2 : f2 = if f1 = 0 then 2208 else f1 := by rw [<- HF2.out]; rfl
   have EE := hid (And.intro e1 e2)
   have cF := fail_c HC1.out.1 2208 0
   rw [<- e1, <- e2] at cF
   clear e1 e2
   go_wp2_with fail
   refine cF.mono ?_
   rintro e w5 ⟨⟨v, rfl⟩, hb5, x5⟩
   have HB5 := hid (And.intro hb5 (HC1.out.2.trans x5))
   clear hb5 x5 cF
   go_wp2_with fail
   go_meet
   exact HB5.out
 case rest =>
 have HC2 := hid hcut
 obtain ⟨W5, hW5⟩ : ∃ W5, W5 = wc := ⟨_, rfl⟩
 subst hW5
 clear hDN hcut y0' v0'
 have c9 := HC2.out.1.cell.2.2.2.2.2.2.2.2.2.1
 have r9 := BIn.frz HC2.out.1 9
 have v0 := cell_of ((HC2.out.2.2 (z + 1) (by omega) (by omega)).trans HE3.out) 0 _ rfl
 obtain ⟨Wa, hWa⟩ : ∃ W, W5.setCell ⟨X, 9, none⟩ (.int .i64 A.st) = W := ⟨_, rfl⟩
 have LA : Lw Wa X (.slice ta tn tc) (.slice ca nc cc) (.slice sa ns sc) (.slice (some ⟨gb, ob, none⟩) B.length bc) (.slice (some ⟨Q, 0, none⟩) hn hcap) (nb : Int) p2 f2 a0 A.st (.slice l1 l2 l3) (.slice n1 n2 n3) := by rw [<- hWa]; exact BVf.cell_set HC2.out.1 9 _
 have sa5 : Wa.heap.size = W5.heap.size := by rw [<- hWa]; simp [World.setCell]
 have hXa : X < Wa.heap.size := (Array.getElem?_eq_some_iff.1 LA).1
 obtain ⟨Wb, hWb⟩ : ∃ W, Wa.alloc (.cells #[.int .i64 0] 3) = W := ⟨_, rfl⟩
 have LB : Lw Wb X (.slice ta tn tc) (.slice ca nc cc) (.slice sa ns sc) (.slice (some ⟨gb, ob, none⟩) B.length bc) (.slice (some ⟨Q, 0, none⟩) hn hcap) (nb : Int) p2 f2 a0 A.st (.slice l1 l2 l3) (.slice n1 n2 n3) := by rw [<- hWb]; exact (Below.heap_alloc _ _ _ hXa).trans LA
 have eb : Wb.heap[Wa.heap.size]? = some (.cells #[.int .i64 0] 3 (0, 0)) := by rw [<- hWb]; exact heap_alloc_new Wa _
 have c10 := LB.cell.2.2.2.2.2.2.2.2.2.2.1
 have r10 := BIn.frz LB 10
 obtain ⟨Wc, hWc⟩ : ∃ W, Wb.setCell ⟨X, 10, none⟩ (.slice (some ⟨W5.heap.size, 0, none⟩) 1 1) = W := ⟨_, rfl⟩
 have LC : Lw Wc X (.slice ta tn tc) (.slice ca nc cc) (.slice sa ns sc) (.slice (some ⟨gb, ob, none⟩) B.length bc) (.slice (some ⟨Q, 0, none⟩) hn hcap) (nb : Int) p2 f2 a0 A.st (.slice (some ⟨W5.heap.size, 0, none⟩) 1 1) (.slice n1 n2 n3) := by rw [<- hWc]; exact BVf.cell_set LB 10 _
 have c11 := LC.cell.2.2.2.2.2.2.2.2.2.2.2
 have r11 := BIn.frz LC 11
 obtain ⟨Wd, hWd⟩ : ∃ W, Wc.setCell ⟨X, 11, none⟩ (.slice none 0 0) = W := ⟨_, rfl⟩
 have LD : Lw Wd X (.slice ta tn tc) (.slice ca nc cc) (.slice sa ns sc) (.slice (some ⟨gb, ob, none⟩) B.length bc) (.slice (some ⟨Q, 0, none⟩) hn hcap) (nb : Int) p2 f2 a0 A.st (.slice (some ⟨W5.heap.size, 0, none⟩) 1 1) (.slice none 0 0) := by rw [<- hWd]; exact BVf.cell_set LC 11 _
 have c8 := LD.cell.2.2.2.2.2.2.2.2.1
 have r8 := BIn.frz LD 8
 obtain ⟨We, hWe⟩ : ∃ W, Wd.setCell ⟨X, 8, none⟩ (.int .i64 0) = W := ⟨_, rfl⟩
 have LE : Lw We X (.slice ta tn tc) (.slice ca nc cc) (.slice sa ns sc) (.slice (some ⟨gb, ob, none⟩) B.length bc) (.slice (some ⟨Q, 0, none⟩) hn hcap) (nb : Int) p2 f2 0 A.st (.slice (some ⟨W5.heap.size, 0, none⟩) 1 1) (.slice none 0 0) := by rw [<- hWe]; exact BVf.cell_set LD 8 _
 have HLE := hid LE
 have HEB := hid eb
 have ke : ∀ g, g < Wb.heap.size -> g ≠ X -> We.heap[g]? = Wb.heap[g]? := fun g _ hq => by
  rw [<- hWe, <- hWd, <- hWc, Below.heap_setCell _ _ _ _ (by exact hq), Below.heap_setCell _ _ _ _ (by exact hq), Below.heap_setCell _ _ _ _ (by exact hq)]
 have HKE := hid ke
 have kf : ∀ g, g < W5.heap.size -> g ≠ X -> Wb.heap[g]? = W5.heap[g]? := fun g hg hq => by
  rw [<- hWb, Below.heap_alloc _ _ _ (by omega), <- hWa, Below.heap_setCell _ _ _ _ (by exact hq)]
 have HKF := hid kf
 have hsb : Wb.heap.size = W5.heap.size + 1 := by rw [<- hWb, World.size_alloc, sa5]
 have HSZ : Hid (We.heap.size = W5.heap.size + 1) := by
  have h1 : We.heap.size = Wb.heap.size := by rw [<- hWe, <- hWd, <- hWc]; simp [World.setCell]
  have h2 : Wb.heap.size = Wa.heap.size + 1 := by rw [<- hWb, World.size_alloc]
  show We.heap.size = W5.heap.size + 1
  omega
 have HBE : Hid (Below X W5 We) := by
  show Below X W5 We
  rw [<- hWe, <- hWd, <- hWc, <- hWb, <- hWa]
  exact (((((Below.refl X W5).setCell (p := ⟨X, 9, none⟩) (Nat.le_refl _) _).alloc (by simp [World.setCell]; omega) _).setCell (p := ⟨X, 10, none⟩) (Nat.le_refl _) _).setCell (p := ⟨X, 11, none⟩) (Nat.le_refl _) _).setCell (p := ⟨X, 8, none⟩) (Nat.le_refl _) _
 clear LA LB LC LD LE eb ke kf
 go_upto_block 0 with fail
 have HS5 : Hid (z + 2 <= W5.heap.size) := by show _ <= _; have := HC2.out.2.1.size; have := HS3.out; omega
 have HX5 : Hid (∀ g, g < z + 2 -> g ≠ X -> We.heap[g]? = W3.heap[g]?) := fun g hg hq => by
  have h5 := HS5.out
  have h3 := HS3.out
  have hsz := HSZ.out
  exact (HKE.out g (by omega) hq).trans ((HKF.out g (by omega) hq).trans (HC2.out.2.2 g (by omega) hq))
 have L0 : Lv We X (z + 2) z (.slice ta tn tc) (.slice ca nc cc) (.slice sa ns sc) (.slice (some ⟨gb, ob, none⟩) B.length bc) (.slice (some ⟨Q, 0, none⟩) hn hcap) (nb : Int) p2 f2 ((0 : Nat) : Int) ⟨A.st, [0], []⟩ (.slice (some ⟨W5.heap.size, 0, none⟩) 1 1) (.slice none 0 0) := by
  have hs5 := HS5.out
  have hsz := HSZ.out
  refine ⟨HLE.out, ⟨rfl, .inr ⟨W5.heap.size, 1, #[.int .i64 0], rfl, hs5, ?_, Nat.le_refl _, by simp [maxLen], rfl, rfl⟩⟩, World.ownsRow_nil _ _ _ _, (fun g _ e => by cases e), by omega, (fun e => by have e2 : W5.heap.size = z := Option.some.inj e; omega), (fun e => by cases e)⟩
  exact (HKE.out _ (by omega) (by omega)).trans (by rw [<- sa5]; exact HEB.out)
 have XQ0 : Xq X Q (z + 2) z W3 We := by
  have hs3 := HS3.out
  exact ⟨HC2.out.2.1.trans HBE.out, fun g hg hs hx _ => HX5.out g (by omega) hx⟩
 have HGA : Hid (f2 = 0 -> A.ow = true /\ k.d = A.st /\ Ga A) := fun h0 => by
  have hf2 := HF2.out
  have hd : DN = false := by
   cases DN with
   | false => rfl
   | true =>
    rw [if_pos rfl] at hf2
    by_cases h1 : f1 = 0
    ·rw [if_pos h1] at hf2; omega
    ·rw [if_neg h1] at hf2; omega
  rw [hd, if_neg (by simp)] at hf2
  have how : OW = true := by
   cases OW with
   | true => rfl
   | false => have := HF1.out; rw [if_pos rfl] at this; omega
  have h1 : A.ow = true := HOW.out.trans how
  have h2 : k.d = A.st := by have := HDN.out; rw [hd] at this; simpa using this
  exact ⟨h1, h2, HG.out A (by rw [<- HA.out]; exact List.getElem_mem HNB.out) h1⟩
 have HP0 : Hid (Lp false X z Q (.slice ta tn tc) (.slice ca nc cc) (.slice sa ns sc) (.slice (some ⟨gb, ob, none⟩) B.length bc) (.slice (some ⟨Q, 0, none⟩) hn hcap) nb n W3 S k.o A H f2 p2 We) := by
  refine ⟨0, ⟨A.st, [0], []⟩, H, f2, p2, Nat.zero_le _, by simp, ⟨_, _, L0, (HX5.out Q (by omega) (by omega)).trans HH3.out, XQ0⟩, (fun e => by cases e), ?_⟩
  by_cases h0 : f2 = 0
  ·refine .inl ⟨h0, h0, rfl, ?_, rfl, ?_, by rw [List.drop_zero]⟩
   ·obtain ⟨-, -, hga⟩ := HGA.out h0
    exact inv_0 ⟨hga.1, hga.2.1⟩
   ·rw [List.getElem?_eq_getElem HNB.out, HA.out]
  ·exact .inr (.inl ⟨h0, h0, rfl, rfl⟩)
 clear L0 XQ0 sa5 hXa hsb c9 r9 v0 hWa hWb hWc hWd hWe c10 r10 c11 r11 c8 r8
 go_cut [] from 54 to 113 (fun wx => Lp true X z Q (.slice ta tn tc) (.slice ca nc cc) (.slice sa ns sc) (.slice (some ⟨gb, ob, none⟩) B.length bc) (.slice (some ⟨Q, 0, none⟩) hn hcap) nb n W3 S k.o A H f2 p2 wx)
 case first => as_aux_lemma =>
  have HZS : Hid (z + 2 <= We.heap.size) := by show _ <= _; have := HS5.out; have := HSZ.out; omega
  have hn47 : n <= 140737488351232 := by obtain ⟨_, _, e, _, _, h47, _⟩ := HRO.out; rw [<- HN.out]; exact h47
  clear HLE HEB HKE HKF HSZ HBE HC2 HC1 HS5 HX5 HL3 HH3
  go_wp2_with fail
  go_loopw [4] (fun u wr => Lp false X z Q (.slice ta tn tc) (.slice ca nc cc) (.slice sa ns sc) (.slice (some ⟨gb, ob, none⟩) B.length bc) (.slice (some ⟨Q, 0, none⟩) hn hcap) nb n W3 S k.o A H f2 p2 wr) (fun _ wr => n - (intOf ((wr.cell? ⟨X, 8, none⟩).getD undef)).toNat)
  case atStart => exact HP0.out
  case round =>
   obtain ⟨p, s, H', fq, pq, hp, hsl, ⟨lv, nv, hL, hHq, hXq⟩, -, hst⟩ := hrel
   have hzw : z + 2 <= wr.heap.size := by have := hXq.1.size; have := HS3.out; omega
   have HL := hid hL
   have HHq := hid hHq
   have HXq := hid hXq
   have HST := hid hst
   have hbx := (hXq.2 z (.inl (by omega)) (by have := HS3.out; omega) (by omega) (by omega)).trans HY3.out
   have HBX := hid hbx
   have y1 := cell_of hbx 1 _ rfl
   have c8 := hL.box.cell.2.2.2.2.2.2.2.2.1
   have c7 := hL.box.cell.2.2.2.2.2.2.2.1
   obtain ⟨FZ, hFZ⟩ : ∃ x, (fq == 0) = x := ⟨_, rfl⟩
   have HFZ := hid hFZ
   obtain ⟨TT, hTT⟩ : ∃ x, (decide (p < n) && FZ) = x := ⟨_, rfl⟩
   have HTT := hid hTT
   clear hL hHq hXq hst hbx hTT
   go_upto_region 10 with fail
   go_cut [68] from 54 to 68 (fun t wx => t = .bool TT /\ Below wr.heap.size wr wx)
   case first =>
    by_cases hlt : p < n
    ·have t0 : decide ((p : Int) < (n : Int)) = true := by simp; omega
     have t0n : decide (p < n) = true := by simp; omega
     have ET : Hid (TT = FZ) := by show _ = _; rw [<- HTT.out, t0n]; rfl
     clear hlt
     go_wp2_with fail
     go_quiet (fail)
     go_wp2_with fail
     go_meet
     exact ⟨by rw [ET.out], IBase.below_drewN (Below.refl _ wr)⟩
    ·have t0 : decide ((p : Int) < (n : Int)) = false := by simp; omega
     have t0n : decide (p < n) = false := by simp; omega
     have ET : Hid (TT = false) := by show _ = _; rw [<- HTT.out, t0n]; rfl
     clear hlt
     go_wp2_with fail
     go_quiet (fail)
     go_wp2_with fail
     go_meet
     exact ⟨by rw [ET.out], IBase.below_drewN (Below.refl _ wr)⟩
   case rest =>
   obtain ⟨rfl, hwx⟩ := hcut
   obtain ⟨W7, hW7⟩ : ∃ W7, W7 = wc := ⟨_, rfl⟩
   subst hW7
   have HL7 := hid (HL.out.below hwx)
   have HH7 : Hid (Hq W7 Q H') := (hwx.block Q (by omega)).trans HHq.out
   have hl7 : z + 2 <= W7.heap.size := by have := hwx.size; omega
   have HX7 := hid (xq_trans HXq.out (xq_below (by omega) hzw hwx))
   clear c8 c7 y1 hwx hFZ
   cases TT with
   | false =>
    have HF : Hid (fq = 0 -> p = n) := fun e => by
     have h1 := HFZ.out
     have h2 := HTT.out
     rw [e] at h1
     rw [<- h1] at h2
     simp at h2
     omega
    go_wp2_with fail
    go_meet
    exact ⟨p, s, H', fq, pq, hp, hsl, ⟨lv, nv, HL7.out, HH7.out, HX7.out⟩, fun _ => HF.out, HST.out⟩
   | true =>
    have hpn : p < n := by
     have h2 := HTT.out
     simp at h2
     exact h2.1
    have hfq : fq = 0 := by
     have h1 := HFZ.out
     have h2 := HTT.out
     simp at h2
     rw [h2.2] at h1
     simpa using h1
    obtain ⟨hf2, hpq, hI, hHl, hHn, hrg⟩ : f2 = 0 /\ pq = p2 /\ Inv s /\ H'.length = H.length /\ H'[nb]? = some A /\ rgo S nb k.o A 0 k.o ⟨A.st, [0], []⟩ H = rgo S nb k.o A p (k.o.drop p) s H' := by
     rcases HST.out with ⟨-, h1, h2, h3, h4, h5, h6⟩ | ⟨h0, -⟩ | ⟨h0, -⟩
     ·exact ⟨h1, h2, h3, h4, h5, h6⟩
     ·exact (h0 hfq).elim
     ·exact (h0 hfq).elim
    rw [hfq] at HL7
    have HKEEP : Hid (∀ W', Xq X Q (z + 2) z W3 W' -> Keep R w W') := fun W' hx b hb hl => by
     have hbz : b < z := by rw [<- HZ.out]; exact hl
     have h3 := HS3.out
     exact (hx.2 b (.inl (by omega)) (by omega) (fun e => HRX.out (e ▸ hb)) (fun e => HRQ.out (e ▸ hb))).trans (HKW.out b hbz)
    have HXR : Hid (∀ W', Xq X Q (z + 2) z W3 W' -> Xr X Q w W') := fun W' hx => by
     have h3 := HS3.out
     have hz := HZ.out
     exact ⟨(HB3.out.mono (by omega)).trans hx.1, fun g hg hx' hq' => (hx.2 g (.inl (by omega)) (by omega) hx' hq').trans (HKW.out g (by omega))⟩
    have hpo : p < k.o.length := by rw [HN.out]; exact hpn
    obtain ⟨go, oo, co, hso, -, -, hRo, hlo⟩ := RrS.at HRO.out hpo
    rw [HN.out] at hso
    cases hso
    obtain ⟨o, ho⟩ : ∃ o, k.o[p] = o := ⟨_, rfl⟩
    have HDR : Hid (k.o.drop p = o :: k.o.drop (p + 1)) := by show _ = _; rw [List.drop_eq_getElem_cons hpo, ho]
    rw [ho] at hlo
    have HGD : Hid (H.getD nb ar0 = A) := by show _ = _; rw [List.getD_eq_getElem?_getD, List.getElem?_eq_getElem HNB.out, HA.out]; rfl
    obtain ⟨lo, zz0, zz1, zz2, zz3, zz4, hob, hlr0⟩ := hlo
    obtain ⟨la, lc, rfl, -⟩ : ∃ a c, lo = .slice a o.l.length c /\ True := by obtain ⟨a, c, e, -⟩ := hlr0; exact ⟨a, c, e, trivial⟩
    have HROWS : Hid (∀ W', Keep R w W' -> z <= W'.heap.size -> RrS 1 LyS R W' (.slice ta tn tc) S.t /\ RrS 1 (LyCs R) R W' (.slice ca nc cc) C /\ TBase.InL false R W' m (.slice sa ns sc) ds /\ RrS 3 (LyBs R) R W' (.slice (some ⟨gb, ob, none⟩) B.length bc) B /\ (∀ g, R g -> g < W'.heap.size) /\ RrS 1 LyI R W' (.slice la o.l.length lc) o.l) := fun W' hk hz' => by
     refine ⟨HT.out.keep (fun _ h => h) fun g o x _ hg h => kS hk hg h, HC.out.keep (fun _ h => h) fun g o x _ hg h => kC hk (fun _ h => h) hg h, HSS.out.keep hk, HBB.out.keep (fun _ h => h) fun g o x _ hg h => kB hk (fun _ h => h) hg h, fun g hg => by have h1 := HR.out g hg; have h2 := HZ.out; omega, hlr0.keep (fun _ h => h) fun g o x _ hg h => kI hk hg h⟩
    have e7 : W7.heap[go]? = w.heap[go]? := HKEEP.out W7 HX7.out go hRo (HR.out go hRo)
    have q0 := (World.cell?_of_block (w := w) e7).trans zz0
    have q1 := (World.cell?_of_block (w := w) e7).trans zz1
    have q2 := (World.cell?_of_block (w := w) e7).trans zz2
    have q3 := (World.cell?_of_block (w := w) e7).trans zz3
    have q4 := (World.cell?_of_block (w := w) e7).trans zz4
    have hgo7 : go < W7.heap.size := by have := HR.out go hRo; have := HZ.out; omega
    have hz7 : z < W7.heap.size := by omega
    have hbx7 := (HX7.out.2 z (.inl (by omega)) (by have := HS3.out; omega) (by omega) (by omega)).trans HY3.out
    have y1 := cell_of hbx7 1 _ rfl
    have c8 := HL7.out.box.cell.2.2.2.2.2.2.2.2.1
    obtain ⟨W8, hW8⟩ : ∃ W8, W7.alloc (.cells #[.int .i64 0, .int .i64 0, .int .i64 0, .int .i64 0, .slice none 0 0] 127) = W8 := ⟨_, rfl⟩
    have b8 : Below W7.heap.size W7 W8 := by rw [<- hW8]; exact (Below.refl _ _).alloc (Nat.le_refl _) _
    have e8 : W8.heap[W7.heap.size]? = some (.cells #[.int .i64 0, .int .i64 0, .int .i64 0, .int .i64 0, .slice none 0 0] 127 (0, 0)) := by rw [<- hW8]; exact heap_alloc_new W7 _
    have q0' := IBase.below_cell q0 b8
    have q1' := IBase.below_cell q1 b8
    have q2' := IBase.below_cell q2 b8
    have q3' := IBase.below_cell q3 b8
    have q4' := IBase.below_cell q4 b8
    have y1' := IBase.below_cell y1 b8
    have c8' := IBase.below_cell c8 b8
    have f0 := BIn.frz e8 0
    have f1 := BIn.frz e8 1
    have f2' := BIn.frz e8 2
    have f3 := BIn.frz e8 3
    have f4 := BIn.frz e8 4
    have g0 := cell_of e8 0 _ rfl
    have g1 := cell_of e8 1 _ rfl
    have g2 := cell_of e8 2 _ rfl
    have g3 := cell_of e8 3 _ rfl
    have g4 := cell_of e8 4 _ rfl
    have j0 : (0 : Int) <= (p : Int) := by omega
    have j1 : (p : Int) < (n : Int) := by omega
    obtain ⟨zo, hzo⟩ : ∃ zo, W7.heap.size = zo := ⟨_, rfl⟩
    rw [hzo] at e8 f0 f1 f2' f3 f4 g0 g1 g2 g3 g4
    have hXo : X ≠ zo := by omega
    have hzzo : z ≠ zo := by omega
    have hgzo : go ≠ zo := by omega
    have HE8 := hid e8
    have HB8 := hid b8
    clear e8 b8 zz0 zz1 zz2 zz3 zz4 e7 hbx7
    go_wp2_with fail
    go_region
    obtain ⟨W9, hW9⟩ : ∃ W9, (((((W8.setCell ⟨zo, 0, none⟩ (.int .i64 o.k)).setCell ⟨zo, 1, none⟩ (.int .i64 o.a)).setCell ⟨zo, 2, none⟩ (.int .i64 o.b)).setCell ⟨zo, 3, none⟩ (.int .i64 o.c)).setCell ⟨zo, 4, none⟩ (.slice la o.l.length lc)).drew = W9 := ⟨_, rfl⟩
    rw [hW9]
    obtain ⟨e9, k9, s9, b9⟩ := BQq.five_all HE8.out hW9
    have b79 : Below W7.heap.size W7 W9 := HB8.out.trans (b9 W7.heap.size (by omega))
    have HE9 := hid e9
    have hz9 : zo < W9.heap.size := by have h1 := (Array.getElem?_eq_some_iff.1 e9).1; exact h1
    have hl9 : z + 2 <= W9.heap.size := by have := b79.size; omega
    have HL9 := hid (Lv.other (HL7.out.below b79) (E' := zo) hz9 (fun e => by have := (World.ownsRow.lt HL7.out.lets zo e).2; omega) (fun e => by have := (World.ownsRow.lt HL7.out.names zo e).2; omega))
    have HH9 : Hid (Hq W9 Q H') := (b79.block Q (by omega)).trans HH7.out
    have HX9 := hid (xq_trans HX7.out (xq_below (by omega) hl7 b79))
    have v0 := cell_of e9 0 _ rfl
    have v1 := cell_of e9 1 _ rfl
    have v2 := cell_of e9 2 _ rfl
    have v3 := cell_of e9 3 _ rfl
    have v4 := cell_of e9 4 _ rfl
    have HS9 := hid hl9
    clear e9 k9 s9 b9 b79 q0 q1 q2 q3 q4 q0' q1' q2' q3' q4' y1 y1' c8 c8' f0 f1 f2' f3 f4 g0 g1 g2 g3 g4 hW8 hW9 HE8 HB8
    have hnc : nc = S.n.length := by rw [HSN.out, List.length_map]; obtain ⟨_, _, e, -⟩ := HC.out; cases e; rfl
    have hns : ns = S.d.length := by rw [HSD.out, List.length_map]; obtain ⟨_, _, e, -⟩ := HSS.out; cases e; rfl
    obtain ⟨t1, t2, t3, t4, t5, t6⟩ := HROWS.out W9 (HKEEP.out W9 HX9.out) (by omega)
    have cO := BQf.op_c (p := p) HL9.out.box t1 hnc hns t5 (o := o) (la := la) (lc := lc) (ln := o.l.length) t6 hob.2.1 hob.2.2.1
    obtain ⟨T1, hT1⟩ : ∃ x, (decide (8192 <= p) || !fits S o) = x := ⟨_, rfl⟩
    have HT1 := hid hT1
    rw [hT1] at cO
    clear t1 t2 t3 t4 t5 t6 hT1
    go_wp2_with fail
    refine cO.mono ?_
    rintro e Wa ⟨rfl, ba⟩
    have hla : z + 2 <= Wa.heap.size := by have := ba.size; omega
    have HLa := hid (HL9.out.below ba)
    have HHa : Hid (Hq Wa Q H') := (ba.block Q (by omega)).trans HH9.out
    have HXa := hid (xq_trans HX9.out (xq_below (by omega) hl9 ba))
    have HEa := hid ((ba.block zo hz9).trans HE9.out)
    clear ba cO v0 v1 v2 v3 v4
    cases T1 with
    | true => as_aux_lemma =>
     have HRE : Hid (rone S nb k H = .error ((p : Int), 2203)) := by
      obtain ⟨g1, g2, -⟩ := HGA.out hf2
      refine rone_e HGD.out g1 g2 ?_
      rw [hrg, HDR.out, rgo, show rop S nb k.o A p o s H' = .error 2203 by (unfold rop; rw [if_pos (by have h := HT1.out; rw [Bool.or_eq_true] at h; rcases h with h | h; exact .inl (of_decide_eq_true h); exact .inr (by simpa using h))])]
     have c8 := (HLa.out.box).cell.2.2.2.2.2.2.2.2.1
     have cF := fail_c (HLa.out.box) 2203 (p : Int)
     rw [if_pos rfl, if_pos rfl] at cF
     go_wp2_with fail
     refine cF.mono ?_
     rintro e w5 ⟨⟨v, rfl⟩, hb5, x5⟩
     have HB5 := hid (And.intro hb5 (HXR.out w5 (xq_trans HXa.out (xq_xb x5 (by omega)))))
     clear hb5 x5 cF c8
     go_wp2_with fail
     first | go_end0 | ((try simp only [Exit.inBlock, Exit.then]); refine bodyPost_ret (results_none rfl _ _ _) rfl ?_)
     refine ⟨⟨_, rfl⟩, ?_⟩
     rw [HRE.out]
     exact ⟨⟨_, _, _, _, HB5.out.1⟩, HB5.out.2⟩
    | false =>
    have hfit : fits S o = true := by have h := HT1.out; rw [Bool.or_eq_false_iff] at h; simpa using h.2
    have hp8 : ¬ 8192 <= p := by have h := HT1.out; rw [Bool.or_eq_false_iff] at h; exact of_decide_eq_false h.1
    have h64 : o.l.length <= 64 := by
     have h := BQe.fits_rop S p o
     rw [HT1.out] at h
     have h1 : BQe.r1 p o = false := by cases hr : BQe.r1 p o with | false => rfl | true => rw [hr] at h; simp at h
     unfold BQe.r1 at h1
     simp only [Bool.or_eq_false_iff] at h1
     have := of_decide_eq_false h1.2.2.2.2.2.2
     omega
    obtain ⟨t1, t2, t3, t4, t5, t6⟩ := HROWS.out Wa (HKEEP.out Wa HXa.out) (by omega)
    have cC := BQd.code_c HLa.out.box t2 t5 (S := S) HSN.out HCK.out (o := o) (la := la) (lc := lc) t6 hob.2.1 hob.2.2.1 hfit ⟨hI.dep0, hI.dep⟩ h64
    obtain ⟨T2, hT2⟩ : ∃ x, (!reaches S s.dep o) = x := ⟨_, rfl⟩
    have HT2 := hid hT2
    rw [hT2] at cC
    have v0 := cell_of HEa.out 0 _ rfl
    have v1 := cell_of HEa.out 1 _ rfl
    have v2 := cell_of HEa.out 2 _ rfl
    have v3 := cell_of HEa.out 3 _ rfl
    have v4 := cell_of HEa.out 4 _ rfl
    clear t1 t2 t3 t4 t5 t6 hT2
    go_wp2_with fail
    refine cC.mono ?_
    rintro e Wb ⟨rfl, bb⟩
    have hlb : z + 2 <= Wb.heap.size := by have := bb.size; omega
    have HLb := hid (HLa.out.below bb)
    have HHb : Hid (Hq Wb Q H') := (bb.block Q (by omega)).trans HHa.out
    have HXb := hid (xq_trans HXa.out (xq_below (by omega) hla bb))
    have HEb := hid ((bb.block zo HLa.out.ex).trans HEa.out)
    clear bb cC v0 v1 v2 v3 v4
    cases T2 with
    | true => as_aux_lemma =>
     have HRE : Hid (rone S nb k H = .error ((p : Int), 2201)) := by
      obtain ⟨g1, g2, -⟩ := HGA.out hf2
      refine rone_e HGD.out g1 g2 ?_
      rw [hrg, HDR.out, rgo, show rop S nb k.o A p o s H' = .error 2201 by (unfold rop; rw [if_neg (by rintro (h | h); exact hp8 h; rw [hfit] at h; cases h), if_pos (by simpa using HT2.out)])]
     have c8 := (HLb.out.box).cell.2.2.2.2.2.2.2.2.1
     have cF := fail_c (HLb.out.box) 2201 (p : Int)
     rw [if_pos rfl, if_pos rfl] at cF
     go_wp2_with fail
     refine cF.mono ?_
     rintro e w5 ⟨⟨v, rfl⟩, hb5, x5⟩
     have HB5 := hid (And.intro hb5 (HXR.out w5 (xq_trans HXb.out (xq_xb x5 (by omega)))))
     clear hb5 x5 cF c8
     go_wp2_with fail
     first | go_end0 | ((try simp only [Exit.inBlock, Exit.then]); refine bodyPost_ret (results_none rfl _ _ _) rfl ?_)
     refine ⟨⟨_, rfl⟩, ?_⟩
     rw [HRE.out]
     exact ⟨⟨_, _, _, _, HB5.out.1⟩, HB5.out.2⟩
    | false =>
    have hHn' : nb < H'.length := by rw [hHl]; exact HNB.out
    have hHA : H'[nb] = A := by rw [List.getElem?_eq_getElem hHn'] at hHn; exact Option.some.inj hHn
    have hHh : H'.length = hn := by rw [hHl, HHN.out]
    obtain ⟨-, -, hga⟩ := HGA.out hf2
    obtain ⟨t1, t2, t3, t4, t5, t6⟩ := HROWS.out Wb (HKEEP.out Wb HXb.out) (by omega)
    have cS := BQo.shape_c (m := m) (E := zo) (H := H') (by rw [hHh]; exact HLb.out) (by omega) hlb (by omega) HHb.out hHn' (by rw [hHA]; exact ⟨hga.2.2.1, by have := hga.2.2.2.1; omega⟩) hI t1 t3 HSD.out HOK.out t4 t5 HNBB.out (by rw [HKB.out]) hpo (o := o) (la := la) (lc := lc) (ln := o.l.length) hfit hob.2.1
    rw [hHh, hHA] at cS
    obtain ⟨r, hr⟩ : ∃ r, rsh S A.el k.o p s o = r := ⟨_, rfl⟩
    have HRS := hid hr
    rw [hr] at cS
    have v0 := cell_of HEb.out 0 _ rfl
    have v1 := cell_of HEb.out 1 _ rfl
    have v2 := cell_of HEb.out 2 _ rfl
    have v3 := cell_of HEb.out 3 _ rfl
    have v4 := cell_of HEb.out 4 _ rfl
    have hszb : zo < Wb.heap.size := HLb.out.ex
    have hzz' : z + 2 <= zo := by omega
    clear t1 t2 t3 t4 t5 t6 hr
    go_wp2_with fail
    refine cS.mono ?_
    rintro e Wc ⟨rfl, ⟨lvc, nvc, hLc⟩, xc⟩
    have hlc' : z + 2 <= Wc.heap.size := by have := xc.1.size; omega
    have HLc := hid hLc
    have HHc : Hid (Hq Wc Q H') := (xc.2 Q (.inl (by omega)) (by omega) (by omega)).trans HHb.out
    have HEc := hid ((xc.2 zo (.inr rfl) hszb (by omega)).trans HEb.out)
    have XCz : Xq X Q (z + 2) z Wb Wc := ⟨xc.1, fun g h1 h2 h3 _ => xc.2 g (.inl (by rcases h1 with h1 | h1 <;> omega)) h2 h3⟩
    have HXc := hid (xq_trans HXb.out XCz)
    clear hLc xc XCz cS v0 v1 v2 v3 v4
    cases r with
    | none => as_aux_lemma =>
     have HRE : Hid (rone S nb k H = .error ((p : Int), 2204)) := by
      obtain ⟨g1, g2, -⟩ := HGA.out hf2
      refine rone_e HGD.out g1 g2 ?_
      rw [hrg, HDR.out, rgo, show rop S nb k.o A p o s H' = .error 2204 by (unfold rop; rw [if_neg (by rintro (h | h); exact hp8 h; rw [hfit] at h; cases h), if_neg (by have := HT2.out; simpa using this), HRS.out])]
     have c8 := (HLc.out.box).cell.2.2.2.2.2.2.2.2.1
     have cF := fail_c (HLc.out.box) 2204 (p : Int)
     rw [if_pos rfl, if_pos rfl] at cF
     go_wp2_with fail
     refine cF.mono ?_
     rintro e w5 ⟨⟨v, rfl⟩, hb5, x5⟩
     have HB5 := hid (And.intro hb5 (HXR.out w5 (xq_trans HXc.out (xq_xb x5 (by omega)))))
     clear hb5 x5 cF c8
     go_wp2_with fail
     first | go_end0 | ((try simp only [Exit.inBlock, Exit.then]); refine bodyPost_ret (results_none rfl _ _ _) rfl ?_)
     refine ⟨⟨_, rfl⟩, ?_⟩
     rw [HRE.out]
     exact ⟨⟨_, _, _, _, HB5.out.1⟩, HB5.out.2⟩
    | some s' =>
    have HLs : Hid (Lv Wc X (z + 2) zo (.slice ta tn tc) (.slice ca nc cc) (.slice sa ns sc) (.slice (some ⟨gb, ob, none⟩) B.length bc) (.slice (some ⟨Q, 0, none⟩) hn hcap) (nb : Int) pq 0 (p : Int) s' lvc nvc) := HLc.out
    have hI' : Inv s' := inv_shape hI hga.2.2.1 (fun hk => by
     unfold fits at hfit
     rw [if_neg (by omega), if_neg (by omega), if_neg (by omega), if_neg (by omega), if_neg (by omega), if_neg (by omega), if_neg (by omega), if_neg (by omega), if_pos hk] at hfit
     unfold zr at hfit
     by_cases h1 : 1 <= o.a
     ·exact h1
     ·rw [decide_eq_false h1] at hfit; cases hfit) HRS.out
    have cW := own_c (A := A) HLs.out (by omega) hlc' (by omega) hXQ HHc.out hHh hHn' HBN.out hHA ⟨hga.2.2.1, by have := hga.2.2.2.1; omega, hga.2.2.2.2.1, hga.2.2.2.2.2⟩ (by have := hI'.nam; show s'.names.length <= 64; omega) (by have h1 := hI'.dep0; have h2 := hI'.dep; show -100 <= s'.dep /\ s'.dep <= 100; omega) hI'.ne hI'.lst (by have h1 := hI'.len; have h2 := hI'.nam; show s'.lets.length <= 65; omega) (o := o) (la := la) (lc := lc) (ln := o.l.length) rfl h64
    have v0 := cell_of HEc.out 0 _ rfl
    have v1 := cell_of HEc.out 1 _ rfl
    have v2 := cell_of HEc.out 2 _ rfl
    have v3 := cell_of HEc.out 3 _ rfl
    have v4 := cell_of HEc.out 4 _ rfl
    go_wp2_with fail
    refine cW.mono ?_
    rintro e Wd ⟨⟨v, rfl⟩, hOW⟩
    have hzd : zo < Wc.heap.size := HLc.out.ex
    have hp1 : IntKind.i64.wrap ((p : Int) + 1) = ((p + 1 : Nat) : Int) := by rw [IntKind.wrap_i64]; omega
    have HROP : Hid (rop S nb k.o A p o s H' = if rno nb H' (bks o) = true then .error 2205 else if owf A s' o = 0 then .ok (rlt s' o, put (rin A s' o) H' (bks o)) else .error (owf A s' o)) := by
     show rop S nb k.o A p o s H' = _
     unfold rop owf
     rw [if_neg (by rintro (h | h); exact hp8 h; rw [hfit] at h; cases h), if_neg (by have := HT2.out; simpa using this), HRS.out]
     dsimp only
     by_cases k1 : rno nb H' (bks o) = true
     ·rw [if_pos k1, if_pos k1]
     rw [if_neg k1, if_neg k1]
     by_cases k2 : 64 < s'.dep + grows o
     ·rw [if_pos k2, if_pos k2, if_neg (by omega)]
     rw [if_neg k2, if_neg k2]
     by_cases k3 : 8 < (if o.k = 9 then A.ls + 1 else A.ls)
     ·rw [if_pos k3, if_pos k3, if_neg (by omega)]
     ·rw [if_neg k3, if_neg k3, if_pos rfl]
    have HLP : Hid (∃ lv nv s'' H'' fq' pq', s''.lets ≠ [] /\ Lv Wd X (z + 2) zo (.slice ta tn tc) (.slice ca nc cc) (.slice sa ns sc) (.slice (some ⟨gb, ob, none⟩) B.length bc) (.slice (some ⟨Q, 0, none⟩) hn hcap) (nb : Int) pq' fq' (p : Int) s'' lv nv /\ Hq Wd Q H'' /\ Xq X Q (z + 2) z W3 Wd /\ ((fq' = 0 /\ pq' = p2 /\ Inv s'' /\ H''.length = H.length /\ H''[nb]? = some A /\ rgo S nb k.o A 0 k.o ⟨A.st, [0], []⟩ H = rgo S nb k.o A (p + 1) (k.o.drop (p + 1)) s'' H'') \/ (fq' ≠ 0 /\ rgo S nb k.o A 0 k.o ⟨A.st, [0], []⟩ H = .error (pq', fq')))) := by
     have hrlt : (rlt s' o).lets ≠ [] := by
      unfold rlt
      split
      ·have := hI'.ne
       show (s'.lets.set _ _) ≠ []
       simpa using this
      ·exact hI'.ne
     unfold OwE at hOW
     have hx2 : ∀ W', Xq X Q (z + 2) zo Wc W' -> Xq X Q (z + 2) z W3 W' := fun W' hx => xq_trans HXc.out ⟨hx.1, fun g h1 h2 h3 h4 => hx.2 g (.inl (by rcases h1 with h1 | h1 <;> omega)) h2 h3 h4⟩
     by_cases k1 : rno nb H' (bks o) = true
     ·rw [if_pos k1] at hOW
      obtain ⟨lv1, nv1, w1, w2, w3⟩ := hOW
      exact ⟨lv1, nv1, s', H', 2205, p, hI'.ne, w1, w2, hx2 _ w3, .inr ⟨by omega, by rw [hrg, HDR.out, rgo, HROP.out, if_pos k1]⟩⟩
     rw [if_neg k1] at hOW
     obtain ⟨lv1, nv1, w1, w2, w3⟩ := hOW
     by_cases k2 : owf A s' o = 0
     ·rw [if_pos k2] at w1 w2
      rw [k2] at w1
      refine ⟨lv1, nv1, rlt s' o, _, 0, pq, hrlt, w1, w2, hx2 _ w3, .inl ⟨rfl, hpq, inv_let hI' ?_, by rw [put_len, hHl], ?_, by rw [hrg, HDR.out, rgo, HROP.out, if_neg k1, if_pos k2]⟩⟩
      ·intro h
       unfold owf at k2
       rw [if_pos h] at k2
       omega
      ·rw [put_get, hHn]
       intro x hx he
       have hb : rbad nb H' x = false := by
        cases hr : rbad nb H' x with
        | false => rfl
        | true =>
         refine (k1 ?_).elim
         unfold rno
         rw [Bool.or_eq_true]
         exact .inl (List.any_eq_true.2 ⟨x, hx, hr⟩)
       unfold rbad at hb
       simp only [Bool.or_eq_false_iff] at hb
       have := of_decide_eq_false hb.1
       omega
     ·rw [if_neg k2] at w1 w2
      exact ⟨lv1, nv1, rlt s' o, _, owf A s' o, p, hrlt, w1, w2, hx2 _ w3, .inr ⟨k2, by rw [hrg, HDR.out, rgo, HROP.out, if_neg k1, if_neg k2]⟩⟩
    obtain ⟨lvd, nvd, s'', H'', fq', pq', hs1, hs2, hs3, hs4, hs5⟩ := HLP.out
    have c8 := hs2.box.cell.2.2.2.2.2.2.2.2.1
    have r8 := BIn.frz hs2.box 8
    have HFIN : Hid (Lp false X z Q (.slice ta tn tc) (.slice ca nc cc) (.slice sa ns sc) (.slice (some ⟨gb, ob, none⟩) B.length bc) (.slice (some ⟨Q, 0, none⟩) hn hcap) nb n W3 S k.o A H f2 p2 (Wd.setCell ⟨X, 8, none⟩ (.int .i64 ((p + 1 : Nat) : Int)))) := by
     have hsd : z + 2 <= Wd.heap.size := by have := hs4.1.size; have := HS3.out; omega
     have hd := Lv.at_set (Lv.other hs2 (E' := z) (by omega) (fun e => by have := (World.ownsRow.lt hs2.lets z e).1; omega) (fun e => by have := (World.ownsRow.lt hs2.names z e).1; omega)) (by omega) ((p + 1 : Nat) : Int)
     refine ⟨p + 1, s'', H'', fq', pq', by omega, hs1, ⟨lvd, nvd, hd, ?_, xq_trans hs4 (xq_xl (xl_set (by omega) 8 _))⟩, (fun e => by cases e), ?_⟩
     ·exact (Below.heap_setCell _ _ _ _ (by show Q ≠ X; omega)).trans hs3
     ·rcases hs5 with ⟨h1, h2, h3, h4, h5, h6⟩ | ⟨h1, h2⟩
      ·exact .inl ⟨h1, hf2, h2, h3, h4, h5, h6⟩
      ·exact .inr (.inr ⟨h1, hf2, h2⟩)
    have HC8 := hid (Lv.at_set hs2 (by omega) ((p + 1 : Nat) : Int)).box.cell.2.2.2.2.2.2.2.2.1
    have HC8r := hid HL.out.box.cell.2.2.2.2.2.2.2.2.1
    clear hs1 hs2 hs3 hs4 hs5 hOW cW v0 v1 v2 v3 v4
    go_wp2_with fail
    go_roundw
    case rel => exact HFIN.out
    case measure =>
     have h := HC8.out
     rw [show ((p + 1 : Nat) : Int) = (p : Int) + 1 by omega] at h
     have hr := HC8r.out
     simp only [h, hr, Option.getD_some, intOf]
     omega
 case rest => as_aux_lemma =>
 obtain ⟨p, s, H', fq, pq, hp, hsl, ⟨lv, nv, hL, hHq, hXq⟩, hpn, hst⟩ := hcut
 obtain ⟨W6, hW6⟩ : ∃ W6, W6 = wc := ⟨_, rfl⟩
 subst hW6
 have HST := hid hst
 have HPN := hid hpn
 have HS6 := hid (And.intro hL (And.intro hHq hXq))
 have hzw : z + 2 <= W6.heap.size := by have := hXq.1.size; have := HS3.out; omega
 obtain ⟨na, ncap, hnv, -, -⟩ := own_sh hL.names
 have hl0 : 0 < s.lets.length := List.length_pos_iff.2 hsl
 obtain ⟨gl, lcap, hlv, hlc, -, -, kl⟩ := own_at (l := s.lets) hL.lets rfl hl0
 obtain ⟨y, hy⟩ : ∃ y, s.lets[0] = y := ⟨_, rfl⟩
 rw [hy] at kl
 have HY0 : Hid (s.lets.getD 0 0 = y) := by show _ = _; rw [List.getD_eq_getElem?_getD, List.getElem?_eq_getElem hl0, hy]; rfl
 obtain ⟨nn, hnn⟩ : ∃ x, s.names.length = x := ⟨_, rfl⟩
 obtain ⟨vn, hvn⟩ : ∃ x, s.lets.length = x := ⟨_, rfl⟩
 rw [hnn] at hnv
 rw [hvn] at hlv hl0
 have HNN := hid hnn
 have c10 := hL.box.cell.2.2.2.2.2.2.2.2.2.2.1
 have c11 := hL.box.cell.2.2.2.2.2.2.2.2.2.2.2
 rw [hlv] at c10
 rw [hnv] at c11
 have j0 : (0 : Int) < (vn : Int) := by omega
 have hb6 := (hXq.2 z (.inl (by omega)) (by have := HS3.out; omega) (by omega) (by omega)).trans HY3.out
 have ha6 := (hXq.2 (z + 1) (.inl (by omega)) (by have := HS3.out; omega) (by omega) (by omega)).trans HE3.out
 have HB6 := hid hb6
 have HA6 := hid ha6
 obtain ⟨T1, hT1⟩ : ∃ x, (decide (0 < nn) || decide (0 < y)) = x := ⟨_, rfl⟩
 have HT1 := hid hT1
 clear hL hHq hXq hpn hst hnn hvn hy hsl hT1 hb6 ha6 hnv hlv
 go_upto_region 20 with fail
 go_cut [128] from 114 to 128 (fun t wx => t = .bool T1 /\ wx = W6)
 case first =>
  rcases Nat.eq_zero_or_pos nn with h0 | h0
  ·have eT : T1 = decide (0 < y) := by rw [<- HT1.out, h0]; rfl
   have ET := hid eT
   subst h0
   obtain ⟨D, hD⟩ : ∃ D, decide (0 < y) = D := ⟨_, rfl⟩
   have HD := hid hD
   clear eT
   cases D with
   | true =>
    go_wp2_with fail
    go_meet
    exact ⟨by rw [ET.out, HD.out], rfl⟩
   | false =>
    go_wp2_with fail
    go_meet
    exact ⟨by rw [ET.out, HD.out], rfl⟩
  ·have d0 : decide ((0 : Int) < (nn : Int)) = true := by simp; omega
   have d0n : decide (0 < nn) = true := by simp; omega
   have ET : Hid (T1 = true) := by show _ = _; rw [<- HT1.out, d0n]; rfl
   clear h0
   go_wp2_with fail
   go_meet
   exact ⟨by rw [ET.out], rfl⟩
 case rest =>
 obtain ⟨rfl, hwx⟩ := hcut
 obtain rfl := hwx.symm
 have y1 := cell_of HB6.out 1 _ rfl
 clear c10 c11 kl
 obtain ⟨p4, hp4⟩ : ∃ x : Int, (if T1 = true then (if fq = 0 then (n : Int) else pq) else pq) = x := ⟨_, rfl⟩
 obtain ⟨f4, hf4⟩ : ∃ x : Int, (if T1 = true then (if fq = 0 then 2204 else fq) else fq) = x := ⟨_, rfl⟩
 have Hp4 := hid hp4
 have Hf4 := hid hf4
 clear hp4 hf4
 go_upto_if 128 with fail
 go_cut [] from 129 to 133 (fun wx => Lv wx X (z + 2) z (.slice ta tn tc) (.slice ca nc cc) (.slice sa ns sc) (.slice (some ⟨gb, ob, none⟩) B.length bc) (.slice (some ⟨Q, 0, none⟩) hn hcap) (nb : Int) p4 f4 (p : Int) s lv nv /\ Hq wx Q H' /\ Xq X Q (z + 2) z W3 wx)
 case first =>
  cases T1 with
  | false =>
   have e1 : p4 = pq := by rw [<- Hp4.out]; rfl
   have e2 : f4 = fq := by rw [<- Hf4.out]; rfl
   subst e1 e2
   go_wp2_with fail
   go_meet
   exact HS6.out
  | true =>
   have e1 : p4 = if fq = 0 then (n : Int) else pq := by rw [<- Hp4.out]; rfl
   have e2 : f4 = if fq = 0 then 2204 else fq := by rw [<- Hf4.out]; rfl
   have cF := fail_c HS6.out.1.box 2204 (n : Int)
   rw [<- e1, <- e2] at cF
   have hlw : z + 2 <= W6.heap.size := by have := HS6.out.2.2.1.size; have := HS3.out; omega
   clear e1 e2
   go_wp2_with fail
   refine cF.mono ?_
   rintro e w5 ⟨⟨v, rfl⟩, hb5, x5⟩
   have HB5 := hid (And.intro (Lv.failed HS6.out.1 (by omega) hb5 x5) (And.intro ((x5.2 Q (by omega) (by omega)).trans HS6.out.2.1) (xq_trans HS6.out.2.2 (xq_xb x5 hlw))))
   clear hb5 x5 cF
   go_wp2_with fail
   go_meet
   exact HB5.out
 case rest =>
 have HS7 := hid hcut
 obtain ⟨W7, hW7⟩ : ∃ W7, W7 = wc := ⟨_, rfl⟩
 subst hW7
 have hzw7 : z + 2 <= W7.heap.size := by have := HS7.out.2.2.1.size; have := HS3.out; omega
 have hb7 := (HS7.out.2.2.2 z (.inl (by omega)) (by have := HS3.out; omega) (by omega) (by omega)).trans HY3.out
 have ha7 := (HS7.out.2.2.2 (z + 1) (.inl (by omega)) (by have := HS3.out; omega) (by omega) (by omega)).trans HE3.out
 have HKEEP : Hid (∀ W', Xq X Q (z + 2) z W3 W' -> Keep R w W') := fun W' hx b hb hl => by
  have hbz : b < z := by rw [<- HZ.out]; exact hl
  have h3 := HS3.out
  exact (hx.2 b (.inl (by omega)) (by omega) (fun e => HRX.out (e ▸ hb)) (fun e => HRQ.out (e ▸ hb))).trans (HKW.out b hbz)
 have cS := single_c (HRO.out.keep (S' := R) (w' := W7) (fun _ h => h) fun g o x _ hg h => kO (HKEEP.out W7 HS7.out.2.2) (fun _ h => h) hg h)
 rw [HN.out] at cS
 obtain ⟨G, hG⟩ : ∃ G, sgl k.o = G := ⟨_, rfl⟩
 have HG2 := hid hG
 rw [hG] at cS
 have v4 := cell_of ha7 4 _ rfl
 rw [show A.lp = LP from HLP.out] at v4
 have y1 := cell_of hb7 1 _ rfl
 obtain ⟨T2, hT2⟩ : ∃ x, (LP && !G) = x := ⟨_, rfl⟩
 have HT2 := hid hT2
 clear hG hT2 hb7 ha7
 go_upto_region 22 with fail
 go_cut [141] from 134 to 141 (fun t wx => t = .bool T2 /\ wx = W7)
 case first =>
  cases LP with
  | false =>
   have ET : Hid (T2 = false) := by show _ = _; rw [<- HT2.out]; rfl
   go_wp2_with fail
   go_meet
   exact ⟨by rw [ET.out], rfl⟩
  | true =>
   have ET : Hid (T2 = !G) := by show _ = _; rw [<- HT2.out]; rfl
   go_wp2_with (first | (go_at_call 101; refine cS.mono ?_; rintro e w1 ⟨rfl, h1⟩; obtain rfl := h1))
   go_meet
   exact ⟨by rw [ET.out], rfl⟩
 case rest =>
 obtain ⟨rfl, hwx⟩ := hcut
 obtain rfl := hwx.symm
 clear v4 y1 cS
 obtain ⟨p5, hp5⟩ : ∃ x : Int, (if T2 = true then (if f4 = 0 then 0 else p4) else p4) = x := ⟨_, rfl⟩
 obtain ⟨f5, hf5⟩ : ∃ x : Int, (if T2 = true then (if f4 = 0 then 2206 else f4) else f4) = x := ⟨_, rfl⟩
 have Hp5 := hid hp5
 have Hf5 := hid hf5
 clear hp5 hf5
 go_upto_if 141 with fail
 go_cut [] from 142 to 143 (fun wx => Lv wx X (z + 2) z (.slice ta tn tc) (.slice ca nc cc) (.slice sa ns sc) (.slice (some ⟨gb, ob, none⟩) B.length bc) (.slice (some ⟨Q, 0, none⟩) hn hcap) (nb : Int) p5 f5 (p : Int) s lv nv /\ Hq wx Q H' /\ Xq X Q (z + 2) z W3 wx)
 case first =>
  cases T2 with
  | false =>
   have e1 : p5 = p4 := by rw [<- Hp5.out]; rfl
   have e2 : f5 = f4 := by rw [<- Hf5.out]; rfl
   subst e1 e2
   go_wp2_with fail
   go_meet
   exact HS7.out
  | true =>
   have e1 : p5 = if f4 = 0 then 0 else p4 := by rw [<- Hp5.out]; rfl
   have e2 : f5 = if f4 = 0 then 2206 else f4 := by rw [<- Hf5.out]; rfl
   have cF := fail_c HS7.out.1.box 2206 0
   rw [<- e1, <- e2] at cF
   have hlw : z + 2 <= W7.heap.size := by have := HS7.out.2.2.1.size; have := HS3.out; omega
   clear e1 e2
   go_wp2_with fail
   refine cF.mono ?_
   rintro e w5 ⟨⟨v, rfl⟩, hb5, x5⟩
   have HB5 := hid (And.intro (Lv.failed HS7.out.1 (by omega) hb5 x5) (And.intro ((x5.2 Q (by omega) (by omega)).trans HS7.out.2.1) (xq_trans HS7.out.2.2 (xq_xb x5 hlw))))
   clear hb5 x5 cF
   go_wp2_with fail
   go_meet
   exact HB5.out
 case rest =>
 have HS8 := hid hcut
 obtain ⟨W8, hW8⟩ : ∃ W8, W8 = wc := ⟨_, rfl⟩
 subst hW8
 have HPN2 : Hid (fq = 0 -> p = n) := HPN.out rfl
 have hu47 : un <= 140737488351232 := by have := HUN.out; obtain ⟨_, _, _, _, _, h47, _⟩ := HRU.out; omega
 go_wp2_with fail
 go_loopw [5] (fun i wr => ∃ (q : Nat) (fr pr : Int), q <= un /\ i = .int .i64 q /\ Us n k.u f5 p5 q fr pr /\ Lv wr X (z + 2) z (.slice ta tn tc) (.slice ca nc cc) (.slice sa ns sc) (.slice (some ⟨gb, ob, none⟩) B.length bc) (.slice (some ⟨Q, 0, none⟩) hn hcap) (nb : Int) pr fr (p : Int) s lv nv /\ Hq wr Q H' /\ Xq X Q (z + 2) z W3 wr) (fun i _ => un - (intOf i).toNat)
 case atStart => exact ⟨0, f5, p5, Nat.zero_le _, rfl, us_0, HS8.out⟩
 case round =>
  obtain ⟨q, fr, pr, hq, rfl, hu, hS⟩ := hrel
  have HS9 := hid hS
  have HU := hid hu
  have hzr : z + 2 <= wr.heap.size := by have := hS.2.2.1.size; have := HS3.out; omega
  have hbx := (hS.2.2.2 z (.inl (by omega)) (by have := HS3.out; omega) (by omega) (by omega)).trans HY3.out
  have y1 := cell_of hbx 1 _ rfl
  have y2 := cell_of hbx 2 _ rfl
  clear hS hu hbx
  by_cases hlt : q < un
  ·obtain ⟨gu, ou, cu, hsu, -, -, hRu, hlu⟩ := RrS.at HRU.out (show q < k.u.length by rw [HUN.out]; exact hlt)
   rw [HUN.out] at hsu
   cases hsu
   have HK9 := hid (HKEEP.out wr HS9.out.2.2)
   obtain ⟨x, hx⟩ : ∃ x, k.u[q]'(by rw [HUN.out]; exact hlt) = x := ⟨_, rfl⟩
   rw [hx] at hlu
   have HX0 : Hid (k.u.getD q 0 = x) := by show _ = _; rw [List.getD_eq_getElem?_getD, List.getElem?_eq_getElem (by rw [HUN.out]; exact hlt), hx]; rfl
   have x0 : wr.cell? ⟨gu, ou + q, none⟩ = some (.int .i64 x) := HK9.out.cell hRu (by have := hlu.1; rw [Nat.mul_one] at this; exact this)
   have i0 : (0 : Int) <= (q : Int) := by omega
   have i1 : (q : Int) < (un : Int) := by omega
   obtain ⟨B1, hB1⟩ : ∃ B, isN x n = B := ⟨_, rfl⟩
   have cI : ∀ W, Calls prog 102 #[.int .i64 x, .int .i64 (n : Int)] W fun e w' => e = .returned (.bool B1) /\ w' = W := fun W => by rw [<- hB1]; exact (in_c x n W).mono fun e w' h => ⟨h.1, h.2.symm⟩
   obtain ⟨TT, hTT⟩ : ∃ B, ub n k.u q = B := ⟨_, rfl⟩
   have HTT := hid hTT
   have HB1 := hid hB1
   have HLT := hid hlt
   clear hTT hB1 hx
   go_upto_region 27 with fail
   go_cut [178] from 151 to 178 (fun t wx => t = .bool TT /\ Below wr.heap.size wr wx)
   case first =>
    by_cases h0 : q = 0
    ·have d1 : decide ((0 : Int) < (q : Int)) = false := by simp; omega
     have d1n : decide (0 < q) = false := by simp; omega
     have ET : Hid (TT = !B1) := by show _ = _; rw [<- HTT.out]; unfold ub; rw [HX0.out, HB1.out, h0]; simp
     clear h0
     cases B1 with
     | true =>
      go_wp2_with fail
      go_quiet (first | (go_at_call 102; exact Calls.quiet_of_same (cI _)))
      go_wp2_with fail
      go_meet
      exact ⟨by rw [ET.out]; rfl, IBase.below_drewN (Below.refl _ wr)⟩
     | false =>
      go_wp2_with fail
      go_quiet (first | (go_at_call 102; exact Calls.quiet_of_same (cI _)))
      go_wp2_with fail
      go_meet
      exact ⟨by rw [ET.out]; rfl, IBase.below_drewN (Below.refl _ wr)⟩
    ·obtain ⟨r, hr⟩ : ∃ r, q = r + 1 := ⟨q - 1, by omega⟩
     have d1 : decide ((0 : Int) < (q : Int)) = true := by simp; omega
     have d1n : decide (0 < q) = true := by simp; omega
     have jw : IntKind.i64.wrap ((q : Int) - 1) = (r : Int) := by rw [IntKind.wrap_i64]; have := HUN.out; obtain ⟨_, _, _, _, _, h47, _⟩ := HRU.out; omega
     have i2 : (0 : Int) <= (r : Int) := by omega
     have i3 : (r : Int) < (un : Int) := by omega
     obtain ⟨gu', ou', cu', hsu', -, -, -, hlu'⟩ := RrS.at HRU.out (show r < k.u.length by rw [HUN.out]; omega)
     rw [HUN.out] at hsu'
     cases hsu'
     obtain ⟨x', hx'⟩ : ∃ x, k.u[r]'(by rw [HUN.out]; omega) = x := ⟨_, rfl⟩
     rw [hx'] at hlu'
     have HX1 : Hid (k.u.getD (q - 1) 0 = x') := by show _ = _; rw [show q - 1 = r by omega, List.getD_eq_getElem?_getD, List.getElem?_eq_getElem (by rw [HUN.out]; omega), hx']; rfl
     have x1 : wr.cell? ⟨gu, ou + r, none⟩ = some (.int .i64 x') := HK9.out.cell hRu (by have := hlu'.1; rw [Nat.mul_one] at this; exact this)
     obtain ⟨D2, hD2⟩ : ∃ D, decide (x <= x') = D := ⟨_, rfl⟩
     have ET : Hid (TT = (!B1 || D2)) := by
      show _ = _
      rw [<- HTT.out]
      unfold ub
      rw [HX0.out, HX1.out, HB1.out, hD2, show decide (0 < q) = true by simp; omega, Bool.true_and]
     clear h0 hr hx' hlu' hlu
     cases B1 with
     | true =>
      go_wp2_with fail
      go_quiet (first | (go_at_call 102; exact Calls.quiet_of_same (cI _)))
      go_wp2_with fail
      go_meet
      exact ⟨by rw [ET.out, <- hD2]; simp, IBase.below_drewN (Below.refl _ wr)⟩
     | false =>
      go_wp2_with fail
      go_quiet (first | (go_at_call 102; exact Calls.quiet_of_same (cI _)))
      go_wp2_with fail
      go_meet
      exact ⟨by rw [ET.out]; rfl, IBase.below_drewN (Below.refl _ wr)⟩
   case rest =>
   obtain ⟨rfl, hwx⟩ := hcut
   obtain ⟨W9, hW9⟩ : ∃ W9, W9 = wc := ⟨_, rfl⟩
   subst hW9
   have HS10 : Hid (Lv W9 X (z + 2) z (.slice ta tn tc) (.slice ca nc cc) (.slice sa ns sc) (.slice (some ⟨gb, ob, none⟩) B.length bc) (.slice (some ⟨Q, 0, none⟩) hn hcap) (nb : Int) pr fr (p : Int) s lv nv /\ Hq W9 Q H' /\ Xq X Q (z + 2) z W3 W9) := ⟨HS9.out.1.below hwx, (hwx.block Q (by omega)).trans HS9.out.2.1, xq_trans HS9.out.2.2 (xq_below (by omega) hzr hwx)⟩
   have HUS := hid (us_step (show q < k.u.length by rw [HUN.out]; exact hlt) HU.out)
   rw [HTT.out] at HUS
   clear cI x0 y1 y2 hwx hlu
   cases TT with
   | false =>
    rw [if_neg (by simp), if_neg (by simp)] at HUS
    go_wp2_with fail
    go_roundw
    case rel => exact ⟨q + 1, fr, pr, by have := HLT.out; omega, by go_num, HUS.out, HS10.out⟩
    case measure => have := HLT.out; simp only [intOf]; omega
   | true =>
    rw [if_pos rfl, if_pos rfl] at HUS
    have cF := fail_c HS10.out.1.box 2207 (q : Int)
    have hlw : z + 2 <= W9.heap.size := by have := HS10.out.2.2.1.size; have := HS3.out; omega
    go_wp2_with fail
    refine cF.mono ?_
    rintro e w5 ⟨⟨v, rfl⟩, hb5, x5⟩
    have HB5 := hid (And.intro (Lv.failed HS10.out.1 (by omega) hb5 x5) (And.intro ((x5.2 Q (by omega) (by omega)).trans HS10.out.2.1) (xq_trans HS10.out.2.2 (xq_xb x5 hlw))))
    clear hb5 x5 cF
    go_wp2_with fail
    go_roundw
    case rel => exact ⟨q + 1, _, _, by have := HLT.out; omega, by go_num, HUS.out, HB5.out⟩
    case measure => have := HLT.out; simp only [intOf]; omega
  ·have d0 : decide ((q : Int) < (un : Int)) = false := by simp; omega
   obtain rfl : q = un := by omega
   have HGD : Hid (H.getD nb ar0 = A) := by show _ = _; rw [List.getD_eq_getElem?_getD, List.getElem?_eq_getElem HNB.out, HA.out]; rfl
   have HE := hid (rone_end HGD.out HOW.out HLP.out HDN.out HP1.out HF1.out HP2.out HF2.out HN.out HST.out HPN2.out HT1.out HNN.out HY0.out Hp4.out Hf4.out HT2.out HG2.out Hp5.out Hf5.out HUN.out HU.out)
   go_wp2_with fail
   first | go_end0 | ((try simp only [Exit.inBlock, Exit.then]); refine bodyPost_ret (results_none rfl _ _ _) rfl ?_)
   have hXR : Xr X Q w wr := by
    have h3 := HS3.out
    have hz := HZ.out
    exact ⟨(HB3.out.mono (by omega)).trans HS9.out.2.2.1, fun g hg hx' hq' => (HS9.out.2.2.2 g (.inl (by omega)) (by omega) hx' hq').trans (HKW.out g (by omega))⟩
   refine ⟨⟨_, rfl⟩, ?_⟩
   by_cases h0 : fr = 0
   ·rw [HE.out.2 h0]
    have hL := HS9.out.1
    obtain ⟨_, _, e1, -, -⟩ := own_sh hL.lets
    obtain ⟨_, _, e2, -, -⟩ := own_sh hL.names
    subst e1 e2 h0
    exact ⟨⟨_, _, _, _, _, _, _, _, _, hL.box⟩, HS9.out.2.1, hXR⟩
   ·rw [HE.out.1 h0]
    exact ⟨⟨_, _, _, _, HS9.out.1.box⟩, hXR⟩
end Go.Proofs.YtaiackmmmlhgbaaGreat.BQr
