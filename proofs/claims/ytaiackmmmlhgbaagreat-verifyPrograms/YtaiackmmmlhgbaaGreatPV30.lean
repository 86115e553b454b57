import Derived.BigQuiet
import Derived.Deep.RegionHeld3
import Derived.Laws.Cover1
import Derived.Test.YtaiackmmmlhgbaaGreatPV27
import Derived.Test.YtaiackmmmlhgbaaGreatPV29
open Go.Proofs.Tryz
set_option linter.unusedVariables false
set_option maxRecDepth 20000
set_option maxHeartbeats 12800000
namespace Go.Proofs.YtaiackmmmlhgbaaGreat.BQi
open Go.RowKit BPl YRr BBx BRn BQg BQh
open YPl (Oq Bk Pg)
open BSf (hid)
open BPs (Xl)
open BVf (cell_set)
open CBx (w64)
open TBase (Keep heap_alloc_new)
open TBase (T)
theorem inl_one {S : Nat -> Prop} {w : World} {m : Nat} {a : Option Addr} {n cap : Nat} {l : List T} (h : TBase.InL false S w m (.slice a n cap) l) {q : Nat} (hq : q < l.length) : ∃ g o, a = some ⟨g, o, none⟩ /\ n = l.length /\ n <= cap /\ cap <= 9223372036854775807 /\ TBase.InL false TBase.All w m (.slice (some ⟨g, o + q * 4, none⟩) 1 (cap - q)) [l[q]] := by
 obtain ⟨a', cap', e, h1, h2, h3, h4, h5⟩ := h
 cases e
 rcases h5 with ⟨e, -⟩ | ⟨g, o, rfl, hg, hc, -⟩
 ·rw [e] at hq
  simp at hq
 ·refine ⟨g, o, rfl, rfl, h1, h2, ⟨_, _, rfl, by simp; omega, by omega, by simp, (fun e => by cases e), .inr ⟨g, o + q * 4, rfl, trivial, fun j hj => ?_, fun e => by cases e⟩⟩⟩
  obtain rfl : j = 0 := by simp at hj; exact hj
  obtain ⟨u, hu, hi⟩ := hc q hq
  refine ⟨u, ?_, hi.weak (fun _ _ => trivial) false id m (Nat.le_refl _)⟩
  rw [Nat.zero_mul, Nat.add_zero]
  exact hu
theorem shape7 {w : World} {X L E Q nb p hcap nc cc ns sc bc tc : Nat} {ta ca sa ba : Option Addr} {tn bn : Nat} {pl ft : Int} {s : Lk} {lv nv : Value} {H : List Ar} {m : Nat}
  (h : Lv w X L E (.slice ta tn tc) (.slice ca nc cc) (.slice sa ns sc) (.slice ba bn bc) (.slice (some ⟨Q, 0, none⟩) H.length hcap) (nb : Int) pl ft (p : Int) s lv nv) (hX : X < L) (hL : L <= w.heap.size) (hQ : Q < w.heap.size) (hH : Hq w Q H) (hnb : nb < H.length) (hel : 0 <= H[nb].el /\ H[nb].el <= 64) (hnl : s.names.length <= 64) (hvl : s.lets.length <= 65) {S : Sh} {ops : List Oq} {R : Nat -> Prop} {ds : List T} (hs : TBase.InL false R w m (.slice sa ns sc) ds) (hSd : S.d = ds.map fun t => (TMeas.dp [t] : Int)) (hok : ∀ t ∈ ds, TShallow.depL [t] <= 4096)
  {o : Oq} {la : Option Addr} {lc ln : Nat} (hk : o.k = 7) (ha : isN o.a S.d.length = true) :
  Calls prog 99 #[.pointer (some ⟨X, 0, none⟩), .agg #[.int .i64 o.k, .int .i64 o.a, .int .i64 o.b, .int .i64 o.c, .slice la ln lc]] w fun e w' => ShE X L E (.slice ta tn tc) (.slice ca nc cc) (.slice sa ns sc) (.slice ba bn bc) (.slice (some ⟨Q, 0, none⟩) H.length hcap) (nb : Int) pl ft (p : Int) s w (rsh S H[nb].el ops p s o) e w' := by
 obtain ⟨W, hW, bW, sW, xW⟩ := BSm.box5 w (.int .i64 o.k) (.int .i64 o.a) (.int .i64 o.b) (.int .i64 o.c) (.slice la ln lc) 127
 have z0 := cell_of xW 0 _ rfl
 have z1 := cell_of xW 1 _ rfl
 have h1 := h.below bW
 have hH1 : Hq W Q H := (bW.block Q hQ).trans hH
 have cn := hH1.cell hnb (j := 1) (by omega) (v := .int .i64 H[nb].el) rfl
 obtain ⟨na, ncap, hnv, hnc1, hnc2⟩ := own_sh h1.names
 obtain ⟨va, vcap, hlv, hvc1, hvc2⟩ := own_sh h1.lets
 subst hnv hlv
 obtain ⟨c0, c1, c2, c3, c4, c5, c6, c7, c8, c9, c10, c11⟩ := h1.box.cell
 have i0 : (0 : Int) <= (nb : Int) := by omega
 have i1 : (nb : Int) < (H.length : Int) := by omega
 obtain ⟨el, hE⟩ : ∃ x, H[nb].el = x := ⟨_, rfl⟩
 rw [hE] at cn hel ⊢
 have hw1 : IntKind.i64.wrap (el + (s.names.length : Int)) = el + (s.names.length : Int) := by rw [IntKind.wrap_i64]; omega
 have hsW : w.heap.size < W.heap.size := by omega
 have HB0 := hid (xl_below hX hL bW : Xe X L E w W)
 have H1 := hid h1
 have hLW : L <= W.heap.size := by omega
 have HLW := hid hLW
 have e : rsh S el ops p s o = if 64 < el + (s.names.length : Int) + dpa S o.a then none else some s := by unfold rsh; rw [if_neg (by omega), if_pos hk]
 rw [e]
 obtain ⟨q, hq, hql⟩ := BBx.isN_of ha
 rw [hSd, List.length_map] at hql
 have hqm := hok ds[q] (List.getElem_mem hql)
 have hdp : dpa S o.a = (TMeas.dp [ds[q]] : Int) := by
  unfold dpa
  rw [hq, hSd, Int.toNat_natCast, List.getD_eq_getElem?_getD, List.getElem?_map, List.getElem?_eq_getElem hql]
  rfl
 have hdm : TMeas.dp [ds[q]] <= 4096 := by
  by_cases h0 : TMeas.ck [ds[q]] = 0
  ·rw [RLook.dp_lk _ h0]; exact hqm
  ·unfold TMeas.dp
   rw [if_neg h0]
   omega
 rw [hdp, hq]
 rw [hq] at z1 hW
 obtain ⟨g, o', rfl, hn1, hn2, hn3, hin⟩ := inl_one hs hql
 have d3 : (o.k == 3) = false := by simp [hk]
 have d7 : (o.k == 7) = true := by simp [hk]
 obtain ⟨nn, hnn⟩ : ∃ x, s.names.length = x := ⟨_, rfl⟩
 rw [hnn] at H1 c11 hw1 hnl hnc1 ⊢
 obtain ⟨la', hla⟩ : ∃ x, IntKind.i64.wrap ((nn : Int) - 1) = x := ⟨_, rfl⟩
 have b2 : Below w.heap.size w W.drew.drew := bW.drew.drew
 have cD := RLook.rdepth_c m _ _ W.drew.drew (hin.below b2) hqm
 generalize TMeas.dp [ds[q]] = dd at *
 have hw2 : IntKind.i64.wrap (el + (nn : Int) + (dd : Int)) = el + (nn : Int) + (dd : Int) := by rw [IntKind.wrap_i64]; omega
 have hqs : q < ns := by omega
 have j0 : (0 : Int) <= (q : Int) := by omega
 have j1 : (q : Int) < (ns : Int) := by omega
 obtain ⟨q1, hq1⟩ : ∃ q1 : Nat, q + 1 = q1 := ⟨_, rfl⟩
 have HQ1 := hid hq1
 have hw3 : IntKind.i64.wrap ((q : Int) + 1) = (q1 : Int) := by rw [IntKind.wrap_i64]; omega
 have j2 : (q1 : Int) <= (sc : Int) := by omega
 have j3 : (q : Int) <= (q1 : Int) := by omega
 have j4 : (0 : Int) <= (q1 : Int) := by omega
 have j5 : q1 - q = 1 := by omega
 have hsq : ¬ sc = q := by omega
 have HCL : Hid (∀ W', Below W.heap.size W W' -> W'.cell? ⟨X, 2, none⟩ = some (.slice (some ⟨g, o', none⟩) ns sc) /\ W'.cell? ⟨w.heap.size, 1, none⟩ = some (.int .i64 (q : Int))) := fun W' hb => ⟨IBase.below_cell c2 hb, IBase.below_cell z1 hb⟩
 clear hq1
 obtain ⟨D, hD⟩ : ∃ D, decide (64 < el + (nn : Int) + (dd : Int)) = D := ⟨_, rfl⟩
 have HD : Hid ((if 64 < el + (nn : Int) + (dd : Int) then (none : Option Lk) else some s) = if D = true then none else some s) := by
  show _ = _
  by_cases h : 64 < el + (nn : Int) + (dd : Int)
  ·rw [if_pos h, if_pos (by rw [<- hD]; simpa using h)]
  ·rw [if_neg h, if_neg (by rw [<- hD]; simpa using h)]
 rw [HD.out]
 have HBD := hid (b2 : Below w.heap.size w W.drew.drew)
 clear hs hSd hok hqm hdp hq ha hin hql b2 HD hn1 hn2
 clear bW xW sW h1 hH1 h hH hE
 clear hk e hnn
 go_enter func99, ntmps99
 go_wp2_with fail
 go_region
 go_wp2_with fail
 go_region_held3 (fun w' => w'.cell? ⟨X, 2, none⟩ = some (.slice (some ⟨g, o', none⟩) ns sc) /\ w'.cell? ⟨w.heap.size, 1, none⟩ = some (.int .i64 (q : Int))) (go_keep) (first
  | (go_at_call 155; refine cD.mono ?_; rintro e w5 ⟨rfl, b5⟩; have B5 := hid ((Below.refl _ W).drew.drew.trans b5 : Below W.heap.size W w5); obtain ⟨q2, q3⟩ := HCL.out w5 B5.out; clear b5)
  | fail)
 rename_i hHeld
 clear hHeld
 cases D with
 | true =>
  go_wp2_with fail
  go_ret
  exact ⟨rfl, ⟨_, _, H1.out.below B5.out⟩, xl_trans HB0.out (xl_below hX HLW.out B5.out)⟩
 | false =>
  go_wp2_with fail
  go_ret
  exact ⟨rfl, ⟨_, _, H1.out.below B5.out⟩, xl_trans HB0.out (xl_below hX HLW.out B5.out)⟩
end Go.Proofs.YtaiackmmmlhgbaaGreat.BQi
namespace Go.Proofs.YtaiackmmmlhgbaaGreat.BQj
open Go.RowKit BPl YRr YRs BBx BRn BQg BQh
open YPl (Oq Bk Pg)
open BSf (hid)
open BPs (Xl)
open BVf (cell_set)
open CBx (w64)
open TBase (Keep heap_alloc_new)
theorem shape4 {w : World} {X L E Q nb p hcap nc cc ns sc bc tc : Nat} {ta ca sa ba : Option Addr} {tn bn : Nat} {pl ft : Int} {s : Lk} {lv nv : Value} {H : List Ar} {m : Nat}
  (h : Lv w X L E (.slice ta tn tc) (.slice ca nc cc) (.slice sa ns sc) (.slice ba bn bc) (.slice (some ⟨Q, 0, none⟩) H.length hcap) (nb : Int) pl ft (p : Int) s lv nv) (hX : X < L) (hL : L <= w.heap.size) (hQ : Q < w.heap.size) (hH : Hq w Q H) (hnb : nb < H.length) (hel : 0 <= H[nb].el /\ H[nb].el <= 64) (hnl : s.names.length <= 64) (hvl : s.lets.length <= 65) {S : Sh} {ops : List Oq} {R : Nat -> Prop} {B : List Bk} (ht : RrS 1 LyS R w (.slice ta tn tc) S.t) (hB : RrS 3 (LyBs R) R w (.slice ba bn bc) B) (hR : ∀ g, R g -> g < w.heap.size) (hnB : nb < B.length) (hops : B[nb].o = ops) (hp : p < ops.length)
  {o : Oq} {la : Option Addr} {lc ln : Nat} (hk : o.k = 4 \/ o.k = 5) (ha : isN o.a S.t.length = true) :
  Calls prog 99 #[.pointer (some ⟨X, 0, none⟩), .agg #[.int .i64 o.k, .int .i64 o.a, .int .i64 o.b, .int .i64 o.c, .slice la ln lc]] w fun e w' => ShE X L E (.slice ta tn tc) (.slice ca nc cc) (.slice sa ns sc) (.slice ba bn bc) (.slice (some ⟨Q, 0, none⟩) H.length hcap) (nb : Int) pl ft (p : Int) s w (rsh S H[nb].el ops p s o) e w' := by
 obtain ⟨W, hW, bW, sW, xW⟩ := BSm.box5 w (.int .i64 o.k) (.int .i64 o.a) (.int .i64 o.b) (.int .i64 o.c) (.slice la ln lc) 127
 have z0 := cell_of xW 0 _ rfl
 have z1 := cell_of xW 1 _ rfl
 have h1 := h.below bW
 have hH1 : Hq W Q H := (bW.block Q hQ).trans hH
 have cn := hH1.cell hnb (j := 1) (by omega) (v := .int .i64 H[nb].el) rfl
 obtain ⟨na, ncap, hnv, hnc1, hnc2⟩ := own_sh h1.names
 obtain ⟨va, vcap, hlv, hvc1, hvc2⟩ := own_sh h1.lets
 subst hnv hlv
 obtain ⟨c0, c1, c2, c3, c4, c5, c6, c7, c8, c9, c10, c11⟩ := h1.box.cell
 have i0 : (0 : Int) <= (nb : Int) := by omega
 have i1 : (nb : Int) < (H.length : Int) := by omega
 obtain ⟨el, hE⟩ : ∃ x, H[nb].el = x := ⟨_, rfl⟩
 rw [hE] at cn hel ⊢
 have hw1 : IntKind.i64.wrap (el + (s.names.length : Int)) = el + (s.names.length : Int) := by rw [IntKind.wrap_i64]; omega
 have hsW : w.heap.size < W.heap.size := by omega
 have HB0 := hid (xl_below hX hL bW : Xe X L E w W)
 have H1 := hid h1
 have hLW : L <= W.heap.size := by omega
 have HLW := hid hLW
 have e : rsh S el ops p s o = if p = 0 \/ s.names = [] \/ ¬ ((ahd ops p).k = 3 \/ (ahd ops p).k = 4 \/ (ahd ops p).k = 5) \/ TPure.lt (lst s.names ByteArray.empty) (txa S o.a) = false then none else some ⟨s.dep, s.lets, s.names.set (s.names.length - 1) (txa S o.a)⟩ := by unfold rsh; rw [if_neg (by omega), if_neg (by omega), if_pos hk]
 rw [e]
 obtain ⟨q, hq, hql⟩ := BBx.isN_of ha
 obtain ⟨gt, ot, ct, hst, htl, htm, htg, ⟨ty0, -⟩⟩ := RrS.at ht hql
 cases hst
 rw [Nat.mul_one] at ty0
 have hkt : txa S o.a = S.t[q] := by
  unfold txa
  rw [hq, Int.toNat_natCast, List.getD_eq_getElem?_getD, List.getElem?_eq_getElem hql]
  rfl
 rw [hkt]
 rw [hq] at z1 hW
 rw [hq]
 obtain ⟨t, ht0⟩ : ∃ t, S.t[q] = t := ⟨_, rfl⟩
 rw [ht0] at ty0 ⊢
 have cT := IBase.below_cell ty0 bW
 obtain ⟨gb, ob, cb, hsb, hbl, hbm, hbg, ⟨opv, upv, -, by1, -, -, hro, -⟩⟩ := RrS.at hB hnB
 cases hsb
 have cB := IBase.below_cell by1 bW
 rw [hops] at hro
 obtain ⟨oa, oc, rfl, ho1, ho2, -⟩ : ∃ oa oc, opv = .slice oa ops.length oc /\ ops.length <= oc /\ oc <= 9223372036854775807 /\ True := by obtain ⟨a, c, e, h1, h2, -⟩ := hro; exact ⟨a, c, e, h1, h2, trivial⟩
 have j0 : (0 : Int) <= (q : Int) := by omega
 have j1 : (q : Int) < (S.t.length : Int) := by omega
 have j2 : (nb : Int) < (B.length : Int) := by omega
 obtain ⟨tn, htn⟩ : ∃ x, S.t.length = x := ⟨_, rfl⟩
 obtain ⟨bn, hbn⟩ : ∃ x, B.length = x := ⟨_, rfl⟩
 rw [htn] at H1 c0 j1 ⊢
 rw [hbn] at H1 c3 j2 ⊢
 have d3 : (o.k == 3) = false := by simp; omega
 have d7 : (o.k == 7) = false := by simp; omega
 have d45 : (o.k == 4) = true \/ ((o.k == 4) = false /\ (o.k == 5) = true) := by rcases hk with h | h <;> simp [h]
 obtain ⟨nn, hnn⟩ : ∃ x, s.names.length = x := ⟨_, rfl⟩
 have HNN := hid hnn
 by_cases hp0 : p = 0
 ·rw [if_pos (.inl hp0)]
  have p0 : ((p : Int) == 0) = true := by simp [hp0]
  have p1 : (p == 0) = true := by simp [hp0]
  obtain ⟨la', hla⟩ : ∃ x, IntKind.i64.wrap ((s.names.length : Int) - 1) = x := ⟨_, rfl⟩
  rw [hnn] at H1 c11 hw1 hla
  clear hp0 hk e hq hkt ht0 hops hnn ht hB hR hro by1 ty0 hnc1
  clear bW xW sW h1 hH1 h hH hE
  rcases d45 with d4 | ⟨d4, d5⟩ <;> (
  go_enter func99, ntmps99
  go_wp2_with fail
  go_region
  go_wp2_with fail
  go_region
  go_wp2_with fail
  go_quiet (fail)
  go_wp2_with fail
  go_ret
  exact ⟨rfl, ⟨_, _, H1.out.below (by repeat first | exact Below.refl _ _ | apply IBase.below_drewN | apply Below.drew)⟩, xl_trans HB0.out (xl_below hX HLW.out (by repeat first | exact Below.refl _ _ | apply IBase.below_drewN | apply Below.drew))⟩)
 have p0 : ((p : Int) == 0) = false := by simp [hp0]
 have p1 : (p == 0) = false := by simp [hp0]
 rcases List.eq_nil_or_concat s.names with hnm | ⟨m', x, hnm⟩
 ·rw [if_pos (.inr (.inl hnm))]
  have hn0 : nn = 0 := by rw [<- hnn, hnm]; rfl
  have hla : IntKind.i64.wrap ((nn : Int) - 1) = -1 := by rw [hn0]; decide
  rw [hnn] at H1 c11 hw1
  clear hp0 hk e hq hkt ht0 hops hnn hn0 hnm ht hB hR hro by1 ty0 hnc1
  clear bW xW sW h1 hH1 h hH hE
  rcases d45 with d4 | ⟨d4, d5⟩ <;> (
  go_enter func99, ntmps99
  go_wp2_with fail
  go_region
  go_wp2_with fail
  go_region
  go_wp2_with fail
  go_quiet (fail)
  go_wp2_with fail
  go_ret
  exact ⟨rfl, ⟨_, _, H1.out.below (by repeat first | exact Below.refl _ _ | apply IBase.below_drewN | apply Below.drew)⟩, xl_trans HB0.out (xl_below hX HLW.out (by repeat first | exact Below.refl _ _ | apply IBase.below_drewN | apply Below.drew))⟩)
 rw [List.concat_eq_append] at hnm
 obtain ⟨g, cap, hnv, hg1, hg2, hgX, kx, fx, hset, -⟩ := h1.names_last hX hnm
 obtain ⟨j, hpj⟩ : ∃ j, j + 1 = p := ⟨p - 1, by omega⟩
 have hj : j < ops.length := by omega
 have hah : ahd ops p = ops[j] := by rw [<- hpj]; exact ahd_next hj
 obtain ⟨go, oo, co, hso, -, -, hog, ⟨lo, q0, -⟩⟩ := RrS.at hro hj
 cases hso
 have cO := IBase.below_cell q0 bW
 obtain ⟨kk, hkk⟩ : ∃ x, ops[j].k = x := ⟨_, rfl⟩
 rw [hkk] at cO
 have hlx : lst s.names ByteArray.empty = x := by rw [hnm, lst_snoc]
 have hsx : s.names.set (s.names.length - 1) t = m' ++ [t] := by rw [hnm, set_last]
 have hne : ¬ s.names = [] := by rw [hnm]; simp
 obtain ⟨mn, hmn⟩ : ∃ y, m'.length = y := ⟨_, rfl⟩
 have hnn2 : mn + 1 = nn := by rw [<- hnn, hnm, <- hmn]; simp
 rw [hmn, hnn2] at hnv
 have hx1 : s.names.length = nn := hnn
 rw [hsx]
 rw [hx1] at hnv H1 c11 hw1 hnc1
 cases hnv
 rw [hmn] at kx fx hset
 have hla : IntKind.i64.wrap ((nn : Int) - 1) = (mn : Int) := by rw [IntKind.wrap_i64]; omega
 have t0 : decide ((mn : Int) < 0) = false := by simp
 have v0 : (0 : Int) <= (mn : Int) := by omega
 have v1 : (mn : Int) < (nn : Int) := by omega
 have hj1 : IntKind.i64.wrap ((p : Int) - 1) = (j : Int) := by rw [IntKind.wrap_i64]; omega
 have v2 : (0 : Int) <= (j : Int) := by omega
 have v3 : (j : Int) < (ops.length : Int) := by omega
 obtain ⟨ol, hol⟩ : ∃ y, ops.length = y := ⟨_, rfl⟩
 rw [hol] at cB v3
 rw [hah, hkk, hlx]
 have HSET : Hid (∀ W', Below W.heap.size W W' -> ∀ W2, W2 = W'.setCell ⟨g, mn, none⟩ (.string t) \/ W2 = (W'.setCell ⟨g, mn, none⟩ (.string t)).drew -> Lv W2 X L E (.slice (some ⟨gt, ot, none⟩) tn tc) (.slice ca nc cc) (.slice sa ns sc) (.slice (some ⟨gb, ob, none⟩) bn bc) (.slice (some ⟨Q, 0, none⟩) H.length hcap) (nb : Int) pl ft (p : Int) ⟨s.dep, s.lets, m' ++ [t]⟩ (.slice va s.lets.length vcap) (.slice (some ⟨g, 0, none⟩) nn ncap) /\ Xe X L E w W2) := fun W' hb W2 h2 => by
  obtain ⟨g2, cap2, e2, -, -, -, -, -, hs2, -⟩ := (H1.out.below hb).names_last hX hnm
  rw [hmn, hnn2] at e2
  cases e2
  rw [hmn] at hs2
  have k1 := (hs2 t).1
  have k2 := xl_trans HB0.out (xl_trans (xl_below hX HLW.out hb) (hs2 t).2)
  have k3 : L <= (W'.setCell ⟨g, mn, none⟩ (.string t)).heap.size := by have := hb.size; have := HLW.out; simp [World.setCell]; omega
  rcases h2 with rfl | rfl
  ·exact ⟨k1, k2⟩
  ·exact ⟨k1.below (Below.refl _ _).drew, xl_trans k2 (xl_below hX k3 (Below.refl _ _).drew)⟩
 unfold TPure.lt
 have HNE := hid hne
 have HP0 := hid hp0
 clear hp0 hk e hq hkt ht0 hops hnn hnn2 hx1 hnm hmn ht hB hR hro by1 ty0 hnc1 hset hah hkk hlx hsx hne q0 hj hol hp hpj
 clear bW xW sW h1 hH1 h hH hE
 by_cases hbad : kk = 3 \/ kk = 4 \/ kk = 5
 rotate_left 1
 ·rw [if_pos (.inr (.inr (.inl hbad)))]
  have e3 : (kk != 3) = true := by simp; omega
  have e4 : (kk != 4) = true := by simp; omega
  have e5 : (kk != 5) = true := by simp; omega
  clear hbad
  rcases d45 with d4 | ⟨d4, d5⟩ <;> (
  go_enter func99, ntmps99
  go_wp2_with fail
  go_region
  go_wp2_with fail
  go_region
  go_wp2_with fail
  go_quiet (fail)
  go_wp2_with fail
  go_ret
  exact ⟨rfl, ⟨_, _, H1.out.below (by repeat first | exact Below.refl _ _ | apply IBase.below_drewN | apply Below.drew)⟩, xl_trans HB0.out (xl_below hX HLW.out (by repeat first | exact Below.refl _ _ | apply IBase.below_drewN | apply Below.drew))⟩)
 obtain ⟨D, hD⟩ : ∃ D, Op.bytesLess x.toList t.toList = D := ⟨_, rfl⟩
 rw [hD]
 cases D with
 | false =>
  rw [if_pos (.inr (.inr (.inr rfl)))]
  rcases hbad with rfl | rfl | rfl
  ·rcases d45 with d4 | ⟨d4, d5⟩ <;> (
   go_enter func99, ntmps99
   go_wp2_with fail
   go_region
   go_wp2_with fail
   go_region
   go_wp2_with fail
   go_quiet (fail)
   go_wp2_with fail
   go_ret
   exact ⟨rfl, ⟨_, _, H1.out.below (by repeat first | exact Below.refl _ _ | apply IBase.below_drewN | apply Below.drew)⟩, xl_trans HB0.out (xl_below hX HLW.out (by repeat first | exact Below.refl _ _ | apply IBase.below_drewN | apply Below.drew))⟩)
  ·rcases d45 with d4 | ⟨d4, d5⟩ <;> (
   go_enter func99, ntmps99
   go_wp2_with fail
   go_region
   go_wp2_with fail
   go_region
   go_wp2_with fail
   go_quiet (fail)
   go_wp2_with fail
   go_ret
   exact ⟨rfl, ⟨_, _, H1.out.below (by repeat first | exact Below.refl _ _ | apply IBase.below_drewN | apply Below.drew)⟩, xl_trans HB0.out (xl_below hX HLW.out (by repeat first | exact Below.refl _ _ | apply IBase.below_drewN | apply Below.drew))⟩)
  ·rcases d45 with d4 | ⟨d4, d5⟩ <;> (
   go_enter func99, ntmps99
   go_wp2_with fail
   go_region
   go_wp2_with fail
   go_region
   go_wp2_with fail
   go_quiet (fail)
   go_wp2_with fail
   go_ret
   exact ⟨rfl, ⟨_, _, H1.out.below (by repeat first | exact Below.refl _ _ | apply IBase.below_drewN | apply Below.drew)⟩, xl_trans HB0.out (xl_below hX HLW.out (by repeat first | exact Below.refl _ _ | apply IBase.below_drewN | apply Below.drew))⟩)
 | true =>
  rw [if_neg (by rintro (h | h | h | h); exact HP0.out h; exact HNE.out h; exact h hbad; cases h)]
  rcases hbad with rfl | rfl | rfl
  ·rcases d45 with d4 | ⟨d4, d5⟩ <;> (
   go_enter func99, ntmps99
   go_wp2_with fail
   go_region
   go_wp2_with fail
   go_region
   go_wp2_with fail
   go_quiet (fail)
   go_wp2_with fail
   go_region
   go_wp2_with fail
   go_ret
   first | exact ⟨rfl, ⟨_, _, (HSET.out _ (by repeat first | exact Below.refl _ _ | apply IBase.below_drewN | apply Below.drew) _ (.inl rfl)).1⟩, (HSET.out _ (by repeat first | exact Below.refl _ _ | apply IBase.below_drewN | apply Below.drew) _ (.inl rfl)).2⟩ | exact ⟨rfl, ⟨_, _, (HSET.out _ (by repeat first | exact Below.refl _ _ | apply IBase.below_drewN | apply Below.drew) _ (.inr rfl)).1⟩, (HSET.out _ (by repeat first | exact Below.refl _ _ | apply IBase.below_drewN | apply Below.drew) _ (.inr rfl)).2⟩)
  ·rcases d45 with d4 | ⟨d4, d5⟩ <;> (
   go_enter func99, ntmps99
   go_wp2_with fail
   go_region
   go_wp2_with fail
   go_region
   go_wp2_with fail
   go_quiet (fail)
   go_wp2_with fail
   go_region
   go_wp2_with fail
   go_ret
   first | exact ⟨rfl, ⟨_, _, (HSET.out _ (by repeat first | exact Below.refl _ _ | apply IBase.below_drewN | apply Below.drew) _ (.inl rfl)).1⟩, (HSET.out _ (by repeat first | exact Below.refl _ _ | apply IBase.below_drewN | apply Below.drew) _ (.inl rfl)).2⟩ | exact ⟨rfl, ⟨_, _, (HSET.out _ (by repeat first | exact Below.refl _ _ | apply IBase.below_drewN | apply Below.drew) _ (.inr rfl)).1⟩, (HSET.out _ (by repeat first | exact Below.refl _ _ | apply IBase.below_drewN | apply Below.drew) _ (.inr rfl)).2⟩)
  ·rcases d45 with d4 | ⟨d4, d5⟩ <;> (
   go_enter func99, ntmps99
   go_wp2_with fail
   go_region
   go_wp2_with fail
   go_region
   go_wp2_with fail
   go_quiet (fail)
   go_wp2_with fail
   go_region
   go_wp2_with fail
   go_ret
   first | exact ⟨rfl, ⟨_, _, (HSET.out _ (by repeat first | exact Below.refl _ _ | apply IBase.below_drewN | apply Below.drew) _ (.inl rfl)).1⟩, (HSET.out _ (by repeat first | exact Below.refl _ _ | apply IBase.below_drewN | apply Below.drew) _ (.inl rfl)).2⟩ | exact ⟨rfl, ⟨_, _, (HSET.out _ (by repeat first | exact Below.refl _ _ | apply IBase.below_drewN | apply Below.drew) _ (.inr rfl)).1⟩, (HSET.out _ (by repeat first | exact Below.refl _ _ | apply IBase.below_drewN | apply Below.drew) _ (.inr rfl)).2⟩)
end Go.Proofs.YtaiackmmmlhgbaaGreat.BQj
namespace Go.Proofs.YtaiackmmmlhgbaaGreat.BQk
open Go.RowKit BPl YRr BRn BQg BQh
open YPl (Oq Bk Pg)
open BSf (hid)
open BPs (Xl)
open BVf (cell_set)
open CBx (w64)
open TBase (Keep heap_alloc_new)
theorem shape6 {w : World} {X L E Q nb p hcap nc cc ns sc bc tc : Nat} {ta ca sa ba : Option Addr} {tn bn : Nat} {pl ft : Int} {s : Lk} {lv nv : Value} {H : List Ar} {m : Nat}
  (h : Lv w X L E (.slice ta tn tc) (.slice ca nc cc) (.slice sa ns sc) (.slice ba bn bc) (.slice (some ⟨Q, 0, none⟩) H.length hcap) (nb : Int) pl ft (p : Int) s lv nv) (hX : X < L) (hL : L <= w.heap.size) (hQ : Q < w.heap.size) (hH : Hq w Q H) (hnb : nb < H.length) (hel : 0 <= H[nb].el /\ H[nb].el <= 64) (hnl : s.names.length <= 64) (hvl : s.lets.length <= 65) {S : Sh} {ops : List Oq}
  {o : Oq} {la : Option Addr} {lc ln : Nat} (hk : o.k = 6) (hlen : s.lets.length = s.names.length + 1) :
  Calls prog 99 #[.pointer (some ⟨X, 0, none⟩), .agg #[.int .i64 o.k, .int .i64 o.a, .int .i64 o.b, .int .i64 o.c, .slice la ln lc]] w fun e w' => ShE X L E (.slice ta tn tc) (.slice ca nc cc) (.slice sa ns sc) (.slice ba bn bc) (.slice (some ⟨Q, 0, none⟩) H.length hcap) (nb : Int) pl ft (p : Int) s w (rsh S H[nb].el ops p s o) e w' := by
 obtain ⟨W, hW, bW, sW, xW⟩ := BSm.box5 w (.int .i64 o.k) (.int .i64 o.a) (.int .i64 o.b) (.int .i64 o.c) (.slice la ln lc) 127
 have z0 := cell_of xW 0 _ rfl
 have z1 := cell_of xW 1 _ rfl
 have h1 := h.below bW
 have hH1 : Hq W Q H := (bW.block Q hQ).trans hH
 have cn := hH1.cell hnb (j := 1) (by omega) (v := .int .i64 H[nb].el) rfl
 obtain ⟨na, ncap, hnv, hnc1, hnc2⟩ := own_sh h1.names
 obtain ⟨va, vcap, hlv, hvc1, hvc2⟩ := own_sh h1.lets
 subst hnv hlv
 obtain ⟨c0, c1, c2, c3, c4, c5, c6, c7, c8, c9, c10, c11⟩ := h1.box.cell
 have i0 : (0 : Int) <= (nb : Int) := by omega
 have i1 : (nb : Int) < (H.length : Int) := by omega
 obtain ⟨el, hE⟩ : ∃ x, H[nb].el = x := ⟨_, rfl⟩
 rw [hE] at cn hel ⊢
 have hw1 : IntKind.i64.wrap (el + (s.names.length : Int)) = el + (s.names.length : Int) := by rw [IntKind.wrap_i64]; omega
 have hsW : w.heap.size < W.heap.size := by omega
 have HB0 := hid (xl_below hX hL bW : Xe X L E w W)
 have H1 := hid h1
 have hLW : L <= W.heap.size := by omega
 have HLW := hid hLW
 have e : rsh S el ops p s o = if s.names = [] \/ 0 < lst s.lets 0 then none else some ⟨s.dep, s.lets.take (s.lets.length - 1), s.names.take (s.names.length - 1)⟩ := by unfold rsh; rw [if_neg (by omega), if_neg (by omega), if_neg (by omega), if_pos hk]
 rw [e]
 have d3 : (o.k == 3) = false := by simp; omega
 have d7 : (o.k == 7) = false := by simp; omega
 have d4 : (o.k == 4) = false := by simp; omega
 have d5 : (o.k == 5) = false := by simp; omega
 have d6 : (o.k == 6) = true := by simp; omega
 obtain ⟨nn, hnn⟩ : ∃ x, s.names.length = x := ⟨_, rfl⟩
 rcases List.eq_nil_or_concat s.names with hnm | ⟨m', x, hnm⟩
 ·rw [if_pos (.inl hnm)]
  have hn0 : nn = 0 := by rw [<- hnn, hnm]; rfl
  have hla : IntKind.i64.wrap ((nn : Int) - 1) = -1 := by rw [hn0]; decide
  rw [hnn] at H1 c11 hw1
  clear hk e hnn hn0 hnm hlen hnc1
  clear bW xW sW h1 hH1 h hH hE
  go_enter func99, ntmps99
  go_wp2_with fail
  go_region
  go_wp2_with fail
  go_quiet (fail)
  go_wp2_with fail
  go_ret
  exact ⟨rfl, ⟨_, _, H1.out.below (by repeat first | exact Below.refl _ _ | apply IBase.below_drewN | apply Below.drew)⟩, xl_trans HB0.out (xl_below hX HLW.out (by repeat first | exact Below.refl _ _ | apply IBase.below_drewN | apply Below.drew))⟩
 rw [List.concat_eq_append] at hnm
 rcases List.eq_nil_or_concat s.lets with hlm | ⟨l', y, hlm⟩
 ·rw [hlm, hnm] at hlen
  simp at hlen
 rw [List.concat_eq_append] at hlm
 obtain ⟨g, cap, hnv, hg1, hg2, hgX, kx, fx, -, htk⟩ := h1.names_last hX hnm
 obtain ⟨g2, cap2, hlv, hk1, hk2, hgX2, ky, fy, -, htk2⟩ := h1.lets_last hX hlm
 obtain ⟨mn, hmn⟩ : ∃ y, m'.length = y := ⟨_, rfl⟩
 obtain ⟨ln, hln⟩ : ∃ y, l'.length = y := ⟨_, rfl⟩
 have hnn2 : mn + 1 = nn := by rw [<- hnn, hnm, <- hmn]; simp
 obtain ⟨vn, hvn⟩ : ∃ x, s.lets.length = x := ⟨_, rfl⟩
 have hvn2 : ln + 1 = vn := by rw [<- hvn, hlm, <- hln]; simp
 have hly : lst s.lets 0 = y := by rw [hlm, lst_snoc]
 have hne : ¬ s.names = [] := by rw [hnm]; simp
 have hsx : s.names.take (s.names.length - 1) = m' := by rw [hnm, take_last]
 have hsy : s.lets.take (s.lets.length - 1) = l' := by rw [hlm, take_last]
 rw [hsx, hsy, hly]
 rw [hmn, hnn2] at hnv
 rw [hln, hvn2] at hlv
 rw [hnn] at hnv H1 c11 hw1 hnc1
 rw [hvn] at hlv H1 c10 hvc1 hvl
 cases hnv
 cases hlv
 rw [hmn] at kx fx htk
 rw [hln] at ky fy htk2
 have hla : IntKind.i64.wrap ((nn : Int) - 1) = (mn : Int) := by rw [IntKind.wrap_i64]; omega
 have hla2 : IntKind.i64.wrap ((vn : Int) - 1) = (ln : Int) := by rw [IntKind.wrap_i64]; omega
 have t0 : decide ((mn : Int) < 0) = false := by simp
 have v0 : (0 : Int) <= (mn : Int) := by omega
 have v1 : (mn : Int) < (nn : Int) := by omega
 have v2 : (mn : Int) <= (ncap : Int) := by omega
 have v3 : (0 : Int) <= (ln : Int) := by omega
 have v4 : (ln : Int) < (vn : Int) := by omega
 have v5 : (ln : Int) <= (vcap : Int) := by omega
 by_cases hy : 0 < y
 ·rw [if_pos (.inr hy)]
  have t1 : decide ((0 : Int) < y) = true := by simp; omega
  clear hk e hnn hnn2 hvn2 hvn hnm hlm hlen hnc1 hvc1 hy hly hne hsx hsy hmn hln htk htk2
  clear bW xW sW h1 hH1 h hH hE
  go_enter func99, ntmps99
  go_wp2_with fail
  go_region
  go_wp2_with fail
  go_quiet (fail)
  go_wp2_with fail
  go_ret
  exact ⟨rfl, ⟨_, _, H1.out.below (by repeat first | exact Below.refl _ _ | apply IBase.below_drewN | apply Below.drew)⟩, xl_trans HB0.out (xl_below hX HLW.out (by repeat first | exact Below.refl _ _ | apply IBase.below_drewN | apply Below.drew))⟩
 rw [if_neg (fun h => h.elim hne hy)]
 have t1 : decide ((0 : Int) < y) = false := by simp; omega
 have HSET : Hid (∀ W', Below W.heap.size W W' -> ∀ W2, W2 = ((W'.setCell ⟨X, 11, none⟩ (.slice (some ⟨g, 0, none⟩) mn ncap)).setCell ⟨X, 10, none⟩ (.slice (some ⟨g2, 0, none⟩) ln vcap)) \/ W2 = ((W'.setCell ⟨X, 11, none⟩ (.slice (some ⟨g, 0, none⟩) mn ncap)).setCell ⟨X, 10, none⟩ (.slice (some ⟨g2, 0, none⟩) ln vcap)).drew -> Lv W2 X L E (.slice ta tn tc) (.slice ca nc cc) (.slice sa ns sc) (.slice ba bn bc) (.slice (some ⟨Q, 0, none⟩) H.length hcap) (nb : Int) pl ft (p : Int) ⟨s.dep, l', m'⟩ (.slice (some ⟨g2, 0, none⟩) ln vcap) (.slice (some ⟨g, 0, none⟩) mn ncap) /\ Xe X L E w W2) := fun W' hb W2 h2 => by
  obtain ⟨g', cap', e', -, -, -, -, -, -, hs2⟩ := (H1.out.below hb).names_last hX hnm
  cases e'
  rw [hmn] at hs2
  obtain ⟨g', cap', e', -, -, -, -, -, -, hs3⟩ := hs2.lets_last hX (m := l') (x := y) hlm
  rw [hln] at hs3 e'
  cases e'
  have k2 := xl_trans (xl_trans HB0.out (xl_below hX HLW.out hb)) (xl_trans (xl_set (w := W') hX 11 (.slice (some ⟨g, 0, none⟩) mn ncap)) (xl_set hX 10 (.slice (some ⟨g2, 0, none⟩) ln vcap)))
  have k3 : L <= ((W'.setCell ⟨X, 11, none⟩ (.slice (some ⟨g, 0, none⟩) mn ncap)).setCell ⟨X, 10, none⟩ (.slice (some ⟨g2, 0, none⟩) ln vcap)).heap.size := by have := hb.size; have := HLW.out; simp [World.setCell]; omega
  rcases h2 with rfl | rfl
  ·exact ⟨hs3, k2⟩
  ·exact ⟨hs3.below (Below.refl _ _).drew, xl_trans k2 (xl_below hX k3 (Below.refl _ _).drew)⟩
 have r11 := BIn.frz h1.box 11
 have r10 := BIn.frz h1.box 10
 clear hk e hnn hnn2 hvn2 hvn hnm hlm hlen hnc1 hvc1 hy hly hne hsx hsy hmn hln htk htk2
 clear bW xW sW h1 hH1 h hH hE
 go_enter func99, ntmps99
 go_wp2_with fail
 go_region
 go_wp2_with fail
 go_quiet (fail)
 go_wp2_with fail
 go_region
 go_wp2_with fail
 go_ret
 first | exact ⟨rfl, ⟨_, _, (HSET.out _ (by repeat first | exact Below.refl _ _ | apply IBase.below_drewN | apply Below.drew) _ (.inl rfl)).1⟩, (HSET.out _ (by repeat first | exact Below.refl _ _ | apply IBase.below_drewN | apply Below.drew) _ (.inl rfl)).2⟩ | exact ⟨rfl, ⟨_, _, (HSET.out _ (by repeat first | exact Below.refl _ _ | apply IBase.below_drewN | apply Below.drew) _ (.inr rfl)).1⟩, (HSET.out _ (by repeat first | exact Below.refl _ _ | apply IBase.below_drewN | apply Below.drew) _ (.inr rfl)).2⟩
end Go.Proofs.YtaiackmmmlhgbaaGreat.BQk
