import Derived.BigQuiet
import Derived.Test.YtaiackmmmlhgbaaGreatPV15
import Derived.Test.YtaiackmmmlhgbaaGreatPV21
import Derived.Test.YtaiackmmmlhgbaaGreatPV22
import Derived.Test.YtaiackmmmlhgbaaGreatPV25
import Derived.Test.YtaiackmmmlhgbaaGreatPV27
import Derived.Test.YtaiackmmmlhgbaaGreatPV30
open Go.Proofs.Tryz
set_option linter.unusedVariables false
set_option maxRecDepth 20000
set_option maxHeartbeats 12800000
namespace Go.Proofs.YtaiackmmmlhgbaaGreat.BQl
open Go.RowKit BPl YRr BRn BQg BQh
open YPl (Oq Bk Pg)
open BSf (hid)
open BPs (Xl)
open BVf (cell_set)
open CBx (w64)
open TBase (Keep heap_alloc_new)
theorem shape12 {w : World} {X L E Q nb p hcap nc cc ns sc bc tc : Nat} {ta ca sa ba : Option Addr} {tn bn : Nat} {pl ft : Int} {s : Lk} {lv nv : Value} {H : List Ar} {m : Nat}
  (h : Lv w X L E (.slice ta tn tc) (.slice ca nc cc) (.slice sa ns sc) (.slice ba bn bc) (.slice (some ⟨Q, 0, none⟩) H.length hcap) (nb : Int) pl ft (p : Int) s lv nv) (hX : X < L) (hL : L <= w.heap.size) (hQ : Q < w.heap.size) (hH : Hq w Q H) (hnb : nb < H.length) (hel : 0 <= H[nb].el /\ H[nb].el <= 64) (hnl : s.names.length <= 64) (hvl : s.lets.length <= 65) {S : Sh} {ops : List Oq}
  {o : Oq} {la : Option Addr} {lc ln : Nat} (hk : o.k = 12) (hlen : s.lets ≠ []) (hlo : 0 <= lst s.lets 0 /\ lst s.lets 0 <= 64) (ha : 1 <= o.a) (hai : i64 o.a) (hdp : -100 <= s.dep /\ s.dep <= 100) :
  Calls prog 99 #[.pointer (some ⟨X, 0, none⟩), .agg #[.int .i64 o.k, .int .i64 o.a, .int .i64 o.b, .int .i64 o.c, .slice la ln lc]] w fun e w' => ShE X L E (.slice ta tn tc) (.slice ca nc cc) (.slice sa ns sc) (.slice ba bn bc) (.slice (some ⟨Q, 0, none⟩) H.length hcap) (nb : Int) pl ft (p : Int) s w (rsh S H[nb].el ops p s o) e w' := by
 obtain ⟨W, hW, bW, sW, xW⟩ := BSm.box5 w (.int .i64 o.k) (.int .i64 o.a) (.int .i64 o.b) (.int .i64 o.c) (.slice la ln lc) 127
 have z0 := cell_of xW 0 _ rfl
 have z1 := cell_of xW 1 _ rfl
 have h1 := h.below bW
 have hH1 : Hq W Q H := (bW.block Q hQ).trans hH
 have cn := hH1.cell hnb (j := 1) (by omega) (v := .int .i64 H[nb].el) rfl
 obtain ⟨na, ncap, hnv, hnc1, hnc2⟩ := own_sh h1.names
 obtain ⟨va, vcap, hlv, hvc1, hvc2⟩ := own_sh h1.lets
 subst hnv hlv
 obtain ⟨c0, c1, c2, c3, c4, c5, c6, c7, c8, c9, c10, c11⟩ := h1.box.cell
 have i0 : (0 : Int) <= (nb : Int) := by omega
 have i1 : (nb : Int) < (H.length : Int) := by omega
 obtain ⟨el, hE⟩ : ∃ x, H[nb].el = x := ⟨_, rfl⟩
 rw [hE] at cn hel ⊢
 have hw1 : IntKind.i64.wrap (el + (s.names.length : Int)) = el + (s.names.length : Int) := by rw [IntKind.wrap_i64]; omega
 have hsW : w.heap.size < W.heap.size := by omega
 have HB0 := hid (xl_below hX hL bW : Xe X L E w W)
 have H1 := hid h1
 have hLW : L <= W.heap.size := by omega
 have HLW := hid hLW
 have e : rsh S el ops p s o = if lst s.lets 0 < o.a then none else some ⟨s.dep - o.a, s.lets.set (s.lets.length - 1) (lst s.lets 0 - o.a), s.names⟩ := by unfold rsh; rw [if_neg (by omega), if_neg (by omega), if_neg (by omega), if_neg (by omega), if_pos hk]
 rw [e]
 have d3 : (o.k == 3) = false := by simp; omega
 have d7 : (o.k == 7) = false := by simp; omega
 have d4 : (o.k == 4) = false := by simp; omega
 have d5 : (o.k == 5) = false := by simp; omega
 have d6 : (o.k == 6) = false := by simp; omega
 have d12 : (o.k == 12) = true := by simp; omega
 obtain ⟨la', hla⟩ : ∃ x, IntKind.i64.wrap ((s.names.length : Int) - 1) = x := ⟨_, rfl⟩
 rcases List.eq_nil_or_concat s.lets with hlm | ⟨l', y, hlm⟩
 ·exact (hlen hlm).elim
 rw [List.concat_eq_append] at hlm
 obtain ⟨g2, cap2, hlv, hk1, hk2, hgX2, ky, fy, hset, -⟩ := h1.lets_last hX hlm
 have hgW : g2 ≠ w.heap.size := by
  have := (World.ownsRow.lt h.lets g2 (by rw [hlv]; rfl)).2
  omega
 have hgW2 : w.heap.size ≠ g2 := fun e => hgW e.symm
 obtain ⟨ln, hln⟩ : ∃ y, l'.length = y := ⟨_, rfl⟩
 obtain ⟨vn, hvn⟩ : ∃ x, s.lets.length = x := ⟨_, rfl⟩
 have hvn2 : ln + 1 = vn := by rw [<- hvn, hlm, <- hln]; simp
 have hly : lst s.lets 0 = y := by rw [hlm, lst_snoc]
 rw [hly] at hlo ⊢
 have hsy : ∀ z, s.lets.set (s.lets.length - 1) z = l' ++ [z] := fun z => by rw [hlm, set_last]
 rw [hsy]
 rw [hln, hvn2] at hlv
 rw [hvn] at hlv H1 c10 hvc1 hvl
 cases hlv
 rw [hln] at ky fy hset
 have hla2 : IntKind.i64.wrap ((vn : Int) - 1) = (ln : Int) := by rw [IntKind.wrap_i64]; omega
 have v3 : (0 : Int) <= (ln : Int) := by omega
 have v4 : (ln : Int) < (vn : Int) := by omega
 obtain ⟨nn, hnn⟩ : ∃ x, s.names.length = x := ⟨_, rfl⟩
 rw [hnn] at H1 c11 hw1 hnc1 hla
 by_cases hy : y < o.a
 ·rw [if_pos hy]
  have t1 : decide (y < o.a) = true := by simp; omega
  clear hk e hvn2 hvn hnn hlm hlen hnc1 hvc1 hy hly hsy hln hset
  clear bW xW sW h1 hH1 h hH hE
  go_enter func99, ntmps99
  go_wp2_with fail
  go_region
  go_wp2_with fail
  go_quiet (fail)
  go_wp2_with fail
  go_ret
  exact ⟨rfl, ⟨_, _, H1.out.below (by repeat first | exact Below.refl _ _ | apply IBase.below_drewN | apply Below.drew)⟩, xl_trans HB0.out (xl_below hX HLW.out (by repeat first | exact Below.refl _ _ | apply IBase.below_drewN | apply Below.drew))⟩
 rw [if_neg hy]
 have t1 : decide (y < o.a) = false := by simp; omega
 have hw5 : IntKind.i64.wrap (y - o.a) = y - o.a := by rw [IntKind.wrap_i64]; omega
 have hw6 : IntKind.i64.wrap (s.dep - o.a) = s.dep - o.a := by rw [IntKind.wrap_i64]; omega
 have HSET : Hid (∀ W', Below W.heap.size W W' -> ∀ W2, W2 = ((W'.setCell ⟨g2, ln, none⟩ (.int .i64 (y - o.a))).drew.setCell ⟨X, 9, none⟩ (.int .i64 (s.dep - o.a))) \/ W2 = ((W'.setCell ⟨g2, ln, none⟩ (.int .i64 (y - o.a))).drew.setCell ⟨X, 9, none⟩ (.int .i64 (s.dep - o.a))).drew -> Lv W2 X L E (.slice ta tn tc) (.slice ca nc cc) (.slice sa ns sc) (.slice ba bn bc) (.slice (some ⟨Q, 0, none⟩) H.length hcap) (nb : Int) pl ft (p : Int) ⟨s.dep - o.a, l' ++ [y - o.a], s.names⟩ (.slice (some ⟨g2, 0, none⟩) vn vcap) (.slice na nn ncap) /\ Xe X L E w W2) := fun W' hb W2 h2 => by
  obtain ⟨g', cap', e', -, -, -, -, -, hs2, -⟩ := (H1.out.below hb).lets_last hX hlm
  rw [hln, hvn2] at e'
  cases e'
  rw [hln] at hs2
  obtain ⟨W3, hW3⟩ : ∃ W3, W'.setCell ⟨g2, ln, none⟩ (.int .i64 (y - o.a)) = W3 := ⟨_, rfl⟩
  obtain ⟨k1, k2⟩ := hs2 (y - o.a)
  rw [hW3] at h2 k1 k2
  have k3 : L <= W3.heap.size := by rw [<- hW3]; have := hb.size; have := HLW.out; simp [World.setCell]; omega
  have k4 := (k1.below (Below.refl _ _).drew).dep_set hX (s.dep - o.a)
  have k5 := xl_trans (xl_trans (xl_trans (xl_trans HB0.out (xl_below hX HLW.out hb)) k2) (xl_below hX k3 (Below.refl _ _).drew)) (xl_set (w := W3.drew) hX 9 (.int .i64 (s.dep - o.a)))
  have k6 : L <= (W3.drew.setCell ⟨X, 9, none⟩ (.int .i64 (s.dep - o.a))).heap.size := by simp [World.setCell]; omega
  rcases h2 with rfl | rfl
  ·exact ⟨k4, k5⟩
  ·exact ⟨k4.below (Below.refl _ _).drew, xl_trans k5 (xl_below hX k6 (Below.refl _ _).drew)⟩
 have r9 := BIn.frz h1.box 9
 clear hk e hvn2 hvn hnn hlm hlen hnc1 hvc1 hy hly hsy hln hset
 clear bW xW sW h1 hH1 h hH hE
 go_enter func99, ntmps99
 go_wp2_with fail
 go_region
 go_wp2_with fail
 go_quiet (fail)
 go_wp2_with fail
 go_region
 go_wp2_with fail
 go_region
 go_wp2_with fail
 go_ret
 first | exact ⟨rfl, ⟨_, _, (HSET.out _ (by repeat first | exact Below.refl _ _ | apply IBase.below_drewN | apply Below.drew) _ (.inl rfl)).1⟩, (HSET.out _ (by repeat first | exact Below.refl _ _ | apply IBase.below_drewN | apply Below.drew) _ (.inl rfl)).2⟩ | exact ⟨rfl, ⟨_, _, (HSET.out _ (by repeat first | exact Below.refl _ _ | apply IBase.below_drewN | apply Below.drew) _ (.inr rfl)).1⟩, (HSET.out _ (by repeat first | exact Below.refl _ _ | apply IBase.below_drewN | apply Below.drew) _ (.inr rfl)).2⟩
end Go.Proofs.YtaiackmmmlhgbaaGreat.BQl
namespace Go.Proofs.YtaiackmmmlhgbaaGreat.BQp
open BPl BRn
open YPl (Oq Bk Pg)
structure Inv (s : Lk) : Prop where
 len : s.lets.length = s.names.length + 1
 nam : s.names.length <= 63
 pos : ∀ x ∈ s.lets, 0 <= x
 sum : s.lets.sum <= s.dep
 dep : s.dep <= 64
theorem sum_app (a b : List Int) : (a ++ b).sum = a.sum + b.sum := by
 induction a with
 | nil => simp
 | cons x r ih => simp only [List.cons_append, List.sum_cons, ih]; omega
theorem sum_pos : ∀ l : List Int, (∀ x ∈ l, 0 <= x) -> 0 <= l.sum
 | [], _ => by simp
 | x :: r, h => by
  have h1 := sum_pos r fun y hy => h y (by simp [hy])
  have h2 := h x (by simp)
  simp only [List.sum_cons]
  omega
theorem lets_end {l : List Int} (h : l ≠ []) : ∃ m x, l = m ++ [x] := by
 rcases List.eq_nil_or_concat l with h' | ⟨m, x, h'⟩
 ·exact (h h').elim
 ·exact ⟨m, x, by rw [h', List.concat_eq_append]⟩
theorem Inv.ne {s : Lk} (h : Inv s) : s.lets ≠ [] := fun e => by
 have := h.len
 rw [e] at this
 simp at this
theorem Inv.dep0 {s : Lk} (h : Inv s) : 0 <= s.dep := by
 have := sum_pos _ h.pos
 have := h.sum
 omega
theorem Inv.lst {s : Lk} (h : Inv s) : 0 <= lst s.lets 0 /\ lst s.lets 0 <= 64 := by
 obtain ⟨m, x, e⟩ := lets_end h.ne
 have hs := h.sum
 have hp := h.pos
 rw [e] at hs hp
 rw [e, lst_snoc]
 rw [sum_app] at hs
 have h1 := sum_pos m fun y hy => hp y (by simp [hy])
 have h2 := hp x (by simp)
 have h3 := h.dep
 simp only [List.sum_cons, List.sum_nil] at hs
 omega
theorem inv_0 {d : Int} (h : 0 <= d /\ d <= 64) : Inv ⟨d, [0], []⟩ := ⟨rfl, by simp, by simp, by simpa using h.1, h.2⟩
theorem inv_let {s : Lk} {o : Oq} (h : Inv s) (hg : ¬ 64 < s.dep + grows o) : Inv (rlt s o) := by
 unfold rlt
 by_cases hk : o.k = 11
 ·rw [if_pos hk]
  have eg : grows o = 1 := by unfold grows; rw [if_neg (by omega), if_neg (by omega), if_pos hk]
  obtain ⟨m, x, e⟩ := lets_end h.ne
  have hs := h.sum
  have hp := h.pos
  have hl := h.len
  rw [e] at hs hp hl
  rw [e, set_last, lst_snoc]
  rw [sum_app] at hs
  refine ⟨by simpa using hl, h.nam, fun y hy => ?_, ?_, by show s.dep + 1 <= 64; omega⟩
  ·rcases List.mem_append.1 hy with hy | hy
   ·exact hp y (by simp [hy])
   ·simp at hy
    have := hp x (by simp)
    omega
  ·show (m ++ [x + 1]).sum <= s.dep + 1
   rw [sum_app]
   simp only [List.sum_cons, List.sum_nil] at hs ⊢
   omega
 ·rw [if_neg hk]
  exact h
theorem inv_shape {S : Sh} {el : Int} {ops : List Oq} {p : Nat} {s s' : Lk} {o : Oq} (h : Inv s) (hel : 0 <= el) (ha : o.k = 12 -> 1 <= o.a) (hr : rsh S el ops p s o = some s') : Inv s' := by
 obtain ⟨m, x, e⟩ := lets_end h.ne
 have hs := h.sum
 have hp := h.pos
 have hl := h.len
 rw [e] at hs hp hl
 rw [sum_app] at hs
 simp only [List.sum_cons, List.sum_nil] at hs
 have hx := hp x (by simp)
 unfold rsh at hr
 by_cases k3 : o.k = 3
 ·rw [if_pos k3] at hr
  split at hr
  ·cases hr
  ·cases hr
   refine ⟨by simp [h.len], by simp; omega, fun y hy => ?_, ?_, h.dep⟩
   ·rcases List.mem_append.1 hy with hy | hy
    ·exact h.pos y hy
    ·simp at hy; omega
   ·show (s.lets ++ [0]).sum <= s.dep
    rw [sum_app]
    have := h.sum
    simp
    omega
 rw [if_neg k3] at hr
 by_cases k7 : o.k = 7
 ·rw [if_pos k7] at hr
  split at hr
  ·cases hr
  ·cases hr; exact h
 rw [if_neg k7] at hr
 by_cases k45 : o.k = 4 \/ o.k = 5
 ·rw [if_pos k45] at hr
  split at hr
  ·cases hr
  ·cases hr
   exact ⟨by simp [h.len], by simpa using h.nam, h.pos, h.sum, h.dep⟩
 rw [if_neg k45] at hr
 by_cases k6 : o.k = 6
 ·rw [if_pos k6] at hr
  split at hr
  ·cases hr
  ·rename_i hn
   cases hr
   have hne : ¬ s.names = [] := fun h => hn (.inl h)
   have hl0 : ¬ 0 < lst s.lets 0 := fun h => hn (.inr h)
   rw [e, lst_snoc] at hl0
   have hnl : 0 < s.names.length := List.length_pos_iff.2 hne
   refine ⟨?_, by rw [List.length_take]; have := h.nam; omega, ?_, ?_, h.dep⟩
   ·show (s.lets.take _).length = (s.names.take _).length + 1
    rw [List.length_take, List.length_take]
    have := h.len
    omega
   ·show ∀ y ∈ s.lets.take _, 0 <= y
    rw [e, take_last]
    exact fun y hy => hp y (by simp [hy])
   ·show (s.lets.take _).sum <= s.dep
    rw [e, take_last]
    omega
 rw [if_neg k6] at hr
 by_cases k12 : o.k = 12
 ·rw [if_pos k12] at hr
  split at hr
  ·cases hr
  ·rename_i hn
   cases hr
   have h1 := ha k12
   rw [e, lst_snoc] at hn
   refine ⟨?_, h.nam, ?_, ?_, by show s.dep - o.a <= 64; have := h.dep; omega⟩
   ·show (s.lets.set _ _).length = _
    rw [List.length_set]
    exact h.len
   ·show ∀ y ∈ s.lets.set _ _, 0 <= y
    rw [e, set_last, lst_snoc]
    intro y hy
    rcases List.mem_append.1 hy with hy | hy
    ·exact hp y (by simp [hy])
    ·simp at hy; omega
   ·show (s.lets.set _ _).sum <= s.dep - o.a
    rw [e, set_last, lst_snoc, sum_app]
    simp
    omega
 rw [if_neg k12] at hr
 cases hr
 exact h
end Go.Proofs.YtaiackmmmlhgbaaGreat.BQp
namespace Go.Proofs.YtaiackmmmlhgbaaGreat.BQo
open Go.RowKit BPl YRr YRs BBx BRn BQg BQh BQi BQj BQk BQl BQp
open YPl (Oq Bk Pg)
open BSf (hid)
open BPs (Xl)
open BVf (cell_set)
open CBx (w64)
open TBase (Keep heap_alloc_new)
open TBase (T)
theorem shapeX {w : World} {X L E Q nb p hcap nc cc ns sc bc tc : Nat} {ta ca sa ba : Option Addr} {tn bn : Nat} {pl ft : Int} {s : Lk} {lv nv : Value} {H : List Ar} {m : Nat}
  (h : Lv w X L E (.slice ta tn tc) (.slice ca nc cc) (.slice sa ns sc) (.slice ba bn bc) (.slice (some ⟨Q, 0, none⟩) H.length hcap) (nb : Int) pl ft (p : Int) s lv nv) (hX : X < L) (hL : L <= w.heap.size) (hQ : Q < w.heap.size) (hH : Hq w Q H) (hnb : nb < H.length) (hel : 0 <= H[nb].el /\ H[nb].el <= 64) (hnl : s.names.length <= 64) (hvl : s.lets.length <= 65) {S : Sh} {ops : List Oq}
  {o : Oq} {la : Option Addr} {lc ln : Nat} (hk : ¬ (o.k = 3 \/ o.k = 7 \/ o.k = 4 \/ o.k = 5 \/ o.k = 6 \/ o.k = 12)) :
  Calls prog 99 #[.pointer (some ⟨X, 0, none⟩), .agg #[.int .i64 o.k, .int .i64 o.a, .int .i64 o.b, .int .i64 o.c, .slice la ln lc]] w fun e w' => ShE X L E (.slice ta tn tc) (.slice ca nc cc) (.slice sa ns sc) (.slice ba bn bc) (.slice (some ⟨Q, 0, none⟩) H.length hcap) (nb : Int) pl ft (p : Int) s w (rsh S H[nb].el ops p s o) e w' := by
 obtain ⟨W, hW, bW, sW, xW⟩ := BSm.box5 w (.int .i64 o.k) (.int .i64 o.a) (.int .i64 o.b) (.int .i64 o.c) (.slice la ln lc) 127
 have z0 := cell_of xW 0 _ rfl
 have z1 := cell_of xW 1 _ rfl
 have h1 := h.below bW
 have hH1 : Hq W Q H := (bW.block Q hQ).trans hH
 have cn := hH1.cell hnb (j := 1) (by omega) (v := .int .i64 H[nb].el) rfl
 obtain ⟨na, ncap, hnv, hnc1, hnc2⟩ := own_sh h1.names
 obtain ⟨va, vcap, hlv, hvc1, hvc2⟩ := own_sh h1.lets
 subst hnv hlv
 obtain ⟨c0, c1, c2, c3, c4, c5, c6, c7, c8, c9, c10, c11⟩ := h1.box.cell
 have i0 : (0 : Int) <= (nb : Int) := by omega
 have i1 : (nb : Int) < (H.length : Int) := by omega
 obtain ⟨el, hE⟩ : ∃ x, H[nb].el = x := ⟨_, rfl⟩
 rw [hE] at cn hel ⊢
 have hw1 : IntKind.i64.wrap (el + (s.names.length : Int)) = el + (s.names.length : Int) := by rw [IntKind.wrap_i64]; omega
 have hsW : w.heap.size < W.heap.size := by omega
 have HB0 := hid (xl_below hX hL bW : Xe X L E w W)
 have H1 := hid h1
 have hLW : L <= W.heap.size := by omega
 have HLW := hid hLW
 have e : rsh S el ops p s o = some s := by unfold rsh; rw [if_neg (by omega), if_neg (by omega), if_neg (by omega), if_neg (by omega), if_neg (by omega)]
 rw [e]
 have d3 : (o.k == 3) = false := by simp; omega
 have d7 : (o.k == 7) = false := by simp; omega
 have d4 : (o.k == 4) = false := by simp; omega
 have d5 : (o.k == 5) = false := by simp; omega
 have d6 : (o.k == 6) = false := by simp; omega
 have d12 : (o.k == 12) = false := by simp; omega
 obtain ⟨nn, hnn⟩ : ∃ x, s.names.length = x := ⟨_, rfl⟩
 obtain ⟨la', hla⟩ : ∃ x, IntKind.i64.wrap ((s.names.length : Int) - 1) = x := ⟨_, rfl⟩
 rw [hnn] at H1 c11 hw1 hnc1 hla
 clear hk e hnn hnc1
 clear bW xW sW h1 hH1 h hH hE
 go_enter func99, ntmps99
 go_wp2_with fail
 go_region
 go_wp2_with fail
 go_ret
 exact ⟨rfl, ⟨_, _, H1.out.below (by repeat first | exact Below.refl _ _ | apply IBase.below_drewN | apply Below.drew)⟩, xl_trans HB0.out (xl_below hX HLW.out (by repeat first | exact Below.refl _ _ | apply IBase.below_drewN | apply Below.drew))⟩
theorem shape_c {w : World} {X L E Q nb p hcap nc cc ns sc bc tc : Nat} {ta ca sa ba : Option Addr} {tn bn : Nat} {pl ft : Int} {s : Lk} {lv nv : Value} {H : List Ar} {m : Nat}
  (h : Lv w X L E (.slice ta tn tc) (.slice ca nc cc) (.slice sa ns sc) (.slice ba bn bc) (.slice (some ⟨Q, 0, none⟩) H.length hcap) (nb : Int) pl ft (p : Int) s lv nv) (hX : X < L) (hL : L <= w.heap.size) (hQ : Q < w.heap.size) (hH : Hq w Q H) (hnb : nb < H.length) (hel : 0 <= H[nb].el /\ H[nb].el <= 64) (hI : Inv s)
  {S : Sh} {ops : List Oq} {R : Nat -> Prop} {B : List Bk} {ds : List T} (ht : RrS 1 LyS R w (.slice ta tn tc) S.t) (hs : TBase.InL false R w m (.slice sa ns sc) ds) (hSd : S.d = ds.map fun t => (TMeas.dp [t] : Int)) (hok : ∀ t ∈ ds, TShallow.depL [t] <= 4096) (hB : RrS 3 (LyBs R) R w (.slice ba bn bc) B) (hR : ∀ g, R g -> g < w.heap.size) (hnB : nb < B.length) (hops : B[nb].o = ops) (hp : p < ops.length)
  {o : Oq} {la : Option Addr} {lc ln : Nat} (hf : fits S o = true) (hai : i64 o.a) :
  Calls prog 99 #[.pointer (some ⟨X, 0, none⟩), .agg #[.int .i64 o.k, .int .i64 o.a, .int .i64 o.b, .int .i64 o.c, .slice la ln lc]] w fun e w' => ShE X L E (.slice ta tn tc) (.slice ca nc cc) (.slice sa ns sc) (.slice ba bn bc) (.slice (some ⟨Q, 0, none⟩) H.length hcap) (nb : Int) pl ft (p : Int) s w (rsh S H[nb].el ops p s o) e w' := by
 have hnl : s.names.length <= 64 := by have := hI.nam; omega
 have hvl : s.lets.length <= 65 := by have := hI.len; have := hI.nam; omega
 by_cases k3 : o.k = 3
 ·exact shape3 (m := m) h hX hL hQ hH hnb hel hnl hvl k3
 by_cases k7 : o.k = 7
 ·exact shape7 (m := m) h hX hL hQ hH hnb hel hnl hvl hs hSd hok k7 (by
   unfold fits at hf
   rw [if_neg (by omega), if_neg (by omega), if_neg (by omega), if_neg (by omega), if_neg (by omega), if_neg (by omega), if_neg (by omega), if_pos k7] at hf
   unfold zr at hf
   cases hb : isN o.a S.d.length with
   | true => rfl
   | false => rw [hb] at hf; cases hf)
 by_cases k45 : o.k = 4 \/ o.k = 5
 ·have htg := fits_tg hf k45
  exact shape4 (m := m) h hX hL hQ hH hnb hel hnl hvl ht hB hR hnB hops hp k45 (by
   unfold isTg at htg
   cases hb : isN o.a S.t.length with
   | true => rfl
   | false => rw [hb] at htg; cases htg)
 by_cases k6 : o.k = 6
 ·exact shape6 (m := m) h hX hL hQ hH hnb hel hnl hvl k6 hI.len
 by_cases k12 : o.k = 12
 ·exact shape12 (m := m) h hX hL hQ hH hnb hel hnl hvl k12 hI.ne hI.lst (by
   unfold fits at hf
   rw [if_neg (by omega), if_neg (by omega), if_neg (by omega), if_neg (by omega), if_neg (by omega), if_neg (by omega), if_neg (by omega), if_neg (by omega), if_pos k12] at hf
   unfold zr at hf
   by_cases h1 : 1 <= o.a
   ·exact h1
   ·rw [decide_eq_false h1] at hf; cases hf) hai (by have := hI.dep0; have := hI.dep; omega)
 exact shapeX (m := m) h hX hL hQ hH hnb hel hnl hvl (by omega)
end Go.Proofs.YtaiackmmmlhgbaaGreat.BQo
namespace Go.Proofs.YtaiackmmmlhgbaaGreat.BQq
open Go.RowKit
theorem drew_heap (W : World) : W.drew.heap = W.heap := rfl
theorem three_all {W W9 : World} {B : Nat} {t : TypeId} {y0 y1 y2 x0 x1 x2 : Value} (h : W.heap[B]? = some (.cells #[y0, y1, y2] t (0, 0))) (e : (((W.setCell ⟨B, 0, none⟩ x0).setCell ⟨B, 1, none⟩ x1).setCell ⟨B, 2, none⟩ x2).drew = W9) :
  W9.heap[B]? = some (.cells #[x0, x1, x2] t (0, 0)) /\ (∀ g, g ≠ B -> W9.heap[g]? = W.heap[g]?) /\ W9.heap.size = W.heap.size /\ ∀ K, K <= B -> Below K W W9 := by
 subst e
 refine ⟨?_, fun g hg => ?_, ?_, fun K hK => ?_⟩
 ·rw [drew_heap]
  exact BVf.cell_set (BVf.cell_set (BVf.cell_set h 0 x0) 1 x1) 2 x2
 ·rw [drew_heap]
  rw [Below.heap_setCell _ _ _ _ (by exact hg), Below.heap_setCell _ _ _ _ (by exact hg), Below.heap_setCell _ _ _ _ (by exact hg)]
 ·rw [drew_heap]
  simp [World.setCell]
 ·exact ((((Below.refl K W).setCell (p := ⟨B, 0, none⟩) hK x0).setCell (p := ⟨B, 1, none⟩) hK x1).setCell (p := ⟨B, 2, none⟩) hK x2).drew
theorem five_all {W W9 : World} {B : Nat} {t : TypeId} {y0 y1 y2 y3 y4 x0 x1 x2 x3 x4 : Value} (h : W.heap[B]? = some (.cells #[y0, y1, y2, y3, y4] t (0, 0))) (e : (((((W.setCell ⟨B, 0, none⟩ x0).setCell ⟨B, 1, none⟩ x1).setCell ⟨B, 2, none⟩ x2).setCell ⟨B, 3, none⟩ x3).setCell ⟨B, 4, none⟩ x4).drew = W9) :
  W9.heap[B]? = some (.cells #[x0, x1, x2, x3, x4] t (0, 0)) /\ (∀ g, g ≠ B -> W9.heap[g]? = W.heap[g]?) /\ W9.heap.size = W.heap.size /\ ∀ K, K <= B -> Below K W W9 := by
 subst e
 refine ⟨?_, fun g hg => ?_, ?_, fun K hK => ?_⟩
 ·rw [drew_heap]
  exact BVf.cell_set (BVf.cell_set (BVf.cell_set (BVf.cell_set (BVf.cell_set h 0 x0) 1 x1) 2 x2) 3 x3) 4 x4
 ·rw [drew_heap]
  rw [Below.heap_setCell _ _ _ _ (by exact hg), Below.heap_setCell _ _ _ _ (by exact hg), Below.heap_setCell _ _ _ _ (by exact hg), Below.heap_setCell _ _ _ _ (by exact hg), Below.heap_setCell _ _ _ _ (by exact hg)]
 ·rw [drew_heap]
  simp [World.setCell]
 ·exact ((((((Below.refl K W).setCell (p := ⟨B, 0, none⟩) hK x0).setCell (p := ⟨B, 1, none⟩) hK x1).setCell (p := ⟨B, 2, none⟩) hK x2).setCell (p := ⟨B, 3, none⟩) hK x3).setCell (p := ⟨B, 4, none⟩) hK x4).drew
end Go.Proofs.YtaiackmmmlhgbaaGreat.BQq
namespace Go.Proofs.YtaiackmmmlhgbaaGreat.BQv
open BPl BRn BRo BRp BRg BRh BQp
open YPl (Oq Bk Pg)
def pv (u : List Int) (q : Nat) : Option Int := if q = 0 then none else some (u.getD (q - 1) 0)
def ub (n : Nat) (u : List Int) (q : Nat) : Bool := !isN (u.getD q 0) n || (decide (0 < q) && decide (u.getD q 0 <= u.getD (q - 1) 0))
def Us (n : Nat) (u : List Int) (f5 p5 : Int) (q : Nat) (fr pr : Int) : Prop :=
 (f5 ≠ 0 /\ fr = f5 /\ pr = p5) \/ (f5 = 0 /\ fr = 0 /\ pr = p5 /\ rup n none 0 u = rup n (pv u q) q (u.drop q)) \/ (f5 = 0 /\ fr ≠ 0 /\ rup n none 0 u = (pr, fr))
section
variable {n : Nat} {u : List Int} {f5 p5 fr pr : Int} {q : Nat}
theorem us_0 : Us n u f5 p5 0 f5 p5 := by
 by_cases h : f5 = 0
 ·exact .inr (.inl ⟨h, h, rfl, by rw [List.drop_zero]; rfl⟩)
 ·exact .inl ⟨h, rfl, rfl⟩
theorem isN_iff (i : Int) (n : Nat) : isN i n = true ↔ 0 <= i /\ i < (n : Int) := by
 unfold isN
 by_cases h : 0 <= i
 ·simp [h]
 ·simp [h]
theorem ub_iff (hq : q < u.length) : ub n u q = true ↔ (u[q] < 0 \/ (n : Int) <= u[q] \/ ∃ y, pv u q = some y /\ u[q] <= y) := by
 have e : u.getD q 0 = u[q] := by rw [List.getD_eq_getElem?_getD, List.getElem?_eq_getElem hq]; rfl
 unfold ub pv
 rw [e, Bool.or_eq_true, Bool.and_eq_true, decide_eq_true_iff, decide_eq_true_iff, Bool.not_eq_true', <- Bool.not_eq_true, isN_iff]
 by_cases h0 : q = 0
 ·rw [if_pos h0]
  constructor
  ·rintro (h | ⟨h, -⟩)
   ·omega
   ·omega
  ·rintro (h | h | ⟨y, h, -⟩)
   ·exact .inl (by omega)
   ·exact .inl (by omega)
   ·cases h
 ·rw [if_neg h0]
  constructor
  ·rintro (h | ⟨-, h⟩)
   ·omega
   ·exact .inr (.inr ⟨_, rfl, h⟩)
  ·rintro (h | h | ⟨y, h, h2⟩)
   ·exact .inl (by omega)
   ·exact .inl (by omega)
   ·cases h
    exact .inr ⟨by omega, h2⟩
theorem us_step (hq : q < u.length) (h : Us n u f5 p5 q fr pr) : Us n u f5 p5 (q + 1) (if ub n u q = true then (if fr = 0 then 2207 else fr) else fr) (if ub n u q = true then (if fr = 0 then (q : Int) else pr) else pr) := by
 have hpv : pv u (q + 1) = some u[q] := by
  unfold pv
  rw [if_neg (by omega), Nat.add_sub_cancel, List.getD_eq_getElem?_getD, List.getElem?_eq_getElem hq]
  rfl
 rcases h with ⟨h1, h2, h3⟩ | ⟨h1, h2, h3, h4⟩ | ⟨h1, h2, h3⟩
 ·left
  subst h2
  rw [if_neg h1, if_neg h1, ite_self, ite_self]
  exact ⟨h1, rfl, h3⟩
 ·rw [List.drop_eq_getElem_cons hq, rup] at h4
  by_cases hb : ub n u q = true
  ·rw [if_pos ((ub_iff hq).1 hb)] at h4
   rw [if_pos hb, if_pos hb, if_pos h2, if_pos h2]
   exact .inr (.inr ⟨h1, by omega, h4⟩)
  ·rw [if_neg (fun e => hb ((ub_iff hq).2 e))] at h4
   rw [if_neg hb, if_neg hb]
   exact .inr (.inl ⟨h1, h2, h3, by rw [hpv]; exact h4⟩)
 ·right; right
  rw [if_neg h2, if_neg h2, ite_self, ite_self]
  exact ⟨h1, h2, h3⟩
theorem us_end (h : Us n u f5 p5 u.length fr pr) : (f5 ≠ 0 /\ fr = f5 /\ pr = p5) \/ (f5 = 0 /\ fr = 0 /\ (rup n none 0 u).2 = 0) \/ (f5 = 0 /\ fr ≠ 0 /\ rup n none 0 u = (pr, fr)) := by
 rcases h with h | ⟨h1, h2, h3, h4⟩ | h
 ·exact .inl h
 ·exact .inr (.inl ⟨h1, h2, by rw [h4, List.drop_length, rup]⟩)
 ·exact .inr (.inr h)
end
theorem rone_end {S : Sh} {nb : Nat} {k : Bk} {H H' : List Ar} {A : Ar} {s : Lk} {n nn p : Nat} {y : Int} {OW LP DN T1 T2 G : Bool} {pl p1 f1 p2 f2 pq fq p4 f4 p5 f5 pr fr : Int}
  (hA : H.getD nb ar0 = A) (how : A.ow = OW) (hlp : A.lp = LP) (hdn : (k.d != A.st) = DN)
  (hp1 : (if OW = false then 0 else pl) = p1) (hf1 : (if OW = false then 2205 else 0) = f1) (hp2 : (if DN = true then (if f1 = 0 then 0 else p1) else p1) = p2) (hf2 : (if DN = true then (if f1 = 0 then 2208 else f1) else f1) = f2)
  (hn : k.o.length = n)
  (hst : (fq = 0 /\ f2 = 0 /\ pq = p2 /\ Inv s /\ H'.length = H.length /\ H'[nb]? = some A /\ rgo S nb k.o A 0 k.o ⟨A.st, [0], []⟩ H = rgo S nb k.o A p (k.o.drop p) s H') \/ (fq ≠ 0 /\ f2 ≠ 0 /\ fq = f2 /\ pq = p2) \/ (fq ≠ 0 /\ f2 = 0 /\ rgo S nb k.o A 0 k.o ⟨A.st, [0], []⟩ H = .error (pq, fq)))
  (hpn : fq = 0 -> p = n) (hT1 : (decide (0 < nn) || decide (0 < y)) = T1) (hnn : s.names.length = nn) (hy : s.lets.getD 0 0 = y)
  (hp4 : (if T1 = true then (if fq = 0 then (n : Int) else pq) else pq) = p4) (hf4 : (if T1 = true then (if fq = 0 then 2204 else fq) else fq) = f4)
  (hT2 : (LP && !G) = T2) (hG : sgl k.o = G)
  (hp5 : (if T2 = true then (if f4 = 0 then 0 else p4) else p4) = p5) (hf5 : (if T2 = true then (if f4 = 0 then 2206 else f4) else f4) = f5)
  {un : Nat} (hun : k.u.length = un) (hu : Us n k.u f5 p5 un fr pr) :
  (fr ≠ 0 -> rone S nb k H = .error (pr, fr)) /\ (fr = 0 -> rone S nb k H = .ok H') := by
 subst hun
 rw [<- hn] at hu
 have hu := us_end hu
 -- a fault that stands is kept
 have keep : fq ≠ 0 -> fr = fq /\ pr = pq := fun h => by
  have e4 : f4 = fq := by rw [<- hf4, if_neg h, ite_self]
  have e4' : p4 = pq := by rw [<- hp4, if_neg h, ite_self]
  have e5 : f5 = fq := by rw [<- hf5, e4, if_neg h, ite_self]
  have e5' : p5 = pq := by rw [<- hp5, e4, if_neg h, ite_self, e4']
  rcases hu with ⟨-, h2, h3⟩ | ⟨h1, -⟩ | ⟨h1, -⟩
  ·exact ⟨h2.trans e5, h3.trans e5'⟩
  ·exact (h (by rw [<- e5]; exact h1)).elim
  ·exact (h (by rw [<- e5]; exact h1)).elim
 have gate : f2 = 0 -> A.ow = true /\ k.d = A.st := fun h0 => by
  have hd : DN = false := by
   cases DN with
   | false => rfl
   | true =>
    rw [if_pos rfl] at hf2
    by_cases h1 : f1 = 0
    ·rw [if_pos h1] at hf2; omega
    ·rw [if_neg h1] at hf2; omega
  rw [hd, if_neg (by simp)] at hf2
  have ho : OW = true := by
   cases OW with
   | true => rfl
   | false => rw [if_pos rfl] at hf1; omega
  exact ⟨how.trans ho, by rw [hd] at hdn; simpa using hdn⟩
 rcases hst with ⟨h1, h2, h3, h4, h5, h6, h7⟩ | ⟨h1, h2, h3, h4⟩ | ⟨h1, h2, h3⟩
 ·obtain ⟨g1, g2⟩ := gate h2
  have hpn := hpn h1
  have h7 : rgo S nb k.o A 0 k.o ⟨A.st, [0], []⟩ H = .ok (s, H') := by
   rw [h7, List.drop_of_length_le (by omega), rgo]
  have hr : rone S nb k H = if s.names ≠ [] \/ 0 < s.lets.getD 0 0 then .error ((k.o.length : Int), 2204) else if A.lp = true /\ sgl k.o = false then .error (0, 2206) else if (rup k.o.length none 0 k.u).2 ≠ 0 then .error (rup k.o.length none 0 k.u) else .ok H' := by
   unfold rone
   rw [hA, if_neg (by rw [g1]; simp), if_neg (by simp [g2]), h7]
  have ht1 : (s.names ≠ [] \/ 0 < s.lets.getD 0 0) ↔ T1 = true := by
   rw [<- hT1, Bool.or_eq_true, decide_eq_true_iff, decide_eq_true_iff, hy, <- hnn]
   constructor
   ·rintro (h | h)
    ·exact .inl (List.length_pos_iff.2 h)
    ·exact .inr h
   ·rintro (h | h)
    ·exact .inl (List.length_pos_iff.1 h)
    ·exact .inr h
  have ht2 : (A.lp = true /\ sgl k.o = false) ↔ T2 = true := by
   rw [<- hT2, Bool.and_eq_true, hlp, hG]
   simp
  rw [hr]
  cases T1 with
  | true =>
   rw [if_pos (ht1.2 rfl)]
   rw [if_pos rfl, if_pos h1] at hp4 hf4
   have e5 : f5 = 2204 := by rw [<- hf5, <- hf4]; simp
   have e5' : p5 = n := by rw [<- hp5, <- hf4, <- hp4]; split <;> simp
   rcases hu with ⟨-, k2, k3⟩ | ⟨k1, -⟩ | ⟨k1, -⟩
   ·exact ⟨fun _ => by rw [k2, k3, e5, e5', hn], fun e => by omega⟩
   ·omega
   ·omega
  | false =>
   rw [if_neg (fun e => by cases ht1.1 e)]
   rw [if_neg (by simp)] at hp4 hf4
   cases T2 with
   | true =>
    rw [if_pos (ht2.2 rfl)]
    rw [if_pos rfl, if_pos (by omega)] at hp5 hf5
    rcases hu with ⟨-, k2, k3⟩ | ⟨k1, -⟩ | ⟨k1, -⟩
    ·exact ⟨fun _ => by rw [k2, k3, <- hf5, <- hp5], fun e => by omega⟩
    ·omega
    ·omega
   | false =>
    rw [if_neg (fun e => by cases ht2.1 e)]
    rw [if_neg (by simp)] at hp5 hf5
    have e5 : f5 = 0 := by omega
    rcases hu with ⟨k1, -⟩ | ⟨k1, k2, k3⟩ | ⟨k1, k2, k3⟩
    ·exact (k1 e5).elim
    ·exact ⟨fun e => (e k2).elim, fun _ => by rw [if_neg (by simp [k3])]⟩
    ·exact ⟨fun _ => by rw [k3, if_pos k2], fun e => (k2 e).elim⟩
 ·obtain ⟨e1, e2⟩ := keep h1
  refine ⟨fun _ => ?_, fun e => (h1 (by rw [<- e1]; exact e)).elim⟩
  rw [e1, e2, h3, h4]
  unfold rone
  rw [hA]
  cases OW with
  | false =>
   rw [if_pos rfl] at hp1 hf1
   have e3 : f2 = 2205 := by rw [<- hf2, <- hf1]; simp
   have e4 : p2 = 0 := by rw [<- hp2, <- hf1, <- hp1]; simp
   rw [if_pos how, e3, e4]
  | true =>
   rw [if_neg (by simp)] at hp1 hf1
   cases DN with
   | false => rw [if_neg (by simp)] at hf2; omega
   | true =>
    rw [if_pos rfl, if_pos hf1.symm] at hp2 hf2
    rw [if_neg (by rw [how]; simp), if_pos (by simpa using hdn), <- hf2, <- hp2]
 ·obtain ⟨e1, e2⟩ := keep h1
  refine ⟨fun _ => ?_, fun e => (h1 (by rw [<- e1]; exact e)).elim⟩
  obtain ⟨g1, g2⟩ := gate h2
  unfold rone
  rw [hA, if_neg (by rw [g1]; simp), if_neg (by simp [g2]), h3, e1, e2]
end Go.Proofs.YtaiackmmmlhgbaaGreat.BQv
