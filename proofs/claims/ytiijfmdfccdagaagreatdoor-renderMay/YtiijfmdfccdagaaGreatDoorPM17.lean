import Derived.BigQuiet
import Derived.Deep.CutBlock
import Derived.Deep.CutRange
import Derived.Deep.RegionHeld3
import Derived.Test.YtiijfmdfccdagaaGreatDoorPM04
import Derived.Test.YtiijfmdfccdagaaGreatDoorPM14
import Derived.Test.YtiijfmdfccdagaaGreatDoorPM16
open Go.Proofs.Tryz
set_option linter.unusedVariables false
set_option maxRecDepth 20000
set_option maxHeartbeats 6400000
namespace Go.Proofs.YtiijfmdfccdagaaGreatDoor.GVa
open Go.RowKit Base EPure JPure VJn VRs JVa JRv GPl
open VPure hiding evL
structure Rk (K m n : Nat) (w : World) (Pv : Value) (L : List C) (v : Value) (x : Ex) : Prop where
 ex : XBase.In false (fun b => b < K) w n v x
 low : K <= w.heap.size
 wfs : ∀ (j : Int) c, rh L j = some c -> wf c
 gd : gd x
 ok : ops okOp x
 tb : Tb w
 sk : Sk K (m + 1) w Pv L
theorem Rk.below {K m n : Nat} {w w' : World} {Pv : Value} {L : List C} {v : Value} {x : Ex} (h : Rk K m n w Pv L v x) (hb : Below w.heap.size w w') : Rk K m n w' Pv L v x :=
 ⟨h.ex.below hb, Nat.le_trans h.low hb.size, h.wfs, h.gd, h.ok, h.tb.below hb, h.sk.below hb⟩
theorem value_c {K m n : Nat} {w : World} {Pv : Value} {L : List C} {v : Value} {x : Ex} (h : Rk K m n w Pv L v x) :
  Calls prog 134 #[Pv, v] w fun e w' => VR K (m + 1) w (ev (rh L) x) e w' := by
 have hmf : ∀ (fn : Fn) (first cap : Array Value) (w : World), (Instr.makeFunc fn first cap).run prog w = .ok (.func fn first cap) w := fun _ _ _ _ => rfl
 have hne := JEr.ev0 (ρ := rh L) h.gd
 obtain ⟨n', lv, rfl, rfl, -⟩ := h.ex.shape
 obtain ⟨W0, hW0⟩ : ∃ W0, (w.alloc (.cells #[.int .i64 x.o, .int .i64 x.i, .string x.s, lv] 47)).alloc (.cells #[.int .i64 0, .bool false, .int .i64 0, .string ⟨#[]⟩, .slice none 0 0, .slice none 0 0] 26) = W0 := ⟨_, rfl⟩
 have hb0 : Below w.heap.size w W0 := by rw [<- hW0]; exact ((Below.refl _ w).alloc (Nat.le_refl _) _).alloc (by simp) _
 have hs0 : W0.heap.size = w.heap.size + 2 := by rw [<- hW0]; simp
 have hx0 : W0.heap[w.heap.size]? = some (.cells #[.int .i64 x.o, .int .i64 x.i, .string x.s, lv] 47 (0, 0)) := by rw [<- hW0, Below.heap_alloc _ _ _ (by simp), heap_alloc_new]
 have hx1 : W0.heap[w.heap.size + 1]? = some (.cells #[.int .i64 0, .bool false, .int .i64 0, .string ⟨#[]⟩, .slice none 0 0, .slice none 0 0] 26 (0, 0)) := by
  have := heap_alloc_new (w.alloc (.cells #[.int .i64 x.o, .int .i64 x.i, .string x.s, lv] 47)) (.cells #[.int .i64 0, .bool false, .int .i64 0, .string ⟨#[]⟩, .slice none 0 0, .slice none 0 0] 26)
  rwa [hW0, World.size_alloc] at this
 have h0 := h.below hb0
 have cR := reckon_c (m := m) h0.ex h0.low h0.wfs h0.gd h0.ok h0.tb (at_c h0.sk h0.low)
 obtain ⟨x0, x1, x2, x3⟩ := XBase.four_box hx0
 have HB0 := hid hb0
 have HX1 := hid hx1
 have hlow := h.low
 obtain ⟨ps, pc, rfl, -⟩ := h.sk
 generalize ev (rh L) x = U at *
 clear h h0 hx0 hx1 hb0
 go_enter func134, ntmps134
 go_wp2_with fail
 try rw [hW0]
 refine cR.mono ?_
 rintro e W1 ⟨b1, hA⟩
 have hs1 := b1.size
 have HB1 := hid (nx HB0.out b1)
 have HX1' := hid ((b1.block _ (by omega)).trans HX1.out)
 clear cR b1 HX1 HB0 x0 x1 x2 x3 hW0
 cases U with
 | error q =>
  obtain rfl := hA
  have hq : ((q : Int) != 0) = true := by
   simp only [bne_iff_ne]
   intro hq
   have : q = 0 := by omega
   subst this
   exact hne rfl
  obtain ⟨W2, hW2⟩ : ∃ W2, W1.alloc (.cells #[.int .i64 0, .bool false, .int .i64 0, .string ⟨#[]⟩, .slice none 0 0, .slice none 0 0] 26) = W2 := ⟨_, rfl⟩
  have HB2 : Hid (Below w.heap.size w W2) := by rw [<- hW2]; exact HB1.out.alloc HB1.out.size _
  have HW2 := hid hW2
  clear hne hW2
  go_wp2_with fail
  try rw [HW2.out]
  exact ⟨rfl, HB2.out, rfl⟩
 | ok c =>
  obtain ⟨u, rfl, hin⟩ := hA
  obtain ⟨an, ln, cn, al, ll, cl, rfl⟩ := in_shape hin
  obtain ⟨W2, hW2⟩ : ∃ W2, W1.alloc (.cells #[.int .i64 c.k, .bool c.b, .int .i64 c.i, .string c.s, .slice an ln cn, .slice al ll cl] 26) = W2 := ⟨_, rfl⟩
  have b2 := alB hW2
  have hx2 := alG hW2
  have hx1 : W2.heap[w.heap.size + 1]? = some (.cells #[.int .i64 0, .bool false, .int .i64 0, .string ⟨#[]⟩, .slice none 0 0, .slice none 0 0] 26 (0, 0)) := (b2.block _ (by omega)).trans HX1'.out
  obtain ⟨n0, n1, n2, n3, n4, n5⟩ := six_box hx2
  obtain ⟨r0, r1, r2, r3, r4, r5⟩ := six_box hx1
  obtain ⟨rf0, rf1, rf2, rf3, rf4, rf5⟩ := Base.frz6 hx1
  obtain ⟨W9, hW9⟩ := stc6 W2 (w.heap.size + 1) (.int .i64 c.k) (.bool c.b) (.int .i64 c.i) (.string c.s) (.slice an ln cn) (.slice al ll cl)
  obtain ⟨q1, q2, q3, q4⟩ := set6 _ _ _ _ _ _ hx1 hW9
  have HB9 := hid (q4 _ _ (by omega) (nx HB1.out b2))
  have HI9 := hid ((hin.below b2).keep (fun b hb hb2 => q2 b (by omega)))
  have HQ1 := hid q1
  clear q1 q2 q3 q4 hin b2 hx1 hx2 hne
  go_wp2_with fail
  try rw [hW9]
  refine bodyPost_ret (results_cell_row rfl _ W9 (w.heap.size + 1) 26 _ (0, 0) _ rfl HQ1.out underlying26 rfl (by kernel_rfl)) rfl ?_
  exact ⟨HB9.out, _, rfl, HI9.out⟩
end Go.Proofs.YtiijfmdfccdagaaGreatDoor.GVa
namespace Go.Proofs.YtiijfmdfccdagaaGreatDoor.GTr
open Go.RowKit Base EPure JPure VSm VRs GPl GVa
open VPure hiding evL
def isL (c : C) : Except Nat (List C) := if c.k = 5 then .ok c.l else .error 1101
def isK (c : C) : Except Nat (Int × Int × ByteArray) := if TextKey.ke c = 0 then .ok (TextKey.kk c, TextKey.ki c, TextKey.ks c) else .error 1101
def LR (K m : Nat) (w : World) (a : Except Nat (List C)) (e : Ending) (w' : World) : Prop := Below w.heap.size w w' /\ match a with
 | .ok l => ∃ v, e = .returned v /\ Base.InL false (fun b => b < K) w' m v l
 | .error n => e = .panicked (pkE n)
theorem isT_ok {c : C} (h : c.k = 2) : bnd (.ok c) isT = .ok c.b := by show isT c = _; unfold isT; rw [if_pos h]
theorem isT_no {c : C} (h : c.k ≠ 2) : bnd (.ok c) isT = .error 1101 := by show isT c = _; unfold isT; rw [if_neg h]
theorem isL_ok {c : C} (h : c.k = 5) : bnd (.ok c) isL = .ok c.l := by show isL c = _; unfold isL; rw [if_pos h]
theorem isL_no {c : C} (h : c.k ≠ 5) : bnd (.ok c) isL = .error 1101 := by show isL c = _; unfold isL; rw [if_neg h]
theorem three_b {w : World} {B : Nat} {v0 v1 v2 : Value} {t : TypeId} (h : w.heap[B]? = some (.cells #[v0, v1, v2] t (0, 0))) : w.cell? ⟨B, 0, none⟩ = some v0 /\ w.cell? ⟨B, 1, none⟩ = some v1 /\ w.cell? ⟨B, 2, none⟩ = some v2 := by
 refine ⟨?_, ?_, ?_⟩ <;> simp [World.cell?, h]
theorem heap_set (w : World) (B j : Nat) (cs : Array Value) (t : TypeId) (v : Value) (h : w.heap[B]? = some (.cells cs t (0, 0))) : (w.setCell ⟨B, j, none⟩ v).heap[B]? = some (.cells (cs.setIfInBounds j v) t (0, 0)) := by
 simp [World.setCell, Array.getElem?_modify, h]
theorem set3 {W W9 : World} {R : Nat} {z0 z1 z2 a b c : Value} {t : TypeId} (h : W.heap[R]? = some (.cells #[z0, z1, z2] t (0, 0))) (e : ((W.setCell ⟨R, 0, none⟩ a).setCell ⟨R, 1, none⟩ b).setCell ⟨R, 2, none⟩ c = W9) :
  W9.heap[R]? = some (.cells #[a, b, c] t (0, 0)) /\ ∀ B, B <= R -> Below B W W9 := by
 subst e
 exact ⟨heap_set _ _ _ _ _ _ (heap_set _ _ _ _ _ _ (heap_set _ _ _ _ _ _ h)), fun B hB => ((((Below.refl B W).setCell (p := ⟨R, 0, none⟩) hB a).setCell (p := ⟨R, 1, none⟩) hB b).setCell (p := ⟨R, 2, none⟩) hB c)⟩
theorem truth_c {K m n : Nat} {w : World} {Pv : Value} {L : List C} {v : Value} {x : Ex} (h : Rk K m n w Pv L v x) :
  Calls prog 139 #[Pv, v] w fun e w' => An w w' e Value.bool (bnd (ev (rh L) x) isT) := by
 obtain ⟨n', lv, rfl, rfl, -⟩ := h.ex.shape
 obtain ⟨W0, hW0⟩ : ∃ W0, w.alloc (.cells #[.int .i64 x.o, .int .i64 x.i, .string x.s, lv] 47) = W0 := ⟨_, rfl⟩
 have hb0 := alB hW0
 have hs0 : W0.heap.size = w.heap.size + 1 := by rw [<- hW0]; simp
 have hx0 := alG hW0
 have cV := value_c (h.below hb0)
 obtain ⟨x0, x1, x2, x3⟩ := XBase.four_box hx0
 have HB0 := hid hb0
 obtain ⟨ps, pc, rfl, -⟩ := h.sk
 obtain ⟨A, hA0⟩ : ∃ A, bnd (ev (rh L) x) isT = A := ⟨_, rfl⟩
 rw [hA0]
 generalize ev (rh L) x = U at *
 have HA := hid hA0
 clear h hx0 hb0 hA0
 go_enter func139, ntmps139
 go_wp2_with fail
 try rw [hW0]
 refine cV.mono ?_
 rintro e W1 ⟨b1, hA⟩
 have HB1 := hid (nx HB0.out b1)
 have hs1 := b1.size
 clear cV b1 HB0 x0 x1 x2 x3 hW0
 cases U with
 | error q =>
  obtain rfl := hA
  have hA := HA.out
  subst hA
  exact ⟨rfl, rfl, HB1.out⟩
 | ok c =>
  obtain ⟨u, rfl, hin⟩ := hA
  obtain ⟨an, ln, cn, al, ll, cl, rfl⟩ := in_shape hin
  obtain ⟨W2, hW2⟩ : ∃ W2, W1.alloc (.cells #[.int .i64 c.k, .bool c.b, .int .i64 c.i, .string c.s, .slice an ln cn, .slice al ll cl] 26) = W2 := ⟨_, rfl⟩
  have b2 := alB hW2
  have hx2 := alG hW2
  have hs2 : W2.heap.size = W1.heap.size + 1 := by rw [<- hW2]; simp
  obtain ⟨n0, n1, n2, n3, n4, n5⟩ := six_box hx2
  have HX2 := hid hx2
  have HB2 := hid (nx HB1.out b2)
  have HI2 := hid (hin.below b2)
  have HW2 := hid hW2
  clear hin b2 hx2 hW2
  by_cases hk : c.k = 2
  ·have ek : (c.k == 2) = true := by simp [hk]
   have HK := hid hk
   have c1 := GPl.must_t W2
   have hA := HA.out
   rw [isT_ok HK.out] at hA
   subst hA
   clear hk
   go_wp2_with fail
   try rw [HW2.out]
   refine c1.mono ?_
   rintro e W3 ⟨⟨v2, rfl⟩, h3⟩
   obtain rfl := h3.symm
   go_wp2_with fail
   go_ret
   exact ⟨rfl, HB2.out⟩
  ·have ek : (c.k == 2) = false := by simp [hk]
   have HK := hid hk
   have c1 := GPl.must_f W2
   have hA := HA.out
   rw [isT_no HK.out] at hA
   subst hA
   clear hk
   go_wp2_with fail
   try rw [HW2.out]
   refine c1.mono ?_
   rintro e W3 ⟨rfl, h3⟩
   obtain rfl := h3.symm
   exact ⟨rfl, rfl, HB2.out⟩
theorem list_c {K m n : Nat} {w : World} {Pv : Value} {L : List C} {v : Value} {x : Ex} (h : Rk K m n w Pv L v x) :
  Calls prog 140 #[Pv, v] w fun e w' => LR K m w (bnd (ev (rh L) x) isL) e w' := by
 obtain ⟨n', lv, rfl, rfl, -⟩ := h.ex.shape
 obtain ⟨W0, hW0⟩ : ∃ W0, w.alloc (.cells #[.int .i64 x.o, .int .i64 x.i, .string x.s, lv] 47) = W0 := ⟨_, rfl⟩
 have hb0 := alB hW0
 have hs0 : W0.heap.size = w.heap.size + 1 := by rw [<- hW0]; simp
 have hx0 := alG hW0
 have cV := value_c (h.below hb0)
 obtain ⟨x0, x1, x2, x3⟩ := XBase.four_box hx0
 have HB0 := hid hb0
 obtain ⟨ps, pc, rfl, -⟩ := h.sk
 obtain ⟨A, hA0⟩ : ∃ A, bnd (ev (rh L) x) isL = A := ⟨_, rfl⟩
 rw [hA0]
 generalize ev (rh L) x = U at *
 have HA := hid hA0
 clear h hx0 hb0 hA0
 go_enter func140, ntmps140
 go_wp2_with fail
 try rw [hW0]
 refine cV.mono ?_
 rintro e W1 ⟨b1, hA⟩
 have HB1 := hid (nx HB0.out b1)
 have hs1 := b1.size
 clear cV b1 HB0 x0 x1 x2 x3 hW0
 cases U with
 | error q =>
  obtain rfl := hA
  have hA := HA.out
  subst hA
  exact ⟨rfl, HB1.out, rfl⟩
 | ok c =>
  obtain ⟨u, rfl, hin⟩ := hA
  obtain ⟨an, ln, cn, al, ll, cl, rfl⟩ := in_shape hin
  obtain ⟨W2, hW2⟩ : ∃ W2, W1.alloc (.cells #[.int .i64 c.k, .bool c.b, .int .i64 c.i, .string c.s, .slice an ln cn, .slice al ll cl] 26) = W2 := ⟨_, rfl⟩
  have b2 := alB hW2
  have hx2 := alG hW2
  have hs2 : W2.heap.size = W1.heap.size + 1 := by rw [<- hW2]; simp
  obtain ⟨n0, n1, n2, n3, n4, n5⟩ := six_box hx2
  have HX2 := hid hx2
  have HB2 := hid (nx HB1.out b2)
  have HI2 := hid (hin.below b2)
  have HW2 := hid hW2
  clear hin b2 hx2 hW2
  by_cases hk : c.k = 5
  ·have ek : (c.k == 5) = true := by simp [hk]
   have HK := hid hk
   have c1 := GPl.must_t W2
   have hA := HA.out
   rw [isL_ok HK.out] at hA
   subst hA
   clear hk
   go_wp2_with fail
   try rw [HW2.out]
   refine c1.mono ?_
   rintro e W3 ⟨⟨v2, rfl⟩, h3⟩
   obtain rfl := h3.symm
   go_wp2_with fail
   go_ret
   obtain ⟨m', nv, lv', hm, E, -, -, -, -, hl⟩ := HI2.out.shape
   simp only [Value.agg.injEq, Array.mk.injEq, List.cons.injEq, and_true] at E
   obtain ⟨-, -, -, -, -, rfl⟩ := E
   obtain rfl : m = m' := by omega
   exact ⟨HB2.out, _, rfl, hl⟩
  ·have ek : (c.k == 5) = false := by simp [hk]
   have HK := hid hk
   have c1 := GPl.must_f W2
   have hA := HA.out
   rw [isL_no HK.out] at hA
   subst hA
   clear hk
   go_wp2_with fail
   try rw [HW2.out]
   refine c1.mono ?_
   rintro e W3 ⟨rfl, h3⟩
   obtain rfl := h3.symm
   exact ⟨rfl, HB2.out, rfl⟩
theorem key_c {K m n : Nat} {w : World} {Pv : Value} {L : List C} {v : Value} {x : Ex} (h : Rk K m n w Pv L v x) :
  Calls prog 172 #[Pv, v] w fun e w' => An w w' e (fun k : Int × Int × ByteArray => .agg #[.int .i64 k.1, .int .i64 k.2.1, .string k.2.2]) (bnd (ev (rh L) x) isK) := by
 obtain ⟨n', lv, rfl, rfl, -⟩ := h.ex.shape
 obtain ⟨W0, hW0⟩ : ∃ W0, (w.alloc (.cells #[.int .i64 x.o, .int .i64 x.i, .string x.s, lv] 47)).alloc (.cells #[.int .i64 0, .int .i64 0, .string ⟨#[]⟩] 215) = W0 := ⟨_, rfl⟩
 have hb0 : Below w.heap.size w W0 := by rw [<- hW0]; exact ((Below.refl _ w).alloc (Nat.le_refl _) _).alloc (by simp) _
 have hs0 : W0.heap.size = w.heap.size + 2 := by rw [<- hW0]; simp
 have hx0 : W0.heap[w.heap.size]? = some (.cells #[.int .i64 x.o, .int .i64 x.i, .string x.s, lv] 47 (0, 0)) := by rw [<- hW0, Below.heap_alloc _ _ _ (by simp), heap_alloc_new]
 have hx1 : W0.heap[w.heap.size + 1]? = some (.cells #[.int .i64 0, .int .i64 0, .string ⟨#[]⟩] 215 (0, 0)) := by
  have := heap_alloc_new (w.alloc (.cells #[.int .i64 x.o, .int .i64 x.i, .string x.s, lv] 47)) (.cells #[.int .i64 0, .int .i64 0, .string ⟨#[]⟩] 215)
  rwa [hW0, World.size_alloc] at this
 have cV := value_c (h.below hb0)
 obtain ⟨x0, x1, x2, x3⟩ := XBase.four_box hx0
 have HB0 := hid hb0
 have HX1 := hid hx1
 obtain ⟨ps, pc, rfl, -⟩ := h.sk
 obtain ⟨A, hA0⟩ : ∃ A, bnd (ev (rh L) x) isK = A := ⟨_, rfl⟩
 rw [hA0]
 generalize ev (rh L) x = U at *
 have HA := hid hA0
 clear h hx0 hb0 hx1 hA0
 go_enter func172, ntmps172
 go_wp2_with fail
 try rw [hW0]
 refine cV.mono ?_
 rintro e W1 ⟨b1, hA⟩
 have HB1 : Hid (Below w.heap.size w W1) := nx HB0.out b1
 have hs1 := b1.size
 have HX1' : Hid (W1.heap[w.heap.size + 1]? = some (.cells #[.int .i64 0, .int .i64 0, .string ⟨#[]⟩] 215 (0, 0))) := (b1.block _ (by omega)).trans HX1.out
 clear cV b1 HB0 HX1 x0 x1 x2 x3 hW0
 cases U with
 | error q =>
  obtain rfl := hA
  have hA := HA.out
  subst hA
  exact ⟨rfl, rfl, HB1.out⟩
 | ok c =>
  obtain ⟨u, rfl, hin⟩ := hA
  have cK := TextKey.key_c hin.plain
  have HE : Hid ((if TextKey.ke c = 0 then .ok (TextKey.kk c, TextKey.ki c, TextKey.ks c) else .error 1101) = A) := HA.out
  clear HA
  generalize TextKey.ke c = ke at *
  generalize TextKey.kk c = kk at *
  generalize TextKey.ki c = ki at *
  generalize TextKey.ks c = ks at *
  go_wp2_with fail
  refine cK.mono ?_
  rintro e W2 ⟨rfl, b2⟩
  have HB2 : Hid (Below w.heap.size w W2) := nx HB1.out b2
  have hs2 := b2.size
  have HX2 : Hid (W2.heap[w.heap.size + 1]? = some (.cells #[.int .i64 0, .int .i64 0, .string ⟨#[]⟩] 215 (0, 0))) := (b2.block _ (by omega)).trans HX1'.out
  obtain ⟨W3, hW3⟩ : ∃ W3, W2.alloc (.cells #[.int .i64 kk, .int .i64 ki, .string ks] 215) = W3 := ⟨_, rfl⟩
  have b3 : Below W2.heap.size W2 W3 := by rw [<- hW3]; exact (Below.refl _ W2).alloc (Nat.le_refl _) _
  have hx3 : W3.heap[W2.heap.size]? = some (.cells #[.int .i64 kk, .int .i64 ki, .string ks] 215 (0, 0)) := by rw [<- hW3]; exact heap_alloc_new W2 _
  have hx1 : W3.heap[w.heap.size + 1]? = some (.cells #[.int .i64 0, .int .i64 0, .string ⟨#[]⟩] 215 (0, 0)) := (b3.block _ (by omega)).trans HX2.out
  have HB3 : Hid (Below w.heap.size w W3) := nx HB2.out b3
  have HW3 : Hid (W2.alloc (.cells #[.int .i64 kk, .int .i64 ki, .string ks] 215) = W3) := hW3
  obtain ⟨n0, n1, n2⟩ := three_b hx3
  obtain ⟨r0, r1, r2⟩ := three_b hx1
  have rf0 := frozen_box hx1 0
  have rf1 := frozen_box hx1 1
  have rf2 := frozen_box hx1 2
  clear cK b2 hW3
  by_cases hk : ke = 0
  ·subst hk
   have hA := HE.out
   rw [if_pos rfl] at hA
   subst hA
   have c1 := GPl.must_t W3
   obtain ⟨W9, hW9⟩ := stc3 W3 (w.heap.size + 1) (.int .i64 kk) (.int .i64 ki) (.string ks)
   obtain ⟨q1, q4⟩ := set3 hx1 hW9
   have HB9 := hid (HB3.out.trans (q4 _ (by omega)))
   have HQ1 := hid q1
   clear q1 q4 hx1 hx3 b3
   go_wp2_with fail
   try rw [HW3.out]
   refine c1.mono ?_
   rintro e W4 ⟨⟨v2, rfl⟩, h3⟩
   obtain rfl := h3.symm
   go_wp2_with fail
   try rw [hW9]
   refine bodyPost_ret (results_cell_row rfl _ W9 (w.heap.size + 1) 215 _ (0, 0) _ rfl HQ1.out underlying215 rfl (by kernel_rfl)) rfl ?_
   exact ⟨rfl, HB9.out⟩
  ·have hA := HE.out
   rw [if_neg hk] at hA
   subst hA
   have ek : (ke == 0) = false := by simp [hk]
   have c1 := GPl.must_f W3
   clear hk hx1 hx3 b3 HE
   go_wp2_with fail
   try rw [HW3.out]
   refine c1.mono ?_
   rintro e W4 ⟨rfl, h3⟩
   obtain rfl := h3.symm
   exact ⟨rfl, rfl, HB3.out⟩
end Go.Proofs.YtiijfmdfccdagaaGreatDoor.GTr
namespace Go.Proofs.YtiijfmdfccdagaaGreatDoor.GEn
open Go.RowKit Base VSm
open VPure hiding evL
abbrev ptr (B : Nat) : Value := .pointer (some ⟨B, 0, none⟩)
abbrev wk (Pv mk sv : Value) (r : Int) : Array Value := #[Pv, mk, sv, .int .i64 r]
theorem wk_box {w : World} {B : Nat} {Pv mk sv : Value} {r : Int} (h : w.heap[B]? = some (.cells (wk Pv mk sv r) 105 (0, 0))) :
  w.cell? ⟨B, 0, none⟩ = some Pv /\ w.cell? ⟨B, 1, none⟩ = some mk /\ w.cell? ⟨B, 2, none⟩ = some sv /\ w.cell? ⟨B, 3, none⟩ = some (.int .i64 r) := XBase.four_box h
theorem enter_no {w : World} {B : Nat} {Pv mk sv : Value} (h : w.heap[B]? = some (.cells (wk Pv mk sv 0) 105 (0, 0))) :
  Calls prog 97 #[ptr B] w fun e w' => e = .panicked (pkE 1601) /\ w = w' := by
 obtain ⟨k0, k1, k2, k3⟩ := wk_box h
 unfold pkE
 clear h
 go_enter func97, ntmps97
 go_wp2_with fail
 exact ⟨rfl, rfl, rfl⟩
theorem enter_ok {w : World} {B : Nat} {Pv mk sv : Value} {r : Int} (h : w.heap[B]? = some (.cells (wk Pv mk sv r) 105 (0, 0))) (hr : 0 < r /\ r <= 100000) :
  Calls prog 97 #[ptr B] w fun e w' => (∃ v, e = .returned v) /\ w.setCell ⟨B, 3, none⟩ (.int .i64 (r - 1)) = w' := by
 obtain ⟨k0, k1, k2, k3⟩ := wk_box h
 have f3 := frozen_box h 3
 have e0 : (r == 0) = false := by simp; omega
 have hw : IntKind.i64.wrap (r - 1) = r - 1 := by rw [IntKind.wrap_i64]; omega
 clear h hr
 go_enter func97, ntmps97
 go_wp2_with fail
 go_end0
 exact ⟨⟨_, rfl⟩, rfl⟩
end Go.Proofs.YtiijfmdfccdagaaGreatDoor.GEn
namespace Go.Proofs.YtiijfmdfccdagaaGreatDoor.GAt
open Tak
open Go.RowKit Base EPure JPure VSm VJn VRs GPl GVa GEn
open VPure hiding evL
theorem eight_b {w : World} {B : Nat} {v0 v1 v2 v3 v4 v5 v6 v7 : Value} {t : TypeId} (h : w.heap[B]? = some (.cells #[v0, v1, v2, v3, v4, v5, v6, v7] t (0, 0))) :
  w.cell? ⟨B, 0, none⟩ = some v0 /\ w.cell? ⟨B, 1, none⟩ = some v1 /\ w.cell? ⟨B, 2, none⟩ = some v2 /\ w.cell? ⟨B, 3, none⟩ = some v3 /\ w.cell? ⟨B, 4, none⟩ = some v4 /\ w.cell? ⟨B, 5, none⟩ = some v5 /\ w.cell? ⟨B, 6, none⟩ = some v6 /\ w.cell? ⟨B, 7, none⟩ = some v7 := by
 refine ⟨?_, ?_, ?_, ?_, ?_, ?_, ?_, ?_⟩ <;> simp [World.cell?, h]
theorem heap_at (w : World) (o : Obj) (k : Nat) (h : k = w.heap.size) : (w.alloc o).heap[k]? = some o := by subst h; exact heap_alloc_new w o
def aV (c : C) : Except Nat (ByteArray × Bool) := if c.k = 1 then .ok (⟨#[]⟩, false) else if c.k = 2 then .ok (⟨#[]⟩, c.b) else bnd (txt c) fun t => .ok (t, true)
def atr (L : List C) (p : ByteArray) (b : Bool) (x : Ex) : Except Nat (ByteArray × Bool) := if b = true then bnd (ev (rh L) x) aV else .ok (p, true)
abbrev tb2 (a : ByteArray × Bool) : Value := .tuple #[.string a.1, .bool a.2]
theorem attr_c {K m n : Nat} {w : World} {B : Nat} {Pv mk sv : Value} {r : Int} {L : List C} {fn fp : ByteArray} {fb : Bool} {fa : Int} {xa : Option Addr} {xc : Nat} {x : Ex}
  (h : w.heap[B]? = some (.cells (wk Pv mk sv r) 105 (0, 0))) (hsk : Sk K (m + 1) w Pv L) (hb : fb = true -> Rk K m n w Pv L (.agg #[.int .i64 x.o, .int .i64 x.i, .string x.s, .slice xa x.l.length xc]) x) :
  Calls prog 138 #[ptr B, .agg #[.string fn, .string fp, .bool fb, .int .i64 x.o, .int .i64 x.i, .string x.s, .slice xa x.l.length xc, .int .i64 fa]] w fun e w' => An w w' e tb2 (atr L fp fb x) := by
 obtain ⟨ps, pc, rfl, -⟩ := hsk
 have hBl := (Array.getElem?_eq_some_iff.1 h).1
 obtain ⟨W0, hW0⟩ : ∃ W0, w.alloc (.cells #[.string fn, .string fp, .bool fb, .int .i64 x.o, .int .i64 x.i, .string x.s, .slice xa x.l.length xc, .int .i64 fa] 59) = W0 := ⟨_, rfl⟩
 have b0 := alB hW0
 have hs0 : W0.heap.size = w.heap.size + 1 := by rw [<- hW0]; simp
 have HB0 := hid b0
 have HF0 := hid (alG hW0)
 have HW0 := hid ((b0.block B hBl).trans h)
 obtain ⟨k0, -, -, -⟩ := wk_box HW0.out
 obtain ⟨f0, f1, f2, f3, f4, f5, f6, f7⟩ := eight_b HF0.out
 have HWW := hid hW0
 clear b0 h hW0
 cases fb with
 | false =>
  have e0 : atr L fp false x = .ok (fp, true) := rfl
  rw [e0]
  clear hb e0
  go_enter func138, ntmps138
  go_wp2_with fail
  try rw [HWW.out]
  go_ret2
  exact ⟨rfl, HB0.out⟩
 | true =>
  have e0 : atr L fp true x = bnd (ev (rh L) x) aV := rfl
  rw [e0]
  obtain ⟨A, hA0⟩ : ∃ A, bnd (ev (rh L) x) aV = A := ⟨_, rfl⟩
  rw [hA0]
  have hrk := hb rfl
  have hlow := hrk.low
  have cV : Hid (∀ W, Below w.heap.size w W -> Calls prog 134 #[.slice ps L.length pc, .agg #[.int .i64 x.o, .int .i64 x.i, .string x.s, .slice xa x.l.length xc]] W fun e w' => VR K (m + 1) W (ev (rh L) x) e w') := fun W hW => value_c (hrk.below hW)
  have cT : Hid (∀ W u c, Below w.heap.size w W -> Base.In false (fun b => b < K) W (m + 1) u c -> Calls prog 133 #[u] W fun e w' => An W w' e Value.string (txt c)) := fun W u c hW hu => GPl.textOf_c hu.plain (hrk.tb.below hW)
  generalize ev (rh L) x = U at *
  have HA := hid hA0
  clear hb e0 hA0 hrk
  cases U with
  | error q =>
   have hA := HA.out
   subst hA
   go_enter func138, ntmps138
   go_wp2_with fail
   try rw [HWW.out]
   refine wp_region_held_drew (S := fun w' => w'.cell? ⟨B, 0, none⟩ = some (.slice ps L.length pc) /\ w'.cell? ⟨w.heap.size, 3, none⟩ = some (.int .i64 x.o) /\ w'.cell? ⟨w.heap.size, 4, none⟩ = some (.int .i64 x.i) /\ w'.cell? ⟨w.heap.size, 5, none⟩ = some (.string x.s) /\ w'.cell? ⟨w.heap.size, 6, none⟩ = some (.slice xa x.l.length xc)) (by kernel_rfl) (by exact ⟨k0, f3, f4, f5, f6⟩) (fun hHeld => ?_)
   refine tkH 0 rfl ?_; try simp only [ptH]
   refine tkH 1 rfl ?_; try simp only [ptH]
   refine tkH 2 rfl ?_; try simp only [ptH]
   refine tkH 3 rfl ?_; try simp only [ptH]
   refine tkH 4 rfl ?_; try simp only [ptH]
   refine tkH 5 rfl ?_; try simp only [ptH]
   refine rdH [6, 7] ?_
   refine AllReadyH.cons rfl (fun K0 hK => ?_) (AllReadyH.cons rfl (fun K0 hK => ?_) (AllReadyH.nil))
   ·go_simp
    refine (cV.out _ HB0.out.drew).mono ?_
    rintro ee Wq ⟨bq, hq⟩
    obtain rfl := hq
    exact ⟨rfl, rfl, HB0.out.drew.trans (bq.mono (by have := HB0.out.size; simp; omega))⟩
   ·obtain ⟨W1, hW1⟩ : ∃ W, (W0.drew).alloc (.cells #[.int .i64 0, .bool false, .int .i64 0, .string ⟨#[]⟩, .slice none 0 0, .slice none 0 0] 26) = W := ⟨_, rfl⟩
    have hs1 : W1.heap.size = W0.heap.size + 1 := by rw [<- hW1]; simp
    have HZ1 : Hid (W1.heap[W0.heap.size]? = some (.cells #[.int .i64 0, .bool false, .int .i64 0, .string ⟨#[]⟩, .slice none 0 0, .slice none 0 0] 26 (0, 0))) := by rw [<- hW1]; exact heap_at _ _ _ (by simp)
    have b1 : Below W0.heap.size W0 W1 := by rw [<- hW1]; exact ((Below.refl _ W0).drew).alloc (by simp) _
    have HB1 := hid (nx HB0.out b1)
    have HW1 := hid ((b1.block B (by omega)).trans HW0.out)
    have HF1 := hid ((b1.block w.heap.size (by omega)).trans HF0.out)
    go_simp
    try rw [hW1]
    obtain ⟨k0, -, -, -⟩ := wk_box HW1.out
    obtain ⟨-, -, -, f3, f4, f5, f6, -⟩ := eight_b HF1.out
    refine hK.out _ _ (by exact ⟨k0, f3, f4, f5, f6⟩) (fun hHeld => ?_)
    clear hK K0
    try simp only [ptH]
    refine rdH [6] ?_
    refine alH rfl fun K0 hK => ?_
    go_simp
    refine (cV.out _ HB1.out).mono ?_
    rintro ee Wq ⟨bq, hq⟩
    obtain rfl := hq
    exact ⟨rfl, rfl, nx HB1.out bq⟩
  | ok c =>
   go_enter func138, ntmps138
   go_upto_region 3 with fail
   try rw [HWW.out]
   go_cut [6] from 12 to 18 (fun p wc => ∃ R, p = ptr R /\ Below w.heap.size w wc /\ ∃ an ln cn al ll cl, wc.heap[R]? = some (.cells #[.int .i64 c.k, .bool c.b, .int .i64 c.i, .string c.s, .slice an ln cn, .slice al ll cl] 26 (0, 0)) /\ Base.In false (fun b => b < K) wc (m + 1) (vl c.k c.b c.i c.s (.slice an ln cn) (.slice al ll cl)) c)
   case first =>
    refine wp_region_held_drew (S := fun w' => w'.cell? ⟨B, 0, none⟩ = some (.slice ps L.length pc) /\ w'.cell? ⟨w.heap.size, 3, none⟩ = some (.int .i64 x.o) /\ w'.cell? ⟨w.heap.size, 4, none⟩ = some (.int .i64 x.i) /\ w'.cell? ⟨w.heap.size, 5, none⟩ = some (.string x.s) /\ w'.cell? ⟨w.heap.size, 6, none⟩ = some (.slice xa x.l.length xc)) (by kernel_rfl) (by exact ⟨k0, f3, f4, f5, f6⟩) (fun hHeld => ?_)
    refine tkH 0 rfl ?_; try simp only [ptH]
    refine tkH 1 rfl ?_; try simp only [ptH]
    refine tkH 2 rfl ?_; try simp only [ptH]
    refine tkH 3 rfl ?_; try simp only [ptH]
    refine tkH 4 rfl ?_; try simp only [ptH]
    refine tkH 5 rfl ?_; try simp only [ptH]
    refine rdH [6, 7] ?_
    refine AllReadyH.cons rfl (fun K0 hK => ?_) (AllReadyH.cons rfl (fun K0 hK => ?_) (AllReadyH.nil))
    ·go_simp
     refine (cV.out _ HB0.out.drew).mono ?_
     rintro ee W1 ⟨b1, u, rfl, hin⟩
     have b1 : Below W0.heap.size W0 W1 := (Below.refl _ W0).drew.trans b1
     obtain ⟨an, ln, cn, al, ll, cl, rfl⟩ := in_shape hin
     have hs1 := b1.size
     have HB1 := hid (nx HB0.out b1)
     have HW1 := hid ((b1.block B (by omega)).trans HW0.out)
     have HF1 := hid ((b1.block w.heap.size (by omega)).trans HF0.out)
     have HI1 := hid hin
     obtain ⟨k0, -, -, -⟩ := wk_box HW1.out
     obtain ⟨-, -, -, f3, f4, f5, f6, -⟩ := eight_b HF1.out
     refine hK.out _ _ (by exact ⟨k0, f3, f4, f5, f6⟩) (fun hHeld => ?_)
     clear hK K0
     try simp only [ptH]
     obtain ⟨W2, hW2⟩ : ∃ W, (W1).alloc (.cells #[.int .i64 0, .bool false, .int .i64 0, .string ⟨#[]⟩, .slice none 0 0, .slice none 0 0] 26) = W := ⟨_, rfl⟩
     have hs2 : W2.heap.size = W1.heap.size + 1 := by rw [<- hW2]; simp
     have HZ2 : Hid (W2.heap[W1.heap.size]? = some (.cells #[.int .i64 0, .bool false, .int .i64 0, .string ⟨#[]⟩, .slice none 0 0, .slice none 0 0] 26 (0, 0))) := by rw [<- hW2]; exact heap_at _ _ _ (by simp)
     have b2 : Below W1.heap.size W1 W2 := by rw [<- hW2]; exact ((Below.refl _ W1)).alloc (by simp) _
     have HB2 := hid (nx HB1.out b2)
     have HI2 := hid (HI1.out.below b2)
     have HW2 := hid ((b2.block B (by omega)).trans HW1.out)
     have HF2 := hid ((b2.block w.heap.size (by omega)).trans HF1.out)
     refine rdH [7] ?_
     refine alH rfl fun K0 hK => ?_
     go_simp
     try rw [hW2]
     obtain ⟨k0, -, -, -⟩ := wk_box HW2.out
     obtain ⟨-, -, -, f3, f4, f5, f6, -⟩ := eight_b HF2.out
     refine hK.out _ _ (by exact ⟨k0, f3, f4, f5, f6⟩) (fun hHeld => ?_)
     clear hK K0
     try simp only [ptH]
     obtain ⟨r0, r1, r2, r3, r4, r5⟩ := six_box HZ2.out
     have rf0 := frozen_box HZ2.out 0
     have rf1 := frozen_box HZ2.out 1
     have rf2 := frozen_box HZ2.out 2
     have rf3 := frozen_box HZ2.out 3
     have rf4 := frozen_box HZ2.out 4
     have rf5 := frozen_box HZ2.out 5
     obtain ⟨W9, hW9⟩ := stc6 W2 W1.heap.size (.int .i64 c.k) (.bool c.b) (.int .i64 c.i) (.string c.s) (.slice an ln cn) (.slice al ll cl)
     obtain ⟨q1, q2, q3, q4⟩ := set6 _ _ _ _ _ _ HZ2.out hW9
     have HW9 := hid ((q2 B (by omega)).trans HW2.out)
     have HF9 := hid ((q2 w.heap.size (by omega)).trans HF2.out)
     have HI9 : Hid (∃ an ln cn al ll cl, W9.heap[W1.heap.size]? = some (.cells #[.int .i64 c.k, .bool c.b, .int .i64 c.i, .string c.s, .slice an ln cn, .slice al ll cl] 26 (0, 0)) /\ Base.In false (fun b => b < K) W9 (m + 1) (vl c.k c.b c.i c.s (.slice an ln cn) (.slice al ll cl)) c) := ⟨an, ln, cn, al, ll, cl, q1, HI2.out.keep (fun b hb hb2 => q2 b (by omega))⟩
     have HB9 := hid (q4 _ _ (by omega) HB2.out)
     refine rdH [8] ?_
     refine alH rfl fun K0 hK => ?_
     go_wp2_with fail
     try rw [hW9]
     obtain ⟨k0, -, -, -⟩ := wk_box HW9.out
     obtain ⟨-, -, -, f3, f4, f5, f6, -⟩ := eight_b HF9.out
     refine hK.out _ _ (by exact ⟨k0, f3, f4, f5, f6⟩) (fun hHeld => ?_)
     clear hK K0
     try simp only [ptH]
     refine dnH ?_
     go_wp2_with fail
     go_meet
     case rel => exact ⟨_, rfl, HB9.out, HI9.out⟩
    ·obtain ⟨W1, hW1⟩ : ∃ W, (W0.drew).alloc (.cells #[.int .i64 0, .bool false, .int .i64 0, .string ⟨#[]⟩, .slice none 0 0, .slice none 0 0] 26) = W := ⟨_, rfl⟩
     have hs1 : W1.heap.size = W0.heap.size + 1 := by rw [<- hW1]; simp
     have HZ1 : Hid (W1.heap[W0.heap.size]? = some (.cells #[.int .i64 0, .bool false, .int .i64 0, .string ⟨#[]⟩, .slice none 0 0, .slice none 0 0] 26 (0, 0))) := by rw [<- hW1]; exact heap_at _ _ _ (by simp)
     have b1 : Below W0.heap.size W0 W1 := by rw [<- hW1]; exact ((Below.refl _ W0).drew).alloc (by simp) _
     have HB1 := hid (nx HB0.out b1)
     have HW1 := hid ((b1.block B (by omega)).trans HW0.out)
     have HF1 := hid ((b1.block w.heap.size (by omega)).trans HF0.out)
     go_simp
     try rw [hW1]
     obtain ⟨k0, -, -, -⟩ := wk_box HW1.out
     obtain ⟨-, -, -, f3, f4, f5, f6, -⟩ := eight_b HF1.out
     refine hK.out _ _ (by exact ⟨k0, f3, f4, f5, f6⟩) (fun hHeld => ?_)
     clear hK K0
     try simp only [ptH]
     refine rdH [6] ?_
     refine alH rfl fun K0 hK => ?_
     go_simp
     refine (cV.out _ HB1.out).mono ?_
     rintro ee W2 ⟨b2, u, rfl, hin⟩
     obtain ⟨an, ln, cn, al, ll, cl, rfl⟩ := in_shape hin
     have hs2 := b2.size
     have HB2 := hid (nx HB1.out b2)
     have HW2 := hid ((b2.block B (by omega)).trans HW1.out)
     have HF2 := hid ((b2.block w.heap.size (by omega)).trans HF1.out)
     have HI2 := hid hin
     have HZ2 : Hid (W2.heap[w.heap.size + 1]? = some (.cells #[.int .i64 0, .bool false, .int .i64 0, .string ⟨#[]⟩, .slice none 0 0, .slice none 0 0] 26 (0, 0))) := by
      have := (b2.block W0.heap.size (by omega)).trans HZ1.out
      rw [hs0] at this
      exact this
     obtain ⟨k0, -, -, -⟩ := wk_box HW2.out
     obtain ⟨-, -, -, f3, f4, f5, f6, -⟩ := eight_b HF2.out
     refine hK.out _ _ (by exact ⟨k0, f3, f4, f5, f6⟩) (fun hHeld => ?_)
     clear hK K0
     try simp only [ptH]
     obtain ⟨r0, r1, r2, r3, r4, r5⟩ := six_box HZ2.out
     have rf0 := frozen_box HZ2.out 0
     have rf1 := frozen_box HZ2.out 1
     have rf2 := frozen_box HZ2.out 2
     have rf3 := frozen_box HZ2.out 3
     have rf4 := frozen_box HZ2.out 4
     have rf5 := frozen_box HZ2.out 5
     obtain ⟨W9, hW9⟩ := stc6 W2 (w.heap.size + 1) (.int .i64 c.k) (.bool c.b) (.int .i64 c.i) (.string c.s) (.slice an ln cn) (.slice al ll cl)
     obtain ⟨q1, q2, q3, q4⟩ := set6 _ _ _ _ _ _ HZ2.out hW9
     have HW9 := hid ((q2 B (by omega)).trans HW2.out)
     have HF9 : Hid _ := (q2 w.heap.size (by omega)).trans HF2.out
     have HI9 : Hid (∃ an ln cn al ll cl, W9.heap[w.heap.size + 1]? = some (.cells #[.int .i64 c.k, .bool c.b, .int .i64 c.i, .string c.s, .slice an ln cn, .slice al ll cl] 26 (0, 0)) /\ Base.In false (fun b => b < K) W9 (m + 1) (vl c.k c.b c.i c.s (.slice an ln cn) (.slice al ll cl)) c) := ⟨an, ln, cn, al, ll, cl, q1, HI2.out.keep (fun b hb hb2 => q2 b (by omega))⟩
     have HB9 : Hid (Below w.heap.size w W9) := q4 _ _ (by omega) HB2.out
     refine rdH [8] ?_
     refine alH rfl fun K0 hK => ?_
     go_wp2_with fail
     try rw [hW9]
     obtain ⟨k0, -, -, -⟩ := wk_box HW9.out
     obtain ⟨-, -, -, f3, f4, f5, f6, -⟩ := eight_b HF9.out
     refine hK.out _ _ (by exact ⟨k0, f3, f4, f5, f6⟩) (fun hHeld => ?_)
     clear hK K0
     try simp only [ptH]
     refine dnH ?_
     go_wp2_with fail
     go_meet
     case rel => exact ⟨_, rfl, HB9.out, HI9.out⟩
   case rest =>
    obtain ⟨R, rfl, hbc, an, ln, cn, al, ll, cl, hx, hin⟩ := hcut
    have HBc : Hid (Below w.heap.size w wc) := hbc
    obtain ⟨n0, n1, n2, n3, n4, n5⟩ := six_box hx
    have HA' : Hid (aV c = A) := HA.out
    have cTx := cT.out wc _ c hbc hin
    clear hbc hin hx k0 f0 f1 f2 f3 f4 f5 f6 f7 HA
    by_cases h1 : c.k = 1
    ·have e1 : (c.k == 1) = true := by simp [h1]
     have hA := HA'.out
     unfold aV at hA
     rw [if_pos h1] at hA
     subst hA
     clear h1
     go_wp2_with fail
     go_ret2
     exact ⟨rfl, HBc.out⟩
    have e1 : (c.k == 1) = false := by simp [h1]
    by_cases h2 : c.k = 2
    ·have e2 : (c.k == 2) = true := by simp [h2]
     have hA := HA'.out
     unfold aV at hA
     rw [if_neg h1, if_pos h2] at hA
     subst hA
     clear h1 h2
     go_wp2_with fail
     go_quiet (fail)
     go_wp2_with fail
     go_ret2
     exact ⟨rfl, HBc.out.trans ⟨rfl, rfl, rfl, by simp, fun _ _ => by simp⟩⟩
    have e2 : (c.k == 2) = false := by simp [h2]
    have hA := HA'.out
    unfold aV at hA
    rw [if_neg h1, if_neg h2] at hA
    clear h1 h2 HA'
    generalize txt c = X at *
    have HA2 := hid hA
    clear hA
    cases X with
    | error q =>
     have hA := HA2.out
     subst hA
     go_wp2_with fail
     refine cTx.mono ?_
     rintro ee W5 ⟨rfl, b5⟩
     exact ⟨rfl, rfl, nx HBc.out b5⟩
    | ok t =>
     have hA := HA2.out
     subst hA
     go_wp2_with fail
     refine cTx.mono ?_
     rintro ee W5 ⟨rfl, b5⟩
     have HB5 := hid (nx HBc.out b5)
     clear cTx b5
     go_wp2_with fail
     go_ret2
     exact ⟨rfl, HB5.out⟩
end Go.Proofs.YtiijfmdfccdagaaGreatDoor.GAt
