/- For every value, name and number the law ValueParts returns true: Field and Index answer as the document says, with copies, and the value stays; conditions: the tables of the library hold what they are laid with. -/
import Derived.Test.YtmoblfdepcjgfaaDoorAwake
import Derived.Test.YtmoblfdepcjgfaaDoorLendV
import Derived.Test.YtmoblfdepcjgfaaDoorKeptV
import Derived.Test.YtmoblfdepcjgfaaDoorRPart
import Derived.Test.YtmoblfdepcjgfaaDoorSpoil
namespace Go.Proofs.YtmoblfdepcjgfaaDoor.WParts
open Go.RowKit Go.Proofs.YtmoblfdepcjgfaaDoor.Base Go.Proofs.YtmoblfdepcjgfaaDoor.Digits Go.Proofs.YtmoblfdepcjgfaaDoor.Facts Go.Proofs.YtmoblfdepcjgfaaDoor.Shallow Go.Proofs.YtmoblfdepcjgfaaDoor.LendV Go.Proofs.YtmoblfdepcjgfaaDoor.KeptV Go.Proofs.YtmoblfdepcjgfaaDoor.SameV Go.Proofs.YtmoblfdepcjgfaaDoor.Awake Go.Proofs.YtmoblfdepcjgfaaDoor.Part Go.Proofs.YtmoblfdepcjgfaaDoor.RPart Go.Proofs.YtmoblfdepcjgfaaDoor.Fresh Go.Proofs.YtmoblfdepcjgfaaDoor.Copied Go.Proofs.YtmoblfdepcjgfaaDoor.Spoil
set_option linter.unusedVariables false

theorem errno' (x : Int) (w : World) : Calls Tryd.prog 14 #[.int .i64 x] w fun e w' => e = .returned (.int .i64 x) ∧ w = w' :=
  (errno_c x w).mono fun _ _ h => ⟨h.1, h.2.symm⟩
/-- What was handed out, laid out: its kind's letters are those of c. -/
theorem ans_c {f : FuncId} {args : Array Value} {m lo : Nat} {p : Option C} {w : World} {k i : Int} {b : Bool} {s : ByteArray} {E : Int} (h : Calls Tryd.prog f args w (Ans m p lo w)) (hk : (oc p).k = k) (hb : (oc p).b = b) (hi : (oc p).i = i) (hs : (oc p).s = s) (hE : oe p = E) :
    Calls Tryd.prog f args w fun e w' => ∃ x1 x2 x3 x4 x5 x6, e = .returned (.tuple #[.agg #[.int .i64 k, .bool b, .int .i64 i, .string s, .slice x1 x2 x3, .slice x4 x5 x6], .int .i64 E]) ∧ Hid (Fr w' m lo w'.heap.size (.agg #[.int .i64 k, .bool b, .int .i64 i, .string s, .slice x1 x2 x3, .slice x4 x5 x6]) (oc p)) ∧ Below w.heap.size w w' := by
  refine h.mono ?_
  rintro e w' ⟨u, rfl, hfr, hb'⟩
  obtain ⟨y0, y1, y2, y3, y4, y5, rfl, -⟩ := hfr.in.six
  obtain ⟨x1, x2, x3, x4, x5, x6, rfl, rfl, rfl, rfl, rfl, rfl⟩ := hfr.in.kinds
  rw [hk, hb, hi, hs] at hfr ⊢
  rw [hE]
  exact ⟨x1, x2, x3, x4, x5, x6, rfl, hfr, hb'⟩
theorem ref_c {f : FuncId} {args : Array Value} {m : Nat} {p : Option C} {wb w : World} {k i : Int} {b : Bool} {s : ByteArray} {E : Int} (h : Calls Tryd.prog f args w (Ref m p wb w)) (hk : (oc p).k = k) (hb : (oc p).b = b) (hi : (oc p).i = i) (hs : (oc p).s = s) (hE : oe p = E) :
    Calls Tryd.prog f args w fun e w' => ∃ x1 x2 x3 x4 x5 x6, e = .returned (.tuple #[.agg #[.int .i64 k, .bool b, .int .i64 i, .string s, .slice x1 x2 x3, .slice x4 x5 x6], .int .i64 E]) ∧ Hid (In false All wb m (.agg #[.int .i64 k, .bool b, .int .i64 i, .string s, .slice x1 x2 x3, .slice x4 x5 x6]) (oc p)) ∧ Below w.heap.size w w' := by
  refine h.mono ?_
  rintro e w' ⟨u, rfl, hfr, hb'⟩
  obtain ⟨y0, y1, y2, y3, y4, y5, rfl, -⟩ := hfr.six
  obtain ⟨x1, x2, x3, x4, x5, x6, rfl, rfl, rfl, rfl, rfl, rfl⟩ := hfr.kinds
  rw [hk, hb, hi, hs] at hfr ⊢
  rw [hE]
  exact ⟨x1, x2, x3, x4, x5, x6, rfl, hfr, hb'⟩
set_option maxRecDepth 20000 in
set_option maxHeartbeats 3200000 in
theorem walk {m : Nat} {v : Value} {c : C} {w : World} (h : In false All w m v c) (x : ByteArray) (hxs : x.size ≤ maxLen) (j : Int) (j0 : -9223372036854775808 ≤ j) (j1 : j ≤ 9223372036854775807) (ht : Tab w) :
    Calls Tryd.prog 6 #[v, .string x, .int .i64 j] w fun e w' => e = .returned (.bool true) ∧ Below w.heap.size w w' := by
  obtain ⟨v0, v1, v2, v3, v4, v5, rfl, -⟩ := h.six
  obtain ⟨a1, n1, c1, a2, n2, c2, rfl, rfl, rfl, rfl, rfl, rfl⟩ := h.kinds
  obtain ⟨k, hk⟩ : ∃ k, c.k = k := ⟨_, rfl⟩
  obtain ⟨b, hb⟩ : ∃ b, c.b = b := ⟨_, rfl⟩
  obtain ⟨i, hi⟩ : ∃ i, c.i = i := ⟨_, rfl⟩
  obtain ⟨s, hs⟩ : ∃ s, c.s = s := ⟨_, rfl⟩
  rw [hk, hb, hi, hs] at h
  rw [hk, hb, hi, hs]
  obtain ⟨W0, hW0⟩ : ∃ W0, w.alloc (.cells #[.int .i64 k, .bool b, .int .i64 i, .string s, .slice a1 n1 c1, .slice a2 n2 c2] 25) = W0 := ⟨_, rfl⟩
  have b0 : Below w.heap.size w W0 := by rw [← hW0]; exact (Below.refl _ w).alloc (Nat.le_refl _) _
  have hs0 : w.heap.size < W0.heap.size := by rw [← hW0]; simp
  have hx0 : W0.heap[w.heap.size]? = some (.cells #[.int .i64 k, .bool b, .int .i64 i, .string s, .slice a1 n1 c1, .slice a2 n2 c2] 25 (0, 0)) := by rw [← hW0, heap_alloc_new]
  have HV : Hid (∀ w', Below W0.heap.size W0 w' → In false All w' m (.agg #[.int .i64 k, .bool b, .int .i64 i, .string s, .slice a1 n1 c1, .slice a2 n2 c2]) c) := fun w' hb' => (h.below b0).below hb'
  have XV : Hid (∀ w', Below W0.heap.size W0 w' → w'.heap[w.heap.size]? = some (.cells #[.int .i64 k, .bool b, .int .i64 i, .string s, .slice a1 n1 c1, .slice a2 n2 c2] 25 (0, 0))) := fun w' hb' => (hb'.block _ hs0).trans hx0
  have ht0 := ht.later b0
  have c9 := shallow_c m _ c W0 (h.below b0)
  obtain ⟨k0, k1, k2, k3, k4, k5⟩ := six_box hx0
  clear h ht hx0
  go_enter Tryd.func6, Tryd.ntmps6
  go_wp2_with fail
  refine c9.mono ?_
  rintro e w1 ⟨rfl, B1⟩
  clear c9 k0 k1 k2 k3 k4 k5 hW0
  cases hd : decide (dep c ≤ 4096) with
  | false =>
    go_wp2_with fail
    go_ret
    exact ⟨rfl, nx b0 B1⟩
  | true =>
  obtain ⟨k0, k1, k2, k3, k4, k5⟩ := six_box (XV.out w1 B1)
  have c10 := lendV_c m _ c w1 (HV.out w1 B1)
  go_wp2_with fail
  refine c10.mono ?_
  rintro e w4 ⟨u, rfl, hx, b4⟩
  obtain ⟨y0, y1, y2, y3, y4, y5, rfl, -⟩ := hx.six
  obtain ⟨p1, q1, r1, p2, q2, r2, rfl, rfl, rfl, rfl, rfl, rfl⟩ := hx.kinds
  rw [hk, hb, hi, hs] at hx
  rw [hk, hb, hi, hs]
  clear c10 k0 k1 k2 k3 k4 k5 hk hb hi hs
  have B4 : Below W0.heap.size W0 w4 := nx B1 b4
  obtain ⟨W5, hW5⟩ : ∃ W5, w4.alloc (.cells #[.int .i64 k, .bool b, .int .i64 i, .string s, .slice p1 q1 r1, .slice p2 q2 r2] 25) = W5 := ⟨_, rfl⟩
  have b5 : Below w4.heap.size w4 W5 := by rw [← hW5]; exact (Below.refl _ w4).alloc (Nat.le_refl _) _
  have s5 : w4.heap.size < W5.heap.size := by rw [← hW5]; simp
  have hx5 : W5.heap[w4.heap.size]? = some (.cells #[.int .i64 k, .bool b, .int .i64 i, .string s, .slice p1 q1 r1, .slice p2 q2 r2] 25 (0, 0)) := by rw [← hW5, heap_alloc_new]
  have B5 : Below W0.heap.size W0 W5 := nx B4 b5
  have HX : Hid (∀ w', Below W5.heap.size W5 w' → In true (Rg w1.heap.size w4.heap.size) w' m (.agg #[.int .i64 k, .bool b, .int .i64 i, .string s, .slice p1 q1 r1, .slice p2 q2 r2]) c) := fun w' hb' => (hx.below b5).below hb'
  have XX : Hid (∀ w', Below W5.heap.size W5 w' → w'.heap[w4.heap.size]? = some (.cells #[.int .i64 k, .bool b, .int .i64 i, .string s, .slice p1 q1 r1, .slice p2 q2 r2] 25 (0, 0))) := fun w' hb' => (hb'.block _ s5).trans hx5
  clear hx hx5
  obtain ⟨Fk, hFk⟩ : ∃ y, (oc (fo c x)).k = y := ⟨_, rfl⟩
  obtain ⟨Fb, hFb⟩ : ∃ y, (oc (fo c x)).b = y := ⟨_, rfl⟩
  obtain ⟨Fi, hFi⟩ : ∃ y, (oc (fo c x)).i = y := ⟨_, rfl⟩
  obtain ⟨Fs, hFs⟩ : ∃ y, (oc (fo c x)).s = y := ⟨_, rfl⟩
  obtain ⟨FE, hFE⟩ : ∃ y, oe (fo c x) = y := ⟨_, rfl⟩
  obtain ⟨Gk, hGk⟩ : ∃ y, (oc (io c j)).k = y := ⟨_, rfl⟩
  obtain ⟨Gb, hGb⟩ : ∃ y, (oc (io c j)).b = y := ⟨_, rfl⟩
  obtain ⟨Gi, hGi⟩ : ∃ y, (oc (io c j)).i = y := ⟨_, rfl⟩
  obtain ⟨Gs, hGs⟩ : ∃ y, (oc (io c j)).s = y := ⟨_, rfl⟩
  obtain ⟨GE, hGE⟩ : ∃ y, oe (io c j) = y := ⟨_, rfl⟩
  have c27 := ans_c (field_c ((HX.out W5 (Below.refl _ _)).plain) x) hFk hFb hFi hFs hFE
  obtain ⟨k0, k1, k2, k3, k4, k5⟩ := six_box (XX.out W5 (Below.refl _ _))
  go_wp2_with fail
  refine c27.mono ?_
  rintro e w6 ⟨a1, a2, a3, a4, a5, a6, rfl, fA, b6⟩
  clear c27 k0 k1 k2 k3 k4 k5 hW5
  obtain ⟨W7, hW7⟩ : ∃ W, w6.alloc (.cells #[.int .i64 Fk, .bool Fb, .int .i64 Fi, .string Fs, .slice a1 a2 a3, .slice a4 a5 a6] 25) = W := ⟨_, rfl⟩
  have b7 : Below w6.heap.size w6 W7 := by rw [← hW7]; exact (Below.refl _ w6).alloc (Nat.le_refl _) _
  have s7 : w6.heap.size < W7.heap.size := by rw [← hW7]; simp
  have yA : W7.heap[w6.heap.size]? = some (.cells #[.int .i64 Fk, .bool Fb, .int .i64 Fi, .string Fs, .slice a1 a2 a3, .slice a4 a5 a6] 25 (0, 0)) := by rw [← hW7, heap_alloc_new]
  have s6 : W5.heap.size ≤ w6.heap.size := b6.size
  have T7 : Below W5.heap.size W5 W7 := nx b6 b7
  have c27 := ans_c (field_c ((HX.out W7 T7).plain) x) hFk hFb hFi hFs hFE
  obtain ⟨k0, k1, k2, k3, k4, k5⟩ := six_box (XX.out W7 T7)
  go_wp2_with fail
  refine c27.mono ?_
  rintro e w8 ⟨b1, b2, b3, b4, b5, b6, rfl, fB, b8⟩
  clear c27 k0 k1 k2 k3 k4 k5 hW7
  obtain ⟨W9, hW9⟩ : ∃ W, w8.alloc (.cells #[.int .i64 Fk, .bool Fb, .int .i64 Fi, .string Fs, .slice b1 b2 b3, .slice b4 b5 b6] 25) = W := ⟨_, rfl⟩
  have b9 : Below w8.heap.size w8 W9 := by rw [← hW9]; exact (Below.refl _ w8).alloc (Nat.le_refl _) _
  have s9 : w8.heap.size < W9.heap.size := by rw [← hW9]; simp
  have yB : W9.heap[w8.heap.size]? = some (.cells #[.int .i64 Fk, .bool Fb, .int .i64 Fi, .string Fs, .slice b1 b2 b3, .slice b4 b5 b6] 25 (0, 0)) := by rw [← hW9, heap_alloc_new]
  have s8 : W7.heap.size ≤ w8.heap.size := b8.size
  have T9 : Below W5.heap.size W5 W9 := nx T7 (nx b8 b9)
  have c28 := ans_c (indexV_c ((HX.out W9 T9).plain) j j0 j1) hGk hGb hGi hGs hGE
  obtain ⟨k0, k1, k2, k3, k4, k5⟩ := six_box (XX.out W9 T9)
  go_wp2_with fail
  refine c28.mono ?_
  rintro e w10 ⟨c1, c2, c3, c4, c5, c6, rfl, fC, b10⟩
  clear c28 k0 k1 k2 k3 k4 k5 hW9
  obtain ⟨W11, hW11⟩ : ∃ W, w10.alloc (.cells #[.int .i64 Gk, .bool Gb, .int .i64 Gi, .string Gs, .slice c1 c2 c3, .slice c4 c5 c6] 25) = W := ⟨_, rfl⟩
  have b11 : Below w10.heap.size w10 W11 := by rw [← hW11]; exact (Below.refl _ w10).alloc (Nat.le_refl _) _
  have s11 : w10.heap.size < W11.heap.size := by rw [← hW11]; simp
  have yC : W11.heap[w10.heap.size]? = some (.cells #[.int .i64 Gk, .bool Gb, .int .i64 Gi, .string Gs, .slice c1 c2 c3, .slice c4 c5 c6] 25 (0, 0)) := by rw [← hW11, heap_alloc_new]
  have s10 : W9.heap.size ≤ w10.heap.size := b10.size
  have T11 : Below W5.heap.size W5 W11 := nx T9 (nx b10 b11)
  have c28 := ans_c (indexV_c ((HX.out W11 T11).plain) j j0 j1) hGk hGb hGi hGs hGE
  obtain ⟨k0, k1, k2, k3, k4, k5⟩ := six_box (XX.out W11 T11)
  go_wp2_with fail
  refine c28.mono ?_
  rintro e w12 ⟨d1, d2, d3, d4, d5, d6, rfl, fD, b12⟩
  clear c28 k0 k1 k2 k3 k4 k5 hW11
  obtain ⟨W13, hW13⟩ : ∃ W, w12.alloc (.cells #[.int .i64 Gk, .bool Gb, .int .i64 Gi, .string Gs, .slice d1 d2 d3, .slice d4 d5 d6] 25) = W := ⟨_, rfl⟩
  have b13 : Below w12.heap.size w12 W13 := by rw [← hW13]; exact (Below.refl _ w12).alloc (Nat.le_refl _) _
  have s13 : w12.heap.size < W13.heap.size := by rw [← hW13]; simp
  have yD : W13.heap[w12.heap.size]? = some (.cells #[.int .i64 Gk, .bool Gb, .int .i64 Gi, .string Gs, .slice d1 d2 d3, .slice d4 d5 d6] 25 (0, 0)) := by rw [← hW13, heap_alloc_new]
  have s12 : W11.heap.size ≤ w12.heap.size := b12.size
  have T13 : Below W5.heap.size W5 W13 := nx T11 (nx b12 b13)
  have c29 := ref_c (rfield_c W0 (HV.out W0 (Below.refl _ _)) (nx B5 T13) x) hFk hFb hFi hFs hFE
  obtain ⟨k0, k1, k2, k3, k4, k5⟩ := six_box (XV.out W13 (nx B5 T13))
  go_wp2_with fail
  refine c29.mono ?_
  rintro e w14 ⟨u1, u2, u3, u4, u5, u6, rfl, fU, b14⟩
  clear c29 k0 k1 k2 k3 k4 k5 hW13
  obtain ⟨W15, hW15⟩ : ∃ W, w14.alloc (.cells #[.int .i64 Fk, .bool Fb, .int .i64 Fi, .string Fs, .slice u1 u2 u3, .slice u4 u5 u6] 25) = W := ⟨_, rfl⟩
  have b15 : Below w14.heap.size w14 W15 := by rw [← hW15]; exact (Below.refl _ w14).alloc (Nat.le_refl _) _
  have s15 : w14.heap.size < W15.heap.size := by rw [← hW15]; simp
  have yU : W15.heap[w14.heap.size]? = some (.cells #[.int .i64 Fk, .bool Fb, .int .i64 Fi, .string Fs, .slice u1 u2 u3, .slice u4 u5 u6] 25 (0, 0)) := by rw [← hW15, heap_alloc_new]
  have s14 : W13.heap.size ≤ w14.heap.size := b14.size
  have T15 : Below W5.heap.size W5 W15 := nx T13 (nx b14 b15)
  have c30 := ref_c (rindex_c W0 (HV.out W0 (Below.refl _ _)) (nx B5 T15) j j0 j1) hGk hGb hGi hGs hGE
  obtain ⟨k0, k1, k2, k3, k4, k5⟩ := six_box (XV.out W15 (nx B5 T15))
  go_wp2_with fail
  refine c30.mono ?_
  rintro e w16 ⟨z1, z2, z3, z4, z5, z6, rfl, fZ, b16⟩
  clear c30 k0 k1 k2 k3 k4 k5 hW15
  obtain ⟨W17, hW17⟩ : ∃ W, w16.alloc (.cells #[.int .i64 Gk, .bool Gb, .int .i64 Gi, .string Gs, .slice z1 z2 z3, .slice z4 z5 z6] 25) = W := ⟨_, rfl⟩
  have b17 : Below w16.heap.size w16 W17 := by rw [← hW17]; exact (Below.refl _ w16).alloc (Nat.le_refl _) _
  have s17 : w16.heap.size < W17.heap.size := by rw [← hW17]; simp
  have yZ : W17.heap[w16.heap.size]? = some (.cells #[.int .i64 Gk, .bool Gb, .int .i64 Gi, .string Gs, .slice z1 z2 z3, .slice z4 z5 z6] 25 (0, 0)) := by rw [← hW17, heap_alloc_new]
  have s16 : W15.heap.size ≤ w16.heap.size := b16.size
  have T17 : Below W5.heap.size W5 W17 := nx T15 (nx b16 b17)
  clear hFk hFb hFi hFs hFE hGk hGb hGi hGs hGE
  have tA : Below W7.heap.size W7 W17 := (nx (nx (nx (nx (nx b8 b9) (nx b10 b11)) (nx b12 b13)) (nx b14 b15)) (nx b16 b17))
  have yA := (tA.block w6.heap.size s7).trans yA
  have tB : Below W9.heap.size W9 W17 := (nx (nx (nx (nx b10 b11) (nx b12 b13)) (nx b14 b15)) (nx b16 b17))
  have yB := (tB.block w8.heap.size s9).trans yB
  have tC : Below W11.heap.size W11 W17 := (nx (nx (nx b12 b13) (nx b14 b15)) (nx b16 b17))
  have yC := (tC.block w10.heap.size s11).trans yC
  have tD : Below W13.heap.size W13 W17 := (nx (nx b14 b15) (nx b16 b17))
  have yD := (tD.block w12.heap.size s13).trans yD
  have tU : Below W15.heap.size W15 W17 := (nx b16 b17)
  have yU := (tU.block w14.heap.size s15).trans yU
  have U17 : Below W0.heap.size W0 W17 := nx B5 T17
  have c31 := sameV_c m (.agg #[.int .i64 Fk, .bool Fb, .int .i64 Fi, .string Fs, .slice a1 a2 a3, .slice a4 a5 a6]) (.agg #[.int .i64 Fk, .bool Fb, .int .i64 Fi, .string Fs, .slice u1 u2 u3, .slice u4 u5 u6]) _ W17 ((fA.out.in.plain).below (nx b7 tA)) (fU.out.below U17)
  obtain ⟨k0, k1, k2, k3, k4, k5⟩ := six_box yA
  obtain ⟨l0, l1, l2, l3, l4, l5⟩ := six_box yU
  go_wp2_with (go_at_call 14; refine (errno' _ _).mono ?_; rintro e w' ⟨rfl, rfl⟩)
  refine c31.mono ?_
  rintro e w18 ⟨rfl, b18⟩
  clear c31 k0 k1 k2 k3 k4 k5 l0 l1 l2 l3 l4 l5 hW17
  have lt17 : ∀ {g : Nat} {y : Obj}, W17.heap[g]? = some y → g < W17.heap.size := fun h => (Array.getElem?_eq_some_iff.1 h).1
  have U18 : Below W0.heap.size W0 w18 := nx U17 b18
  have c31 := sameV_c m (.agg #[.int .i64 Gk, .bool Gb, .int .i64 Gi, .string Gs, .slice c1 c2 c3, .slice c4 c5 c6]) (.agg #[.int .i64 Gk, .bool Gb, .int .i64 Gi, .string Gs, .slice z1 z2 z3, .slice z4 z5 z6]) _ w18 ((fC.out.in.plain).below (nx (nx b11 tC) b18)) (fZ.out.below U18)
  obtain ⟨k0, k1, k2, k3, k4, k5⟩ := six_box ((b18.block _ (lt17 yC)).trans yC)
  obtain ⟨l0, l1, l2, l3, l4, l5⟩ := six_box ((b18.block _ (lt17 yZ)).trans yZ)
  go_wp2_with fail
  refine c31.mono ?_
  rintro e w19 ⟨rfl, b19⟩
  clear c31 k0 k1 k2 k3 k4 k5 l0 l1 l2 l3 l4 l5
  have T19 : Below W17.heap.size W17 w19 := nx b18 b19
  have zA := (T19.block _ (lt17 yA)).trans yA
  have zB := (T19.block _ (lt17 yB)).trans yB
  have zC := (T19.block _ (lt17 yC)).trans yC
  have zD := (T19.block _ (lt17 yD)).trans yD
  have zU := (T19.block _ (lt17 yU)).trans yU
  have zZ := (T19.block _ (lt17 yZ)).trans yZ
  obtain ⟨k0, k1, k2, k3, k4, k5⟩ := six_box zA
  have c32 := spoils m w19 w6.heap.size 0 (.agg #[.int .i64 Fk, .bool Fb, .int .i64 Fi, .string Fs, .slice a1 a2 a3, .slice a4 a5 a6]) _ W5.heap.size w6.heap.size ⟨_, _, _, _, _, _, rfl, k0, k1, k2, k3, k4, k5⟩ (frozen_box zA 0) (fA.out.keep (Keep.of_below (nx (nx b7 tA) T19))) (.inr (Nat.le_refl _))
  clear k0 k1 k2 k3 k4 k5
  go_wp2_with fail
  refine c32.mono ?_
  rintro e w20 ⟨⟨r, rfl⟩, wa, z, oa, hw20⟩
  have K20 : Hid (∀ b, (b < W5.heap.size ∨ w6.heap.size < b) → w20.heap[b]? = w19.heap[b]?) := fun b hb => by
    rw [hw20, Below.heap_setCell _ _ _ _ (by simp; omega)]
    exact oa.block (by omega)
  have B20 : Below W5.heap.size w19 w20 := by rw [hw20]; exact oa.1.setCell (p := ⟨w6.heap.size, 0, none⟩) (by omega) _
  clear hw20 oa c32
  have zC20 := (K20.out w10.heap.size (by omega)).trans zC
  obtain ⟨k0, k1, k2, k3, k4, k5⟩ := six_box zC20
  have c32 := spoils m w20 w10.heap.size 0 (.agg #[.int .i64 Gk, .bool Gb, .int .i64 Gi, .string Gs, .slice c1 c2 c3, .slice c4 c5 c6]) _ W9.heap.size w10.heap.size ⟨_, _, _, _, _, _, rfl, k0, k1, k2, k3, k4, k5⟩ (frozen_box zC20 0) (fC.out.keep fun b hb hlt => (K20.out b (by have := hb.1; omega)).trans ((nx (nx b11 tC) T19).block b hlt)) (.inr (Nat.le_refl _))
  clear k0 k1 k2 k3 k4 k5
  go_wp2_with fail
  refine c32.mono ?_
  rintro e w21 ⟨⟨r', rfl⟩, wc, z', oc', hw21⟩
  have K21 : Hid (∀ b, (b < W5.heap.size ∨ (w6.heap.size < b ∧ b < W9.heap.size) ∨ w10.heap.size < b) → w21.heap[b]? = w19.heap[b]?) := fun b hb => by
    rw [hw21, Below.heap_setCell _ _ _ _ (by simp; omega)]
    exact (oc'.block (by omega)).trans (K20.out b (by omega))
  have B21 : Below W5.heap.size w19 w21 := by
    refine B20.trans ?_
    rw [hw21]
    exact (oc'.1.setCell (p := ⟨w10.heap.size, 0, none⟩) (by omega) _).mono (by omega)
  clear hw21 oc' c32 zC20 B20 K20
  have T21 : Below W5.heap.size W5 w21 := (nx T17 T19).trans B21
  have U21 : Below W0.heap.size W0 w21 := nx B5 T21
  have zB := (K21.out w8.heap.size (by omega)).trans zB
  have zD := (K21.out w12.heap.size (by omega)).trans zD
  have zU := (K21.out w14.heap.size (by omega)).trans zU
  have zZ := (K21.out w16.heap.size (by omega)).trans zZ
  have iB : In false All w21 m (.agg #[.int .i64 Fk, .bool Fb, .int .i64 Fi, .string Fs, .slice b1 b2 b3, .slice b4 b5 b6]) _ := (fB.out.keep fun b hb hlt => (K21.out b (by have := hb.1; have := hb.2; omega)).trans ((nx (nx b9 tB) T19).block b hlt)).in.plain
  have iD : In false All w21 m (.agg #[.int .i64 Gk, .bool Gb, .int .i64 Gi, .string Gs, .slice d1 d2 d3, .slice d4 d5 d6]) _ := (fD.out.keep fun b hb hlt => (K21.out b (by have := hb.1; have := hb.2; omega)).trans ((nx (nx b13 tD) T19).block b hlt)).in.plain
  have ID : Hid (In false All w21 m (.agg #[.int .i64 Gk, .bool Gb, .int .i64 Gi, .string Gs, .slice d1 d2 d3, .slice d4 d5 d6]) (oc (io c j))) := iD
  have c31 := sameV_c m (.agg #[.int .i64 Fk, .bool Fb, .int .i64 Fi, .string Fs, .slice b1 b2 b3, .slice b4 b5 b6]) (.agg #[.int .i64 Fk, .bool Fb, .int .i64 Fi, .string Fs, .slice u1 u2 u3, .slice u4 u5 u6]) _ w21 iB (fU.out.below U21)
  obtain ⟨k0, k1, k2, k3, k4, k5⟩ := six_box zB
  obtain ⟨l0, l1, l2, l3, l4, l5⟩ := six_box zU
  clear iB iD
  go_wp2_with fail
  refine c31.mono ?_
  rintro e w22 ⟨rfl, b22⟩
  clear c31 k0 k1 k2 k3 k4 k5 l0 l1 l2 l3 l4 l5
  have c31 := sameV_c m (.agg #[.int .i64 Gk, .bool Gb, .int .i64 Gi, .string Gs, .slice d1 d2 d3, .slice d4 d5 d6]) (.agg #[.int .i64 Gk, .bool Gb, .int .i64 Gi, .string Gs, .slice z1 z2 z3, .slice z4 z5 z6]) _ w22 (ID.out.below b22) (fZ.out.below (nx U21 b22))
  obtain ⟨k0, k1, k2, k3, k4, k5⟩ := six_box ((b22.block _ (Array.getElem?_eq_some_iff.1 zD).1).trans zD)
  obtain ⟨l0, l1, l2, l3, l4, l5⟩ := six_box ((b22.block _ (Array.getElem?_eq_some_iff.1 zZ).1).trans zZ)
  go_wp2_with fail
  refine c31.mono ?_
  rintro e w23 ⟨rfl, b23⟩
  clear c31 k0 k1 k2 k3 k4 k5 l0 l1 l2 l3 l4 l5
  have T23 : Below W5.heap.size W5 w23 := nx T21 (nx b22 b23)
  have c18 := keptV_c m _ _ c w23 (HX.out w23 T23) (HV.out w23 (nx B5 T23))
  obtain ⟨k0, k1, k2, k3, k4, k5⟩ := six_box (XX.out w23 T23)
  obtain ⟨l0, l1, l2, l3, l4, l5⟩ := six_box (XV.out w23 (nx B5 T23))
  go_wp2_with fail
  refine c18.mono ?_
  rintro e w24 ⟨rfl, b24⟩
  clear c18 k0 k1 k2 k3 k4 k5 l0 l1 l2 l3 l4 l5
  have U24 : Below W0.heap.size W0 w24 := nx (nx B5 T23) b24
  have c19 := awake_c w24 (ht0.later U24)
  go_wp2_with fail
  refine c19.mono ?_
  rintro e w25 ⟨rfl, b25⟩
  go_wp2_with fail
  go_ret
  exact ⟨rfl, nx b0 (nx U24 b25)⟩
end Go.Proofs.YtmoblfdepcjgfaaDoor.WParts
