import Derived.Test.YtghnhkagkngjcaaGreatDoorPN40
set_option linter.unusedVariables false
set_option maxRecDepth 20000
set_option maxHeartbeats 3200000
namespace Go.Proofs.YtghnhkagkngjcaaGreatDoor.VAp
open Go.RowKit Base EPure VPure VMp VNo VVa VEv ELn VOf
open PMay (mayL)
def it (i : Int) : Ex := .mk 4 i ⟨#[]⟩ []
def vw : Ex := .mk 6 0 ⟨#[119]⟩ []
def sa : Ex := .mk 5 0 ⟨#[97]⟩ []
def fa : Ex := .mk 2 0 ⟨#[]⟩ []
def nu : Ex := .mk 1 0 ⟨#[]⟩ []
def t1 : List UInt8 := [97, 32, 43, 32, 49]
def t2 : List UInt8 := [49, 32, 47, 32, 48]
def t3 : List UInt8 := [102, 97, 108, 115, 101, 32, 38, 38, 32, 49]
def t4 : List UInt8 := [119]
def t5 : List UInt8 := [39, 97, 39, 32, 126, 32, 49, 32, 126, 32, 110, 117, 108, 108]
def x1 : Ex := nd 15 [va, it 1]
def x2 : Ex := nd 13 [it 1, it 0]
def x3 : Ex := nd 29 [fa, it 1]
def x4 : Ex := vw
def x5 : Ex := nd 17 [nd 17 [sa, it 1], nu]
theorem isx_eq {t : List UInt8} {x : Ex} (h : isx t x = true) : prs ⟨t.toArray⟩ = .ok x := by
 unfold isx at h
 cases hp : prs ⟨t.toArray⟩ with
 | error e => rw [hp] at h; cases h
 | ok y => rw [hp] at h; rw [eqx_eq _ _ _ h]
theorem p1 : prs ⟨t1.toArray⟩ = .ok x1 := isx_eq (by decide +kernel)
theorem p2 : prs ⟨t2.toArray⟩ = .ok x2 := isx_eq (by decide +kernel)
theorem p3 : prs ⟨t3.toArray⟩ = .ok x3 := isx_eq (by decide +kernel)
theorem p4 : prs ⟨t4.toArray⟩ = .ok x4 := isx_eq (by decide +kernel)
theorem p5 : prs ⟨t5.toArray⟩ = .ok x5 := isx_eq (by decide +kernel)
def bs2 : List Bn := [(⟨#[97]⟩, intC 1), (⟨#[97]⟩, intC 2)]
theorem tg0 : Pure.tg ⟨#[]⟩ = true := by
 have h : UBase.verr ⟨#[]⟩ = 0 := by
  unfold UBase.verr
  rw [UBase.bad_end (by decide)]
  rfl
 simp [Pure.tg, h]
 decide
theorem code_int (i : Int) : code (intC i) = 0 := by
 have h : Fault.fm (intC i) = true := by simp [Fault.fm, intC, Pure.pu, tg0, C.k, C.b, C.i, C.s, C.n, C.l]
 have hk : (intC i).k = 3 := rfl
 have hp : Walk.pl 1 (intC i) = [(1, intC i)] := by simp [intC, Walk.pl, Walk.plL]
 have hf : Fault.ft (intC i) 1 1 = 0 := by simp [Fault.ft, h, hk]
 unfold code
 rw [hp]
 simp [Measure.ms, hf]
theorem bad2 : bad bs2 = false := by simp [bad, bs2, code_int]
theorem dep2 : ∀ b ∈ bs2, Shallow.dep b.2 ≤ 4097 := by
 intro b hb
 simp only [bs2, List.mem_cons, List.not_mem_nil, or_false] at hb
 rcases hb with rfl | rfl <;> simp [Shallow.dep, Shallow.depL, intC]
theorem rho_a : rho bs2 ⟨#[97]⟩ = some (intC 2) := by simp [rho, bs2]
theorem rho_w : rho bs2 ⟨#[119]⟩ = none := by simp [rho, bs2]
theorem e1 : ev (rho bs2) x1 = .ok (intC 3) := by
 have h1 : Sums.inR 3 = true := by decide
 simp [ev, Ex.o, Ex.l, x1, nd, va, it, evL, node, rho_a, bnd, snd2, pr2, numb, wh, intC, C.k, C.i, twI, chkI, mapI, Sums.num, Sums.err, h1]
theorem e2 : ev (rho bs2) x2 = .error 1103 := by
 simp [ev, Ex.o, Ex.l, x2, nd, it, evL, node, bnd, snd2, pr2, numb, wh, intC, C.k, C.i, twI, chkI, mapI, WhA.dnum, WhA.derr]
theorem e3 : ev (rho bs2) x3 = .ok (booC false) := by
 simp [ev, Ex.o, Ex.l, x3, nd, fa, it, evL, node, bnd, isT, booC, C.k, C.b]
theorem e4 : ev (rho bs2) x4 = .error 1100 := by
 simp [ev, Ex.o, Ex.s, x4, vw, node, rho_w]
theorem e5 : ev (rho bs2) x5 = .ok (strC ⟨#[97, 49]⟩) := by
 have h1 : (Lib.itoa 1) = [49] := by decide +kernel
 have h2 : ¬ 4096 < (⟨#[97]⟩ : ByteArray).size + (⟨#[49]⟩ : ByteArray).size := by decide
 have h3 : (⟨#[97]⟩ : ByteArray) ++ (⟨#[49]⟩ : ByteArray) = ⟨#[97, 49]⟩ := by decide
 have h4 : ¬ 4096 < (⟨#[97, 49]⟩ : ByteArray).size + (⟨#[]⟩ : ByteArray).size := by decide
 have h5 : (⟨#[97, 49]⟩ : ByteArray) ++ (⟨#[]⟩ : ByteArray) = ⟨#[97, 49]⟩ := by decide
 simp [ev, Ex.o, Ex.l, x5, nd, sa, it, nu, evL, node, bnd, snd2, pr2, cat, txt, strC, intC, nulC, TextKey.te, TextKey.tx, h1, h2, h3, h4, h5]
theorem o1 : ops okOp x1 := by simp [ops, Ex.o, Ex.l, opsL, okOp, x1, nd, va, it]
theorem o2 : ops okOp x2 := by simp [ops, Ex.o, Ex.l, opsL, okOp, x2, nd, it]
theorem o3 : ops okOp x3 := by simp [ops, Ex.o, Ex.l, opsL, okOp, x3, nd, fa, it]
theorem o4 : ops okOp x4 := by simp [ops, Ex.o, Ex.l, opsL, okOp, x4, vw]
theorem o5 : ops okOp x5 := by simp [ops, Ex.o, Ex.l, opsL, okOp, x5, nd, sa, it, nu]
theorem hx97 : PFit.ft 5 0 ⟨#[97]⟩ = true := by
 have hv : UBase.verr ⟨#[97]⟩ = 0 := by
  have h1 : UBase.len ⟨#[97]⟩ 0 = 1 := by decide
  unfold UBase.verr
  rw [UBase.bad_step (by decide) (by rw [h1]; decide), h1, UBase.bad_end (by decide)]
  rfl
 have htx : PFit.tx ⟨#[97]⟩ = true := by
  unfold PFit.tx PFit.tg
  rw [hv]
  decide
 show ((0 : Int) == 0 && PFit.tx ⟨#[97]⟩) = true
 rw [htx]; rfl
theorem fa6 : PFit.ft 6 0 ⟨#[97]⟩ = true := by decide +kernel
theorem fw6 : PFit.ft 6 0 ⟨#[119]⟩ = true := by decide +kernel
theorem f41 : PFit.ft 4 1 ⟨#[]⟩ = true := by decide +kernel
theorem f40 : PFit.ft 4 0 ⟨#[]⟩ = true := by decide +kernel
theorem f1 : PFit.ft 1 0 ⟨#[]⟩ = true := by decide
theorem f2 : PFit.ft 2 0 ⟨#[]⟩ = true := by decide
theorem f15 : PFit.ft 15 0 ⟨#[]⟩ = true := by decide
theorem f13 : PFit.ft 13 0 ⟨#[]⟩ = true := by decide
theorem f17 : PFit.ft 17 0 ⟨#[]⟩ = true := by decide
theorem f29 : PFit.ft 29 0 ⟨#[]⟩ = true := by decide
theorem k15 : PPl.kd 15 = 2 := by decide
theorem k13 : PPl.kd 13 = 2 := by decide
theorem k17 : PPl.kd 17 = 2 := by decide
theorem k29 : PPl.kd 29 = 2 := by decide
theorem k6 : PPl.kd 6 = 0 := by decide
theorem k5 : PPl.kd 5 = 0 := by decide
theorem k4 : PPl.kd 4 = 0 := by decide
theorem k2 : PPl.kd 2 = 0 := by decide
theorem k1 : PPl.kd 1 = 0 := by decide
theorem m1 : may x1 = true := by simp [may, x1, nd, va, it, mayL, f15, fa6, f41, k15, k6, k4]
theorem m2 : may x2 = true := by simp [may, x2, nd, it, mayL, f13, f40, f41, k13, k4]
theorem m3 : may x3 = true := by simp [may, x3, nd, fa, it, mayL, f29, f2, f41, k29, k2, k4]
theorem m4 : may x4 = true := by simp [may, x4, vw, mayL, fw6, k6]
theorem m5 : may x5 = true := by simp [may, x5, nd, sa, it, nu, mayL, f17, hx97, f41, f1, k17, k5, k4, k1]
end Go.Proofs.YtghnhkagkngjcaaGreatDoor.VAp
namespace Go.Proofs.YtghnhkagkngjcaaGreatDoor.VAw
open Go.RowKit Base EPure VPure VSm VMp VNo VVa VEv VOf VAp Fresh
theorem int_c (i : Int) (w : World) : Calls Tryz.prog 19 #[.int .i64 i] w fun e w' => e = .returned (vl 3 false i ⟨#[]⟩ (.slice none 0 0) (.slice none 0 0)) ∧ Below w.heap.size w w' := by
 obtain ⟨W0, hW0⟩ : ∃ W0, w.alloc (.cells #[.int .i64 0, .bool false, .int .i64 0, .string ⟨#[]⟩, .slice none 0 0, .slice none 0 0] 40) = W0 := ⟨_, rfl⟩
 have hz : W0.heap[w.heap.size]? = some (.cells #[.int .i64 0, .bool false, .int .i64 0, .string ⟨#[]⟩, .slice none 0 0, .slice none 0 0] 40 (0, 0)) := by rw [← hW0]; exact heap_alloc_new _ _
 have hb0 : Below w.heap.size w W0 := by rw [← hW0]; exact (Below.refl _ w).alloc (Nat.le_refl _) _
 obtain ⟨n0, n1, n2, n3, n4, n5⟩ := six_box hz
 have f0 := frozen_box hz 0
 have f1 := frozen_box hz 1
 have f2 := frozen_box hz 2
 have f3 := frozen_box hz 3
 have f4 := frozen_box hz 4
 have f5 := frozen_box hz 5
 obtain ⟨W1, hW1⟩ : ∃ W1, (((((W0.setCell ⟨w.heap.size, 0, none⟩ (.int .i64 3)).setCell ⟨w.heap.size, 1, none⟩ (.bool false)).setCell ⟨w.heap.size, 2, none⟩ (.int .i64 i)).setCell ⟨w.heap.size, 3, none⟩ (.string ⟨#[]⟩)).setCell ⟨w.heap.size, 4, none⟩ (.slice none 0 0)).setCell ⟨w.heap.size, 5, none⟩ (.slice none 0 0) = W1 := ⟨_, rfl⟩
 obtain ⟨a1, a2, a3, a4⟩ := set6 _ _ _ _ _ _ hz hW1
 obtain ⟨g0, g1, g2, g3, g4, g5⟩ := six_box a1
 have HB : Hid (Below w.heap.size w W1) := a4 _ _ (Nat.le_refl _) hb0
 clear hz hb0 a1 a2 a3 a4
 go_enter Tryz.func19, Tryz.ntmps19
 go_wp2_with fail
 refine bodyPost_ret (v := vl 3 false i ⟨#[]⟩ (.slice none 0 0) (.slice none 0 0)) (by simp [results, Tryz.results19, go_sem, g0, g1, g2, g3, g4, g5]) rfl ?_
 exact ⟨rfl, HB.out⟩
theorem env2 {w : World} {G m : Nat} {s t : ByteArray} {i j : Int} (hs : s.size ≤ 140737488351232) (ht : t.size ≤ 140737488351232) (hi : -9223372036854775808 ≤ i ∧ i ≤ 9223372036854775807) (hj : -9223372036854775808 ≤ j ∧ j ≤ 9223372036854775807) {T : TypeId}
  (h : w.heap[G]? = some (.cells #[.string s, .int .i64 3, .bool false, .int .i64 i, .string ⟨#[]⟩, .slice none 0 0, .slice none 0 0, .string t, .int .i64 3, .bool false, .int .i64 j, .string ⟨#[]⟩, .slice none 0 0, .slice none 0 0] T (0, 0))) :
  Bl (G + 1) (m + 1) w (.slice (some ⟨G, 0, none⟩) 2 2) [(s, intC i), (t, intC j)] := by
 have hc : ∀ q, q < 14 → w.cell? ⟨G, q, none⟩ = (#[.string s, .int .i64 3, .bool false, .int .i64 i, .string ⟨#[]⟩, .slice none 0 0, .slice none 0 0, .string t, .int .i64 3, .bool false, .int .i64 j, .string ⟨#[]⟩, .slice none 0 0, .slice none 0 0] : Array Value)[q]? := fun q hq => by
  simp [World.cell?, h]
 refine ⟨some ⟨G, 0, none⟩, 2, rfl, by simp, by decide, (fun e => by cases e), by simp, fun b hb => ?_, .inr ⟨G, 0, rfl, Nat.lt_succ_self _, fun q hq => ?_⟩⟩
 ·simp only [List.mem_cons, List.not_mem_nil, or_false] at hb
  rcases hb with rfl | rfl
  ·exact hs
  ·exact ht
 ·have : q = 0 ∨ q = 1 := by simp at hq; omega
  rcases this with rfl | rfl
  ·exact ⟨none, 0, 0, none, 0, 0, hc 0 (by decide), hc 1 (by decide), hc 2 (by decide), hc 3 (by decide), hc 4 (by decide), hc 5 (by decide), hc 6 (by decide), VRs.in_int _ _ _ hi⟩
  ·exact ⟨none, 0, 0, none, 0, 0, hc 7 (by decide), hc 8 (by decide), hc 9 (by decide), hc 10 (by decide), hc 11 (by decide), hc 12 (by decide), hc 13 (by decide), VRs.in_int _ _ _ hj⟩
set_option maxHeartbeats 6400000 in
theorem awake_c {w : World} (hT : TX w) : Calls Tryz.prog 11 #[] w fun e w' => e = .returned (.bool true) ∧ Below w.heap.size w w' := by
 have HT : Hid (TX w) := hT
 have c1 := int_c 1
 have c2 := int_c 2
 clear hT
 go_enter Tryz.func11, Tryz.ntmps11
 go_wp2_with (first | (go_at_call 19; first | (refine (c1 _).mono ?_; rintro e W1 ⟨rfl, hb1⟩) | (refine (c2 _).mono ?_; rintro e W2 ⟨rfl, hb2⟩)))
 have hB2 : Below w.heap.size w W2 := hb1.trans (hb2.mono hb1.size)
 obtain ⟨V0, hV0⟩ : ∃ V0, W2.alloc (.cells #[.string ⟨#[97]⟩, .int .i64 3, .bool false, .int .i64 1, .string ⟨#[]⟩, .slice none 0 0, .slice none 0 0, .string ⟨#[97]⟩, .int .i64 3, .bool false, .int .i64 2, .string ⟨#[]⟩, .slice none 0 0, .slice none 0 0] 43) = V0 := ⟨_, rfl⟩
 have hz : V0.heap[W2.heap.size]? = some (.cells #[.string ⟨#[97]⟩, .int .i64 3, .bool false, .int .i64 1, .string ⟨#[]⟩, .slice none 0 0, .slice none 0 0, .string ⟨#[97]⟩, .int .i64 3, .bool false, .int .i64 2, .string ⟨#[]⟩, .slice none 0 0, .slice none 0 0] 43 (0, 0)) := by rw [← hV0]; exact heap_alloc_new _ _
 have hv0 : Below W2.heap.size W2 V0 := by rw [← hV0]; exact (Below.refl _ _).alloc (Nat.le_refl _) _
 have s0 : V0.heap.size = W2.heap.size + 1 := by rw [← hV0]; simp
 have HB0 : Hid (Below w.heap.size w V0) := hB2.trans (hv0.mono hB2.size)
 have HE0 : Hid (Bl (W2.heap.size + 1) 1 V0 (.slice (some ⟨W2.heap.size, 0, none⟩) 2 2) bs2) := env2 (by decide) (by decide) (by decide) (by decide) hz
 rw [hV0]
 clear hz hv0 hB2 hb1 hb2 hV0 c1 c2
 have cE : Calls Tryz.prog 20 #[.string ⟨t1.toArray⟩, .slice (some ⟨W2.heap.size, 0, none⟩) 2 2] V0 fun e w' => EV 1 V0 (intC 3) 0 e w' := by
  have h := of_c (m := 0) (s := ⟨t1.toArray⟩) (by decide) p1 HE0.out (by omega) dep2 (HT.out.later HB0.out) m1 bad2 o1
  rw [e1] at h
  exact h
 refine cE.mono ?_
 rintro e X1 ⟨hx, u1, rfl, hfr⟩
 have sx1 := hx.size
 obtain ⟨un1, ul1, uc1, ua1, ub1, ud1, hu⟩ := VRs.in_shape hfr.in
 have hu' : u1 = vl 3 false 3 ⟨#[]⟩ (.slice un1 ul1 uc1) (.slice ua1 ub1 ud1) := hu
 subst hu'
 have HX : Hid (Below V0.heap.size V0 X1) := hx
 clear hu hfr cE hx
 obtain ⟨Y, hY⟩ : ∃ Y, X1.alloc (.cells #[.int .i64 0, .bool false, .int .i64 0, .string ⟨#[]⟩, .slice none 0 0, .slice none 0 0] 40) = Y := ⟨_, rfl⟩
 have hz : Y.heap[X1.heap.size]? = some (.cells #[.int .i64 0, .bool false, .int .i64 0, .string ⟨#[]⟩, .slice none 0 0, .slice none 0 0] 40 (0, 0)) := by rw [← hY]; exact heap_alloc_new _ _
 have hby : Below X1.heap.size X1 Y := by rw [← hY]; exact (Below.refl _ _).alloc (Nat.le_refl _) _
 obtain ⟨n0, n1, n2, n3, n4, n5⟩ := six_box hz
 have nf0 := frozen_box hz 0
 have nf1 := frozen_box hz 1
 have nf2 := frozen_box hz 2
 have nf3 := frozen_box hz 3
 have nf4 := frozen_box hz 4
 have nf5 := frozen_box hz 5
 obtain ⟨V1, hV1⟩ : ∃ V1, ((((((Y.setCell ⟨X1.heap.size, 0, none⟩ (.int .i64 3)).setCell ⟨X1.heap.size, 1, none⟩ (.bool false)).setCell ⟨X1.heap.size, 2, none⟩ (.int .i64 3)).setCell ⟨X1.heap.size, 3, none⟩ (.string ⟨#[]⟩)).setCell ⟨X1.heap.size, 4, none⟩ (.slice un1 ul1 uc1)).setCell ⟨X1.heap.size, 5, none⟩ (.slice ua1 ub1 ud1)) = V1 := ⟨_, rfl⟩
 obtain ⟨a1, a2, a3, a4⟩ := set6 _ _ _ _ _ _ hz hV1
 have hbv : Below X1.heap.size X1 V1 := a4 _ _ (Nat.le_refl _) hby
 have s1 := hbv.size
 have HA1_1 : Hid (V1.heap[X1.heap.size]? = some _) := a1
 have l1 := (Array.getElem?_eq_some_iff.1 a1).1
 have HV : Hid (Below V0.heap.size V0 V1) := HX.out.trans (hbv.mono HX.out.size)
 have HB1 : Hid (Below w.heap.size w V1) := HB0.out.trans (HV.out.mono HB0.out.size)
 have HE1 : Hid (Bl (W2.heap.size + 1) 1 V1 (.slice (some ⟨W2.heap.size, 0, none⟩) 2 2) bs2) := HE0.out.low (HV.out.mono (by omega))
 clear hz hby a1 a2 a3 a4 hbv HX HV HB0 HE0
 go_wp2_with fail
 clear n0 n1 n2 n3 n4 n5 nf0 nf1 nf2 nf3 nf4 nf5 hY hV1
 have cE : Calls Tryz.prog 20 #[.string ⟨t2.toArray⟩, .slice (some ⟨W2.heap.size, 0, none⟩) 2 2] V1 fun e w' => EV 1 V1 (zerC) 1103 e w' := by
  have h := of_c (m := 0) (s := ⟨t2.toArray⟩) (by decide) p2 HE1.out (by omega) dep2 (HT.out.later HB1.out) m2 bad2 o2
  rw [e2] at h
  exact h
 refine cE.mono ?_
 rintro e X2 ⟨hx, u2, rfl, hfr⟩
 have sx2 := hx.size
 obtain ⟨un2, ul2, uc2, ua2, ub2, ud2, hu⟩ := VRs.in_shape hfr.in
 have hu' : u2 = vl 0 false 0 ⟨#[]⟩ (.slice un2 ul2 uc2) (.slice ua2 ub2 ud2) := hu
 subst hu'
 have HX : Hid (Below V1.heap.size V1 X2) := hx
 clear hu hfr cE hx
 obtain ⟨Y, hY⟩ : ∃ Y, X2.alloc (.cells #[.int .i64 0, .bool false, .int .i64 0, .string ⟨#[]⟩, .slice none 0 0, .slice none 0 0] 40) = Y := ⟨_, rfl⟩
 have hz : Y.heap[X2.heap.size]? = some (.cells #[.int .i64 0, .bool false, .int .i64 0, .string ⟨#[]⟩, .slice none 0 0, .slice none 0 0] 40 (0, 0)) := by rw [← hY]; exact heap_alloc_new _ _
 have hby : Below X2.heap.size X2 Y := by rw [← hY]; exact (Below.refl _ _).alloc (Nat.le_refl _) _
 obtain ⟨n0, n1, n2, n3, n4, n5⟩ := six_box hz
 have nf0 := frozen_box hz 0
 have nf1 := frozen_box hz 1
 have nf2 := frozen_box hz 2
 have nf3 := frozen_box hz 3
 have nf4 := frozen_box hz 4
 have nf5 := frozen_box hz 5
 obtain ⟨V2, hV2⟩ : ∃ V2, ((((((Y.setCell ⟨X2.heap.size, 0, none⟩ (.int .i64 0)).setCell ⟨X2.heap.size, 1, none⟩ (.bool false)).setCell ⟨X2.heap.size, 2, none⟩ (.int .i64 0)).setCell ⟨X2.heap.size, 3, none⟩ (.string ⟨#[]⟩)).setCell ⟨X2.heap.size, 4, none⟩ (.slice un2 ul2 uc2)).setCell ⟨X2.heap.size, 5, none⟩ (.slice ua2 ub2 ud2)) = V2 := ⟨_, rfl⟩
 obtain ⟨a1, a2, a3, a4⟩ := set6 _ _ _ _ _ _ hz hV2
 have hbv : Below X2.heap.size X2 V2 := a4 _ _ (Nat.le_refl _) hby
 have s2 := hbv.size
 have HA2_2 : Hid (V2.heap[X2.heap.size]? = some _) := a1
 have l2 := (Array.getElem?_eq_some_iff.1 a1).1
 have HV : Hid (Below V1.heap.size V1 V2) := HX.out.trans (hbv.mono HX.out.size)
 have HB2 : Hid (Below w.heap.size w V2) := HB1.out.trans (HV.out.mono HB1.out.size)
 have HE2 : Hid (Bl (W2.heap.size + 1) 1 V2 (.slice (some ⟨W2.heap.size, 0, none⟩) 2 2) bs2) := HE1.out.low (HV.out.mono (by omega))
 have HA1_2 : Hid (V2.heap[X1.heap.size]? = some _) := (HV.out.block _ (by omega)).trans HA1_1.out
 clear hz hby a1 a2 a3 a4 hbv HX HV HB1 HE1
 go_wp2_with fail
 clear n0 n1 n2 n3 n4 n5 nf0 nf1 nf2 nf3 nf4 nf5 hY hV2
 have cE : Calls Tryz.prog 20 #[.string ⟨t3.toArray⟩, .slice (some ⟨W2.heap.size, 0, none⟩) 2 2] V2 fun e w' => EV 1 V2 (booC false) 0 e w' := by
  have h := of_c (m := 0) (s := ⟨t3.toArray⟩) (by decide) p3 HE2.out (by omega) dep2 (HT.out.later HB2.out) m3 bad2 o3
  rw [e3] at h
  exact h
 refine cE.mono ?_
 rintro e X3 ⟨hx, u3, rfl, hfr⟩
 have sx3 := hx.size
 obtain ⟨un3, ul3, uc3, ua3, ub3, ud3, hu⟩ := VRs.in_shape hfr.in
 have hu' : u3 = vl 2 false 0 ⟨#[]⟩ (.slice un3 ul3 uc3) (.slice ua3 ub3 ud3) := hu
 subst hu'
 have HX : Hid (Below V2.heap.size V2 X3) := hx
 clear hu hfr cE hx
 obtain ⟨Y, hY⟩ : ∃ Y, X3.alloc (.cells #[.int .i64 0, .bool false, .int .i64 0, .string ⟨#[]⟩, .slice none 0 0, .slice none 0 0] 40) = Y := ⟨_, rfl⟩
 have hz : Y.heap[X3.heap.size]? = some (.cells #[.int .i64 0, .bool false, .int .i64 0, .string ⟨#[]⟩, .slice none 0 0, .slice none 0 0] 40 (0, 0)) := by rw [← hY]; exact heap_alloc_new _ _
 have hby : Below X3.heap.size X3 Y := by rw [← hY]; exact (Below.refl _ _).alloc (Nat.le_refl _) _
 obtain ⟨n0, n1, n2, n3, n4, n5⟩ := six_box hz
 have nf0 := frozen_box hz 0
 have nf1 := frozen_box hz 1
 have nf2 := frozen_box hz 2
 have nf3 := frozen_box hz 3
 have nf4 := frozen_box hz 4
 have nf5 := frozen_box hz 5
 obtain ⟨V3, hV3⟩ : ∃ V3, ((((((Y.setCell ⟨X3.heap.size, 0, none⟩ (.int .i64 2)).setCell ⟨X3.heap.size, 1, none⟩ (.bool false)).setCell ⟨X3.heap.size, 2, none⟩ (.int .i64 0)).setCell ⟨X3.heap.size, 3, none⟩ (.string ⟨#[]⟩)).setCell ⟨X3.heap.size, 4, none⟩ (.slice un3 ul3 uc3)).setCell ⟨X3.heap.size, 5, none⟩ (.slice ua3 ub3 ud3)) = V3 := ⟨_, rfl⟩
 obtain ⟨a1, a2, a3, a4⟩ := set6 _ _ _ _ _ _ hz hV3
 have hbv : Below X3.heap.size X3 V3 := a4 _ _ (Nat.le_refl _) hby
 have s3 := hbv.size
 have HA3_3 : Hid (V3.heap[X3.heap.size]? = some _) := a1
 have l3 := (Array.getElem?_eq_some_iff.1 a1).1
 have HV : Hid (Below V2.heap.size V2 V3) := HX.out.trans (hbv.mono HX.out.size)
 have HB3 : Hid (Below w.heap.size w V3) := HB2.out.trans (HV.out.mono HB2.out.size)
 have HE3 : Hid (Bl (W2.heap.size + 1) 1 V3 (.slice (some ⟨W2.heap.size, 0, none⟩) 2 2) bs2) := HE2.out.low (HV.out.mono (by omega))
 have HA1_3 : Hid (V3.heap[X1.heap.size]? = some _) := (HV.out.block _ (by omega)).trans HA1_2.out
 clear hz hby a1 a2 a3 a4 hbv HX HV HB2 HE2
 go_wp2_with fail
 clear n0 n1 n2 n3 n4 n5 nf0 nf1 nf2 nf3 nf4 nf5 hY hV3
 have cE : Calls Tryz.prog 20 #[.string ⟨t4.toArray⟩, .slice (some ⟨W2.heap.size, 0, none⟩) 2 2] V3 fun e w' => EV 1 V3 (zerC) 1100 e w' := by
  have h := of_c (m := 0) (s := ⟨t4.toArray⟩) (by decide) p4 HE3.out (by omega) dep2 (HT.out.later HB3.out) m4 bad2 o4
  rw [e4] at h
  exact h
 refine cE.mono ?_
 rintro e X4 ⟨hx, u4, rfl, hfr⟩
 have sx4 := hx.size
 obtain ⟨un4, ul4, uc4, ua4, ub4, ud4, hu⟩ := VRs.in_shape hfr.in
 have hu' : u4 = vl 0 false 0 ⟨#[]⟩ (.slice un4 ul4 uc4) (.slice ua4 ub4 ud4) := hu
 subst hu'
 have HX : Hid (Below V3.heap.size V3 X4) := hx
 clear hu hfr cE hx
 obtain ⟨Y, hY⟩ : ∃ Y, X4.alloc (.cells #[.int .i64 0, .bool false, .int .i64 0, .string ⟨#[]⟩, .slice none 0 0, .slice none 0 0] 40) = Y := ⟨_, rfl⟩
 have hz : Y.heap[X4.heap.size]? = some (.cells #[.int .i64 0, .bool false, .int .i64 0, .string ⟨#[]⟩, .slice none 0 0, .slice none 0 0] 40 (0, 0)) := by rw [← hY]; exact heap_alloc_new _ _
 have hby : Below X4.heap.size X4 Y := by rw [← hY]; exact (Below.refl _ _).alloc (Nat.le_refl _) _
 obtain ⟨n0, n1, n2, n3, n4, n5⟩ := six_box hz
 have nf0 := frozen_box hz 0
 have nf1 := frozen_box hz 1
 have nf2 := frozen_box hz 2
 have nf3 := frozen_box hz 3
 have nf4 := frozen_box hz 4
 have nf5 := frozen_box hz 5
 obtain ⟨V4, hV4⟩ : ∃ V4, ((((((Y.setCell ⟨X4.heap.size, 0, none⟩ (.int .i64 0)).setCell ⟨X4.heap.size, 1, none⟩ (.bool false)).setCell ⟨X4.heap.size, 2, none⟩ (.int .i64 0)).setCell ⟨X4.heap.size, 3, none⟩ (.string ⟨#[]⟩)).setCell ⟨X4.heap.size, 4, none⟩ (.slice un4 ul4 uc4)).setCell ⟨X4.heap.size, 5, none⟩ (.slice ua4 ub4 ud4)) = V4 := ⟨_, rfl⟩
 obtain ⟨a1, a2, a3, a4⟩ := set6 _ _ _ _ _ _ hz hV4
 have hbv : Below X4.heap.size X4 V4 := a4 _ _ (Nat.le_refl _) hby
 have s4 := hbv.size
 have HA4_4 : Hid (V4.heap[X4.heap.size]? = some _) := a1
 have l4 := (Array.getElem?_eq_some_iff.1 a1).1
 have HV : Hid (Below V3.heap.size V3 V4) := HX.out.trans (hbv.mono HX.out.size)
 have HB4 : Hid (Below w.heap.size w V4) := HB3.out.trans (HV.out.mono HB3.out.size)
 have HE4 : Hid (Bl (W2.heap.size + 1) 1 V4 (.slice (some ⟨W2.heap.size, 0, none⟩) 2 2) bs2) := HE3.out.low (HV.out.mono (by omega))
 have HA1_4 : Hid (V4.heap[X1.heap.size]? = some _) := (HV.out.block _ (by omega)).trans HA1_3.out
 have HA3_4 : Hid (V4.heap[X3.heap.size]? = some _) := (HV.out.block _ (by omega)).trans HA3_3.out
 clear hz hby a1 a2 a3 a4 hbv HX HV HB3 HE3
 go_wp2_with fail
 clear n0 n1 n2 n3 n4 n5 nf0 nf1 nf2 nf3 nf4 nf5 hY hV4
 have cE : Calls Tryz.prog 20 #[.string ⟨t5.toArray⟩, .slice (some ⟨W2.heap.size, 0, none⟩) 2 2] V4 fun e w' => EV 1 V4 (strC ⟨#[97, 49]⟩) 0 e w' := by
  have h := of_c (m := 0) (s := ⟨t5.toArray⟩) (by decide) p5 HE4.out (by omega) dep2 (HT.out.later HB4.out) m5 bad2 o5
  rw [e5] at h
  exact h
 refine cE.mono ?_
 rintro e X5 ⟨hx, u5, rfl, hfr⟩
 have sx5 := hx.size
 obtain ⟨un5, ul5, uc5, ua5, ub5, ud5, hu⟩ := VRs.in_shape hfr.in
 have hu' : u5 = vl 4 false 0 ⟨#[97, 49]⟩ (.slice un5 ul5 uc5) (.slice ua5 ub5 ud5) := hu
 subst hu'
 have HX : Hid (Below V4.heap.size V4 X5) := hx
 clear hu hfr cE hx
 obtain ⟨Y, hY⟩ : ∃ Y, X5.alloc (.cells #[.int .i64 0, .bool false, .int .i64 0, .string ⟨#[]⟩, .slice none 0 0, .slice none 0 0] 40) = Y := ⟨_, rfl⟩
 have hz : Y.heap[X5.heap.size]? = some (.cells #[.int .i64 0, .bool false, .int .i64 0, .string ⟨#[]⟩, .slice none 0 0, .slice none 0 0] 40 (0, 0)) := by rw [← hY]; exact heap_alloc_new _ _
 have hby : Below X5.heap.size X5 Y := by rw [← hY]; exact (Below.refl _ _).alloc (Nat.le_refl _) _
 obtain ⟨n0, n1, n2, n3, n4, n5⟩ := six_box hz
 have nf0 := frozen_box hz 0
 have nf1 := frozen_box hz 1
 have nf2 := frozen_box hz 2
 have nf3 := frozen_box hz 3
 have nf4 := frozen_box hz 4
 have nf5 := frozen_box hz 5
 obtain ⟨V5, hV5⟩ : ∃ V5, ((((((Y.setCell ⟨X5.heap.size, 0, none⟩ (.int .i64 4)).setCell ⟨X5.heap.size, 1, none⟩ (.bool false)).setCell ⟨X5.heap.size, 2, none⟩ (.int .i64 0)).setCell ⟨X5.heap.size, 3, none⟩ (.string ⟨#[97, 49]⟩)).setCell ⟨X5.heap.size, 4, none⟩ (.slice un5 ul5 uc5)).setCell ⟨X5.heap.size, 5, none⟩ (.slice ua5 ub5 ud5)) = V5 := ⟨_, rfl⟩
 obtain ⟨a1, a2, a3, a4⟩ := set6 _ _ _ _ _ _ hz hV5
 have hbv : Below X5.heap.size X5 V5 := a4 _ _ (Nat.le_refl _) hby
 have s5 := hbv.size
 have HA5_5 : Hid (V5.heap[X5.heap.size]? = some _) := a1
 have l5 := (Array.getElem?_eq_some_iff.1 a1).1
 have HV : Hid (Below V4.heap.size V4 V5) := HX.out.trans (hbv.mono HX.out.size)
 have HB5 : Hid (Below w.heap.size w V5) := HB4.out.trans (HV.out.mono HB4.out.size)
 have HE5 : Hid (Bl (W2.heap.size + 1) 1 V5 (.slice (some ⟨W2.heap.size, 0, none⟩) 2 2) bs2) := HE4.out.low (HV.out.mono (by omega))
 have HA1_5 : Hid (V5.heap[X1.heap.size]? = some _) := (HV.out.block _ (by omega)).trans HA1_4.out
 have HA3_5 : Hid (V5.heap[X3.heap.size]? = some _) := (HV.out.block _ (by omega)).trans HA3_4.out
 clear hz hby a1 a2 a3 a4 hbv HX HV HB4 HE4
 obtain ⟨-, -, y0, -⟩ := six_box HA1_5.out
 obtain ⟨y1, -⟩ := six_box HA3_5.out
 obtain ⟨-, -, -, y2, -⟩ := six_box HA5_5.out
 go_wp2_with fail
 go_ret
 exact ⟨rfl, HB5.out⟩
end Go.Proofs.YtghnhkagkngjcaaGreatDoor.VAw
namespace Go.Proofs.YtghnhkagkngjcaaGreatDoor.VNp
open Go.RowKit Base EPure VSm VEv
open PMay (mayL)
def add1 (ns : List ByteArray) (o : Int) (s : ByteArray) : List ByteArray := if o = 6 then (if Lib.containsS ns s = true then ns else ns ++ [s]) else ns
def nmL : List ByteArray → List Ex → List ByteArray
 | ns, [] => ns
 | ns, .mk o i s l :: t => nmL (nmL (add1 ns o s) l) t
theorem nmL_nil (ns : List ByteArray) : nmL ns [] = ns := by rw [nmL]
theorem nmL_one (ns : List ByteArray) (o i : Int) (s : ByteArray) (l : List Ex) : nmL ns [.mk o i s l] = nmL (add1 ns o s) l := by rw [nmL, nmL]
theorem nmL_cons (ns : List ByteArray) (x : Ex) (t : List Ex) : nmL ns (x :: t) = nmL (nmL ns [x]) t := by
 obtain ⟨o, i, s, l⟩ := x
 rw [nmL_one, nmL]
theorem nmL_append : ∀ (l t : List Ex) (ns : List ByteArray), nmL ns (l ++ t) = nmL (nmL ns l) t
 | [], t, ns => by rw [nmL_nil]; rfl
 | x :: l, t, ns => by rw [List.cons_append, nmL_cons, nmL_append l t, ← nmL_cons]
def cntL : List Ex → Nat
 | [] => 0
 | .mk _ _ _ l :: t => 1 + cntL l + cntL t
theorem cntL_cons (x : Ex) (t : List Ex) : cntL (x :: t) = cntL [x] + cntL t := by
 obtain ⟨o, i, s, l⟩ := x
 simp only [cntL]
 omega
theorem cntL_append : ∀ (l t : List Ex), cntL (l ++ t) = cntL l + cntL t
 | [], t => by simp [cntL]
 | x :: l, t => by rw [List.cons_append, cntL_cons, cntL_append l t, cntL_cons x l]; omega
theorem add1_len (ns : List ByteArray) (o : Int) (s : ByteArray) : (add1 ns o s).length ≤ ns.length + 1 := by
 unfold add1
 split
 ·split
  ·omega
  ·simp
 ·omega
theorem nmL_len : ∀ (l : List Ex) (ns : List ByteArray), (nmL ns l).length ≤ ns.length + cntL l
 | [], ns => by rw [nmL_nil]; simp [cntL]
 | .mk o i s l :: t, ns => by
  rw [nmL, cntL]
  have h1 := nmL_len t (nmL (add1 ns o s) l)
  have h2 := nmL_len l (add1 ns o s)
  have h3 := add1_len ns o s
  omega
theorem cnt_may : ∀ (l : List Ex) (r : Nat), (mayL l r).1 = true → cntL l + (mayL l r).2 ≤ r
 | [], r, _ => by simp [mayL, cntL]
 | .mk o i s l :: t, r, h => by
  rw [mayL] at h ⊢
  by_cases hc : r = 0 ∨ (l.length : Int) ≠ PPl.kd o ∨ PFit.ft o i s = false
  ·rw [if_pos hc] at h; cases h
  ·rw [if_neg hc] at h ⊢
   have h1 := cnt_may l (r - 1)
   cases e : mayL l (r - 1) with
   | mk b r' =>
    rw [e] at h h1
    cases b with
    | false => cases h
    | true =>
     have h2 := cnt_may t r' h
     have h3 := h1 rfl
     simp only at h2 h3 ⊢
     rw [cntL]
     omega
theorem cnt_of {x : Ex} (h : may x = true) : cntL [x] ≤ 512 := by
 have := cnt_may [x] 512 h
 omega
theorem one_text (w : World) (t : ByteArray) : ∀ j u, [Value.string t][j]? = some u → (w.alloc (.cells #[.string t] 9)).cell? ((⟨w.heap.size, 0, none⟩ : Addr).add j) = some u := by
 intro j u hj
 match j, hj with
 | 0, hj =>
  simp only [List.getElem?_cons_zero, Option.some.injEq] at hj
  subst hj
  have e := heap_alloc_new w (.cells #[.string t] 9)
  show (w.alloc (.cells #[.string t] 9)).cell? ⟨w.heap.size, 0, none⟩ = _
  unfold World.cell?
  rw [e]
  rfl
 | j + 1, hj => simp at hj
theorem more {w : World} {K : Nat} {nv : Value} {ns : List ByteArray} (h : OwnT w K nv ns) (hK : K ≤ w.heap.size) (hn : ns.length ≤ 65536) (t : ByteArray) :
  ∃ g cap w3, (Builtin.append_ #[27, 27] 27 #[nv, .slice (some ⟨w.heap.size, 0, none⟩) 1 1]).run Tryz.prog (w.alloc (.cells #[.string t] 9)) = .ok (.slice (some ⟨g, 0, none⟩) (ns.length + 1) cap) w3 ∧ OwnT w3 K (.slice (some ⟨g, 0, none⟩) (ns.length + 1) cap) (ns ++ [t]) ∧ Below K w w3 ∧ w.heap.size ≤ w3.heap.size ∧ (∀ k, k < w.heap.size → nv.ownBlock ≠ some k → w3.heap[k]? = w.heap[k]?) ∧ (nv.ownBlock = some g ∨ w.heap.size ≤ g) := by
 obtain ⟨i0, hi0, hz0, hz1, hz2⟩ := info_parts info9
 have bA : Below w.heap.size w (w.alloc (.cells #[.string t] 9)) := (Below.refl _ w).alloc (Nat.le_refl _) _
 have hown2 : (w.alloc (.cells #[.string t] 9)).ownsRow K 9 1 nv ns.length (ns.map Value.string) := Fresh.own_keep h fun g hg => bA.block g (World.ownsRow.lt h g hg).2
 obtain ⟨nv', w3, hrun, hown3, hgrow, -, hat⟩ := run_append_own_at (P := Tryz.prog) (w.alloc (.cells #[.string t] 9)) K 27 27 9 i0 (.string ⟨#[]⟩) 1 16 Tryz.underlying27 hi0 hz0 hz1 hz2 rfl (by decide) _ _ _ hown2 ⟨w.heap.size, 0, none⟩ 1 1 [.string t] rfl (one_text w t) (fun u hu => by simp at hu; subst hu; rfl) (by unfold maxLen; omega) (by omega) (by simp; omega)
 obtain ⟨g, cap, rfl⟩ : ∃ g cap, nv' = .slice (some ⟨g, 0, none⟩) (ns.length + 1) cap := by
  rcases hown3.2 with ⟨_, e⟩ | ⟨g, cap, cur, e, _⟩
  ·omega
  ·exact ⟨g, cap, e⟩
 have hgs := hgrow.size
 rw [World.size_alloc] at hgs
 refine ⟨g, cap, w3, hrun, ?_, ?_, by omega, fun k hk hne => ?_, ?_⟩
 ·show w3.ownsRow _ _ _ _ _ _
  rw [List.length_append, List.map_append]
  exact hown3
 ·exact (bA.mono hK).grown hgrow (by simp; omega) (fun q hq => (World.ownsRow.lt hown2 q hq).1)
 ·exact (hgrow.block k (by simp; omega) (fun e => hne e.symm)).trans (bA.block k hk)
 ·rcases hat with e | e
  ·exact .inl (by rw [← e]; rfl)
  ·right
   have : g = (w.alloc (.cells #[.string t] 9)).heap.size := by simpa [Value.ownBlock] using e
   rw [this, World.size_alloc]
   omega
theorem list_app {ops : Array Oper} {Q : Exit → Act → World → Prop} {rest : List Oper} {o : Oper} {a : Act} {w w' : World} (hgd : o.guard = none) (s x : Operand) (t : TypeId) (ho : o.op = .call { callee := .builtin .append, args := #[s, x], argTypes := #[t, t] })
  {v v' : Value} {ad : Addr} {m c : Nat} (hs : a.eval s = v) (hx : a.eval x = .slice (some ad) m c) (hr : (Builtin.append_ #[t, t] o.type #[v, .slice (some ad) m c]).run Tryz.prog w = .ok v' w') (hk : wpList Tryz.prog ops Q rest (a.put o.dst v') w') : wpList Tryz.prog ops Q (o :: rest) a w :=
 wpList_plain hgd fun K hK => by
  unfold Oper.wp execOp
  simp only [ho, resolve, invoke, builtin, Sem.run_bind, Sem.run_pure, Result.andThen_ok, List.map_toArray, List.map_cons, List.map_nil, hs, hx, hr]
  exact hK _ _ hk
theorem among {w : World} {K : Nat} {nv : Value} {ns : List ByteArray} (h : OwnT w K nv ns) (hn : ns.length ≤ 65536) (s : ByteArray) :
  Calls Tryz.prog 22 #[nv, .string s] w fun e w' => e = .returned (.bool (Lib.containsS ns s)) ∧ w' = w := by
 have hh := h
 unfold OwnT World.ownsRow at hh
 rcases hh.2 with ⟨hv, e⟩ | ⟨g, cap, cur, hv, _⟩
 ·have : ns = [] := List.length_eq_zero_iff.1 e
  subst this
  subst hv
  have := Tryz.slices_Contains_string_empty none 0 s w
  exact this
 ·subst hv
  have := Tryz.slices_Contains_string g 0 ns.length cap ns s w (Nat.le_refl _) (by omega) (fun j hj => by
   rw [show ns.getD j ByteArray.empty = ns[j] by simp [hj]]
   exact ownT_cell h j hj)
  rw [List.take_length] at this
  exact this
end Go.Proofs.YtghnhkagkngjcaaGreatDoor.VNp
namespace Go.Proofs.YtghnhkagkngjcaaGreatDoor.VNm
open Go.RowKit Base EPure VSm VJn VVr VEv VNp
def Nx (K : Nat) (w : World) (ns : List ByteArray) (l : List Ex) (e : Ending) (w' : World) : Prop := ∃ nv, e = .returned nv ∧ OwnT w' K nv (nmL ns l) ∧ Below K w w'
def Nm (K n : Nat) : Prop := ∀ (w : World) (nv v : Value) (ns : List ByteArray) (x : Ex), OwnT w K nv ns → XBase.In false (fun b => b < K) w n v x → K ≤ w.heap.size → ns.length + cntL [x] ≤ 65536 → Calls Tryz.prog 15 #[nv, v] w fun e w' => Nx K w ns [x] e w'
theorem nm_zero {K n : Nat} (ih : Nm K n) {w : World} {nv : Value} {ns : List ByteArray} {o i : Int} {s : ByteArray} {a : Option Addr} {cap : Nat} {l : List Ex} (hown : OwnT w K nv ns) (hK : K ≤ w.heap.size) (hlc : l.length ≤ cap) (hcm : cap ≤ 9223372036854775807) (hL : XBase.LAt false (fun b => b < K) w n a cap l) (hc : ns.length + cntL l + 1 ≤ 65536) (ho : o ≠ 6) :
  Calls Tryz.prog 15 #[nv, xv o i s (.slice a l.length cap)] w fun e w' => Nx K w ns l e w' := by
 have ho6 : (o == 6) = false := by simpa using ho
 obtain ⟨W0, hW0⟩ : ∃ W0, w.alloc (.cells #[.int .i64 o, .int .i64 i, .string s, .slice a l.length cap] 24) = W0 := ⟨_, rfl⟩
 have hb0 : Below w.heap.size w W0 := by rw [← hW0]; exact (Below.refl _ w).alloc (Nat.le_refl _) _
 have hp : W0.heap[w.heap.size]? = some (.cells #[.int .i64 o, .int .i64 i, .string s, .slice a l.length cap] 24 (0, 0)) := by rw [← hW0]; exact heap_alloc_new w _
 obtain ⟨x0, x1, x2, x3⟩ := XBase.four_box hp
 have hs0 := hb0.size
 have HO0 : Hid (OwnT W0 K nv ns) := Fresh.own_keep hown fun g hg => hb0.block g (World.ownsRow.lt hown g hg).2
 have HB0 : Hid (Below K w W0) := hb0.mono hK
 have HN : Hid (∀ g, nv.ownBlock = some g → g < w.heap.size) := fun g hg => (World.ownsRow.lt hown g hg).2
 have HP : Hid (W0.heap[w.heap.size]? = some (.cells #[.int .i64 o, .int .i64 i, .string s, .slice a l.length cap] 24 (0, 0))) := hp
 have HI : Hid (Nm K n) := ih
 have HL : Hid (XBase.LAt false (fun b => b < K) w n a cap l) := hL
 have hlen : (l.length : Int) ≤ 9223372036854775807 := by omega
 clear ih hown hb0 hp hL
 go_enter Tryz.func15, Tryz.ntmps15
 go_wp2_with fail
 have HO : Hid (OwnT W0 K nv ns) := HO0.out
 have HB : Hid (Below K w W0) := HB0.out
 clear x0 x1 x2 x3 hW0
 go_loopw [0, 25] (fun nvk z wr => ∃ (q : Nat) (nvj : Value), nvj = nvk ∧ z = .int .i64 q ∧ q ≤ l.length ∧ OwnT wr K nvj (nmL ns (l.take q)) ∧ Below K w wr ∧ K ≤ wr.heap.size) (fun _ z _ => l.length - (intOf z).toNat)
 case atStart => exact ⟨0, _, rfl, rfl, by omega, by rw [List.take_zero, nmL_nil]; exact HO.out, HB.out, by omega⟩
 case round =>
  obtain ⟨q, nvj, rfl, rfl, hq, hown, hb, hsz⟩ := hrel
  by_cases hlt : q < l.length
  ·have hnl := nmL_len (l.take q) ns
   have hcl : cntL (l.take q) + cntL [l[q]] ≤ cntL l := by
    have := cntL_append (l.take q) (l.drop q)
    rw [List.take_append_drop, List.drop_eq_getElem_cons hlt, cntL_cons] at this
    omega
   have hnq : nmL ns (l.take (q + 1)) = nmL (nmL ns (l.take q)) [l[q]] := by rw [← nmL_append, List.take_append_getElem hlt]
   rcases HL.out with ⟨h, -⟩ | ⟨g, o0, rfl, hg, hk, -⟩
   ·rw [h] at hlt; simp at hlt
   ·obtain ⟨u, hu, hin⟩ := hk q hlt
    obtain ⟨n', lv, hn, hv, -, -, -, hlv⟩ := hin.shape
    obtain ⟨a', c', rfl, -⟩ := hlv
    obtain ⟨w0, w1, w2, w3, e, c0, c1, c2, c3⟩ := hu
    rw [hv] at e
    injection e with e
    simp only [Array.mk.injEq, List.cons.injEq, and_true] at e
    obtain ⟨rfl, rfl, rfl, rfl⟩ := e
    have kw : ∀ (q : Nat) (v : Value), w.cell? ⟨g, q, none⟩ = some v → wr.cell? ⟨g, q, none⟩ = some v := fun q v h => (World.cell?_of_block (w := w) (hb.block g hg)).trans h
    replace c0 : wr.cell? ⟨g, o0 + q * 4, none⟩ = some (.int .i64 l[q].o) := kw _ _ c0
    replace c1 : wr.cell? ⟨g, o0 + q * 4 + 1, none⟩ = some (.int .i64 l[q].i) := kw _ _ c1
    replace c2 : wr.cell? ⟨g, o0 + q * 4 + 2, none⟩ = some (.string l[q].s) := kw _ _ c2
    replace c3 : wr.cell? ⟨g, o0 + q * 4 + 3, none⟩ = some (.slice a' l[q].l.length c') := kw _ _ c3
    have hg2 : g < wr.heap.size := by omega
    rw [hv] at hin
    have hinr := XBase.In.keep (w := w) (w' := wr) (fun b hb' _ => hb.block b hb') hin
    have cK : ∀ W, Below wr.heap.size wr W → Calls Tryz.prog 15 #[nvj, xv l[q].o l[q].i l[q].s (.slice a' l[q].l.length c')] W fun e w' => Nx K W (nmL ns (l.take q)) [l[q]] e w' := fun W hW =>
     HI.out W nvj _ _ _ (Fresh.own_keep hown fun g hg => hW.block g (World.ownsRow.lt hown g hg).2) (XBase.In.keep (w := wr) (w' := W) (fun b hb' _ => hW.block b (Nat.lt_of_lt_of_le hb' hsz)) hinr) (Nat.le_trans hsz hW.size) (by omega)
    have HQ : Hid (nmL ns (l.take (q + 1)) = nmL (nmL ns (l.take q)) [l[q]]) := hnq
    clear hown hin hinr hk hnq hcl hnl kw hv HL
    generalize l[q].o = ko at *
    generalize l[q].i = ki at *
    generalize l[q].s = ks at *
    generalize l[q].l.length = kn at *
    go_wp2_with (first | (refine (cK _ ((Below.refl _ wr).alloc (Nat.le_refl _) _)).mono ?_; rintro e w2 ⟨nv2, rfl, ho2, hb2⟩))
    go_roundw
    case rel => exact ⟨q + 1, _, rfl, by go_num, by omega, by rw [HQ.out]; exact ho2, hb.trans ((((Below.refl _ wr).alloc (Nat.le_refl _) _).mono hsz).trans hb2), by have := hb2.size; simp at this; omega⟩
    case measure => simp only [intOf]; omega
  ·obtain rfl : q = l.length := by omega
   have hnlt : decide ((l.length : Int) < (l.length : Int)) = false := by simp
   rw [List.take_length] at hown
   have HW : Hid (OwnT wr K nvj (nmL ns l)) := hown
   clear hown HL
   go_wp2_with fail
   go_ret
   exact ⟨_, rfl, HW.out, hb⟩
theorem nm_old {K n : Nat} (ih : Nm K n) {w : World} {nv : Value} {ns : List ByteArray} {i : Int} {s : ByteArray} {a : Option Addr} {cap : Nat} {l : List Ex} (hown : OwnT w K nv ns) (hK : K ≤ w.heap.size) (hlc : l.length ≤ cap) (hcm : cap ≤ 9223372036854775807) (hL : XBase.LAt false (fun b => b < K) w n a cap l) (hc : ns.length + cntL l + 1 ≤ 65536) (hi : Lib.containsS ns s = true) :
  Calls Tryz.prog 15 #[nv, xv 6 i s (.slice a l.length cap)] w fun e w' => Nx K w ns l e w' := by
 obtain ⟨W0, hW0⟩ : ∃ W0, w.alloc (.cells #[.int .i64 6, .int .i64 i, .string s, .slice a l.length cap] 24) = W0 := ⟨_, rfl⟩
 have hb0 : Below w.heap.size w W0 := by rw [← hW0]; exact (Below.refl _ w).alloc (Nat.le_refl _) _
 have hp : W0.heap[w.heap.size]? = some (.cells #[.int .i64 6, .int .i64 i, .string s, .slice a l.length cap] 24 (0, 0)) := by rw [← hW0]; exact heap_alloc_new w _
 obtain ⟨x0, x1, x2, x3⟩ := XBase.four_box hp
 have hs0 := hb0.size
 have HO0 : Hid (OwnT W0 K nv ns) := Fresh.own_keep hown fun g hg => hb0.block g (World.ownsRow.lt hown g hg).2
 have HB0 : Hid (Below K w W0) := hb0.mono hK
 have HN : Hid (∀ g, nv.ownBlock = some g → g < w.heap.size) := fun g hg => (World.ownsRow.lt hown g hg).2
 have HP : Hid (W0.heap[w.heap.size]? = some (.cells #[.int .i64 6, .int .i64 i, .string s, .slice a l.length cap] 24 (0, 0))) := hp
 have HI : Hid (Nm K n) := ih
 have HL : Hid (XBase.LAt false (fun b => b < K) w n a cap l) := hL
 have hlen : (l.length : Int) ≤ 9223372036854775807 := by omega
 have cM := among HO0.out (by omega) s
 rw [hi] at cM
 clear ih hown hb0 hp hL
 go_enter Tryz.func15, Tryz.ntmps15
 go_wp2_with (first | (go_at_call 22; (try rw [hW0]); refine cM.mono ?_; rintro e w2 ⟨rfl, hw2⟩; subst hw2))
 have HO : Hid (OwnT w2 K nv ns) := HO0.out
 have HB : Hid (Below K w w2) := HB0.out
 clear x0 x1 x2 x3 hW0
 go_loopw [0, 25] (fun nvk z wr => ∃ (q : Nat) (nvj : Value), nvj = nvk ∧ z = .int .i64 q ∧ q ≤ l.length ∧ OwnT wr K nvj (nmL ns (l.take q)) ∧ Below K w wr ∧ K ≤ wr.heap.size) (fun _ z _ => l.length - (intOf z).toNat)
 case atStart => exact ⟨0, _, rfl, rfl, by omega, by rw [List.take_zero, nmL_nil]; exact HO.out, HB.out, by omega⟩
 case round =>
  obtain ⟨q, nvj, rfl, rfl, hq, hown, hb, hsz⟩ := hrel
  by_cases hlt : q < l.length
  ·have hnl := nmL_len (l.take q) ns
   have hcl : cntL (l.take q) + cntL [l[q]] ≤ cntL l := by
    have := cntL_append (l.take q) (l.drop q)
    rw [List.take_append_drop, List.drop_eq_getElem_cons hlt, cntL_cons] at this
    omega
   have hnq : nmL ns (l.take (q + 1)) = nmL (nmL ns (l.take q)) [l[q]] := by rw [← nmL_append, List.take_append_getElem hlt]
   rcases HL.out with ⟨h, -⟩ | ⟨g, o0, rfl, hg, hk, -⟩
   ·rw [h] at hlt; simp at hlt
   ·obtain ⟨u, hu, hin⟩ := hk q hlt
    obtain ⟨n', lv, hn, hv, -, -, -, hlv⟩ := hin.shape
    obtain ⟨a', c', rfl, -⟩ := hlv
    obtain ⟨w0, w1, w2, w3, e, c0, c1, c2, c3⟩ := hu
    rw [hv] at e
    injection e with e
    simp only [Array.mk.injEq, List.cons.injEq, and_true] at e
    obtain ⟨rfl, rfl, rfl, rfl⟩ := e
    have kw : ∀ (q : Nat) (v : Value), w.cell? ⟨g, q, none⟩ = some v → wr.cell? ⟨g, q, none⟩ = some v := fun q v h => (World.cell?_of_block (w := w) (hb.block g hg)).trans h
    replace c0 : wr.cell? ⟨g, o0 + q * 4, none⟩ = some (.int .i64 l[q].o) := kw _ _ c0
    replace c1 : wr.cell? ⟨g, o0 + q * 4 + 1, none⟩ = some (.int .i64 l[q].i) := kw _ _ c1
    replace c2 : wr.cell? ⟨g, o0 + q * 4 + 2, none⟩ = some (.string l[q].s) := kw _ _ c2
    replace c3 : wr.cell? ⟨g, o0 + q * 4 + 3, none⟩ = some (.slice a' l[q].l.length c') := kw _ _ c3
    have hg2 : g < wr.heap.size := by omega
    rw [hv] at hin
    have hinr := XBase.In.keep (w := w) (w' := wr) (fun b hb' _ => hb.block b hb') hin
    have cK : ∀ W, Below wr.heap.size wr W → Calls Tryz.prog 15 #[nvj, xv l[q].o l[q].i l[q].s (.slice a' l[q].l.length c')] W fun e w' => Nx K W (nmL ns (l.take q)) [l[q]] e w' := fun W hW =>
     HI.out W nvj _ _ _ (Fresh.own_keep hown fun g hg => hW.block g (World.ownsRow.lt hown g hg).2) (XBase.In.keep (w := wr) (w' := W) (fun b hb' _ => hW.block b (Nat.lt_of_lt_of_le hb' hsz)) hinr) (Nat.le_trans hsz hW.size) (by omega)
    have HQ : Hid (nmL ns (l.take (q + 1)) = nmL (nmL ns (l.take q)) [l[q]]) := hnq
    clear hown hin hinr hk hnq hcl hnl kw hv HL
    generalize l[q].o = ko at *
    generalize l[q].i = ki at *
    generalize l[q].s = ks at *
    generalize l[q].l.length = kn at *
    go_wp2_with (first | (refine (cK _ ((Below.refl _ wr).alloc (Nat.le_refl _) _)).mono ?_; rintro e w2 ⟨nv2, rfl, ho2, hb2⟩))
    go_roundw
    case rel => exact ⟨q + 1, _, rfl, by go_num, by omega, by rw [HQ.out]; exact ho2, hb.trans ((((Below.refl _ wr).alloc (Nat.le_refl _) _).mono hsz).trans hb2), by have := hb2.size; simp at this; omega⟩
    case measure => simp only [intOf]; omega
  ·obtain rfl : q = l.length := by omega
   have hnlt : decide ((l.length : Int) < (l.length : Int)) = false := by simp
   rw [List.take_length] at hown
   have HW : Hid (OwnT wr K nvj (nmL ns l)) := hown
   clear hown HL
   go_wp2_with fail
   go_ret
   exact ⟨_, rfl, HW.out, hb⟩
theorem nm_new {K n : Nat} (ih : Nm K n) {w : World} {nv : Value} {ns : List ByteArray} {i : Int} {s : ByteArray} {a : Option Addr} {cap : Nat} {l : List Ex} (hown : OwnT w K nv ns) (hK : K ≤ w.heap.size) (hlc : l.length ≤ cap) (hcm : cap ≤ 9223372036854775807) (hL : XBase.LAt false (fun b => b < K) w n a cap l) (hc : ns.length + cntL l + 1 ≤ 65536) (hi : Lib.containsS ns s = false) :
  Calls Tryz.prog 15 #[nv, xv 6 i s (.slice a l.length cap)] w fun e w' => Nx K w (ns ++ [s]) l e w' := by
 obtain ⟨W0, hW0⟩ : ∃ W0, w.alloc (.cells #[.int .i64 6, .int .i64 i, .string s, .slice a l.length cap] 24) = W0 := ⟨_, rfl⟩
 have hb0 : Below w.heap.size w W0 := by rw [← hW0]; exact (Below.refl _ w).alloc (Nat.le_refl _) _
 have hp : W0.heap[w.heap.size]? = some (.cells #[.int .i64 6, .int .i64 i, .string s, .slice a l.length cap] 24 (0, 0)) := by rw [← hW0]; exact heap_alloc_new w _
 obtain ⟨x0, x1, x2, x3⟩ := XBase.four_box hp
 have hs0 := hb0.size
 have HO0 : Hid (OwnT W0 K nv ns) := Fresh.own_keep hown fun g hg => hb0.block g (World.ownsRow.lt hown g hg).2
 have HB0 : Hid (Below K w W0) := hb0.mono hK
 have HN : Hid (∀ g, nv.ownBlock = some g → g < w.heap.size) := fun g hg => (World.ownsRow.lt hown g hg).2
 have HP : Hid (W0.heap[w.heap.size]? = some (.cells #[.int .i64 6, .int .i64 i, .string s, .slice a l.length cap] 24 (0, 0))) := hp
 have HI : Hid (Nm K n) := ih
 have HL : Hid (XBase.LAt false (fun b => b < K) w n a cap l) := hL
 have hlen : (l.length : Int) ≤ 9223372036854775807 := by omega
 have cM := among HO0.out (by omega) s
 rw [hi] at cM
 obtain ⟨g3, cap3, w3, hrun, hown3, hb3, hs3, hoth, -⟩ := more HO0.out (by omega) (by omega) s
 have hp3 := (hoth w.heap.size (by rw [← hW0]; simp) (fun e => by have := HN.out _ e; omega)).trans HP.out
 obtain ⟨y0, y1, y2, y3⟩ := XBase.four_box hp3
 have HO3 : Hid (OwnT w3 K (.slice (some ⟨g3, 0, none⟩) (ns.length + 1) cap3) (ns ++ [s])) := hown3
 have HB3 : Hid (Below K w w3) := HB0.out.trans hb3
 clear hp3 hown3 hb3 hoth
 clear ih hown hb0 hp hL
 go_enter Tryz.func15, Tryz.ntmps15
 go_wp2_with (first | (go_at_call 22; (try rw [hW0]); refine cM.mono ?_; rintro e w2 ⟨rfl, hw2⟩; subst hw2) | (at_builtin; refine VNp.list_app rfl _ _ _ rfl rfl rfl hrun ?_))
 have HO : Hid (OwnT w3 K (.slice (some ⟨g3, 0, none⟩) (ns.length + 1) cap3) (ns ++ [s])) := HO3.out
 have HB : Hid (Below K w w3) := HB3.out
 have hnl1 : (ns ++ [s]).length = ns.length + 1 := by simp
 clear x0 x1 x2 x3 hW0
 go_loopw [0, 25] (fun nvk z wr => ∃ (q : Nat) (nvj : Value), nvj = nvk ∧ z = .int .i64 q ∧ q ≤ l.length ∧ OwnT wr K nvj (nmL (ns ++ [s]) (l.take q)) ∧ Below K w wr ∧ K ≤ wr.heap.size) (fun _ z _ => l.length - (intOf z).toNat)
 case atStart => exact ⟨0, _, rfl, rfl, by omega, by rw [List.take_zero, nmL_nil]; exact HO.out, HB.out, by omega⟩
 case round =>
  obtain ⟨q, nvj, rfl, rfl, hq, hown, hb, hsz⟩ := hrel
  by_cases hlt : q < l.length
  ·have hnl := nmL_len (l.take q) (ns ++ [s])
   have hcl : cntL (l.take q) + cntL [l[q]] ≤ cntL l := by
    have := cntL_append (l.take q) (l.drop q)
    rw [List.take_append_drop, List.drop_eq_getElem_cons hlt, cntL_cons] at this
    omega
   have hnq : nmL (ns ++ [s]) (l.take (q + 1)) = nmL (nmL (ns ++ [s]) (l.take q)) [l[q]] := by rw [← nmL_append, List.take_append_getElem hlt]
   rcases HL.out with ⟨h, -⟩ | ⟨g, o0, rfl, hg, hk, -⟩
   ·rw [h] at hlt; simp at hlt
   ·obtain ⟨u, hu, hin⟩ := hk q hlt
    obtain ⟨n', lv, hn, hv, -, -, -, hlv⟩ := hin.shape
    obtain ⟨a', c', rfl, -⟩ := hlv
    obtain ⟨w0, w1, w2, w3, e, c0, c1, c2, c3⟩ := hu
    rw [hv] at e
    injection e with e
    simp only [Array.mk.injEq, List.cons.injEq, and_true] at e
    obtain ⟨rfl, rfl, rfl, rfl⟩ := e
    have kw : ∀ (q : Nat) (v : Value), w.cell? ⟨g, q, none⟩ = some v → wr.cell? ⟨g, q, none⟩ = some v := fun q v h => (World.cell?_of_block (w := w) (hb.block g hg)).trans h
    replace c0 : wr.cell? ⟨g, o0 + q * 4, none⟩ = some (.int .i64 l[q].o) := kw _ _ c0
    replace c1 : wr.cell? ⟨g, o0 + q * 4 + 1, none⟩ = some (.int .i64 l[q].i) := kw _ _ c1
    replace c2 : wr.cell? ⟨g, o0 + q * 4 + 2, none⟩ = some (.string l[q].s) := kw _ _ c2
    replace c3 : wr.cell? ⟨g, o0 + q * 4 + 3, none⟩ = some (.slice a' l[q].l.length c') := kw _ _ c3
    have hg2 : g < wr.heap.size := by omega
    rw [hv] at hin
    have hinr := XBase.In.keep (w := w) (w' := wr) (fun b hb' _ => hb.block b hb') hin
    have cK : ∀ W, Below wr.heap.size wr W → Calls Tryz.prog 15 #[nvj, xv l[q].o l[q].i l[q].s (.slice a' l[q].l.length c')] W fun e w' => Nx K W (nmL (ns ++ [s]) (l.take q)) [l[q]] e w' := fun W hW =>
     HI.out W nvj _ _ _ (Fresh.own_keep hown fun g hg => hW.block g (World.ownsRow.lt hown g hg).2) (XBase.In.keep (w := wr) (w' := W) (fun b hb' _ => hW.block b (Nat.lt_of_lt_of_le hb' hsz)) hinr) (Nat.le_trans hsz hW.size) (by omega)
    have HQ : Hid (nmL (ns ++ [s]) (l.take (q + 1)) = nmL (nmL (ns ++ [s]) (l.take q)) [l[q]]) := hnq
    clear hown hin hinr hk hnq hcl hnl kw hv HL
    generalize l[q].o = ko at *
    generalize l[q].i = ki at *
    generalize l[q].s = ks at *
    generalize l[q].l.length = kn at *
    go_wp2_with (first | (refine (cK _ ((Below.refl _ wr).alloc (Nat.le_refl _) _)).mono ?_; rintro e w2 ⟨nv2, rfl, ho2, hb2⟩))
    go_roundw
    case rel => exact ⟨q + 1, _, rfl, by go_num, by omega, by rw [HQ.out]; exact ho2, hb.trans ((((Below.refl _ wr).alloc (Nat.le_refl _) _).mono hsz).trans hb2), by have := hb2.size; simp at this; omega⟩
    case measure => simp only [intOf]; omega
  ·obtain rfl : q = l.length := by omega
   have hnlt : decide ((l.length : Int) < (l.length : Int)) = false := by simp
   rw [List.take_length] at hown
   have HW : Hid (OwnT wr K nvj (nmL (ns ++ [s]) l)) := hown
   clear hown HL
   go_wp2_with fail
   go_ret
   exact ⟨_, rfl, HW.out, hb⟩
end Go.Proofs.YtghnhkagkngjcaaGreatDoor.VNm
