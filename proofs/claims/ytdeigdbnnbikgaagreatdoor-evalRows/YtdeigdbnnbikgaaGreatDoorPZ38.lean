import Derived.Test.YtdeigdbnnbikgaaGreatDoorPZ36
namespace Go.Proofs.YtdeigdbnnbikgaaGreatDoor.VAp
open Go.RowKit Go.Proofs.YtdeigdbnnbikgaaGreatDoor.Base Go.Proofs.YtdeigdbnnbikgaaGreatDoor.EPure Go.Proofs.YtdeigdbnnbikgaaGreatDoor.VPure Go.Proofs.YtdeigdbnnbikgaaGreatDoor.VMp Go.Proofs.YtdeigdbnnbikgaaGreatDoor.VNo Go.Proofs.YtdeigdbnnbikgaaGreatDoor.VVa Go.Proofs.YtdeigdbnnbikgaaGreatDoor.VEv Go.Proofs.YtdeigdbnnbikgaaGreatDoor.ELn Go.Proofs.YtdeigdbnnbikgaaGreatDoor.VOf
open Go.Proofs.YtdeigdbnnbikgaaGreatDoor.PMay (mayL)
set_option linter.unusedVariables false
def it (i : Int) : Ex := .mk 4 i ⟨#[]⟩ []
def vw : Ex := .mk 6 0 ⟨#[119]⟩ []
def sa : Ex := .mk 5 0 ⟨#[97]⟩ []
def fa : Ex := .mk 2 0 ⟨#[]⟩ []
def nu : Ex := .mk 1 0 ⟨#[]⟩ []
def t1 : List UInt8 := [97, 32, 43, 32, 49]
def t2 : List UInt8 := [49, 32, 47, 32, 48]
def t3 : List UInt8 := [102, 97, 108, 115, 101, 32, 38, 38, 32, 49]
def t4 : List UInt8 := [119]
def t5 : List UInt8 := [39, 97, 39, 32, 126, 32, 49, 32, 126, 32, 110, 117, 108, 108]
def x1 : Ex := nd 15 [va, it 1]
def x2 : Ex := nd 13 [it 1, it 0]
def x3 : Ex := nd 29 [fa, it 1]
def x4 : Ex := vw
def x5 : Ex := nd 17 [nd 17 [sa, it 1], nu]
theorem isx_eq {t : List UInt8} {x : Ex} (h : isx t x = true) : prs ⟨t.toArray⟩ = .ok x := by
  unfold isx at h
  cases hp : prs ⟨t.toArray⟩ with
  | error e => rw [hp] at h; cases h
  | ok y => rw [hp] at h; rw [eqx_eq _ _ _ h]
theorem p1 : prs ⟨t1.toArray⟩ = .ok x1 := isx_eq (by decide +kernel)
theorem p2 : prs ⟨t2.toArray⟩ = .ok x2 := isx_eq (by decide +kernel)
theorem p3 : prs ⟨t3.toArray⟩ = .ok x3 := isx_eq (by decide +kernel)
theorem p4 : prs ⟨t4.toArray⟩ = .ok x4 := isx_eq (by decide +kernel)
theorem p5 : prs ⟨t5.toArray⟩ = .ok x5 := isx_eq (by decide +kernel)
/-- What is bound: a name twice. -/
def bs2 : List Bn := [(⟨#[97]⟩, intC 1), (⟨#[97]⟩, intC 2)]
theorem tg0 : Pure.tg ⟨#[]⟩ = true := by
  have h : UBase.verr ⟨#[]⟩ = 0 := by
    unfold UBase.verr
    rw [UBase.bad_end (by decide)]
    rfl
  simp [Pure.tg, h]
  decide
theorem code_int (i : Int) : code (intC i) = 0 := by
  have h : Fault.fm (intC i) = true := by simp [Fault.fm, intC, Pure.pu, tg0, C.k, C.b, C.i, C.s, C.n, C.l]
  have hk : (intC i).k = 3 := rfl
  have hp : Walk.pl 1 (intC i) = [(1, intC i)] := by simp [intC, Walk.pl, Walk.plL]
  have hf : Fault.ft (intC i) 1 1 = 0 := by simp [Fault.ft, h, hk]
  unfold code
  rw [hp]
  simp [Measure.ms, hf]
theorem bad2 : bad bs2 = false := by simp [bad, bs2, code_int]
theorem dep2 : ∀ b ∈ bs2, Shallow.dep b.2 ≤ 4097 := by
  intro b hb
  simp only [bs2, List.mem_cons, List.not_mem_nil, or_false] at hb
  rcases hb with rfl | rfl <;> simp [Shallow.dep, Shallow.depL, intC]
theorem rho_a : rho bs2 ⟨#[97]⟩ = some (intC 2) := by simp [rho, bs2]
theorem rho_w : rho bs2 ⟨#[119]⟩ = none := by simp [rho, bs2]
theorem e1 : ev (rho bs2) x1 = .ok (intC 3) := by
  have h1 : Sums.inR 3 = true := by decide
  simp [ev, Ex.o, Ex.l, x1, nd, va, it, evL, node, rho_a, bnd, snd2, pr2, numb, wh, intC, C.k, C.i, twI, chkI, mapI, Sums.num, Sums.err, h1]
theorem e2 : ev (rho bs2) x2 = .error 1103 := by
  simp [ev, Ex.o, Ex.l, x2, nd, it, evL, node, bnd, snd2, pr2, numb, wh, intC, C.k, C.i, twI, chkI, mapI, WhA.dnum, WhA.derr]
theorem e3 : ev (rho bs2) x3 = .ok (booC false) := by
  simp [ev, Ex.o, Ex.l, x3, nd, fa, it, evL, node, bnd, isT, booC, C.k, C.b]
theorem e4 : ev (rho bs2) x4 = .error 1100 := by
  simp [ev, Ex.o, Ex.s, x4, vw, node, rho_w]
theorem e5 : ev (rho bs2) x5 = .ok (strC ⟨#[97, 49]⟩) := by
  have h1 : (Lib.itoa 1) = [49] := by decide +kernel
  have h2 : ¬ 4096 < (⟨#[97]⟩ : ByteArray).size + (⟨#[49]⟩ : ByteArray).size := by decide
  have h3 : (⟨#[97]⟩ : ByteArray) ++ (⟨#[49]⟩ : ByteArray) = ⟨#[97, 49]⟩ := by decide
  have h4 : ¬ 4096 < (⟨#[97, 49]⟩ : ByteArray).size + (⟨#[]⟩ : ByteArray).size := by decide
  have h5 : (⟨#[97, 49]⟩ : ByteArray) ++ (⟨#[]⟩ : ByteArray) = ⟨#[97, 49]⟩ := by decide
  simp [ev, Ex.o, Ex.l, x5, nd, sa, it, nu, evL, node, bnd, snd2, pr2, cat, txt, strC, intC, nulC, TextKey.te, TextKey.tx, h1, h2, h3, h4, h5]
theorem o1 : ops okOp x1 := by simp [ops, Ex.o, Ex.l, opsL, okOp, x1, nd, va, it]
theorem o2 : ops okOp x2 := by simp [ops, Ex.o, Ex.l, opsL, okOp, x2, nd, it]
theorem o3 : ops okOp x3 := by simp [ops, Ex.o, Ex.l, opsL, okOp, x3, nd, fa, it]
theorem o4 : ops okOp x4 := by simp [ops, Ex.o, Ex.l, opsL, okOp, x4, vw]
theorem o5 : ops okOp x5 := by simp [ops, Ex.o, Ex.l, opsL, okOp, x5, nd, sa, it, nu]
theorem hx97 : PFit.ft 5 0 ⟨#[97]⟩ = true := by
  have hv : UBase.verr ⟨#[97]⟩ = 0 := by
    have h1 : UBase.len ⟨#[97]⟩ 0 = 1 := by decide
    unfold UBase.verr
    rw [UBase.bad_step (by decide) (by rw [h1]; decide), h1, UBase.bad_end (by decide)]
    rfl
  have htx : PFit.tx ⟨#[97]⟩ = true := by
    unfold PFit.tx PFit.tg
    rw [hv]
    decide
  show ((0 : Int) == 0 && PFit.tx ⟨#[97]⟩) = true
  rw [htx]; rfl
theorem fa6 : PFit.ft 6 0 ⟨#[97]⟩ = true := by decide +kernel
theorem fw6 : PFit.ft 6 0 ⟨#[119]⟩ = true := by decide +kernel
theorem f41 : PFit.ft 4 1 ⟨#[]⟩ = true := by decide +kernel
theorem f40 : PFit.ft 4 0 ⟨#[]⟩ = true := by decide +kernel
theorem f1 : PFit.ft 1 0 ⟨#[]⟩ = true := by decide
theorem f2 : PFit.ft 2 0 ⟨#[]⟩ = true := by decide
theorem f15 : PFit.ft 15 0 ⟨#[]⟩ = true := by decide
theorem f13 : PFit.ft 13 0 ⟨#[]⟩ = true := by decide
theorem f17 : PFit.ft 17 0 ⟨#[]⟩ = true := by decide
theorem f29 : PFit.ft 29 0 ⟨#[]⟩ = true := by decide
theorem k15 : PPl.kd 15 = 2 := by decide
theorem k13 : PPl.kd 13 = 2 := by decide
theorem k17 : PPl.kd 17 = 2 := by decide
theorem k29 : PPl.kd 29 = 2 := by decide
theorem k6 : PPl.kd 6 = 0 := by decide
theorem k5 : PPl.kd 5 = 0 := by decide
theorem k4 : PPl.kd 4 = 0 := by decide
theorem k2 : PPl.kd 2 = 0 := by decide
theorem k1 : PPl.kd 1 = 0 := by decide
theorem m1 : may x1 = true := by simp [may, x1, nd, va, it, mayL, f15, fa6, f41, k15, k6, k4]
theorem m2 : may x2 = true := by simp [may, x2, nd, it, mayL, f13, f40, f41, k13, k4]
theorem m3 : may x3 = true := by simp [may, x3, nd, fa, it, mayL, f29, f2, f41, k29, k2, k4]
theorem m4 : may x4 = true := by simp [may, x4, vw, mayL, fw6, k6]
theorem m5 : may x5 = true := by simp [may, x5, nd, sa, it, nu, mayL, f17, hx97, f41, f1, k17, k5, k4, k1]
end Go.Proofs.YtdeigdbnnbikgaaGreatDoor.VAp
namespace Go.Proofs.YtdeigdbnnbikgaaGreatDoor.VUp
open Go.RowKit Go.Proofs.YtdeigdbnnbikgaaGreatDoor.Base Go.Proofs.YtdeigdbnnbikgaaGreatDoor.EPure Go.Proofs.YtdeigdbnnbikgaaGreatDoor.VPure Go.Proofs.YtdeigdbnnbikgaaGreatDoor.VMp Go.Proofs.YtdeigdbnnbikgaaGreatDoor.VNo Go.Proofs.YtdeigdbnnbikgaaGreatDoor.VVa Go.Proofs.YtdeigdbnnbikgaaGreatDoor.VEv Go.Proofs.YtdeigdbnnbikgaaGreatDoor.ELn Go.Proofs.YtdeigdbnnbikgaaGreatDoor.VAp
open Go.Proofs.YtdeigdbnnbikgaaGreatDoor.PMay (mayL)
set_option linter.unusedVariables false
/-- What is bound: two names to two integers. -/
def bsU (i j : Int) : List Bn := [(⟨#[97]⟩, intC i), (⟨#[98]⟩, intC j)]
theorem badU (i j : Int) : bad (bsU i j) = false := by simp [bad, bsU, code_int]
theorem depU (i j : Int) : ∀ b ∈ bsU i j, Shallow.dep b.2 ≤ 4097 := by
  intro b hb
  simp only [bsU, List.mem_cons, List.not_mem_nil, or_false] at hb
  rcases hb with rfl | rfl <;> simp [Shallow.dep, Shallow.depL, intC]
theorem rhoU_a (i j : Int) : rho (bsU i j) ⟨#[97]⟩ = some (intC i) := by
  simp [rho, bsU]
theorem rhoU_b (i j : Int) : rho (bsU i j) ⟨#[98]⟩ = some (intC j) := by simp [rho, bsU]
/-- The seven signs between two. -/
def sgU : List (List UInt8 × Int) := [([97, 32, 43, 32, 98], 15), ([97, 32, 45, 32, 98], 16), ([97, 32, 42, 32, 98], 12), ([97, 32, 47, 32, 98], 13), ([97, 32, 37, 32, 98], 14), ([97, 32, 60, 60, 32, 98], 18), ([97, 32, 62, 62, 32, 98], 19)]
theorem prsU : ∀ q ∈ sgU, prs ⟨q.1.toArray⟩ = .ok (nd q.2 [va, vb]) := by
  have h : sgU.all (fun q => isx q.1 (nd q.2 [va, vb])) = true := by decide +kernel
  intro q hq
  exact isx_eq (List.all_eq_true.1 h q hq)
theorem prsN : prs ⟨#[45, 97]⟩ = .ok (nd 10 [va]) := isx_eq (t := [45, 97]) (by decide +kernel)
theorem fb6 : PFit.ft 6 0 ⟨#[98]⟩ = true := by decide +kernel
theorem ftU : ∀ q ∈ sgU, PFit.ft q.2 0 ⟨#[]⟩ = true ∧ PPl.kd q.2 = 2 := by decide
theorem mayU : ∀ q ∈ sgU, may (nd q.2 [va, vb]) = true := by
  intro q hq
  obtain ⟨h1, h2⟩ := ftU q hq
  simp [may, nd, va, vb, mayL, h1, h2, fa6, fb6, k6]
theorem opsU : ∀ q ∈ sgU, ops okOp (nd q.2 [va, vb]) := by
  intro q hq
  simp only [sgU, List.mem_cons, List.not_mem_nil, or_false] at hq
  rcases hq with rfl | rfl | rfl | rfl | rfl | rfl | rfl <;> simp [ops, Ex.o, Ex.l, opsL, okOp, nd, va, vb]
theorem evU (i j : Int) : ∀ q ∈ sgU, ev (rho (bsU i j)) (nd q.2 [va, vb]) = mapI (chkI (wh q.2 i j).1 (wh q.2 i j).2) := by
  intro q hq
  simp only [sgU, List.mem_cons, List.not_mem_nil, or_false] at hq
  rcases hq with rfl | rfl | rfl | rfl | rfl | rfl | rfl <;> simp [ev, Ex.o, Ex.l, nd, va, vb, evL, node, rhoU_a, rhoU_b, bnd, snd2, pr2, numb, intC, C.k, C.i, twI]
end Go.Proofs.YtdeigdbnnbikgaaGreatDoor.VUp
namespace Go.Proofs.YtdeigdbnnbikgaaGreatDoor.VAw
open Go.RowKit Go.Proofs.YtdeigdbnnbikgaaGreatDoor.Base Go.Proofs.YtdeigdbnnbikgaaGreatDoor.EPure Go.Proofs.YtdeigdbnnbikgaaGreatDoor.VPure Go.Proofs.YtdeigdbnnbikgaaGreatDoor.VSm Go.Proofs.YtdeigdbnnbikgaaGreatDoor.VMp Go.Proofs.YtdeigdbnnbikgaaGreatDoor.VNo Go.Proofs.YtdeigdbnnbikgaaGreatDoor.VVa Go.Proofs.YtdeigdbnnbikgaaGreatDoor.VEv Go.Proofs.YtdeigdbnnbikgaaGreatDoor.VOf Go.Proofs.YtdeigdbnnbikgaaGreatDoor.VAp Go.Proofs.YtdeigdbnnbikgaaGreatDoor.Fresh
set_option linter.unusedVariables false
set_option maxRecDepth 20000 in
set_option maxHeartbeats 1600000 in
/-- An integer's value. -/
theorem int_c (i : Int) (w : World) : Calls Tryz.prog 29 #[.int .i64 i] w fun e w' => e = .returned (vl 3 false i ⟨#[]⟩ (.slice none 0 0) (.slice none 0 0)) ∧ Below w.heap.size w w' := by
  obtain ⟨W0, hW0⟩ : ∃ W0, w.alloc (.cells #[.int .i64 0, .bool false, .int .i64 0, .string ⟨#[]⟩, .slice none 0 0, .slice none 0 0] 32) = W0 := ⟨_, rfl⟩
  have hz : W0.heap[w.heap.size]? = some (.cells #[.int .i64 0, .bool false, .int .i64 0, .string ⟨#[]⟩, .slice none 0 0, .slice none 0 0] 32 (0, 0)) := by rw [← hW0]; exact heap_alloc_new _ _
  have hb0 : Below w.heap.size w W0 := by rw [← hW0]; exact (Below.refl _ w).alloc (Nat.le_refl _) _
  obtain ⟨n0, n1, n2, n3, n4, n5⟩ := six_box hz
  have f0 := frozen_box hz 0
  have f1 := frozen_box hz 1
  have f2 := frozen_box hz 2
  have f3 := frozen_box hz 3
  have f4 := frozen_box hz 4
  have f5 := frozen_box hz 5
  obtain ⟨W1, hW1⟩ : ∃ W1, (((((W0.setCell ⟨w.heap.size, 0, none⟩ (.int .i64 3)).setCell ⟨w.heap.size, 1, none⟩ (.bool false)).setCell ⟨w.heap.size, 2, none⟩ (.int .i64 i)).setCell ⟨w.heap.size, 3, none⟩ (.string ⟨#[]⟩)).setCell ⟨w.heap.size, 4, none⟩ (.slice none 0 0)).setCell ⟨w.heap.size, 5, none⟩ (.slice none 0 0) = W1 := ⟨_, rfl⟩
  obtain ⟨a1, a2, a3, a4⟩ := set6 _ _ _ _ _ _ hz hW1
  obtain ⟨g0, g1, g2, g3, g4, g5⟩ := six_box a1
  have HB : Hid (Below w.heap.size w W1) := a4 _ _ (Nat.le_refl _) hb0
  clear hz hb0 a1 a2 a3 a4
  go_enter Tryz.func29, Tryz.ntmps29
  go_wp2_with fail
  refine bodyPost_ret (v := vl 3 false i ⟨#[]⟩ (.slice none 0 0) (.slice none 0 0)) (by simp [results, Tryz.results29, go_sem, g0, g1, g2, g3, g4, g5]) rfl ?_
  exact ⟨rfl, HB.out⟩
/-- Two names bound to integers, in a block of their own. -/
theorem env2 {w : World} {G m : Nat} {s t : ByteArray} {i j : Int} (hs : s.size ≤ 140737488351232) (ht : t.size ≤ 140737488351232) (hi : -9223372036854775808 ≤ i ∧ i ≤ 9223372036854775807) (hj : -9223372036854775808 ≤ j ∧ j ≤ 9223372036854775807) {T : TypeId}
    (h : w.heap[G]? = some (.cells #[.string s, .int .i64 3, .bool false, .int .i64 i, .string ⟨#[]⟩, .slice none 0 0, .slice none 0 0, .string t, .int .i64 3, .bool false, .int .i64 j, .string ⟨#[]⟩, .slice none 0 0, .slice none 0 0] T (0, 0))) :
    Bl (G + 1) (m + 1) w (.slice (some ⟨G, 0, none⟩) 2 2) [(s, intC i), (t, intC j)] := by
  have hc : ∀ q, q < 14 → w.cell? ⟨G, q, none⟩ = (#[.string s, .int .i64 3, .bool false, .int .i64 i, .string ⟨#[]⟩, .slice none 0 0, .slice none 0 0, .string t, .int .i64 3, .bool false, .int .i64 j, .string ⟨#[]⟩, .slice none 0 0, .slice none 0 0] : Array Value)[q]? := fun q hq => by
    simp [World.cell?, h]
  refine ⟨some ⟨G, 0, none⟩, 2, rfl, by simp, by decide, (fun e => by cases e), by simp, fun b hb => ?_, .inr ⟨G, 0, rfl, Nat.lt_succ_self _, fun q hq => ?_⟩⟩
  · simp only [List.mem_cons, List.not_mem_nil, or_false] at hb
    rcases hb with rfl | rfl
    · exact hs
    · exact ht
  · have : q = 0 ∨ q = 1 := by simp at hq; omega
    rcases this with rfl | rfl
    · exact ⟨none, 0, 0, none, 0, 0, hc 0 (by decide), hc 1 (by decide), hc 2 (by decide), hc 3 (by decide), hc 4 (by decide), hc 5 (by decide), hc 6 (by decide), VRs.in_int _ _ _ hi⟩
    · exact ⟨none, 0, 0, none, 0, 0, hc 7 (by decide), hc 8 (by decide), hc 9 (by decide), hc 10 (by decide), hc 11 (by decide), hc 12 (by decide), hc 13 (by decide), VRs.in_int _ _ _ hj⟩
set_option maxRecDepth 20000 in
set_option maxHeartbeats 6400000 in
theorem awake_c {w : World} (hT : TX w) : Calls Tryz.prog 19 #[] w fun e w' => e = .returned (.bool true) ∧ Below w.heap.size w w' := by
  have HT : Hid (TX w) := hT
  have c1 := int_c 1
  have c2 := int_c 2
  clear hT
  go_enter Tryz.func19, Tryz.ntmps19
  go_wp2_with (first | (go_at_call 29; first | (refine (c1 _).mono ?_; rintro e W1 ⟨rfl, hb1⟩) | (refine (c2 _).mono ?_; rintro e W2 ⟨rfl, hb2⟩)))
  have hB2 : Below w.heap.size w W2 := hb1.trans (hb2.mono hb1.size)
  obtain ⟨V0, hV0⟩ : ∃ V0, W2.alloc (.cells #[.string ⟨#[97]⟩, .int .i64 3, .bool false, .int .i64 1, .string ⟨#[]⟩, .slice none 0 0, .slice none 0 0, .string ⟨#[97]⟩, .int .i64 3, .bool false, .int .i64 2, .string ⟨#[]⟩, .slice none 0 0, .slice none 0 0] 52) = V0 := ⟨_, rfl⟩
  have hz : V0.heap[W2.heap.size]? = some (.cells #[.string ⟨#[97]⟩, .int .i64 3, .bool false, .int .i64 1, .string ⟨#[]⟩, .slice none 0 0, .slice none 0 0, .string ⟨#[97]⟩, .int .i64 3, .bool false, .int .i64 2, .string ⟨#[]⟩, .slice none 0 0, .slice none 0 0] 52 (0, 0)) := by rw [← hV0]; exact heap_alloc_new _ _
  have hv0 : Below W2.heap.size W2 V0 := by rw [← hV0]; exact (Below.refl _ _).alloc (Nat.le_refl _) _
  have s0 : V0.heap.size = W2.heap.size + 1 := by rw [← hV0]; simp
  have HB0 : Hid (Below w.heap.size w V0) := hB2.trans (hv0.mono hB2.size)
  have HE0 : Hid (Bl (W2.heap.size + 1) 1 V0 (.slice (some ⟨W2.heap.size, 0, none⟩) 2 2) bs2) := env2 (by decide) (by decide) (by decide) (by decide) hz
  rw [hV0]
  clear hz hv0 hB2 hb1 hb2 hV0 c1 c2
  have cE : Calls Tryz.prog 38 #[.string ⟨t1.toArray⟩, .slice (some ⟨W2.heap.size, 0, none⟩) 2 2] V0 fun e w' => EV 1 V0 (intC 3) 0 e w' := by
    have h := of_c (m := 0) (s := ⟨t1.toArray⟩) (by decide) p1 HE0.out (by omega) dep2 (HT.out.later HB0.out) m1 bad2 o1
    rw [e1] at h
    exact h
  refine cE.mono ?_
  rintro e X1 ⟨hx, u1, rfl, hfr⟩
  have sx1 := hx.size
  obtain ⟨un1, ul1, uc1, ua1, ub1, ud1, hu⟩ := VRs.in_shape hfr.in
  have hu' : u1 = vl 3 false 3 ⟨#[]⟩ (.slice un1 ul1 uc1) (.slice ua1 ub1 ud1) := hu
  subst hu'
  have HX : Hid (Below V0.heap.size V0 X1) := hx
  clear hu hfr cE hx
  obtain ⟨Y, hY⟩ : ∃ Y, X1.alloc (.cells #[.int .i64 0, .bool false, .int .i64 0, .string ⟨#[]⟩, .slice none 0 0, .slice none 0 0] 32) = Y := ⟨_, rfl⟩
  have hz : Y.heap[X1.heap.size]? = some (.cells #[.int .i64 0, .bool false, .int .i64 0, .string ⟨#[]⟩, .slice none 0 0, .slice none 0 0] 32 (0, 0)) := by rw [← hY]; exact heap_alloc_new _ _
  have hby : Below X1.heap.size X1 Y := by rw [← hY]; exact (Below.refl _ _).alloc (Nat.le_refl _) _
  obtain ⟨n0, n1, n2, n3, n4, n5⟩ := six_box hz
  have nf0 := frozen_box hz 0
  have nf1 := frozen_box hz 1
  have nf2 := frozen_box hz 2
  have nf3 := frozen_box hz 3
  have nf4 := frozen_box hz 4
  have nf5 := frozen_box hz 5
  obtain ⟨V1, hV1⟩ : ∃ V1, ((((((Y.setCell ⟨X1.heap.size, 0, none⟩ (.int .i64 3)).setCell ⟨X1.heap.size, 1, none⟩ (.bool false)).setCell ⟨X1.heap.size, 2, none⟩ (.int .i64 3)).setCell ⟨X1.heap.size, 3, none⟩ (.string ⟨#[]⟩)).setCell ⟨X1.heap.size, 4, none⟩ (.slice un1 ul1 uc1)).setCell ⟨X1.heap.size, 5, none⟩ (.slice ua1 ub1 ud1)) = V1 := ⟨_, rfl⟩
  obtain ⟨a1, a2, a3, a4⟩ := set6 _ _ _ _ _ _ hz hV1
  have hbv : Below X1.heap.size X1 V1 := a4 _ _ (Nat.le_refl _) hby
  have s1 := hbv.size
  have HA1_1 : Hid (V1.heap[X1.heap.size]? = some _) := a1
  have l1 := (Array.getElem?_eq_some_iff.1 a1).1
  have HV : Hid (Below V0.heap.size V0 V1) := HX.out.trans (hbv.mono HX.out.size)
  have HB1 : Hid (Below w.heap.size w V1) := HB0.out.trans (HV.out.mono HB0.out.size)
  have HE1 : Hid (Bl (W2.heap.size + 1) 1 V1 (.slice (some ⟨W2.heap.size, 0, none⟩) 2 2) bs2) := HE0.out.low (HV.out.mono (by omega))
  clear hz hby a1 a2 a3 a4 hbv HX HV HB0 HE0
  go_wp2_with fail
  clear n0 n1 n2 n3 n4 n5 nf0 nf1 nf2 nf3 nf4 nf5 hY hV1
  have cE : Calls Tryz.prog 38 #[.string ⟨t2.toArray⟩, .slice (some ⟨W2.heap.size, 0, none⟩) 2 2] V1 fun e w' => EV 1 V1 (zerC) 1103 e w' := by
    have h := of_c (m := 0) (s := ⟨t2.toArray⟩) (by decide) p2 HE1.out (by omega) dep2 (HT.out.later HB1.out) m2 bad2 o2
    rw [e2] at h
    exact h
  refine cE.mono ?_
  rintro e X2 ⟨hx, u2, rfl, hfr⟩
  have sx2 := hx.size
  obtain ⟨un2, ul2, uc2, ua2, ub2, ud2, hu⟩ := VRs.in_shape hfr.in
  have hu' : u2 = vl 0 false 0 ⟨#[]⟩ (.slice un2 ul2 uc2) (.slice ua2 ub2 ud2) := hu
  subst hu'
  have HX : Hid (Below V1.heap.size V1 X2) := hx
  clear hu hfr cE hx
  obtain ⟨Y, hY⟩ : ∃ Y, X2.alloc (.cells #[.int .i64 0, .bool false, .int .i64 0, .string ⟨#[]⟩, .slice none 0 0, .slice none 0 0] 32) = Y := ⟨_, rfl⟩
  have hz : Y.heap[X2.heap.size]? = some (.cells #[.int .i64 0, .bool false, .int .i64 0, .string ⟨#[]⟩, .slice none 0 0, .slice none 0 0] 32 (0, 0)) := by rw [← hY]; exact heap_alloc_new _ _
  have hby : Below X2.heap.size X2 Y := by rw [← hY]; exact (Below.refl _ _).alloc (Nat.le_refl _) _
  obtain ⟨n0, n1, n2, n3, n4, n5⟩ := six_box hz
  have nf0 := frozen_box hz 0
  have nf1 := frozen_box hz 1
  have nf2 := frozen_box hz 2
  have nf3 := frozen_box hz 3
  have nf4 := frozen_box hz 4
  have nf5 := frozen_box hz 5
  obtain ⟨V2, hV2⟩ : ∃ V2, ((((((Y.setCell ⟨X2.heap.size, 0, none⟩ (.int .i64 0)).setCell ⟨X2.heap.size, 1, none⟩ (.bool false)).setCell ⟨X2.heap.size, 2, none⟩ (.int .i64 0)).setCell ⟨X2.heap.size, 3, none⟩ (.string ⟨#[]⟩)).setCell ⟨X2.heap.size, 4, none⟩ (.slice un2 ul2 uc2)).setCell ⟨X2.heap.size, 5, none⟩ (.slice ua2 ub2 ud2)) = V2 := ⟨_, rfl⟩
  obtain ⟨a1, a2, a3, a4⟩ := set6 _ _ _ _ _ _ hz hV2
  have hbv : Below X2.heap.size X2 V2 := a4 _ _ (Nat.le_refl _) hby
  have s2 := hbv.size
  have HA2_2 : Hid (V2.heap[X2.heap.size]? = some _) := a1
  have l2 := (Array.getElem?_eq_some_iff.1 a1).1
  have HV : Hid (Below V1.heap.size V1 V2) := HX.out.trans (hbv.mono HX.out.size)
  have HB2 : Hid (Below w.heap.size w V2) := HB1.out.trans (HV.out.mono HB1.out.size)
  have HE2 : Hid (Bl (W2.heap.size + 1) 1 V2 (.slice (some ⟨W2.heap.size, 0, none⟩) 2 2) bs2) := HE1.out.low (HV.out.mono (by omega))
  have HA1_2 : Hid (V2.heap[X1.heap.size]? = some _) := (HV.out.block _ (by omega)).trans HA1_1.out
  clear hz hby a1 a2 a3 a4 hbv HX HV HB1 HE1
  go_wp2_with fail
  clear n0 n1 n2 n3 n4 n5 nf0 nf1 nf2 nf3 nf4 nf5 hY hV2
  have cE : Calls Tryz.prog 38 #[.string ⟨t3.toArray⟩, .slice (some ⟨W2.heap.size, 0, none⟩) 2 2] V2 fun e w' => EV 1 V2 (booC false) 0 e w' := by
    have h := of_c (m := 0) (s := ⟨t3.toArray⟩) (by decide) p3 HE2.out (by omega) dep2 (HT.out.later HB2.out) m3 bad2 o3
    rw [e3] at h
    exact h
  refine cE.mono ?_
  rintro e X3 ⟨hx, u3, rfl, hfr⟩
  have sx3 := hx.size
  obtain ⟨un3, ul3, uc3, ua3, ub3, ud3, hu⟩ := VRs.in_shape hfr.in
  have hu' : u3 = vl 2 false 0 ⟨#[]⟩ (.slice un3 ul3 uc3) (.slice ua3 ub3 ud3) := hu
  subst hu'
  have HX : Hid (Below V2.heap.size V2 X3) := hx
  clear hu hfr cE hx
  obtain ⟨Y, hY⟩ : ∃ Y, X3.alloc (.cells #[.int .i64 0, .bool false, .int .i64 0, .string ⟨#[]⟩, .slice none 0 0, .slice none 0 0] 32) = Y := ⟨_, rfl⟩
  have hz : Y.heap[X3.heap.size]? = some (.cells #[.int .i64 0, .bool false, .int .i64 0, .string ⟨#[]⟩, .slice none 0 0, .slice none 0 0] 32 (0, 0)) := by rw [← hY]; exact heap_alloc_new _ _
  have hby : Below X3.heap.size X3 Y := by rw [← hY]; exact (Below.refl _ _).alloc (Nat.le_refl _) _
  obtain ⟨n0, n1, n2, n3, n4, n5⟩ := six_box hz
  have nf0 := frozen_box hz 0
  have nf1 := frozen_box hz 1
  have nf2 := frozen_box hz 2
  have nf3 := frozen_box hz 3
  have nf4 := frozen_box hz 4
  have nf5 := frozen_box hz 5
  obtain ⟨V3, hV3⟩ : ∃ V3, ((((((Y.setCell ⟨X3.heap.size, 0, none⟩ (.int .i64 2)).setCell ⟨X3.heap.size, 1, none⟩ (.bool false)).setCell ⟨X3.heap.size, 2, none⟩ (.int .i64 0)).setCell ⟨X3.heap.size, 3, none⟩ (.string ⟨#[]⟩)).setCell ⟨X3.heap.size, 4, none⟩ (.slice un3 ul3 uc3)).setCell ⟨X3.heap.size, 5, none⟩ (.slice ua3 ub3 ud3)) = V3 := ⟨_, rfl⟩
  obtain ⟨a1, a2, a3, a4⟩ := set6 _ _ _ _ _ _ hz hV3
  have hbv : Below X3.heap.size X3 V3 := a4 _ _ (Nat.le_refl _) hby
  have s3 := hbv.size
  have HA3_3 : Hid (V3.heap[X3.heap.size]? = some _) := a1
  have l3 := (Array.getElem?_eq_some_iff.1 a1).1
  have HV : Hid (Below V2.heap.size V2 V3) := HX.out.trans (hbv.mono HX.out.size)
  have HB3 : Hid (Below w.heap.size w V3) := HB2.out.trans (HV.out.mono HB2.out.size)
  have HE3 : Hid (Bl (W2.heap.size + 1) 1 V3 (.slice (some ⟨W2.heap.size, 0, none⟩) 2 2) bs2) := HE2.out.low (HV.out.mono (by omega))
  have HA1_3 : Hid (V3.heap[X1.heap.size]? = some _) := (HV.out.block _ (by omega)).trans HA1_2.out
  clear hz hby a1 a2 a3 a4 hbv HX HV HB2 HE2
  go_wp2_with fail
  clear n0 n1 n2 n3 n4 n5 nf0 nf1 nf2 nf3 nf4 nf5 hY hV3
  have cE : Calls Tryz.prog 38 #[.string ⟨t4.toArray⟩, .slice (some ⟨W2.heap.size, 0, none⟩) 2 2] V3 fun e w' => EV 1 V3 (zerC) 1100 e w' := by
    have h := of_c (m := 0) (s := ⟨t4.toArray⟩) (by decide) p4 HE3.out (by omega) dep2 (HT.out.later HB3.out) m4 bad2 o4
    rw [e4] at h
    exact h
  refine cE.mono ?_
  rintro e X4 ⟨hx, u4, rfl, hfr⟩
  have sx4 := hx.size
  obtain ⟨un4, ul4, uc4, ua4, ub4, ud4, hu⟩ := VRs.in_shape hfr.in
  have hu' : u4 = vl 0 false 0 ⟨#[]⟩ (.slice un4 ul4 uc4) (.slice ua4 ub4 ud4) := hu
  subst hu'
  have HX : Hid (Below V3.heap.size V3 X4) := hx
  clear hu hfr cE hx
  obtain ⟨Y, hY⟩ : ∃ Y, X4.alloc (.cells #[.int .i64 0, .bool false, .int .i64 0, .string ⟨#[]⟩, .slice none 0 0, .slice none 0 0] 32) = Y := ⟨_, rfl⟩
  have hz : Y.heap[X4.heap.size]? = some (.cells #[.int .i64 0, .bool false, .int .i64 0, .string ⟨#[]⟩, .slice none 0 0, .slice none 0 0] 32 (0, 0)) := by rw [← hY]; exact heap_alloc_new _ _
  have hby : Below X4.heap.size X4 Y := by rw [← hY]; exact (Below.refl _ _).alloc (Nat.le_refl _) _
  obtain ⟨n0, n1, n2, n3, n4, n5⟩ := six_box hz
  have nf0 := frozen_box hz 0
  have nf1 := frozen_box hz 1
  have nf2 := frozen_box hz 2
  have nf3 := frozen_box hz 3
  have nf4 := frozen_box hz 4
  have nf5 := frozen_box hz 5
  obtain ⟨V4, hV4⟩ : ∃ V4, ((((((Y.setCell ⟨X4.heap.size, 0, none⟩ (.int .i64 0)).setCell ⟨X4.heap.size, 1, none⟩ (.bool false)).setCell ⟨X4.heap.size, 2, none⟩ (.int .i64 0)).setCell ⟨X4.heap.size, 3, none⟩ (.string ⟨#[]⟩)).setCell ⟨X4.heap.size, 4, none⟩ (.slice un4 ul4 uc4)).setCell ⟨X4.heap.size, 5, none⟩ (.slice ua4 ub4 ud4)) = V4 := ⟨_, rfl⟩
  obtain ⟨a1, a2, a3, a4⟩ := set6 _ _ _ _ _ _ hz hV4
  have hbv : Below X4.heap.size X4 V4 := a4 _ _ (Nat.le_refl _) hby
  have s4 := hbv.size
  have HA4_4 : Hid (V4.heap[X4.heap.size]? = some _) := a1
  have l4 := (Array.getElem?_eq_some_iff.1 a1).1
  have HV : Hid (Below V3.heap.size V3 V4) := HX.out.trans (hbv.mono HX.out.size)
  have HB4 : Hid (Below w.heap.size w V4) := HB3.out.trans (HV.out.mono HB3.out.size)
  have HE4 : Hid (Bl (W2.heap.size + 1) 1 V4 (.slice (some ⟨W2.heap.size, 0, none⟩) 2 2) bs2) := HE3.out.low (HV.out.mono (by omega))
  have HA1_4 : Hid (V4.heap[X1.heap.size]? = some _) := (HV.out.block _ (by omega)).trans HA1_3.out
  have HA3_4 : Hid (V4.heap[X3.heap.size]? = some _) := (HV.out.block _ (by omega)).trans HA3_3.out
  clear hz hby a1 a2 a3 a4 hbv HX HV HB3 HE3
  go_wp2_with fail
  clear n0 n1 n2 n3 n4 n5 nf0 nf1 nf2 nf3 nf4 nf5 hY hV4
  have cE : Calls Tryz.prog 38 #[.string ⟨t5.toArray⟩, .slice (some ⟨W2.heap.size, 0, none⟩) 2 2] V4 fun e w' => EV 1 V4 (strC ⟨#[97, 49]⟩) 0 e w' := by
    have h := of_c (m := 0) (s := ⟨t5.toArray⟩) (by decide) p5 HE4.out (by omega) dep2 (HT.out.later HB4.out) m5 bad2 o5
    rw [e5] at h
    exact h
  refine cE.mono ?_
  rintro e X5 ⟨hx, u5, rfl, hfr⟩
  have sx5 := hx.size
  obtain ⟨un5, ul5, uc5, ua5, ub5, ud5, hu⟩ := VRs.in_shape hfr.in
  have hu' : u5 = vl 4 false 0 ⟨#[97, 49]⟩ (.slice un5 ul5 uc5) (.slice ua5 ub5 ud5) := hu
  subst hu'
  have HX : Hid (Below V4.heap.size V4 X5) := hx
  clear hu hfr cE hx
  obtain ⟨Y, hY⟩ : ∃ Y, X5.alloc (.cells #[.int .i64 0, .bool false, .int .i64 0, .string ⟨#[]⟩, .slice none 0 0, .slice none 0 0] 32) = Y := ⟨_, rfl⟩
  have hz : Y.heap[X5.heap.size]? = some (.cells #[.int .i64 0, .bool false, .int .i64 0, .string ⟨#[]⟩, .slice none 0 0, .slice none 0 0] 32 (0, 0)) := by rw [← hY]; exact heap_alloc_new _ _
  have hby : Below X5.heap.size X5 Y := by rw [← hY]; exact (Below.refl _ _).alloc (Nat.le_refl _) _
  obtain ⟨n0, n1, n2, n3, n4, n5⟩ := six_box hz
  have nf0 := frozen_box hz 0
  have nf1 := frozen_box hz 1
  have nf2 := frozen_box hz 2
  have nf3 := frozen_box hz 3
  have nf4 := frozen_box hz 4
  have nf5 := frozen_box hz 5
  obtain ⟨V5, hV5⟩ : ∃ V5, ((((((Y.setCell ⟨X5.heap.size, 0, none⟩ (.int .i64 4)).setCell ⟨X5.heap.size, 1, none⟩ (.bool false)).setCell ⟨X5.heap.size, 2, none⟩ (.int .i64 0)).setCell ⟨X5.heap.size, 3, none⟩ (.string ⟨#[97, 49]⟩)).setCell ⟨X5.heap.size, 4, none⟩ (.slice un5 ul5 uc5)).setCell ⟨X5.heap.size, 5, none⟩ (.slice ua5 ub5 ud5)) = V5 := ⟨_, rfl⟩
  obtain ⟨a1, a2, a3, a4⟩ := set6 _ _ _ _ _ _ hz hV5
  have hbv : Below X5.heap.size X5 V5 := a4 _ _ (Nat.le_refl _) hby
  have s5 := hbv.size
  have HA5_5 : Hid (V5.heap[X5.heap.size]? = some _) := a1
  have l5 := (Array.getElem?_eq_some_iff.1 a1).1
  have HV : Hid (Below V4.heap.size V4 V5) := HX.out.trans (hbv.mono HX.out.size)
  have HB5 : Hid (Below w.heap.size w V5) := HB4.out.trans (HV.out.mono HB4.out.size)
  have HE5 : Hid (Bl (W2.heap.size + 1) 1 V5 (.slice (some ⟨W2.heap.size, 0, none⟩) 2 2) bs2) := HE4.out.low (HV.out.mono (by omega))
  have HA1_5 : Hid (V5.heap[X1.heap.size]? = some _) := (HV.out.block _ (by omega)).trans HA1_4.out
  have HA3_5 : Hid (V5.heap[X3.heap.size]? = some _) := (HV.out.block _ (by omega)).trans HA3_4.out
  clear hz hby a1 a2 a3 a4 hbv HX HV HB4 HE4
  obtain ⟨-, -, y0, -⟩ := six_box HA1_5.out
  obtain ⟨y1, -⟩ := six_box HA3_5.out
  obtain ⟨-, -, -, y2, -⟩ := six_box HA5_5.out
  go_wp2_with fail
  go_ret
  exact ⟨rfl, HB5.out⟩
end Go.Proofs.YtdeigdbnnbikgaaGreatDoor.VAw
namespace Go.Proofs.YtdeigdbnnbikgaaGreatDoor.VUq
open Go.RowKit Go.Proofs.YtdeigdbnnbikgaaGreatDoor.Base Go.Proofs.YtdeigdbnnbikgaaGreatDoor.EPure Go.Proofs.YtdeigdbnnbikgaaGreatDoor.VPure Go.Proofs.YtdeigdbnnbikgaaGreatDoor.VMp Go.Proofs.YtdeigdbnnbikgaaGreatDoor.VNo Go.Proofs.YtdeigdbnnbikgaaGreatDoor.VVa Go.Proofs.YtdeigdbnnbikgaaGreatDoor.VEv Go.Proofs.YtdeigdbnnbikgaaGreatDoor.VOf Go.Proofs.YtdeigdbnnbikgaaGreatDoor.ELn Go.Proofs.YtdeigdbnnbikgaaGreatDoor.VAp Go.Proofs.YtdeigdbnnbikgaaGreatDoor.VUp Go.Proofs.YtdeigdbnnbikgaaGreatDoor.Sums
set_option linter.unusedVariables false
/-- The eight texts, and what chapter 1 answers. -/
def tN (q : Nat) : ByteArray := if q = 0 then ⟨#[97, 32, 43, 32, 98]⟩ else if q = 1 then ⟨#[97, 32, 45, 32, 98]⟩ else if q = 2 then ⟨#[97, 32, 42, 32, 98]⟩ else if q = 3 then ⟨#[97, 32, 47, 32, 98]⟩ else if q = 4 then ⟨#[97, 32, 37, 32, 98]⟩ else if q = 5 then ⟨#[97, 32, 60, 60, 32, 98]⟩ else if q = 6 then ⟨#[97, 32, 62, 62, 32, 98]⟩ else ⟨#[45, 97]⟩
def wN (q : Nat) (a b : Int) : Int × Int := if q = 0 then wh 15 a b else if q = 1 then wh 16 a b else if q = 2 then wh 12 a b else if q = 3 then wh 13 a b else if q = 4 then wh 14 a b else if q = 5 then wh 18 a b else if q = 6 then wh 19 a b else (num (-a), err (-a))
theorem mayN : may (nd 10 [va]) = true := by
  have h1 : PFit.ft 10 0 ⟨#[]⟩ = true := by decide
  have h2 : PPl.kd 10 = 1 := by decide
  simp [may, nd, va, PMay.mayL, h1, h2, fa6, k6]
theorem opsN : ops okOp (nd 10 [va]) := by simp [ops, Ex.o, Ex.l, opsL, okOp, nd, va]
theorem evN (i j : Int) : ev (rho (bsU i j)) (nd 10 [va]) = mapI (chkI (num (-i)) (err (-i))) := by
  have e : ev (rho (bsU i j)) (nd 10 [va]) = mapI (chkI (num (0 - i)) (err (0 - i))) := by
    simp [ev, Ex.o, Ex.l, nd, va, evL, node, rhoU_a, bnd, snd2, pr2, numb, intC, C.k, C.i, twI, wh]
  rw [e, Int.zero_sub]
theorem rowN {q : Nat} (hq : q < 8) (a b : Int) : ∃ x, prs (tN q) = .ok x ∧ may x = true ∧ ops okOp x ∧ ev (rho (bsU a b)) x = mapI (chkI (wN q a b).1 (wN q a b).2) := by
  have g : ∀ (t : List UInt8) (o : Int), (t, o) ∈ sgU → ∃ x, prs ⟨t.toArray⟩ = .ok x ∧ may x = true ∧ ops okOp x ∧ ev (rho (bsU a b)) x = mapI (chkI (wh o a b).1 (wh o a b).2) := fun t o h => ⟨_, prsU _ h, mayU _ h, opsU _ h, evU a b _ h⟩
  have : q = 0 ∨ q = 1 ∨ q = 2 ∨ q = 3 ∨ q = 4 ∨ q = 5 ∨ q = 6 ∨ q = 7 := by omega
  rcases this with rfl | rfl | rfl | rfl | rfl | rfl | rfl | rfl
  · exact g [97, 32, 43, 32, 98] 15 (by decide)
  · exact g [97, 32, 45, 32, 98] 16 (by decide)
  · exact g [97, 32, 42, 32, 98] 12 (by decide)
  · exact g [97, 32, 47, 32, 98] 13 (by decide)
  · exact g [97, 32, 37, 32, 98] 14 (by decide)
  · exact g [97, 32, 60, 60, 32, 98] 18 (by decide)
  · exact g [97, 32, 62, 62, 32, 98] 19 (by decide)
  · exact ⟨_, prsN, mayN, opsN, evN a b⟩
theorem tN_size {q : Nat} : (tN q).size ≤ 140737488351300 := by
  unfold tN
  repeat' split
  all_goals decide
theorem wN_rng {q : Nat} {a b : Int} (ha : -9223372036854775808 ≤ a ∧ a ≤ 9223372036854775807) : -9223372036854775808 ≤ (wN q a b).1 ∧ (wN q a b).1 ≤ 9223372036854775807 := by
  unfold wN
  repeat' split
  all_goals first | exact VRs.wh_rng ha | skip
  have := VRs.wh_rng (o := 16) (x := 0) (y := a) (by omega)
  simp only [wh, show ¬ ((16 : Int) = 12) from by decide, show ¬ ((16 : Int) = 13) from by decide, show ¬ ((16 : Int) = 14) from by decide, show ¬ ((16 : Int) = 15) from by decide, if_false, if_true, Int.zero_sub] at this
  exact this
/-- What of answers at a text of the eight. -/
theorem ofN {q : Nat} (hq : q < 8) {a b : Int} {K : Nat} {w : World} {v : Value} (hv : Bl K 1 w v (bsU a b)) (hK : K ≤ w.heap.size) (hT : TX w) :
    Calls Tryz.prog 38 #[.string (tN q), v] w fun e w' => EV 1 w (vOf (mapI (chkI (wN q a b).1 (wN q a b).2))) (nOf (mapI (chkI (wN q a b).1 (wN q a b).2))) e w' := by
  obtain ⟨x, hp, hm, ho, he⟩ := rowN hq a b
  have h := of_c (m := 0) tN_size hp hv hK (depU a b) hT hm (badU a b) ho
  rw [he] at h
  exact h
theorem whShl (a b : Int) (W : World) : Calls Tryz.prog 36 #[.int .i64 a, .int .i64 b] W fun e w' => e = .returned (.tuple #[.int .i64 (wh 18 a b).1, .int .i64 (wh 18 a b).2]) ∧ w' = W := by
  by_cases h : 0 ≤ b ∧ b ≤ 63
  · have e : wh 18 a b = (num (a * 2 ^ b.toNat), err (a * 2 ^ b.toNat)) := if_pos h
    rw [e]
    exact WhA.shl a b h.1 h.2 W
  · have e : wh 18 a b = (0, 102) := if_neg h
    rw [e]
    exact WhA.shl_bad a b (by omega) W
theorem whShr (a b : Int) (W : World) : Calls Tryz.prog 37 #[.int .i64 a, .int .i64 b] W fun e w' => e = .returned (.tuple #[.int .i64 (wh 19 a b).1, .int .i64 (wh 19 a b).2]) ∧ w' = W := by
  by_cases h : 0 ≤ b ∧ b ≤ 63
  · have e : wh 19 a b = (a / 2 ^ b.toNat, 0) := if_pos h
    rw [e]
    exact WhA.shr a b h.1 h.2 W
  · have e : wh 19 a b = (0, 102) := if_neg h
    rw [e]
    exact WhA.shr_bad a b (by omega) W
end Go.Proofs.YtdeigdbnnbikgaaGreatDoor.VUq
