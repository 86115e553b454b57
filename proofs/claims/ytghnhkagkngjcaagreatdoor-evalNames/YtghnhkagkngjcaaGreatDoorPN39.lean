import Derived.Deep.RegionWith
import Derived.Test.YtghnhkagkngjcaaGreatDoorPN04
import Derived.Test.YtghnhkagkngjcaaGreatDoorPN09
import Derived.Test.YtghnhkagkngjcaaGreatDoorPN17
import Derived.Test.YtghnhkagkngjcaaGreatDoorPN20
import Derived.Test.YtghnhkagkngjcaaGreatDoorPN38
set_option linter.unusedVariables false
set_option maxRecDepth 20000
set_option maxHeartbeats 3200000
namespace Go.Proofs.YtghnhkagkngjcaaGreatDoor.ERe
open Go.RowKit Base UBase EPure ERd ESk ETk EChr ECh ESc EAdv EDn EGx EAll EDo
open XBase (four_box two_box frozen_box Rg)
def Rout (w : World) (e : Ending) (w' : World) : Except F Ex → Prop
 | .ok x => Below w.heap.size w w' ∧ ∃ m a c, e = .returned (.tuple #[.agg #[.int .i64 x.o, .int .i64 x.i, .string x.s, .slice a x.l.length c], .agg #[.int .i64 0, .int .i64 0]]) ∧ XBase.In false (XBase.Rg w.heap.size w'.heap.size) w' m (.agg #[.int .i64 x.o, .int .i64 x.i, .string x.s, .slice a x.l.length c]) x
 | .error f => Below w.heap.size w w' ∧ e = .returned (.tuple #[.agg #[.int .i64 0, .int .i64 0, .string ⟨#[]⟩, .slice none 0 0], .agg #[.int .i64 (f.1 : Nat), .int .i64 (f.2 : Nat)]])
def prk1 : A Ex → Except F Ex
 | .error e => .error e
 | .ok (x, g1) => if g1.tk.k = 0 then .ok x else .error (ends g1.tk)
def prk (s : ByteArray) : Except F Sr → Except F Ex
 | .error e => .error e
 | .ok g => prk1 ((lv2 s 32).2 g)
theorem prs_eq (s : ByteArray) : prs s = prk s (adv s 0 0) := by
 unfold prs prk prk1
 rfl
structure Bx (w W : World) (s : ByteArray) : Prop where
 kr : Below w.heap.size w W
 zV : W.heap[w.heap.size]? = some (.cells #[.int .i64 0, .int .i64 0, .string ⟨#[]⟩, .slice none 0 0] 24 (0, 0))
 zM : W.heap[w.heap.size + 1]? = some (.cells #[.int .i64 0, .int .i64 0] 63 (0, 0))
theorem Bx.step {w W W' : World} {s : ByteArray} (h : Bx w W s) (k : Kr (w.heap.size + 1 + 1) W W') : Bx w W' s := by
 have l1 := (Array.getElem?_eq_some_iff.1 h.zV).1
 have l2 := (Array.getElem?_eq_some_iff.1 h.zM).1
 exact ⟨h.kr.trans (k.below.mono (by omega)), (k.other _ (by omega) l1).trans h.zV, (k.other _ (by omega) l2).trans h.zM⟩
theorem read_c {w : World} {s : ByteArray} (hs : s.size ≤ 140737488351300) (ht : Tabs w) (hg : 2 < w.heap.size ∧ 3 < w.heap.size) :
  Calls Tryz.prog 34 #[.string s] w fun e w' => Rout w e w' (prs s) := by
 have hmf : ∀ (fn : Fn) (first cap : Array Value) (w : World), (Instr.makeFunc fn first cap).run Tryz.prog w = .ok (.func fn first cap) w := fun _ _ _ _ => rfl
 obtain ⟨W, hW⟩ : ∃ W, ((w.alloc (.cells #[.int .i64 0, .int .i64 0, .string ⟨#[]⟩, .slice none 0 0] 24)).alloc (.cells #[.int .i64 0, .int .i64 0] 63)).alloc (.cells #[.string s, .int .i64 0, .int .i64 0, .int .i64 0, .string ⟨#[]⟩, .int .i64 0, .int .i64 0] 85) = W := ⟨_, rfl⟩
 have bW : Below w.heap.size w W := by rw [← hW]; exact (((Below.refl _ w).alloc (Nat.le_refl _) _).alloc (by simp) _).alloc (by simp <;> omega) _
 have sW : W.heap.size = w.heap.size + 3 := by rw [← hW]; simp
 have zV : W.heap[w.heap.size]? = some (.cells #[.int .i64 0, .int .i64 0, .string ⟨#[]⟩, .slice none 0 0] 24 (0, 0)) := by rw [← hW, Below.heap_alloc _ _ _ (by simp <;> omega), Below.heap_alloc _ _ _ (by simp), heap_alloc_new]
 have zM : W.heap[w.heap.size + 1]? = some (.cells #[.int .i64 0, .int .i64 0] 63 (0, 0)) := by
  rw [← hW, Below.heap_alloc _ _ _ (by simp)]
  have := heap_alloc_new (w.alloc (.cells #[.int .i64 0, .int .i64 0, .string ⟨#[]⟩, .slice none 0 0] 24)) (.cells #[.int .i64 0, .int .i64 0] 63)
  rwa [World.size_alloc] at this
 have zR : W.heap[w.heap.size + 1 + 1]? = some (.cells #[.string s, .int .i64 (0 : Nat), .int .i64 (0 : Nat), .int .i64 (0 : Nat), .string ⟨#[]⟩, .int .i64 0, .int .i64 (0 : Nat)] 85 (0, 0)) := by
  rw [← hW]
  have := heap_alloc_new ((w.alloc (.cells #[.int .i64 0, .int .i64 0, .string ⟨#[]⟩, .slice none 0 0] 24)).alloc (.cells #[.int .i64 0, .int .i64 0] 63)) (.cells #[.string s, .int .i64 0, .int .i64 0, .int .i64 0, .string ⟨#[]⟩, .int .i64 0, .int .i64 0] 85)
  rwa [World.size_alloc, World.size_alloc] at this
 have hE : Es W (w.heap.size + 1 + 1) s 0 0 ⟨0, ⟨#[]⟩, 0, 0⟩ := ⟨⟨zR, by omega, hs⟩, tab_keep ht (bW.block _ hg.1) (bW.block _ hg.2), by omega, by omega⟩
 have B0 : Bx w W s := ⟨bW, zV, zM⟩
 have cA := adv_c hE (by omega)
 rw [prs_eq]
 obtain ⟨X, hX⟩ : ∃ X, adv s 0 0 = X := ⟨_, rfl⟩
 rw [hX] at cA ⊢
 have HX : Hid (adv s 0 0 = X) := hX
 obtain ⟨U, hU⟩ : ∃ U, prk s X = U := ⟨_, rfl⟩
 rw [hU]
 have HU : Hid (prk s X = U) := hU
 have HE : Hid (Es W (w.heap.size + 1 + 1) s 0 0 ⟨0, ⟨#[]⟩, 0, 0⟩) := hE
 have HW : Hid (((w.alloc (.cells #[.int .i64 0, .int .i64 0, .string ⟨#[]⟩, .slice none 0 0] 24)).alloc (.cells #[.int .i64 0, .int .i64 0] 63)).alloc (.cells #[.string s, .int .i64 0, .int .i64 0, .int .i64 0, .string ⟨#[]⟩, .int .i64 0, .int .i64 0] 85) = W) := hW
 unfold ptr at cA
 rw [← hW] at cA
 clear hX hU hE zR zV zM bW hW
 go_enter_defers Tryz.func34, Tryz.ntmps34
 go_wp2_with fail
 refine cA.mono ?_
 intro e W1 hA
 rw [HW.out] at hA
 clear cA
 cases X with
 | error f =>
  obtain ⟨K1, rfl⟩ := hA
  have hU : Except.error f = U := HU.out
  subst hU
  have B1 := B0.step K1
  have HB1 : Hid (Bx w W1 s) := B1
  refine leaves_cons (f := 55) (args := #[.pointer (some ⟨w.heap.size, 0, none⟩), .pointer (some ⟨w.heap.size + 1, 0, none⟩)]) (by simp) (by simp [go_sem]) ?_
  refine (catch_fault w.heap.size (w.heap.size + 1) f.1 f.2 [] W1 _ _ _ _ _ _ B1.zV B1.zM).mono ?_
  rintro e u' w5 ⟨rfl, rfl, r1, r2, r3⟩
  obtain ⟨c0, c1, c2, c3⟩ := four_box r1
  obtain ⟨m0, m1⟩ := two_box r2
  have HD : Hid (Below w.heap.size w w5) := HB1.out.kr.trans (r3 _ (by omega) (by omega))
  simp [Leaves, settle, results, Tryz.results34, go_sem, c0, c1, c2, c3, m0, m1]
  exact ⟨HD.out, rfl⟩
 | ok g1 =>
  obtain ⟨K1, ⟨z, rfl⟩, E1⟩ := hA
  have B1 := B0.step K1
  have ho1 : SrOk s g1 := (adv_in (Nat.zero_le _) (by omega) HX.out).1
  have S1 := HE.out.step K1 E1
  have cC := choice_top s W1 _ g1 S1 ho1
  obtain ⟨Y, hY⟩ : ∃ Y, (lv2 s 32).2 g1 = Y := ⟨_, rfl⟩
  have HY : Hid ((lv2 s 32).2 g1 = Y) := hY
  have HU1 : Hid (prk1 Y = U) := by
   show _ = _
   rw [← hY]
   exact HU.out
  rw [hY, show ((1 : Nat) : Int) = 1 from rfl] at cC
  unfold ptr at cC
  have l1 : W.heap.size ≤ W1.heap.size := K1.below.size
  clear hY K1 E1 B0 HU HE HW
  go_wp2_with fail
  refine cC.mono ?_
  intro e W2 hC
  clear cC
  cases Y with
  | error f =>
   obtain ⟨K2, rfl⟩ := hC
   have hU : Except.error f = U := HU1.out
   subst hU
   have B2 := B1.step K2
   have HB2 : Hid (Bx w W2 s) := B2
   refine leaves_cons (f := 55) (args := #[.pointer (some ⟨w.heap.size, 0, none⟩), .pointer (some ⟨w.heap.size + 1, 0, none⟩)]) (by simp) (by simp [go_sem]) ?_
   refine (catch_fault w.heap.size (w.heap.size + 1) f.1 f.2 [] W2 _ _ _ _ _ _ B2.zV B2.zM).mono ?_
   rintro e u' w5 ⟨rfl, rfl, r1, r2, r3⟩
   obtain ⟨c0, c1, c2, c3⟩ := four_box r1
   obtain ⟨m0, m1⟩ := two_box r2
   have HD : Hid (Below w.heap.size w w5) := HB2.out.kr.trans (r3 _ (by omega) (by omega))
   simp [Leaves, settle, results, Tryz.results34, go_sem, c0, c1, c2, c3, m0, m1]
   exact ⟨HD.out, rfl⟩
  | ok p =>
   obtain ⟨x, g2⟩ := p
   obtain ⟨K2, ⟨m, a, c, rfl, hin⟩, E2⟩ := hC
   have B2 := B1.step K2
   have l2 := K2.below.size
   obtain ⟨d0, d1, d2, d3⟩ := four_box B2.zV
   have f0 := XBase.frozen_box B2.zV 0
   have f1 := XBase.frozen_box B2.zV 1
   have f2 := XBase.frozen_box B2.zV 2
   have f3 := XBase.frozen_box B2.zV 3
   obtain ⟨W3, hW3⟩ : ∃ W3, ((((W2.setCell ⟨w.heap.size, 0, none⟩ (.int .i64 x.o)).setCell ⟨w.heap.size, 1, none⟩ (.int .i64 x.i)).setCell ⟨w.heap.size, 2, none⟩ (.string x.s)).setCell ⟨w.heap.size, 3, none⟩ (.slice a x.l.length c)) = W3 := ⟨_, rfl⟩
   obtain ⟨q1, q2, q3, q4⟩ := set4 _ _ _ _ B2.zV hW3
   have zM3 := (q2 (w.heap.size + 1) (by omega)).trans B2.zM
   have E3 : Er W3 (w.heap.size + 1 + 1) s g2.a g2.r g2.tk := E2.keep (q2 _ (by omega))
   have b3 : Below w.heap.size w W3 := q4 _ _ (Nat.le_refl _) B2.kr
   have hin3 : XBase.In false (XBase.Rg W1.heap.size W3.heap.size) W3 m (.agg #[.int .i64 x.o, .int .i64 x.i, .string x.s, .slice a x.l.length c]) x := by
    rw [q3]
    exact hin.keep fun b hb _ => q2 b (by have := hb.1; omega)
   obtain ⟨-, -, -, k3, k4, k5, k6⟩ := E3.cells
   have HQ1 : Hid (W3.heap[w.heap.size]? = some (.cells #[.int .i64 x.o, .int .i64 x.i, .string x.s, .slice a x.l.length c] 24 (0, 0))) := q1
   have HM3 : Hid (W3.heap[w.heap.size + 1]? = some (.cells #[.int .i64 0, .int .i64 0] 63 (0, 0))) := zM3
   have HB3 : Hid (Below w.heap.size w W3) := b3
   have HI3 : Hid (XBase.In false (XBase.Rg W1.heap.size W3.heap.size) W3 m (.agg #[.int .i64 x.o, .int .i64 x.i, .string x.s, .slice a x.l.length c]) x) := hin3
   have hl3 : W2.heap.size = W3.heap.size := q3.symm
   have HL3 : Hid (W2.heap.size = W3.heap.size) := hl3
   clear q1 q2 q3 q4 zM3 E3 b3 hin3 hin B2 B1 K2 E2 hl3
   by_cases hk : g2.tk.k = 0
   ·have hU : Except.ok x = U := by
     rw [← HU1.out]
     unfold prk1
     dsimp only
     rw [if_pos hk]
    subst hU
    rw [hk] at k3
    have q1 := HQ1.out
    have zM := HM3.out
    obtain ⟨y0, y1, y2, y3⟩ := four_box q1
    obtain ⟨z0, z1⟩ := two_box zM
    have g0 := XBase.frozen_box q1 0
    have g1' := XBase.frozen_box q1 1
    have g2' := XBase.frozen_box q1 2
    have g3 := XBase.frozen_box q1 3
    have n0 := XBase.frozen_box zM 0
    have n1 := XBase.frozen_box zM 1
    clear hk q1 zM
    go_wp2_with fail
    clear hW3
    go_region
    obtain ⟨W8, hW8⟩ : ∃ W8, ((((W3.setCell ⟨w.heap.size, 0, none⟩ (.int .i64 x.o)).setCell ⟨w.heap.size, 1, none⟩ (.int .i64 x.i)).setCell ⟨w.heap.size, 2, none⟩ (.string x.s)).setCell ⟨w.heap.size, 3, none⟩ (.slice a x.l.length c)) = W8 := ⟨_, rfl⟩
    rw [hW8]
    obtain ⟨p1, p2, p3, p4⟩ := set4 _ _ _ _ HQ1.out hW8
    obtain ⟨W9, hW9⟩ : ∃ W9, (W8.setCell ⟨w.heap.size + 1, 0, none⟩ (.int .i64 0)).setCell ⟨w.heap.size + 1, 1, none⟩ (.int .i64 0) = W9 := ⟨_, rfl⟩
    rw [hW9]
    have v9 : W9.heap[w.heap.size]? = some (.cells #[.int .i64 x.o, .int .i64 x.i, .string x.s, .slice a x.l.length c] 24 (0, 0)) := by rw [← hW9, Below.heap_setCell _ _ _ _ (by simp), Below.heap_setCell _ _ _ _ (by simp)]; exact p1
    have m9 : W9.heap[w.heap.size + 1]? = some (.cells #[.int .i64 0, .int .i64 0] 63 (0, 0)) := by
     rw [← hW9, EDo.block_set (EDo.block_set ((p2 _ (by omega)).trans HM3.out) _) _]; rfl
    have o9 : ∀ g, g ≠ w.heap.size → g ≠ w.heap.size + 1 → W9.heap[g]? = W3.heap[g]? := fun g e1 e2 => by rw [← hW9, Below.heap_setCell _ _ _ _ e2, Below.heap_setCell _ _ _ _ e2]; exact p2 g e1
    go_wp2_with fail
    have s9 : W9.heap.size = W3.heap.size := by rw [← hW9, ← p3]; simp [World.setCell]
    have b9 : Below w.heap.size w W9 := by rw [← hW9]; exact ((p4 _ _ (Nat.le_refl _) HB3.out).setCell (p := ⟨w.heap.size + 1, 0, none⟩) (by simp) _).setCell (p := ⟨w.heap.size + 1, 1, none⟩) (by simp) _
    have l9 := HL3.out
    refine leaves_cons (f := 55) (args := #[.pointer (some ⟨w.heap.size, 0, none⟩), .pointer (some ⟨w.heap.size + 1, 0, none⟩)]) (by simp) (by simp [go_sem]) ?_
    refine (catch_idle ⟨w.heap.size, 0, none⟩ ⟨w.heap.size + 1, 0, none⟩ W9.drew).mono ?_
    rintro e u' wa ⟨rfl, rfl, ba⟩
    have ba : Below W9.heap.size W9 wa := (Below.refl _ W9).drew.trans ba
    have sa := ba.size
    obtain ⟨c0, c1, c2, c3⟩ := four_box ((ba.block w.heap.size (by omega)).trans v9)
    obtain ⟨m0, m1⟩ := two_box ((ba.block (w.heap.size + 1) (by omega)).trans m9)
    have HD : Hid (Below w.heap.size w wa) := b9.trans (ba.mono (by omega))
    have HF : Hid (XBase.In false (XBase.Rg w.heap.size wa.heap.size) wa m (.agg #[.int .i64 x.o, .int .i64 x.i, .string x.s, .slice a x.l.length c]) x) :=
     in_rg (HI3.out.keep fun g hg hlt => (ba.block g (by omega)).trans (o9 g (by have := hg.1; omega) (by have := hg.1; omega))) (by omega) (by omega)
    simp [Leaves, settle, results, Tryz.results34, go_sem, c0, c1, c2, c3, m0, m1]
    exact ⟨HD.out, m, a, c, rfl, HF.out⟩
   ·have hU : Except.error (ends g2.tk) = U := by
     rw [← HU1.out]
     unfold prk1
     dsimp only
     rw [if_neg hk]
    subst hU
    have e0 : (((g2.tk.k : Nat) : Int) != 0) = true := by simp; omega
    have cM := misplaced_c g2.tk W3
    clear hk
    go_wp2_with fail
    refine cM.mono ?_
    rintro e W4 ⟨rfl, b4⟩
    clear hW3
    have v4 := (b4.block w.heap.size (by have := (Array.getElem?_eq_some_iff.1 HQ1.out).1; omega)).trans HQ1.out
    have m4 := (b4.block (w.heap.size + 1) (by have := (Array.getElem?_eq_some_iff.1 HM3.out).1; omega)).trans HM3.out
    have HB4 : Hid (Below w.heap.size w W4) := nx HB3.out b4
    go_wp2_with fail
    refine leaves_cons (f := 55) (args := #[.pointer (some ⟨w.heap.size, 0, none⟩), .pointer (some ⟨w.heap.size + 1, 0, none⟩)]) (by simp) (by simp [go_sem]) ?_
    refine (catch_fault w.heap.size (w.heap.size + 1) 1000 g2.tk.a [] W4 _ _ _ _ _ _ v4 m4).mono ?_
    rintro e u' w5 ⟨rfl, rfl, r1, r2, r3⟩
    obtain ⟨c0, c1, c2, c3⟩ := four_box r1
    obtain ⟨m0, m1⟩ := two_box r2
    have HD : Hid (Below w.heap.size w w5) := HB4.out.trans (r3 _ (by omega) (by omega))
    simp [Leaves, settle, results, Tryz.results34, go_sem, c0, c1, c2, c3, m0, m1]
    exact ⟨HD.out, rfl⟩
end Go.Proofs.YtghnhkagkngjcaaGreatDoor.ERe
namespace Go.Proofs.YtghnhkagkngjcaaGreatDoor.EPs
open Go.RowKit Base UBase EPure ERd EChr ECh EGx EDo ERe
open XBase (four_box two_box frozen_box Rg)
def Pout (w : World) (e : Ending) (w' : World) : Except F Ex → Prop
 | .ok x => Below w.heap.size w w' ∧ ∃ m a c, e = .returned (.tuple #[.agg #[.int .i64 x.o, .int .i64 x.i, .string x.s, .slice a x.l.length c], .int .i64 0, .int .i64 0]) ∧ XBase.In false (XBase.Rg w.heap.size w'.heap.size) w' m (.agg #[.int .i64 x.o, .int .i64 x.i, .string x.s, .slice a x.l.length c]) x
 | .error f => Below w.heap.size w w' ∧ e = .returned (.tuple #[.agg #[.int .i64 0, .int .i64 0, .string ⟨#[]⟩, .slice none 0 0], .int .i64 (f.2 : Nat), .int .i64 (f.1 : Nat)])
theorem parse_gen {w : World} {s : ByteArray} (Q : Value → Int → Int → World → Prop)
  (cD : Calls Tryz.prog 34 #[.string s] (w.alloc (.cells #[.int .i64 0, .int .i64 0, .string ⟨#[]⟩, .slice none 0 0] 24)) fun e w' => ∃ k i t a n c c0 c1, e = .returned (.tuple #[.agg #[.int .i64 k, .int .i64 i, .string t, .slice a n c], .agg #[.int .i64 c0, .int .i64 c1]]) ∧ w.heap.size < w'.heap.size ∧ Below w.heap.size w w' ∧ w'.heap[w.heap.size]? = some (.cells #[.int .i64 0, .int .i64 0, .string ⟨#[]⟩, .slice none 0 0] 24 (0, 0)) ∧ Q (.agg #[.int .i64 k, .int .i64 i, .string t, .slice a n c]) c0 c1 w') :
  Calls Tryz.prog 25 #[.string s] w fun e w'' => ∃ u c0 c1 w4, Q u c0 c1 w4 ∧ e = .returned (.tuple #[u, .int .i64 c1, .int .i64 c0]) ∧ w.heap.size < w4.heap.size ∧ Below w.heap.size w w'' ∧ (∀ g, g ≠ w.heap.size → g < w4.heap.size → w''.heap[g]? = w4.heap[g]?) ∧ w4.heap.size ≤ w''.heap.size := by
 go_enter Tryz.func25, Tryz.ntmps25
 go_wp2_with fail
 refine cD.mono ?_
 rintro e w4 ⟨k, i, t, a, n, c, c0, c1, rfl, l4, b4, gV, hQ⟩
 have HGV : Hid (w4.heap[w.heap.size]? = some (.cells #[.int .i64 0, .int .i64 0, .string ⟨#[]⟩, .slice none 0 0] 24 (0, 0))) := gV
 have HB4 : Hid (Below w.heap.size w w4) := b4
 have HQ : Hid (Q (.agg #[.int .i64 k, .int .i64 i, .string t, .slice a n c]) c0 c1 w4) := hQ
 clear gV b4 hQ cD
 go_wp2_with fail
 obtain ⟨W5, hW5⟩ : ∃ W5, (w4.alloc (.cells #[.int .i64 k, .int .i64 i, .string t, .slice a n c] 24)).alloc (.cells #[.int .i64 c0, .int .i64 c1] 63) = W5 := ⟨_, rfl⟩
 rw [hW5]
 have b5 : Below w4.heap.size w4 W5 := by rw [← hW5]; exact ((Below.refl _ w4).alloc (Nat.le_refl _) _).alloc (by simp) _
 have s5 : W5.heap.size = w4.heap.size + 2 := by rw [← hW5]; simp
 have u5 : W5.heap[w4.heap.size]? = some (.cells #[.int .i64 k, .int .i64 i, .string t, .slice a n c] 24 (0, 0)) := by rw [← hW5, Below.heap_alloc _ _ _ (by simp), heap_alloc_new]
 have m5 : W5.heap[w4.heap.size + 1]? = some (.cells #[.int .i64 c0, .int .i64 c1] 63 (0, 0)) := by
  rw [← hW5]
  have := heap_alloc_new (w4.alloc (.cells #[.int .i64 k, .int .i64 i, .string t, .slice a n c] 24)) (.cells #[.int .i64 c0, .int .i64 c1] 63)
  rwa [World.size_alloc] at this
 have v5 := (b5.block w.heap.size l4).trans HGV.out
 obtain ⟨d0, d1, d2, d3⟩ := four_box v5
 obtain ⟨e0, e1, e2, e3⟩ := four_box u5
 obtain ⟨m0, m1⟩ := two_box m5
 have f0 := XBase.frozen_box v5 0
 have f1 := XBase.frozen_box v5 1
 have f2 := XBase.frozen_box v5 2
 have f3 := XBase.frozen_box v5 3
 have n1 : w.heap.size ≠ w4.heap.size := by omega
 have n2 : w4.heap.size ≠ w.heap.size := by omega
 have n3 : w.heap.size ≠ w4.heap.size + 1 := by omega
 have n4 : w4.heap.size + 1 ≠ w.heap.size := by omega
 have HV5 : Hid (W5.heap[w.heap.size]? = some (.cells #[.int .i64 0, .int .i64 0, .string ⟨#[]⟩, .slice none 0 0] 24 (0, 0))) := v5
 have HB5 : Hid (Below w4.heap.size w4 W5) := b5
 have HS5 : Hid (W5.heap.size = w4.heap.size + 2) := s5
 clear hW5 v5 u5 m5 b5 s5
 go_region
 obtain ⟨W6, hW6⟩ : ∃ W6, ((((W5.setCell ⟨w.heap.size, 0, none⟩ (.int .i64 k)).setCell ⟨w.heap.size, 1, none⟩ (.int .i64 i)).setCell ⟨w.heap.size, 2, none⟩ (.string t)).setCell ⟨w.heap.size, 3, none⟩ (.slice a n c)) = W6 := ⟨_, rfl⟩
 rw [hW6]
 obtain ⟨q1, q2, q3, q4⟩ := set4 _ _ _ _ HV5.out hW6
 go_wp2_with fail
 have v6 : W6.drew.heap[w.heap.size]? = _ := q1
 obtain ⟨p0, p1, p2, p3⟩ := four_box v6
 refine bodyPost_ret (v := .tuple #[.agg #[.int .i64 k, .int .i64 i, .string t, .slice a n c], .int .i64 c1, .int .i64 c0]) (by simp [results, Tryz.results25, go_sem, p0, p1, p2, p3]) rfl ?_
 have s5 := HS5.out
 exact ⟨_, c0, c1, w4, HQ.out, rfl, l4, (q4 _ _ (Nat.le_refl _) (HB4.out.trans (HB5.out.mono (by omega)))).drew, fun g h1 h2 => (q2 g h1).trans (HB5.out.block g h2), by show _ ≤ W6.heap.size; omega⟩
theorem parse_c {w : World} {s : ByteArray} (hs : s.size ≤ 140737488351300) (ht : Tabs w) (hg : 2 < w.heap.size ∧ 3 < w.heap.size) :
  Calls Tryz.prog 25 #[.string s] w fun e w' => Pout w e w' (prs s) := by
 obtain ⟨W0, hW0⟩ : ∃ W0, w.alloc (.cells #[.int .i64 0, .int .i64 0, .string ⟨#[]⟩, .slice none 0 0] 24) = W0 := ⟨_, rfl⟩
 have b0 : Below w.heap.size w W0 := by rw [← hW0]; exact (Below.refl _ w).alloc (Nat.le_refl _) _
 have s0 : W0.heap.size = w.heap.size + 1 := by rw [← hW0]; simp
 have hz : W0.heap[w.heap.size]? = some (.cells #[.int .i64 0, .int .i64 0, .string ⟨#[]⟩, .slice none 0 0] 24 (0, 0)) := by rw [← hW0]; exact heap_alloc_new w _
 have cD := read_c (w := W0) hs (tab_keep ht (b0.block _ hg.1) (b0.block _ hg.2)) ⟨by omega, by omega⟩
 generalize prs s = X at cD ⊢
 cases X with
 | error x =>
  refine (parse_gen (fun u c0 c1 w4 => u = .agg #[.int .i64 0, .int .i64 0, .string ⟨#[]⟩, .slice none 0 0] ∧ c0 = x.1 ∧ c1 = x.2) ?_).mono ?_
  ·rw [hW0]
   refine cD.mono ?_
   rintro e w4 ⟨b4, rfl⟩
   exact ⟨_, _, _, _, _, _, _, _, rfl, by have := b4.size; omega, b0.trans (b4.mono (by omega)), (b4.block _ (by omega)).trans hz, rfl, rfl, rfl⟩
  ·rintro e w' ⟨u, c0, c1, w4, ⟨rfl, rfl, rfl⟩, rfl, -, h2, -, -⟩
   exact ⟨h2, rfl⟩
 | ok x =>
  refine (parse_gen (fun u c0 c1 w4 => c0 = 0 ∧ c1 = 0 ∧ ∃ m a c, u = .agg #[.int .i64 x.o, .int .i64 x.i, .string x.s, .slice a x.l.length c] ∧ XBase.In false (XBase.Rg W0.heap.size w4.heap.size) w4 m (.agg #[.int .i64 x.o, .int .i64 x.i, .string x.s, .slice a x.l.length c]) x) ?_).mono ?_
  ·rw [hW0]
   refine cD.mono ?_
   rintro e w4 ⟨b4, m, a, c, rfl, hin⟩
   exact ⟨_, _, _, _, _, _, _, _, rfl, by have := b4.size; omega, b0.trans (b4.mono (by omega)), (b4.block _ (by omega)).trans hz, rfl, rfl, m, a, c, rfl, hin⟩
  ·rintro e w' ⟨u, c0, c1, w4, ⟨rfl, rfl, m, a, c, rfl, hin⟩, rfl, l4, h2, h3, h4⟩
   exact ⟨h2, m, a, c, rfl, in_rg (hin.keep fun g hg hlt => h3 g (by have := hg.1; omega) hlt) (by omega) (by omega)⟩
end Go.Proofs.YtghnhkagkngjcaaGreatDoor.EPs
namespace Go.Proofs.YtghnhkagkngjcaaGreatDoor.ELn
open EPure
def eqx : Nat → Ex → Ex → Bool
 | 0, _, _ => false
 | n + 1, .mk o i s l, .mk o' i' s' l' => ((o == o') && (i == i')) && ((s.data.toList == s'.data.toList) && ((l.length == l'.length) && (l.zip l').all fun p => eqx n p.1 p.2))
theorem zip_eq {n : Nat} (ih : ∀ x y, eqx n x y = true → x = y) : ∀ (l l' : List Ex), l.length = l'.length → ((l.zip l').all fun p => eqx n p.1 p.2) = true → l = l'
 | [], [], _, _ => rfl
 | x :: t, y :: t', h, ha => by
  simp only [List.zip_cons_cons, List.all_cons, Bool.and_eq_true] at ha
  rw [ih x y ha.1, zip_eq ih t t' (by simpa using h) ha.2]
theorem eqx_eq : ∀ n x y, eqx n x y = true → x = y
 | 0, _, _, h => by cases h
 | n + 1, .mk o i s l, .mk o' i' s' l', h => by
  simp only [eqx, Bool.and_eq_true, beq_iff_eq] at h
  obtain ⟨⟨rfl, rfl⟩, hs, hl, ha⟩ := h
  obtain rfl := zip_eq (eqx_eq n) l l' hl ha
  obtain rfl : s = s' := by cases s; cases s'; congr 1; exact Array.toList_inj.1 hs
  rfl
def va : Ex := .mk 6 0 ⟨#[97]⟩ []
def isx (t : List UInt8) (x : Ex) : Bool := match prs ⟨t.toArray⟩ with
 | .ok y => eqx 4 y x
 | .error _ => false
end Go.Proofs.YtghnhkagkngjcaaGreatDoor.ELn
namespace Go.Proofs.YtghnhkagkngjcaaGreatDoor.QLv
open Go.RowKit Base EPure PPl
def allocs (w : World) : List Obj → World
 | [] => w
 | o :: L => allocs (w.alloc o) L
theorem allocs_below : ∀ (L : List Obj) (w : World) (B : Nat), B ≤ w.heap.size → Below B w (allocs w L)
 | [], w, B, h => Below.refl B w
 | o :: L, w, B, h => ((Below.refl B w).alloc h o).trans (allocs_below L (w.alloc o) B (by rw [World.size_alloc]; omega))
theorem allocs_at : ∀ (L : List Obj) (w : World) (j : Nat), j < L.length → (allocs w L).heap[w.heap.size + j]? = L[j]?
 | o :: L, w, 0, _ => by
  rw [allocs, Nat.add_zero, (allocs_below L (w.alloc o) (w.heap.size + 1) (by rw [World.size_alloc]; omega)).block w.heap.size (by omega), heap_alloc_new]
  rfl
 | o :: L, w, j + 1, h => by
  have := allocs_at L (w.alloc o) j (by simpa using h)
  rw [World.size_alloc] at this
  rw [allocs, show w.heap.size + (j + 1) = w.heap.size + 1 + j by omega, this]
  rfl
def tb (k i : Nat) : Int := ((lvs.getD k []).getD i ([], 0)).2
def nb (k : Nat) : Nat := (lvs.getD k []).length
def Ot (w : World) (g : Nat) : Prop := ∀ k, k < 11 → ∃ b, w.cell? ⟨g, k, none⟩ = some (.slice (some ⟨b, 0, none⟩) (nb k) (nb k)) ∧ ∀ i, i < nb k → w.cell? ⟨b, i, none⟩ = some (.int .i64 (tb k i))
theorem ops_c (w : World) : Calls Tryz.prog 73 #[] w fun e w' => Below w.heap.size w w' ∧ ∃ g, e = .returned (.slice (some ⟨g, 0, none⟩) 11 11) ∧ Ot w' g := by
 go_enter Tryz.func73, Tryz.ntmps73
 go_wp2_with fail
 go_ret
 obtain ⟨L, hL⟩ : ∃ L : List Obj, L = [.cells #[.int .i64 30] 3, .cells #[.int .i64 29] 3, .cells #[.int .i64 27, .int .i64 28] 3, .cells #[.int .i64 23, .int .i64 24, .int .i64 25, .int .i64 26] 3, .cells #[.int .i64 22] 3, .cells #[.int .i64 21] 3, .cells #[.int .i64 20] 3, .cells #[.int .i64 18, .int .i64 19] 3, .cells #[.int .i64 17] 3, .cells #[.int .i64 15, .int .i64 16] 3, .cells #[.int .i64 12, .int .i64 13, .int .i64 14] 3, .cells #[.slice (some ⟨w.heap.size, 0, none⟩) 1 1, .slice (some ⟨w.heap.size + 1, 0, none⟩) 1 1, .slice (some ⟨w.heap.size + 1 + 1, 0, none⟩) 2 2, .slice (some ⟨w.heap.size + 1 + 1 + 1, 0, none⟩) 4 4, .slice (some ⟨w.heap.size + 1 + 1 + 1 + 1, 0, none⟩) 1 1, .slice (some ⟨w.heap.size + 1 + 1 + 1 + 1 + 1, 0, none⟩) 1 1, .slice (some ⟨w.heap.size + 1 + 1 + 1 + 1 + 1 + 1, 0, none⟩) 1 1, .slice (some ⟨w.heap.size + 1 + 1 + 1 + 1 + 1 + 1 + 1, 0, none⟩) 2 2, .slice (some ⟨w.heap.size + 1 + 1 + 1 + 1 + 1 + 1 + 1 + 1, 0, none⟩) 1 1, .slice (some ⟨w.heap.size + 1 + 1 + 1 + 1 + 1 + 1 + 1 + 1 + 1, 0, none⟩) 2 2, .slice (some ⟨w.heap.size + 1 + 1 + 1 + 1 + 1 + 1 + 1 + 1 + 1 + 1, 0, none⟩) 3 3] 107] := ⟨_, rfl⟩
 have hlen : L.length = 12 := by rw [hL]; rfl
 have hW : ∀ j, j < 12 → (allocs w L).heap[w.heap.size + j]? = L[j]? := fun j hj => allocs_at L w j (by omega)
 have hb := allocs_below L w w.heap.size (Nat.le_refl _)
 have key : Ot (allocs w L) (w.heap.size + 11) := by
  have h0 : (allocs w L).heap[w.heap.size + 0]? = some (.cells #[.int .i64 30] 3 (0, 0)) := (hW 0 (by omega)).trans (by rw [hL]; rfl)
  have h1 : (allocs w L).heap[w.heap.size + 1]? = some (.cells #[.int .i64 29] 3 (0, 0)) := (hW 1 (by omega)).trans (by rw [hL]; rfl)
  have h2 : (allocs w L).heap[w.heap.size + 2]? = some (.cells #[.int .i64 27, .int .i64 28] 3 (0, 0)) := (hW 2 (by omega)).trans (by rw [hL]; rfl)
  have h3 : (allocs w L).heap[w.heap.size + 3]? = some (.cells #[.int .i64 23, .int .i64 24, .int .i64 25, .int .i64 26] 3 (0, 0)) := (hW 3 (by omega)).trans (by rw [hL]; rfl)
  have h4 : (allocs w L).heap[w.heap.size + 4]? = some (.cells #[.int .i64 22] 3 (0, 0)) := (hW 4 (by omega)).trans (by rw [hL]; rfl)
  have h5 : (allocs w L).heap[w.heap.size + 5]? = some (.cells #[.int .i64 21] 3 (0, 0)) := (hW 5 (by omega)).trans (by rw [hL]; rfl)
  have h6 : (allocs w L).heap[w.heap.size + 6]? = some (.cells #[.int .i64 20] 3 (0, 0)) := (hW 6 (by omega)).trans (by rw [hL]; rfl)
  have h7 : (allocs w L).heap[w.heap.size + 7]? = some (.cells #[.int .i64 18, .int .i64 19] 3 (0, 0)) := (hW 7 (by omega)).trans (by rw [hL]; rfl)
  have h8 : (allocs w L).heap[w.heap.size + 8]? = some (.cells #[.int .i64 17] 3 (0, 0)) := (hW 8 (by omega)).trans (by rw [hL]; rfl)
  have h9 : (allocs w L).heap[w.heap.size + 9]? = some (.cells #[.int .i64 15, .int .i64 16] 3 (0, 0)) := (hW 9 (by omega)).trans (by rw [hL]; rfl)
  have h10 : (allocs w L).heap[w.heap.size + 10]? = some (.cells #[.int .i64 12, .int .i64 13, .int .i64 14] 3 (0, 0)) := (hW 10 (by omega)).trans (by rw [hL]; rfl)
  have h11 : (allocs w L).heap[w.heap.size + 11]? = some (.cells #[.slice (some ⟨w.heap.size, 0, none⟩) 1 1, .slice (some ⟨w.heap.size + 1, 0, none⟩) 1 1, .slice (some ⟨w.heap.size + 1 + 1, 0, none⟩) 2 2, .slice (some ⟨w.heap.size + 1 + 1 + 1, 0, none⟩) 4 4, .slice (some ⟨w.heap.size + 1 + 1 + 1 + 1, 0, none⟩) 1 1, .slice (some ⟨w.heap.size + 1 + 1 + 1 + 1 + 1, 0, none⟩) 1 1, .slice (some ⟨w.heap.size + 1 + 1 + 1 + 1 + 1 + 1, 0, none⟩) 1 1, .slice (some ⟨w.heap.size + 1 + 1 + 1 + 1 + 1 + 1 + 1, 0, none⟩) 2 2, .slice (some ⟨w.heap.size + 1 + 1 + 1 + 1 + 1 + 1 + 1 + 1, 0, none⟩) 1 1, .slice (some ⟨w.heap.size + 1 + 1 + 1 + 1 + 1 + 1 + 1 + 1 + 1, 0, none⟩) 2 2, .slice (some ⟨w.heap.size + 1 + 1 + 1 + 1 + 1 + 1 + 1 + 1 + 1 + 1, 0, none⟩) 3 3] 107 (0, 0)) := (hW 11 (by omega)).trans (by rw [hL]; rfl)
  clear hW hb hlen hL
  generalize allocs w L = W at *
  rw [Nat.add_zero] at h0
  intro k hk
  match k, hk with
  | 0, _ =>
   refine ⟨w.heap.size + 0, by simp [World.cell?, h11, nb, lvs], fun i hi => ?_⟩
   match i, hi with
   | 0, _ => simp [World.cell?, h0, tb, lvs]
   | i + 1, h => exact absurd h (by simp [nb, lvs])
  | 1, _ =>
   refine ⟨w.heap.size + 1, by simp [World.cell?, h11, nb, lvs], fun i hi => ?_⟩
   match i, hi with
   | 0, _ => simp [World.cell?, h1, tb, lvs]
   | i + 1, h => exact absurd h (by simp [nb, lvs])
  | 2, _ =>
   refine ⟨w.heap.size + 2, by simp [World.cell?, h11, nb, lvs], fun i hi => ?_⟩
   match i, hi with
   | 0, _ => simp [World.cell?, h2, tb, lvs]
   | 1, _ => simp [World.cell?, h2, tb, lvs]
   | i + 2, h => exact absurd h (by simp [nb, lvs])
  | 3, _ =>
   refine ⟨w.heap.size + 3, by simp [World.cell?, h11, nb, lvs], fun i hi => ?_⟩
   match i, hi with
   | 0, _ => simp [World.cell?, h3, tb, lvs]
   | 1, _ => simp [World.cell?, h3, tb, lvs]
   | 2, _ => simp [World.cell?, h3, tb, lvs]
   | 3, _ => simp [World.cell?, h3, tb, lvs]
   | i + 4, h => exact absurd h (by simp [nb, lvs])
  | 4, _ =>
   refine ⟨w.heap.size + 4, by simp [World.cell?, h11, nb, lvs], fun i hi => ?_⟩
   match i, hi with
   | 0, _ => simp [World.cell?, h4, tb, lvs]
   | i + 1, h => exact absurd h (by simp [nb, lvs])
  | 5, _ =>
   refine ⟨w.heap.size + 5, by simp [World.cell?, h11, nb, lvs], fun i hi => ?_⟩
   match i, hi with
   | 0, _ => simp [World.cell?, h5, tb, lvs]
   | i + 1, h => exact absurd h (by simp [nb, lvs])
  | 6, _ =>
   refine ⟨w.heap.size + 6, by simp [World.cell?, h11, nb, lvs], fun i hi => ?_⟩
   match i, hi with
   | 0, _ => simp [World.cell?, h6, tb, lvs]
   | i + 1, h => exact absurd h (by simp [nb, lvs])
  | 7, _ =>
   refine ⟨w.heap.size + 7, by simp [World.cell?, h11, nb, lvs], fun i hi => ?_⟩
   match i, hi with
   | 0, _ => simp [World.cell?, h7, tb, lvs]
   | 1, _ => simp [World.cell?, h7, tb, lvs]
   | i + 2, h => exact absurd h (by simp [nb, lvs])
  | 8, _ =>
   refine ⟨w.heap.size + 8, by simp [World.cell?, h11, nb, lvs], fun i hi => ?_⟩
   match i, hi with
   | 0, _ => simp [World.cell?, h8, tb, lvs]
   | i + 1, h => exact absurd h (by simp [nb, lvs])
  | 9, _ =>
   refine ⟨w.heap.size + 9, by simp [World.cell?, h11, nb, lvs], fun i hi => ?_⟩
   match i, hi with
   | 0, _ => simp [World.cell?, h9, tb, lvs]
   | 1, _ => simp [World.cell?, h9, tb, lvs]
   | i + 2, h => exact absurd h (by simp [nb, lvs])
  | 10, _ =>
   refine ⟨w.heap.size + 10, by simp [World.cell?, h11, nb, lvs], fun i hi => ?_⟩
   match i, hi with
   | 0, _ => simp [World.cell?, h10, tb, lvs]
   | 1, _ => simp [World.cell?, h10, tb, lvs]
   | 2, _ => simp [World.cell?, h10, tb, lvs]
   | i + 3, h => exact absurd h (by simp [nb, lvs])
  | k + 11, h => exact absurd h (by omega)
 subst hL
 exact ⟨hb, _, rfl, key⟩
def rl (o : Int) : Int := if 12 ≤ o ∧ o ≤ 30 then lvl o + 1 else if o = 31 then 0 else if o = 10 ∨ o = 11 then 12 else if o = 7 ∨ o = 8 then 13 else if (1 ≤ o ∧ o ≤ 6) ∨ o = 9 then 14 else -1
theorem hit2 : ∀ k, k < 11 → ∀ i, i < nb k → rl (tb k i) = k + 1 := by decide
theorem there : ∀ n : Nat, n < 31 → 12 ≤ n → ∃ k, k < 11 ∧ ∃ i, i < nb k ∧ tb k i = (n : Int) := by decide
theorem nb_le : ∀ k, k < 11 → nb k ≤ 4 := by decide
theorem level_c (o : Int) (w : World) : Calls Tryz.prog 49 #[.int .i64 o] w fun e w' => e = .returned (.int .i64 (rl o)) ∧ Below w.heap.size w w' := by
 go_enter Tryz.func49, Tryz.ntmps49
 go_wp2_with fail
 refine (ops_c w).mono ?_
 rintro e W1 ⟨b1, g, rfl, hot⟩
 have HO : Hid (Ot W1 g) := hot
 have HB : Hid (Below w.heap.size w W1) := b1
 clear hot b1
 go_wp2_with fail
 go_loopw [4] (fun i wr => ∃ k : Nat, i = .int .i64 k ∧ k ≤ 11 ∧ wr = W1 ∧ ∀ k', k' < k → ∀ j, j < nb k' → tb k' j ≠ o) (fun i _ => 11 - (intOf i).toNat)
 case atStart => exact ⟨0, rfl, by omega, rfl, fun k' h => by omega⟩
 case round =>
  obtain ⟨k, rfl, hk, rfl, hno⟩ := hrel
  have HNO : Hid (∀ k', k' < k → ∀ j, j < nb k' → tb k' j ≠ o) := hno
  clear hno
  by_cases hk11 : k < 11
  ·have d11 : decide ((k : Int) < 11) = true := by simp; omega
   obtain ⟨b, q1, q2⟩ := HO.out k hk11
   have hn4 := nb_le k hk11
   have HQ : Hid (∀ i, i < nb k → wr.cell? ⟨b, i, none⟩ = some (.int .i64 (tb k i))) := q2
   obtain ⟨n, hn⟩ : ∃ n, nb k = n := ⟨_, rfl⟩
   rw [hn] at q1 hn4
   have HN : Hid (nb k = n) := hn
   clear q2 hn
   go_wp2_with fail
   go_loopw [5] (fun i wy => ∃ j : Nat, i = .int .i64 j ∧ j ≤ n ∧ wy = wr ∧ ∀ j', j' < j → tb k j' ≠ o) (fun i _ => n - (intOf i).toNat)
   case atStart => exact ⟨0, rfl, by omega, rfl, fun j' h => by omega⟩
   case round =>
    rename_i W2 _ _
    obtain ⟨j, rfl, hj, rfl, hni⟩ := hrel
    have HNI : Hid (∀ j', j' < j → tb k j' ≠ o) := hni
    clear hni
    by_cases hjn : j < n
    ·have dj : decide ((j : Int) < (n : Int)) = true := by simp; omega
     have q3 := HQ.out j (by rw [HN.out]; exact hjn)
     obtain ⟨t, ht⟩ : ∃ t, tb k j = t := ⟨_, rfl⟩
     have HTT : Hid (tb k j = t) := ht
     rw [ht] at q3
     clear ht
     by_cases ho : t = o
     ·have eo : (t == o) = true := by simp [ho]
      have HR : Hid (rl o = k + 1) := by
       have := hit2 k hk11 j (by rw [HN.out]; exact hjn)
       rw [HTT.out, ho] at this
       exact this
      clear ho
      go_wp2_with fail
      go_ret
      rw [HR.out]
      exact ⟨by simp, HB.out⟩
     ·have eo : (t == o) = false := by simp [ho]
      have HNI2 : Hid (∀ j', j' < j + 1 → tb k j' ≠ o) := by
       intro j' hj'
       by_cases e : j' = j
       ·rw [e, HTT.out]; exact ho
       ·exact HNI.out j' (by omega)
      clear ho
      go_wp2_with fail
      go_roundw
      case rel => exact ⟨j + 1, by go_num, by omega, by first | rfl | trivial, HNI2.out⟩
      case measure => simp only [intOf]; omega
    ·have dj : decide ((j : Int) < (n : Int)) = false := by simp; omega
     have HNO2 : Hid (∀ k', k' < k + 1 → ∀ j, j < nb k' → tb k' j ≠ o) := by
      intro k' hk' j' hj'
      by_cases e : k' = k
      ·subst e; exact HNI.out j' (by rw [HN.out] at hj'; omega)
      ·exact HNO.out k' (by omega) j' hj'
     go_wp2_with fail
     go_roundw
     case rel => exact ⟨k + 1, by go_num, by omega, by first | rfl | trivial, HNO2.out⟩
     case measure => simp only [intOf]; omega
  ·have d11 : decide ((k : Int) < 11) = false := by simp; omega
   have hr : ¬ (12 ≤ o ∧ o ≤ 30) := by
    rintro ⟨h1, h2⟩
    obtain ⟨k', hk', i, hi, e⟩ := there o.toNat (by omega) (by omega)
    exact HNO.out k' (by omega) i hi (by rw [e]; omega)
   have HR : Hid (¬ (12 ≤ o ∧ o ≤ 30)) := hr
   clear hr HNO
   go_wp2_with fail
   all_goals
    go_ret
    refine ⟨ret_int ?_, HB.out⟩
    unfold rl
    rw [if_neg HR.out]
    simp_all
    try omega
end Go.Proofs.YtghnhkagkngjcaaGreatDoor.QLv
namespace Go.Proofs.YtghnhkagkngjcaaGreatDoor.QAl
open Go.RowKit Base UBase UValid EPure ENd PPl PFit QLv
open XBase (four_box two_box frozen_box)
def rk (o : Int) : Int := if 1 ≤ o ∧ o ≤ 6 then 0 else if o = 7 ∨ o = 9 ∨ o = 10 ∨ o = 11 then 1 else if o = 31 then 3 else 2
theorem kids_c (o : Int) (w : World) : Calls Tryz.prog 50 #[.int .i64 o] w fun e w' => e = .returned (.int .i64 (rk o)) ∧ w' = w := by
 go_enter Tryz.func50, Tryz.ntmps50
 go_wp2_with fail
 all_goals
  go_ret
  refine ⟨ret_int ?_, rfl⟩
  unfold rk
  simp_all
  try omega
theorem rk_kd {o : Int} (h : 0 ≤ rl o) : rk o = kd o := by
 unfold rl at h
 unfold rk kd
 repeat' split at h
 all_goals (repeat' split) <;> omega
theorem rl_neg {o : Int} (h : rl o < 0) : kd o = -1 := by
 have hl : 12 ≤ o → o ≤ 30 → 0 ≤ lvl o := fun h1 h2 => by
  unfold lvl
  repeat' split
  all_goals omega
 unfold rl at h
 unfold kd
 repeat' split at h
 all_goals (repeat' split) <;> first | omega | (have := hl (by omega) (by omega); omega)
theorem written_c (s : ByteArray) (hs : s.size ≤ 140737488351232) (w : World) : Calls Tryz.prog 52 #[.string s] w fun e w' => e = .returned (.bool (wrt s)) ∧ w' = w := by
 obtain ⟨T, hT⟩ : ∃ T, wrt s = T := ⟨_, rfl⟩
 have HT : Hid (wrt s = T) := hT
 rw [hT]
 clear hT
 go_enter Tryz.func52, Tryz.ntmps52
 go_wp2_with fail
 go_loopw [3] (fun i wr => ∃ k : Nat, i = .int .i64 k ∧ k ≤ s.size ∧ wr = w ∧ ∀ j, j < k → 32 ≤ at' s j ∨ at' s j = 10) (fun i _ => s.size - (intOf i).toNat)
 case atStart => exact ⟨0, rfl, by omega, rfl, fun j h => by omega⟩
 case round =>
  obtain ⟨k, rfl, hk, rfl, hall⟩ := hrel
  have HA : Hid (∀ j, j < k → 32 ≤ at' s j ∨ at' s j = 10) := hall
  clear hall
  by_cases hlt : k < s.size
  ·have d : decide ((k : Int) < (s.size : Int)) = true := by simp; omega
   have hat := at_get s k hlt
   have HAT : Hid (at' s k = (s[k]'hlt).toNat) := hat
   obtain ⟨c, hc⟩ : ∃ c, (s[k]'hlt).toNat = c := ⟨_, rfl⟩
   have HC : Hid (at' s k = c) := hat.trans hc
   clear hat
   by_cases h32 : c < 32
   ·have d1 : decide ((c : Int) < 32) = true := by simp; omega
    by_cases h10 : c = 10
    ·have d2 : ((c : Int) != 10) = false := by simp; omega
     have HA2 : Hid (∀ j, j < k + 1 → 32 ≤ at' s j ∨ at' s j = 10) := fun j hj => by
      by_cases e : j = k
      ·rw [e, HC.out]; exact .inr h10
      ·exact HA.out j (by omega)
     clear h10 h32
     go_wp2_with fail
     go_roundw
     case rel => exact ⟨k + 1, by go_num, by omega, by first | rfl | trivial, HA2.out⟩
     case measure => simp only [intOf]; omega
    ·have d2 : ((c : Int) != 10) = true := by simp; omega
     have HF : Hid (false = T) := by
      show _ = _
      rw [← HT.out]
      unfold wrt
      symm
      apply decide_eq_false
      intro h
      have := h k hlt
      rw [HC.out] at this
      omega
     clear h10 h32
     go_wp2_with fail
     go_ret
     rw [← HF.out]
     exact ⟨rfl, rfl⟩
   ·have d1 : decide ((c : Int) < 32) = false := by simp; omega
    have HA2 : Hid (∀ j, j < k + 1 → 32 ≤ at' s j ∨ at' s j = 10) := fun j hj => by
     by_cases e : j = k
     ·rw [e, HC.out]; exact .inl (by omega)
     ·exact HA.out j (by omega)
    clear h32
    go_wp2_with fail
    go_roundw
    case rel => exact ⟨k + 1, by go_num, by omega, by first | rfl | trivial, HA2.out⟩
    case measure => simp only [intOf]; omega
  ·have d : decide ((k : Int) < (s.size : Int)) = false := by simp; omega
   have HF : Hid (true = T) := by
    show _ = _
    rw [← HT.out]
    unfold wrt
    symm
    exact decide_eq_true fun i hi => HA.out i (by omega)
   go_wp2_with fail
   go_ret
   rw [← HF.out]
   exact ⟨rfl, rfl⟩
theorem name_c (s : ByteArray) (hs : s.size ≤ 140737488351232) (w : World) : Calls Tryz.prog 54 #[.string s] w fun e w' => e = .returned (.bool (word s 95)) ∧ w' = w := by
 have c := UWord.ref_c s (by omega) 95 w
 generalize word s 95 = b at *
 go_enter Tryz.func54, Tryz.ntmps54
 go_wp2_with (first | (go_at_call 75; refine c.mono ?_; rintro e w' ⟨rfl, rfl⟩))
 go_ret
 exact ⟨rfl, rfl⟩
theorem good_c (s : ByteArray) (hs : s.size ≤ 140737488351232) (w : World) :
  Calls Tryz.prog 51 #[.string s] w fun r w' => r = .returned (.bool (tg s)) ∧ w' = w := by
 have c72 := rvalid_c s (by omega) w
 by_cases h : s.size ≤ 4096
 ·have e : tg s = (verr s == 0) := by simp [tg, h]
  rw [e]
  have hv := PFit.verr_cases s
  generalize verr s = x at *
  generalize vat s = y at *
  have h' : decide ((4096 : Int) < (s.size : Int)) = false := decide_eq_false (by omega)
  clear e
  rcases hv with rfl | rfl
  ·go_enter Tryz.func51, Tryz.ntmps51
   go_wp2_with (first | (go_at_call 74; refine c72.mono ?_; rintro e w' ⟨rfl, rfl⟩))
   go_ret
   exact ⟨rfl, rfl⟩
  ·go_enter Tryz.func51, Tryz.ntmps51
   go_wp2_with (first | (go_at_call 74; refine c72.mono ?_; rintro e w' ⟨rfl, rfl⟩))
   go_ret
   exact ⟨rfl, rfl⟩
 ·have e : tg s = false := by simp [tg, h]
  rw [e]
  have h' : decide ((4096 : Int) < (s.size : Int)) = true := decide_eq_true (by omega)
  clear c72 e
  go_enter Tryz.func51, Tryz.ntmps51
  go_wp2_with fail
  go_ret
  exact ⟨rfl, rfl⟩
def vr (s : ByteArray) : Bool := word s 95 && !(Lib.containsS wdl s)
theorem vr_eq (s : ByteArray) : vr s = (word s 95 && ((s.toList != [110, 117, 108, 108]) && ((s.toList != [102, 97, 108, 115, 101]) && (s.toList != [116, 114, 117, 101])))) := by
 unfold vr
 cases hw : word s 95 with
 | false => rfl
 | true =>
  rw [Bool.true_and, Bool.true_and]
  have hne : s.toList ≠ [] := by
   intro e
   have : s.size = 0 := by rw [ByteArray.toList_eq] at e; rw [← ByteArray.size_data, ← Array.length_toList, e]; rfl
   unfold word at hw
   simp [this] at hw
  have key : ∀ a : List UInt8, (s = ⟨a.toArray⟩) ↔ s.toList = a := by
   intro a
   rw [ByteArray.toList_eq]
   constructor
   ·rintro rfl; simp
   ·intro e
    cases s
    congr 1
    apply Array.toList_inj.1
    simpa using e
  rw [Bool.eq_iff_iff]
  simp only [Bool.not_eq_true', Bool.and_eq_true, bne_iff_ne, ne_eq]
  rw [← Bool.not_eq_true, Lib.containsS_iff]
  unfold wdl
  simp only [List.mem_cons, List.not_mem_nil, or_false]
  rw [show (⟨#[]⟩ : ByteArray) = ⟨([] : List UInt8).toArray⟩ from rfl, show (⟨#[110, 117, 108, 108]⟩ : ByteArray) = ⟨[110, 117, 108, 108].toArray⟩ from rfl, show (⟨#[102, 97, 108, 115, 101]⟩ : ByteArray) = ⟨[102, 97, 108, 115, 101].toArray⟩ from rfl, show (⟨#[116, 114, 117, 101]⟩ : ByteArray) = ⟨[116, 114, 117, 101].toArray⟩ from rfl]
  rw [key, key, key, key]
  constructor
  ·intro h
   exact ⟨fun e => h (.inr (.inl e)), fun e => h (.inr (.inr (.inl e))), fun e => h (.inr (.inr (.inr e)))⟩
  ·rintro ⟨h1, h2, h3⟩ (h | h | h | h)
   ·exact hne h
   ·exact h1 h
   ·exact h2 h
   ·exact h3 h
theorem variable_c (s : ByteArray) (hs : s.size ≤ 140737488351232) (w : World) : Calls Tryz.prog 53 #[.string s] w fun e w' => e = .returned (.bool (vr s)) ∧ w' = w := by
 have c := name_c s hs w
 rw [vr_eq]
 generalize word s 95 = b at *
 cases b with
 | false =>
  go_enter Tryz.func53, Tryz.ntmps53
  go_wp2_with (first | (go_at_call 54; refine c.mono ?_; rintro e w' ⟨rfl, rfl⟩))
  go_ret
  exact ⟨rfl, rfl⟩
 | true =>
  simp only [bne]
  cases h1 : (s.toList == [110, 117, 108, 108]) <;> cases h2 : (s.toList == [102, 97, 108, 115, 101]) <;> cases h3 : (s.toList == [116, 114, 117, 101])
  all_goals
   go_enter Tryz.func53, Tryz.ntmps53
   go_wp2_with (first | (go_at_call 54; refine c.mono ?_; rintro e w' ⟨rfl, rfl⟩))
   go_ret
   exact ⟨rfl, rfl⟩
end Go.Proofs.YtghnhkagkngjcaaGreatDoor.QAl
