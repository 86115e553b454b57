import Derived.Laws.Rows
import Derived.Laws.Tables
import Derived.WalkMore
import Derived.Test.YtghnhkagkngjcaaGreatDoorPN15
set_option linter.unusedVariables false
set_option maxRecDepth 20000
set_option maxHeartbeats 3200000
namespace Go.Proofs.YtghnhkagkngjcaaGreatDoor.ESd
open Go.RowKit Base UBase EPure ERd ESk ETk EChr ECh ESc EAdv EDn EGx EBt EPa
open XBase (four_box frozen_box Rg)
def sgk1 (o : Int) : A Ex → A Ex
 | .error e => .error e
 | .ok (x, g2) => .ok (nd o [x], g2)
def sgk (S : P) (o : Int) : Except F Sr → A Ex
 | .error e => .error e
 | .ok g1 => sgk1 o (S g1)
theorem sgd_eq (s : ByteArray) (S C : P) (g : Sr) : sgd s S C g = if is g.tk [45] = true then sgk S 10 (adv s g.a g.r) else if is g.tk [33] = true then sgk S 11 (adv s g.a g.r) else par s C g := by
 unfold sgd sgk sgk1
 rfl
theorem signed_neg {w : World} {R : Nat} {s : ByteArray} {g : Sr} {n : Nat} {S : P} (hn : n ≤ 32) (hS : SgI s (n + 1) S) (hD : Dn s S) (h : Es w R s g.a g.r g.tk) (ho : SrOk s g) (hb1 : is g.tk [45] = true) :
  Calls Tryz.prog 103 #[ptr R, .int .i64 n] w fun e w' => PR w w' R s e (sgk S 10 (adv s g.a g.r)) := by
 have hRlt := h.er.lt
 have G0 := Gx.start h ho
 obtain ⟨W0, hW0⟩ : ∃ W0, w.alloc (.cells #[.int .i64 0, .int .i64 0, .string ⟨#[]⟩, .slice none 0 0] 24) = W0 := ⟨_, rfl⟩
 rw [hW0] at G0
 have hkk := is_k hb1
 obtain ⟨U, hU⟩ : ∃ U, sgk S 10 (adv s g.a g.r) = U := ⟨_, rfl⟩
 rw [hU]
 obtain ⟨X, hX⟩ : ∃ X, adv s g.a g.r = X := ⟨_, rfl⟩
 rw [hX] at hU
 have HX : Hid (adv s g.a g.r = X) := hX
 have HU : Hid (sgk S 10 X = U) := hU
 clear hX hU
 have cG := begin_ok G0.es (n := n) (by omega) (.inl hn)
 unfold ptr at cG ⊢
 clear h
 go_enter Tryz.func103, Tryz.ntmps103
 go_wp2_with fail
 refine cG.mono ?_
 rintro e W1 ⟨⟨z0, rfl⟩, b1⟩
 have G1 := G0.below hRlt b1
 obtain ⟨k3, k4, k5, k6⟩ := Es.cells G1.es
 have cI := is_b hb1 W1
 clear cG G0 b1 hW0
 go_wp2_with fail
 refine cI.mono ?_
 rintro e W2 ⟨rfl, b2⟩
 have G2 := G1.below hRlt b2
 clear cI G1 b2 k3 k4 k5 k6
 have cA := adv_c G2.es G2.ok.r
 rw [HX.out] at cA
 unfold ptr at cA
 go_wp2_with fail
 refine cA.mono ?_
 intro e W4 hA
 clear cA
 cases X with
 | error f =>
  obtain ⟨K4, rfl⟩ := hA
  have hU : Except.error f = U := HU.out
  subst hU
  exact ⟨rfl, G2.kr.trans K4, rfl⟩
 | ok g1 =>
  obtain ⟨K4, ⟨z, rfl⟩, E4⟩ := hA
  have G4 := G2.step hRlt K4 E4 (adv_mu G2.ok hkk HX.out).1
  have cS := hS W4 R g1 G4.es G4.ok
  obtain ⟨Y, hY⟩ : ∃ Y, S g1 = Y := ⟨_, rfl⟩
  have HY : Hid (S g1 = Y) := hY
  have HU1 : Hid (sgk1 10 Y = U) := by
   have := HU.out
   show _ = _
   rw [← this, ← hY]
   rfl
  rw [hY] at cS
  unfold ptr at cS
  have hl4 := G4.lt
  clear K4 E4 G2 hY HU
  go_wp2_with fail
  refine cS.mono ?_
  intro e W5 hP5
  clear cS
  cases Y with
  | error f =>
   obtain ⟨K5, rfl⟩ := hP5
   have hU : Except.error f = U := HU1.out
   subst hU
   exact ⟨rfl, G4.kr.trans K5, rfl⟩
  | ok p =>
   obtain ⟨x, g2⟩ := p
   obtain ⟨K5, ⟨m, a, cp, rfl, hin⟩, E5⟩ := hP5
   have hU : Except.ok (nd 10 [x], g2) = U := HU1.out
   subst hU
   have G5 := G4.step hRlt K5 E5 (hD _ _ _ G4.ok HY.out).1
   have hk5 := K5.below.size
   obtain ⟨W6, hW6⟩ : ∃ W6, W5.alloc (.cells #[.int .i64 x.o, .int .i64 x.i, .string x.s, .slice a x.l.length cp] 24) = W6 := ⟨_, rfl⟩
   have b6 : Below W5.heap.size W5 W6 := by rw [← hW6]; exact (Below.refl _ W5).alloc (Nat.le_refl _) _
   have q6 : W6.heap[W5.heap.size]? = some (.cells #[.int .i64 x.o, .int .i64 x.i, .string x.s, .slice a x.l.length cp] 24 (0, 0)) := by rw [← hW6]; exact heap_alloc_new W5 _
   have s6 : W6.heap.size = W5.heap.size + 1 := by rw [← hW6]; simp
   have cN := node_c 10 (some ⟨W5.heap.size, 0, none⟩) 1 1 W6
   have HG5 : Hid (Gx w W5 R s g2) := G5
   clear G5 G4 K5 E5
   go_wp2_with fail
   refine cN.mono ?_
   rintro e W7 ⟨rfl, b7⟩
   have b57 := nx b6 b7
   have G7 := HG5.out.below hRlt b57
   have s7 := b7.size
   have hin7 : XBase.In false (XBase.Rg W4.heap.size W7.heap.size) W7 (m + 1) (.agg #[.int .i64 10, .int .i64 0, .string ⟨#[]⟩, .slice (some ⟨W5.heap.size, 0, none⟩) 1 1]) (.mk 10 0 ⟨#[]⟩ [x]) :=
    EKd.in_one (lo := 0) (hi := 0) ((b7.block _ (by omega)).trans q6) ⟨by omega, by omega⟩ (in_rg (hin.below b57) (Nat.le_refl _) (by omega)) 10 0 ⟨#[]⟩ (by omega) (by omega) (by decide)
   obtain ⟨c0, c1, c2, c3⟩ := four_box G7.box
   have f0 := XBase.frozen_box G7.box 0
   have f1 := XBase.frozen_box G7.box 1
   have f2 := XBase.frozen_box G7.box 2
   have f3 := XBase.frozen_box G7.box 3
   obtain ⟨W8, hW8⟩ : ∃ W8, ((((W7.setCell ⟨w.heap.size, 0, none⟩ (.int .i64 10)).setCell ⟨w.heap.size, 1, none⟩ (.int .i64 0)).setCell ⟨w.heap.size, 2, none⟩ (.string ⟨#[]⟩)).setCell ⟨w.heap.size, 3, none⟩ (.slice (some ⟨W5.heap.size, 0, none⟩) 1 1)) = W8 := ⟨_, rfl⟩
   obtain ⟨p1, p2⟩ := EKd.made (l := [x]) G7 hRlt hin7 hl4 hW8
   obtain ⟨y0, y1, y2, y3⟩ := four_box p1
   have HP2 : Hid (PR w W8 R s (.returned (.agg #[.int .i64 10, .int .i64 0, .string ⟨#[]⟩, .slice (some ⟨W5.heap.size, 0, none⟩) 1 1])) (.ok (.mk 10 0 ⟨#[]⟩ [x], g2))) := p2
   clear p1 p2 G7 hin hin7 q6 b6 b7 b57 s6 s7 hk5 hl4 cN hW6
   go_wp2_with fail
   refine bodyPost_ret (v := .agg #[.int .i64 10, .int .i64 0, .string ⟨#[]⟩, .slice (some ⟨W5.heap.size, 0, none⟩) 1 1]) (by simp [results, Tryz.results103, go_sem, y0, y1, y2, y3]) rfl ?_
   exact HP2.out
theorem signed_not {w : World} {R : Nat} {s : ByteArray} {g : Sr} {n : Nat} {S : P} (hn : n ≤ 32) (hS : SgI s (n + 1) S) (hD : Dn s S) (h : Es w R s g.a g.r g.tk) (ho : SrOk s g) (hb1 : is g.tk [45] = false) (hb2 : is g.tk [33] = true) :
  Calls Tryz.prog 103 #[ptr R, .int .i64 n] w fun e w' => PR w w' R s e (sgk S 11 (adv s g.a g.r)) := by
 have hRlt := h.er.lt
 have G0 := Gx.start h ho
 obtain ⟨W0, hW0⟩ : ∃ W0, w.alloc (.cells #[.int .i64 0, .int .i64 0, .string ⟨#[]⟩, .slice none 0 0] 24) = W0 := ⟨_, rfl⟩
 rw [hW0] at G0
 have hkk := is_k hb2
 obtain ⟨U, hU⟩ : ∃ U, sgk S 11 (adv s g.a g.r) = U := ⟨_, rfl⟩
 rw [hU]
 obtain ⟨X, hX⟩ : ∃ X, adv s g.a g.r = X := ⟨_, rfl⟩
 rw [hX] at hU
 have HX : Hid (adv s g.a g.r = X) := hX
 have HU : Hid (sgk S 11 X = U) := hU
 clear hX hU
 have cG := begin_ok G0.es (n := n) (by omega) (.inl hn)
 unfold ptr at cG ⊢
 clear h
 go_enter Tryz.func103, Tryz.ntmps103
 go_wp2_with fail
 refine cG.mono ?_
 rintro e W1 ⟨⟨z0, rfl⟩, b1⟩
 have G1 := G0.below hRlt b1
 obtain ⟨k3, k4, k5, k6⟩ := Es.cells G1.es
 have cI := is_b hb1 W1
 clear cG G0 b1 hW0
 go_wp2_with fail
 refine cI.mono ?_
 rintro e W2 ⟨rfl, b2⟩
 have G2 := G1.below hRlt b2
 clear cI G1 b2 k3 k4 k5 k6
 obtain ⟨k3, k4, k5, k6⟩ := Es.cells G2.es
 have cJ := is_b hb2 W2
 go_wp2_with fail
 refine cJ.mono ?_
 rintro e W3 ⟨rfl, b3⟩
 have G3 := G2.below hRlt b3
 clear cJ G2 b3 k3 k4 k5 k6
 have cA := adv_c G3.es G3.ok.r
 rw [HX.out] at cA
 unfold ptr at cA
 go_wp2_with fail
 refine cA.mono ?_
 intro e W4 hA
 clear cA
 cases X with
 | error f =>
  obtain ⟨K4, rfl⟩ := hA
  have hU : Except.error f = U := HU.out
  subst hU
  exact ⟨rfl, G3.kr.trans K4, rfl⟩
 | ok g1 =>
  obtain ⟨K4, ⟨z, rfl⟩, E4⟩ := hA
  have G4 := G3.step hRlt K4 E4 (adv_mu G3.ok hkk HX.out).1
  have cS := hS W4 R g1 G4.es G4.ok
  obtain ⟨Y, hY⟩ : ∃ Y, S g1 = Y := ⟨_, rfl⟩
  have HY : Hid (S g1 = Y) := hY
  have HU1 : Hid (sgk1 11 Y = U) := by
   have := HU.out
   show _ = _
   rw [← this, ← hY]
   rfl
  rw [hY] at cS
  unfold ptr at cS
  have hl4 := G4.lt
  clear K4 E4 G3 hY HU
  go_wp2_with fail
  refine cS.mono ?_
  intro e W5 hP5
  clear cS
  cases Y with
  | error f =>
   obtain ⟨K5, rfl⟩ := hP5
   have hU : Except.error f = U := HU1.out
   subst hU
   exact ⟨rfl, G4.kr.trans K5, rfl⟩
  | ok p =>
   obtain ⟨x, g2⟩ := p
   obtain ⟨K5, ⟨m, a, cp, rfl, hin⟩, E5⟩ := hP5
   have hU : Except.ok (nd 11 [x], g2) = U := HU1.out
   subst hU
   have G5 := G4.step hRlt K5 E5 (hD _ _ _ G4.ok HY.out).1
   have hk5 := K5.below.size
   obtain ⟨W6, hW6⟩ : ∃ W6, W5.alloc (.cells #[.int .i64 x.o, .int .i64 x.i, .string x.s, .slice a x.l.length cp] 24) = W6 := ⟨_, rfl⟩
   have b6 : Below W5.heap.size W5 W6 := by rw [← hW6]; exact (Below.refl _ W5).alloc (Nat.le_refl _) _
   have q6 : W6.heap[W5.heap.size]? = some (.cells #[.int .i64 x.o, .int .i64 x.i, .string x.s, .slice a x.l.length cp] 24 (0, 0)) := by rw [← hW6]; exact heap_alloc_new W5 _
   have s6 : W6.heap.size = W5.heap.size + 1 := by rw [← hW6]; simp
   have cN := node_c 11 (some ⟨W5.heap.size, 0, none⟩) 1 1 W6
   have HG5 : Hid (Gx w W5 R s g2) := G5
   clear G5 G4 K5 E5
   go_wp2_with fail
   refine cN.mono ?_
   rintro e W7 ⟨rfl, b7⟩
   have b57 := nx b6 b7
   have G7 := HG5.out.below hRlt b57
   have s7 := b7.size
   have hin7 : XBase.In false (XBase.Rg W4.heap.size W7.heap.size) W7 (m + 1) (.agg #[.int .i64 11, .int .i64 0, .string ⟨#[]⟩, .slice (some ⟨W5.heap.size, 0, none⟩) 1 1]) (.mk 11 0 ⟨#[]⟩ [x]) :=
    EKd.in_one (lo := 0) (hi := 0) ((b7.block _ (by omega)).trans q6) ⟨by omega, by omega⟩ (in_rg (hin.below b57) (Nat.le_refl _) (by omega)) 11 0 ⟨#[]⟩ (by omega) (by omega) (by decide)
   obtain ⟨c0, c1, c2, c3⟩ := four_box G7.box
   have f0 := XBase.frozen_box G7.box 0
   have f1 := XBase.frozen_box G7.box 1
   have f2 := XBase.frozen_box G7.box 2
   have f3 := XBase.frozen_box G7.box 3
   obtain ⟨W8, hW8⟩ : ∃ W8, ((((W7.setCell ⟨w.heap.size, 0, none⟩ (.int .i64 11)).setCell ⟨w.heap.size, 1, none⟩ (.int .i64 0)).setCell ⟨w.heap.size, 2, none⟩ (.string ⟨#[]⟩)).setCell ⟨w.heap.size, 3, none⟩ (.slice (some ⟨W5.heap.size, 0, none⟩) 1 1)) = W8 := ⟨_, rfl⟩
   obtain ⟨p1, p2⟩ := EKd.made (l := [x]) G7 hRlt hin7 hl4 hW8
   obtain ⟨y0, y1, y2, y3⟩ := four_box p1
   have HP2 : Hid (PR w W8 R s (.returned (.agg #[.int .i64 11, .int .i64 0, .string ⟨#[]⟩, .slice (some ⟨W5.heap.size, 0, none⟩) 1 1])) (.ok (.mk 11 0 ⟨#[]⟩ [x], g2))) := p2
   clear p1 p2 G7 hin hin7 q6 b6 b7 b57 s6 s7 hk5 hl4 cN hW6
   go_wp2_with fail
   refine bodyPost_ret (v := .agg #[.int .i64 11, .int .i64 0, .string ⟨#[]⟩, .slice (some ⟨W5.heap.size, 0, none⟩) 1 1]) (by simp [results, Tryz.results103, go_sem, y0, y1, y2, y3]) rfl ?_
   exact HP2.out
theorem signed_part {w : World} {R : Nat} {s : ByteArray} {g : Sr} {n : Nat} {Q : P} (hn : n ≤ 33) (hk : n ≤ 32 ∨ g.tk.k = 0) (hP : PaI s n Q) (hD : Dn s Q) (h : Es w R s g.a g.r g.tk) (ho : SrOk s g) (hb1 : is g.tk [45] = false) (hb2 : is g.tk [33] = false) :
  Calls Tryz.prog 103 #[ptr R, .int .i64 n] w fun e w' => PR w w' R s e (Q g) := by
 have hRlt := h.er.lt
 have G0 := Gx.start h ho
 obtain ⟨W0, hW0⟩ : ∃ W0, w.alloc (.cells #[.int .i64 0, .int .i64 0, .string ⟨#[]⟩, .slice none 0 0] 24) = W0 := ⟨_, rfl⟩
 rw [hW0] at G0
 obtain ⟨U, hU⟩ : ∃ U, Q g = U := ⟨_, rfl⟩
 rw [hU]
 have HU : Hid (Q g = U) := hU
 clear hU
 have cG := begin_ok G0.es (n := n) hn hk
 unfold ptr at cG ⊢
 clear h
 go_enter Tryz.func103, Tryz.ntmps103
 go_wp2_with fail
 refine cG.mono ?_
 rintro e W1 ⟨⟨z0, rfl⟩, b1⟩
 have G1 := G0.below hRlt b1
 obtain ⟨k3, k4, k5, k6⟩ := Es.cells G1.es
 have cI := is_b hb1 W1
 clear cG G0 b1 hW0
 go_wp2_with fail
 refine cI.mono ?_
 rintro e W2 ⟨rfl, b2⟩
 have G2 := G1.below hRlt b2
 clear cI G1 b2 k3 k4 k5 k6
 obtain ⟨k3, k4, k5, k6⟩ := Es.cells G2.es
 have cJ := is_b hb2 W2
 go_wp2_with fail
 refine cJ.mono ?_
 rintro e W3 ⟨rfl, b3⟩
 have G3 := G2.below hRlt b3
 clear cJ G2 b3 k3 k4 k5 k6
 have cP := hP W3 R g G3.es G3.ok
 rw [HU.out] at cP
 unfold ptr at cP
 have hl3 := G3.lt
 go_wp2_with fail
 refine cP.mono ?_
 intro e W4 hN
 clear cP
 cases U with
 | error f =>
  obtain ⟨K4, rfl⟩ := hN
  exact ⟨rfl, G3.kr.trans K4, rfl⟩
 | ok p =>
  obtain ⟨x, g3⟩ := p
  obtain ⟨K4, ⟨m, a, cp, rfl, hin⟩, E4⟩ := hN
  have G4 := G3.step hRlt K4 E4 (hD _ _ _ G3.ok HU.out).1
  clear G3
  obtain ⟨c0, c1, c2, c3⟩ := four_box G4.box
  have f0 := XBase.frozen_box G4.box 0
  have f1 := XBase.frozen_box G4.box 1
  have f2 := XBase.frozen_box G4.box 2
  have f3 := XBase.frozen_box G4.box 3
  obtain ⟨W5, hW5⟩ : ∃ W5, ((((W4.setCell ⟨w.heap.size, 0, none⟩ (.int .i64 x.o)).setCell ⟨w.heap.size, 1, none⟩ (.int .i64 x.i)).setCell ⟨w.heap.size, 2, none⟩ (.string x.s)).setCell ⟨w.heap.size, 3, none⟩ (.slice a x.l.length cp)) = W5 := ⟨_, rfl⟩
  obtain ⟨p1, p2⟩ := G4.fin hRlt hin hl3 hW5
  obtain ⟨y0, y1, y2, y3⟩ := four_box p1
  have HP2 : Hid (PR w W5 R s (.returned (.agg #[.int .i64 x.o, .int .i64 x.i, .string x.s, .slice a x.l.length cp])) (.ok (x, g3))) := p2
  clear p1 p2 G4 K4 E4 hin hl3
  go_wp2_with fail
  refine bodyPost_ret (v := .agg #[.int .i64 x.o, .int .i64 x.i, .string x.s, .slice a x.l.length cp]) (by simp [results, Tryz.results103, go_sem, y0, y1, y2, y3]) rfl ?_
  exact HP2.out
theorem signed_deep {w : World} {R : Nat} {s : ByteArray} {g : Sr} (h : Es w R s g.a g.r g.tk) (ho : SrOk s g) (hk : g.tk.k ≠ 0) :
  Calls Tryz.prog 103 #[ptr R, .int .i64 33] w fun e w' => PR w w' R s e (.error (1001, g.tk.a)) := by
 have hRlt := h.er.lt
 have G0 := Gx.start h ho
 obtain ⟨W0, hW0⟩ : ∃ W0, w.alloc (.cells #[.int .i64 0, .int .i64 0, .string ⟨#[]⟩, .slice none 0 0] 24) = W0 := ⟨_, rfl⟩
 rw [hW0] at G0
 have cG := begin_deep G0.es hk
 unfold ptr at cG ⊢
 clear h
 go_enter Tryz.func103, Tryz.ntmps103
 go_wp2_with fail
 refine cG.mono ?_
 rintro e W1 ⟨rfl, b1⟩
 exact ⟨rfl, (G0.below hRlt b1).kr, rfl⟩
theorem is_end {t : Tk} (h : t.k = 0) (x : List UInt8) : is t x = false := by unfold is; rw [h]; rfl
theorem signed_c {s : ByteArray} {n : Nat} {S C : P} (hn : n ≤ 32) (hS : SgI s (n + 1) S) (hDS : Dn s S) (hC : ChI s (n + 1) C) (hDC : Dn s C) : SgI s n (sgd s S C) := by
 intro w R g h ho
 rw [sgd_eq]
 cases hb1 : is g.tk [45] with
 | true => rw [if_pos rfl]; exact signed_neg hn hS hDS h ho hb1
 | false =>
  rw [if_neg (by simp)]
  cases hb2 : is g.tk [33] with
  | true => rw [if_pos rfl]; exact signed_not hn hS hDS h ho hb1 hb2
  | false => rw [if_neg (by simp)]; exact signed_part (by omega) (.inl hn) (EPw.part_c (by omega) hC hDC) (par_dn hDC) h ho hb1 hb2
end Go.Proofs.YtghnhkagkngjcaaGreatDoor.ESd
namespace Go.Proofs.YtghnhkagkngjcaaGreatDoor.ELs
open Go.RowKit Base EPure
theorem plainly {ops : Array Oper} {rest : List Oper} {o : Oper} {a : Act} {w : World} {Q : Exit → Act → World → Prop} (hg : o.guard = none) (d : Option Tmp) (hd : o.dst = d) (v : Value) (w' : World)
  (hr : (execOp a.eval o).run Tryz.prog w = .ok (.value v) w') (h : wpList Tryz.prog ops Q rest (a.put d v) w') : wpList Tryz.prog ops Q (o :: rest) a w := by
 refine wpList_plain hg fun K hK => ?_
 unfold Oper.wp
 rw [hr, Oper.upon_value, hd]
 exact hK _ _ h
theorem reads {ops : Array Oper} {rest : List Oper} {o : Oper} {a : Act} {w : World} {Q : Exit → Act → World → Prop} (hg : o.guard = none) (d : Option Tmp) (hd : o.dst = d) (v : Value)
  (hr : (execOp a.eval o).run Tryz.prog w = .ok (.value v) w) (h : wpList Tryz.prog ops Q rest (a.put d v) w) : wpList Tryz.prog ops Q (o :: rest) a w := plainly hg d hd v w hr h
def lvc : List Value := [.string ⟨#[124, 124]⟩, .int .i64 30, .string ⟨#[]⟩, .int .i64 0, .string ⟨#[]⟩, .int .i64 0, .string ⟨#[]⟩, .int .i64 0, .string ⟨#[38, 38]⟩, .int .i64 29, .string ⟨#[]⟩, .int .i64 0, .string ⟨#[]⟩, .int .i64 0, .string ⟨#[]⟩, .int .i64 0, .string ⟨#[61, 61]⟩, .int .i64 27, .string ⟨#[33, 61]⟩, .int .i64 28, .string ⟨#[]⟩, .int .i64 0, .string ⟨#[]⟩, .int .i64 0, .string ⟨#[60]⟩, .int .i64 23, .string ⟨#[60, 61]⟩, .int .i64 24, .string ⟨#[62]⟩, .int .i64 25, .string ⟨#[62, 61]⟩, .int .i64 26, .string ⟨#[124]⟩, .int .i64 22, .string ⟨#[]⟩, .int .i64 0, .string ⟨#[]⟩, .int .i64 0, .string ⟨#[]⟩, .int .i64 0, .string ⟨#[94]⟩, .int .i64 21, .string ⟨#[]⟩, .int .i64 0, .string ⟨#[]⟩, .int .i64 0, .string ⟨#[]⟩, .int .i64 0, .string ⟨#[38]⟩, .int .i64 20, .string ⟨#[]⟩, .int .i64 0, .string ⟨#[]⟩, .int .i64 0, .string ⟨#[]⟩, .int .i64 0, .string ⟨#[60, 60]⟩, .int .i64 18, .string ⟨#[62, 62]⟩, .int .i64 19, .string ⟨#[]⟩, .int .i64 0, .string ⟨#[]⟩, .int .i64 0, .string ⟨#[126]⟩, .int .i64 17, .string ⟨#[]⟩, .int .i64 0, .string ⟨#[]⟩, .int .i64 0, .string ⟨#[]⟩, .int .i64 0, .string ⟨#[43]⟩, .int .i64 15, .string ⟨#[45]⟩, .int .i64 16, .string ⟨#[]⟩, .int .i64 0, .string ⟨#[]⟩, .int .i64 0, .string ⟨#[42]⟩, .int .i64 12, .string ⟨#[47]⟩, .int .i64 13, .string ⟨#[37]⟩, .int .i64 14, .string ⟨#[]⟩, .int .i64 0]
def lvz : List Value := [.string ⟨#[]⟩, .int .i64 0, .string ⟨#[]⟩, .int .i64 0, .string ⟨#[]⟩, .int .i64 0, .string ⟨#[]⟩, .int .i64 0, .string ⟨#[]⟩, .int .i64 0, .string ⟨#[]⟩, .int .i64 0, .string ⟨#[]⟩, .int .i64 0, .string ⟨#[]⟩, .int .i64 0, .string ⟨#[]⟩, .int .i64 0, .string ⟨#[]⟩, .int .i64 0, .string ⟨#[]⟩, .int .i64 0, .string ⟨#[]⟩, .int .i64 0, .string ⟨#[]⟩, .int .i64 0, .string ⟨#[]⟩, .int .i64 0, .string ⟨#[]⟩, .int .i64 0, .string ⟨#[]⟩, .int .i64 0, .string ⟨#[]⟩, .int .i64 0, .string ⟨#[]⟩, .int .i64 0, .string ⟨#[]⟩, .int .i64 0, .string ⟨#[]⟩, .int .i64 0, .string ⟨#[]⟩, .int .i64 0, .string ⟨#[]⟩, .int .i64 0, .string ⟨#[]⟩, .int .i64 0, .string ⟨#[]⟩, .int .i64 0, .string ⟨#[]⟩, .int .i64 0, .string ⟨#[]⟩, .int .i64 0, .string ⟨#[]⟩, .int .i64 0, .string ⟨#[]⟩, .int .i64 0, .string ⟨#[]⟩, .int .i64 0, .string ⟨#[]⟩, .int .i64 0, .string ⟨#[]⟩, .int .i64 0, .string ⟨#[]⟩, .int .i64 0, .string ⟨#[]⟩, .int .i64 0, .string ⟨#[]⟩, .int .i64 0, .string ⟨#[]⟩, .int .i64 0, .string ⟨#[]⟩, .int .i64 0, .string ⟨#[]⟩, .int .i64 0, .string ⟨#[]⟩, .int .i64 0, .string ⟨#[]⟩, .int .i64 0, .string ⟨#[]⟩, .int .i64 0, .string ⟨#[]⟩, .int .i64 0, .string ⟨#[]⟩, .int .i64 0, .string ⟨#[]⟩, .int .i64 0, .string ⟨#[]⟩, .int .i64 0]
theorem levels_c (w : World) : Calls Tryz.prog 69 #[] w fun e w' => e = .returned (.agg lvc.toArray) ∧ Below w.heap.size w w' := by
 go_enter Tryz.func69, Tryz.ntmps69
 apply wp_seq_k; intro K0 hK0
 apply wp_region_lit
 refine plainly rfl (some 0) rfl (.pointer (some ⟨w.heap.size, 0, none⟩)) (w.alloc (.cells lvz.toArray 101)) (by kernel_rfl) ?_
 apply wpList_nil
 refine hK0 _ _ ?_
 clear hK0 K0
 apply wp_seq_k; intro K1 hK1
 apply wp_region_lit
 refine reads rfl (some 1) rfl (.agg #[.string ⟨#[124, 124]⟩, .int .i64 30]) (by kernel_rfl) ?_
 refine reads rfl (some 2) rfl (.agg #[.string ⟨#[124, 124]⟩, .int .i64 30, .string ⟨#[]⟩, .int .i64 0, .string ⟨#[]⟩, .int .i64 0, .string ⟨#[]⟩, .int .i64 0]) (by kernel_rfl) ?_
 refine reads rfl (some 3) rfl (.agg #[.string ⟨#[38, 38]⟩, .int .i64 29]) (by kernel_rfl) ?_
 refine reads rfl (some 4) rfl (.agg #[.string ⟨#[38, 38]⟩, .int .i64 29, .string ⟨#[]⟩, .int .i64 0, .string ⟨#[]⟩, .int .i64 0, .string ⟨#[]⟩, .int .i64 0]) (by kernel_rfl) ?_
 refine reads rfl (some 5) rfl (.agg #[.string ⟨#[61, 61]⟩, .int .i64 27]) (by kernel_rfl) ?_
 refine reads rfl (some 6) rfl (.agg #[.string ⟨#[33, 61]⟩, .int .i64 28]) (by kernel_rfl) ?_
 refine reads rfl (some 7) rfl (.agg #[.string ⟨#[61, 61]⟩, .int .i64 27, .string ⟨#[33, 61]⟩, .int .i64 28, .string ⟨#[]⟩, .int .i64 0, .string ⟨#[]⟩, .int .i64 0]) (by kernel_rfl) ?_
 refine reads rfl (some 8) rfl (.agg #[.string ⟨#[60]⟩, .int .i64 23]) (by kernel_rfl) ?_
 refine reads rfl (some 9) rfl (.agg #[.string ⟨#[60, 61]⟩, .int .i64 24]) (by kernel_rfl) ?_
 refine reads rfl (some 10) rfl (.agg #[.string ⟨#[62]⟩, .int .i64 25]) (by kernel_rfl) ?_
 refine reads rfl (some 11) rfl (.agg #[.string ⟨#[62, 61]⟩, .int .i64 26]) (by kernel_rfl) ?_
 refine reads rfl (some 12) rfl (.agg #[.string ⟨#[60]⟩, .int .i64 23, .string ⟨#[60, 61]⟩, .int .i64 24, .string ⟨#[62]⟩, .int .i64 25, .string ⟨#[62, 61]⟩, .int .i64 26]) (by kernel_rfl) ?_
 refine reads rfl (some 13) rfl (.agg #[.string ⟨#[124]⟩, .int .i64 22]) (by kernel_rfl) ?_
 refine reads rfl (some 14) rfl (.agg #[.string ⟨#[124]⟩, .int .i64 22, .string ⟨#[]⟩, .int .i64 0, .string ⟨#[]⟩, .int .i64 0, .string ⟨#[]⟩, .int .i64 0]) (by kernel_rfl) ?_
 refine reads rfl (some 15) rfl (.agg #[.string ⟨#[94]⟩, .int .i64 21]) (by kernel_rfl) ?_
 refine reads rfl (some 16) rfl (.agg #[.string ⟨#[94]⟩, .int .i64 21, .string ⟨#[]⟩, .int .i64 0, .string ⟨#[]⟩, .int .i64 0, .string ⟨#[]⟩, .int .i64 0]) (by kernel_rfl) ?_
 refine reads rfl (some 17) rfl (.agg #[.string ⟨#[38]⟩, .int .i64 20]) (by kernel_rfl) ?_
 refine reads rfl (some 18) rfl (.agg #[.string ⟨#[38]⟩, .int .i64 20, .string ⟨#[]⟩, .int .i64 0, .string ⟨#[]⟩, .int .i64 0, .string ⟨#[]⟩, .int .i64 0]) (by kernel_rfl) ?_
 refine reads rfl (some 19) rfl (.agg #[.string ⟨#[60, 60]⟩, .int .i64 18]) (by kernel_rfl) ?_
 refine reads rfl (some 20) rfl (.agg #[.string ⟨#[62, 62]⟩, .int .i64 19]) (by kernel_rfl) ?_
 refine reads rfl (some 21) rfl (.agg #[.string ⟨#[60, 60]⟩, .int .i64 18, .string ⟨#[62, 62]⟩, .int .i64 19, .string ⟨#[]⟩, .int .i64 0, .string ⟨#[]⟩, .int .i64 0]) (by kernel_rfl) ?_
 refine reads rfl (some 22) rfl (.agg #[.string ⟨#[126]⟩, .int .i64 17]) (by kernel_rfl) ?_
 refine reads rfl (some 23) rfl (.agg #[.string ⟨#[126]⟩, .int .i64 17, .string ⟨#[]⟩, .int .i64 0, .string ⟨#[]⟩, .int .i64 0, .string ⟨#[]⟩, .int .i64 0]) (by kernel_rfl) ?_
 refine reads rfl (some 24) rfl (.agg #[.string ⟨#[43]⟩, .int .i64 15]) (by kernel_rfl) ?_
 refine reads rfl (some 25) rfl (.agg #[.string ⟨#[45]⟩, .int .i64 16]) (by kernel_rfl) ?_
 refine reads rfl (some 26) rfl (.agg #[.string ⟨#[43]⟩, .int .i64 15, .string ⟨#[45]⟩, .int .i64 16, .string ⟨#[]⟩, .int .i64 0, .string ⟨#[]⟩, .int .i64 0]) (by kernel_rfl) ?_
 refine reads rfl (some 27) rfl (.agg #[.string ⟨#[42]⟩, .int .i64 12]) (by kernel_rfl) ?_
 refine reads rfl (some 28) rfl (.agg #[.string ⟨#[47]⟩, .int .i64 13]) (by kernel_rfl) ?_
 refine reads rfl (some 29) rfl (.agg #[.string ⟨#[37]⟩, .int .i64 14]) (by kernel_rfl) ?_
 refine reads rfl (some 30) rfl (.agg #[.string ⟨#[42]⟩, .int .i64 12, .string ⟨#[47]⟩, .int .i64 13, .string ⟨#[37]⟩, .int .i64 14, .string ⟨#[]⟩, .int .i64 0]) (by kernel_rfl) ?_
 refine reads rfl (some 31) rfl (.agg lvc.toArray) (by kernel_rfl) ?_
 refine wpList_store_row rfl 101 (.tmp 0) (.tmp 31) rfl w.heap.size lvc.toArray (by kernel_rfl) (by kernel_rfl) 101 lvz.toArray (heap_alloc_new w _) (by kernel_rfl) (by kernel_rfl) (by kernel_rfl) ?_
 apply wpList_nil
 refine hK1 _ _ ?_
 clear hK1 K1
 apply wp_ret
 have hb : ((w.alloc (.cells lvz.toArray 101)).setRow w.heap.size lvc.toArray).heap[w.heap.size]? = some (.cells lvc.toArray 101 (0, 0)) := setRow_heap _ w.heap.size lvz.toArray lvc.toArray 101 (0, 0) (heap_alloc_new w _)
 refine bodyPost_ret (results_cell_row rfl _ _ w.heap.size 101 lvc.toArray (0, 0) _ (by kernel_rfl) hb Tryz.underlying101 rfl (by kernel_rfl)) (by kernel_rfl) ?_
 refine ⟨rfl, ?_⟩
 exact ((Below.refl _ w).alloc (Nat.le_refl _) _).trans ⟨rfl, rfl, rfl, by simp [World.setRow], fun k hk => setRow_other _ w.heap.size k _ (by omega)⟩
end Go.Proofs.YtghnhkagkngjcaaGreatDoor.ELs
namespace Go.Proofs.YtghnhkagkngjcaaGreatDoor.ELv
open Go.RowKit Base UBase EPure ERd ESk ETk EChr ECh ESc EAdv EDn EGx EBt EPa ELs
open XBase (four_box frozen_box Rg)
theorem level_sign {w : World} {R : Nat} {s : ByteArray} {g : Sr} {n : Nat} {Q : P} (hQ : SgI s n Q) (hD : Dn s Q) (h : Es w R s g.a g.r g.tk) (ho : SrOk s g) :
  Calls Tryz.prog 78 #[ptr R, .int .i64 11, .int .i64 n] w fun e w' => PR w w' R s e (Q g) := by
 have hRlt := h.er.lt
 have G0 := Gx.start h ho
 obtain ⟨W0, hW0⟩ : ∃ W0, w.alloc (.cells #[.int .i64 0, .int .i64 0, .string ⟨#[]⟩, .slice none 0 0] 24) = W0 := ⟨_, rfl⟩
 rw [hW0] at G0
 obtain ⟨U, hU⟩ : ∃ U, Q g = U := ⟨_, rfl⟩
 rw [hU]
 have HU : Hid (Q g = U) := hU
 clear hU
 unfold ptr
 go_enter Tryz.func78, Tryz.ntmps78
 go_wp2_with fail
 go_step3
 apply wp_seq_k; intro K1 hK1
 apply wp_region_lit
 refine wpList_plain rfl fun K hK => ?_
 go_simp
 refine (levels_c W0).mono ?_
 rintro e W1 ⟨rfl, b1⟩
 refine hK _ _ ?_
 clear hK K
 refine plainly rfl (some 7) rfl (.pointer (some ⟨W1.heap.size, 0, none⟩)) (W1.alloc (.cells lvz.toArray 101)) (by kernel_rfl) ?_
 refine wpList_store_row rfl 101 (.tmp 7) (.tmp 11) rfl W1.heap.size lvc.toArray (by kernel_rfl) (by kernel_rfl) 101 lvz.toArray (heap_alloc_new W1 _) (by kernel_rfl) (by kernel_rfl) (by kernel_rfl) ?_
 apply wpList_nil
 refine hK1 _ _ ?_
 clear hK1 K1
 have hb : ((W1.alloc (.cells lvz.toArray 101)).setRow W1.heap.size lvc.toArray).heap[W1.heap.size]? = some (.cells lvc.toArray 101 (0, 0)) := setRow_heap _ W1.heap.size lvz.toArray lvc.toArray 101 (0, 0) (heap_alloc_new W1 _)
 have b2 : Below W1.heap.size W1 ((W1.alloc (.cells lvz.toArray 101)).setRow W1.heap.size lvc.toArray) := ((Below.refl _ W1).alloc (Nat.le_refl _) _).trans ⟨rfl, rfl, rfl, by simp [World.setRow], fun k hk => setRow_other _ W1.heap.size k _ (by omega)⟩
 revert hb b2
 generalize ((W1.alloc (.cells lvz.toArray 101)).setRow W1.heap.size lvc.toArray) = W2
 intro hb b2
 have G2 := G0.below hRlt (nx b1 b2)
 try simp only [Act.put, zD, zE, zF]
 have cS := hQ W2 R g G2.es G2.ok
 rw [HU.out] at cS
 unfold ptr at cS
 have hl2 := G2.lt
 clear h G0 hW0 b1 b2 hb
 go_wp2_with fail
 refine cS.mono ?_
 intro e W4 hN
 clear cS
 cases U with
 | error f =>
  obtain ⟨K4, rfl⟩ := hN
  exact ⟨rfl, G2.kr.trans K4, rfl⟩
 | ok p =>
  obtain ⟨x, g3⟩ := p
  obtain ⟨K4, ⟨m, a, cp, rfl, hin⟩, E4⟩ := hN
  have G4 := G2.step hRlt K4 E4 (hD _ _ _ G2.ok HU.out).1
  clear G2
  obtain ⟨c0, c1, c2, c3⟩ := four_box G4.box
  have f0 := XBase.frozen_box G4.box 0
  have f1 := XBase.frozen_box G4.box 1
  have f2 := XBase.frozen_box G4.box 2
  have f3 := XBase.frozen_box G4.box 3
  obtain ⟨W5, hW5⟩ : ∃ W5, ((((W4.setCell ⟨w.heap.size, 0, none⟩ (.int .i64 x.o)).setCell ⟨w.heap.size, 1, none⟩ (.int .i64 x.i)).setCell ⟨w.heap.size, 2, none⟩ (.string x.s)).setCell ⟨w.heap.size, 3, none⟩ (.slice a x.l.length cp)) = W5 := ⟨_, rfl⟩
  obtain ⟨p1, p2⟩ := G4.fin hRlt hin hl2 hW5
  obtain ⟨y0, y1, y2, y3⟩ := four_box p1
  have HP2 : Hid (PR w W5 R s (.returned (.agg #[.int .i64 x.o, .int .i64 x.i, .string x.s, .slice a x.l.length cp])) (.ok (x, g3))) := p2
  clear p1 p2 G4 K4 E4 hin hl2
  go_wp2_with fail
  try rw [Exit.noGoto_ret]
  refine bodyPost_ret (v := .agg #[.int .i64 x.o, .int .i64 x.i, .string x.s, .slice a x.l.length cp]) (by simp [results, Tryz.results78, go_sem, y0, y1, y2, y3]) rfl ?_
  exact HP2.out
def pd (k : Nat) : List (List UInt8 × Int) := lvs.getD k [] ++ List.replicate (4 - (lvs.getD k []).length) ([], 0)
def pS (k i : Nat) : ByteArray := ⟨((pd k).getD i ([], 0)).1.toArray⟩
def pO (k i : Nat) : Int := ((pd k).getD i ([], 0)).2
theorem lv_cell : ∀ k, k < 11 → ∀ i, i < 4 → lvc[k * 8 + 2 * i]? = some (.string (pS k i)) ∧ lvc[k * 8 + 2 * i + 1]? = some (.int .i64 (pO k i)) := by
 intro k hk i hi
 match k, hk, i, hi with
 | 0, _, 0, _ => exact ⟨rfl, rfl⟩
 | 0, _, 1, _ => exact ⟨rfl, rfl⟩
 | 0, _, 2, _ => exact ⟨rfl, rfl⟩
 | 0, _, 3, _ => exact ⟨rfl, rfl⟩
 | 1, _, 0, _ => exact ⟨rfl, rfl⟩
 | 1, _, 1, _ => exact ⟨rfl, rfl⟩
 | 1, _, 2, _ => exact ⟨rfl, rfl⟩
 | 1, _, 3, _ => exact ⟨rfl, rfl⟩
 | 2, _, 0, _ => exact ⟨rfl, rfl⟩
 | 2, _, 1, _ => exact ⟨rfl, rfl⟩
 | 2, _, 2, _ => exact ⟨rfl, rfl⟩
 | 2, _, 3, _ => exact ⟨rfl, rfl⟩
 | 3, _, 0, _ => exact ⟨rfl, rfl⟩
 | 3, _, 1, _ => exact ⟨rfl, rfl⟩
 | 3, _, 2, _ => exact ⟨rfl, rfl⟩
 | 3, _, 3, _ => exact ⟨rfl, rfl⟩
 | 4, _, 0, _ => exact ⟨rfl, rfl⟩
 | 4, _, 1, _ => exact ⟨rfl, rfl⟩
 | 4, _, 2, _ => exact ⟨rfl, rfl⟩
 | 4, _, 3, _ => exact ⟨rfl, rfl⟩
 | 5, _, 0, _ => exact ⟨rfl, rfl⟩
 | 5, _, 1, _ => exact ⟨rfl, rfl⟩
 | 5, _, 2, _ => exact ⟨rfl, rfl⟩
 | 5, _, 3, _ => exact ⟨rfl, rfl⟩
 | 6, _, 0, _ => exact ⟨rfl, rfl⟩
 | 6, _, 1, _ => exact ⟨rfl, rfl⟩
 | 6, _, 2, _ => exact ⟨rfl, rfl⟩
 | 6, _, 3, _ => exact ⟨rfl, rfl⟩
 | 7, _, 0, _ => exact ⟨rfl, rfl⟩
 | 7, _, 1, _ => exact ⟨rfl, rfl⟩
 | 7, _, 2, _ => exact ⟨rfl, rfl⟩
 | 7, _, 3, _ => exact ⟨rfl, rfl⟩
 | 8, _, 0, _ => exact ⟨rfl, rfl⟩
 | 8, _, 1, _ => exact ⟨rfl, rfl⟩
 | 8, _, 2, _ => exact ⟨rfl, rfl⟩
 | 8, _, 3, _ => exact ⟨rfl, rfl⟩
 | 9, _, 0, _ => exact ⟨rfl, rfl⟩
 | 9, _, 1, _ => exact ⟨rfl, rfl⟩
 | 9, _, 2, _ => exact ⟨rfl, rfl⟩
 | 9, _, 3, _ => exact ⟨rfl, rfl⟩
 | 10, _, 0, _ => exact ⟨rfl, rfl⟩
 | 10, _, 1, _ => exact ⟨rfl, rfl⟩
 | 10, _, 2, _ => exact ⟨rfl, rfl⟩
 | 10, _, 3, _ => exact ⟨rfl, rfl⟩
 | k + 11, h, _, _ => omega
 | _, _, i + 4, h => omega
theorem pd_len : ∀ k, k < 11 → (pd k).length = 4 := by decide
theorem pO_rg : ∀ k, k < 11 → ∀ i, i < 4 → 0 ≤ pO k i ∧ pO k i ≤ 31 := by decide
theorem pd_drop {k i : Nat} (hk : k < 11) (hi : i < 4) : (pd k).drop i = ((pS k i).data.toList, pO k i) :: (pd k).drop (i + 1) := by
 have hl : i < (pd k).length := by rw [pd_len k hk]; exact hi
 rw [List.drop_eq_getElem_cons hl]
 congr 1
 unfold pS pO
 simp [List.getD, hl]
theorem opOf_app (t : Tk) (l m : List (List UInt8 × Int)) : opOf t (l ++ m) = (match opOf t l with | some o => some o | none => opOf t m) := by
 induction l with
 | nil => simp [opOf]
 | cons p l ih =>
  obtain ⟨x, o⟩ := p
  rw [List.cons_append, opOf, opOf]
  by_cases h : is t x = true
  ·rw [if_pos h, if_pos h]
  ·rw [if_neg h, if_neg h]; exact ih
theorem opOf_pad {t : Tk} (h : t.k = 4 → t.t.data.toList ∈ signs) (n : Nat) : opOf t (List.replicate n ([], 0)) = none := by
 induction n with
 | zero => rfl
 | succ n ih =>
  rw [List.replicate_succ, opOf, if_neg, ih]
  intro hi
  unfold is at hi
  simp only [Bool.and_eq_true, beq_iff_eq] at hi
  have := h hi.1
  rw [hi.2] at this
  exact absurd this (by decide)
theorem opOf_pd {t : Tk} (h : t.k = 4 → t.t.data.toList ∈ signs) (k : Nat) : opOf t (pd k) = opOf t (lvs.getD k []) := by
 unfold pd
 rw [opOf_app, opOf_pad h]
 cases opOf t (lvs.getD k []) <;> rfl
end Go.Proofs.YtghnhkagkngjcaaGreatDoor.ELv
