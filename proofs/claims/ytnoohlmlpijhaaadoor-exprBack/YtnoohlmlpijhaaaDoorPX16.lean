import Derived.Deep.AppendLies
import Derived.Laws.Rows
import Derived.Laws.Tables
import Derived.Maps.AppendAt
import Derived.WalkMore
import Derived.Test.YtnoohlmlpijhaaaDoorPX13
import Derived.Test.YtnoohlmlpijhaaaDoorPX15
namespace Go.Proofs.YtnoohlmlpijhaaaDoor.ESd
open Go.RowKit Go.Proofs.YtnoohlmlpijhaaaDoor.Base Go.Proofs.YtnoohlmlpijhaaaDoor.UBase Go.Proofs.YtnoohlmlpijhaaaDoor.EPure Go.Proofs.YtnoohlmlpijhaaaDoor.ERd Go.Proofs.YtnoohlmlpijhaaaDoor.ESk Go.Proofs.YtnoohlmlpijhaaaDoor.ETk Go.Proofs.YtnoohlmlpijhaaaDoor.EChr Go.Proofs.YtnoohlmlpijhaaaDoor.ECh Go.Proofs.YtnoohlmlpijhaaaDoor.ESc Go.Proofs.YtnoohlmlpijhaaaDoor.EAdv Go.Proofs.YtnoohlmlpijhaaaDoor.EDn Go.Proofs.YtnoohlmlpijhaaaDoor.EGx Go.Proofs.YtnoohlmlpijhaaaDoor.EBt Go.Proofs.YtnoohlmlpijhaaaDoor.EPa
open Go.Proofs.YtnoohlmlpijhaaaDoor.XBase (four_box frozen_box Rg)
set_option linter.unusedVariables false
def sgk1 (o : Int) : A Ex → A Ex
  | .error e => .error e
  | .ok (x, g2) => .ok (nd o [x], g2)
def sgk (S : P) (o : Int) : Except F Sr → A Ex
  | .error e => .error e
  | .ok g1 => sgk1 o (S g1)
theorem sgd_eq (s : ByteArray) (S C : P) (g : Sr) : sgd s S C g = if is g.tk [45] = true then sgk S 10 (adv s g.a g.r) else if is g.tk [33] = true then sgk S 11 (adv s g.a g.r) else par s C g := by
  unfold sgd sgk sgk1
  rfl
set_option maxRecDepth 20000 in
set_option maxHeartbeats 1600000 in
theorem signed_neg {w : World} {R : Nat} {s : ByteArray} {g : Sr} {n : Nat} {S : P} (hn : n ≤ 32) (hS : SgI s (n + 1) S) (hD : Dn s S) (h : Es w R s g.a g.r g.tk) (ho : SrOk s g) (hb1 : is g.tk [45] = true) :
    Calls Tryd.prog 59 #[ptr R, .int .i64 n] w fun e w' => PR w w' R s e (sgk S 10 (adv s g.a g.r)) := by
  have hRlt := h.er.lt
  have G0 := Gx.start h ho
  obtain ⟨W0, hW0⟩ : ∃ W0, w.alloc (.cells #[.int .i64 0, .int .i64 0, .string ⟨#[]⟩, .slice none 0 0] 24) = W0 := ⟨_, rfl⟩
  rw [hW0] at G0
  have hkk := is_k hb1
  obtain ⟨U, hU⟩ : ∃ U, sgk S 10 (adv s g.a g.r) = U := ⟨_, rfl⟩
  rw [hU]
  obtain ⟨X, hX⟩ : ∃ X, adv s g.a g.r = X := ⟨_, rfl⟩
  rw [hX] at hU
  have HX : Hid (adv s g.a g.r = X) := hX
  have HU : Hid (sgk S 10 X = U) := hU
  clear hX hU
  have cG := begin_ok G0.es (n := n) (by omega) (.inl hn)
  unfold ptr at cG ⊢
  clear h
  go_enter Tryd.func59, Tryd.ntmps59
  go_wp2_with fail
  refine cG.mono ?_
  rintro e W1 ⟨⟨z0, rfl⟩, b1⟩
  have G1 := G0.below hRlt b1
  obtain ⟨k3, k4, k5, k6⟩ := Es.cells G1.es
  have cI := is_b hb1 W1
  clear cG G0 b1 hW0
  go_wp2_with fail
  refine cI.mono ?_
  rintro e W2 ⟨rfl, b2⟩
  have G2 := G1.below hRlt b2
  clear cI G1 b2 k3 k4 k5 k6
  have cA := adv_c G2.es G2.ok.r
  rw [HX.out] at cA
  unfold ptr at cA
  go_wp2_with fail
  refine cA.mono ?_
  intro e W4 hA
  clear cA
  cases X with
  | error f =>
    obtain ⟨K4, rfl⟩ := hA
    have hU : Except.error f = U := HU.out
    subst hU
    exact ⟨rfl, G2.kr.trans K4, rfl⟩
  | ok g1 =>
    obtain ⟨K4, ⟨z, rfl⟩, E4⟩ := hA
    have G4 := G2.step hRlt K4 E4 (adv_mu G2.ok hkk HX.out).1
    have cS := hS W4 R g1 G4.es G4.ok
    obtain ⟨Y, hY⟩ : ∃ Y, S g1 = Y := ⟨_, rfl⟩
    have HY : Hid (S g1 = Y) := hY
    have HU1 : Hid (sgk1 10 Y = U) := by
      have := HU.out
      show _ = _
      rw [← this, ← hY]
      rfl
    rw [hY] at cS
    unfold ptr at cS
    have hl4 := G4.lt
    clear K4 E4 G2 hY HU
    go_wp2_with fail
    refine cS.mono ?_
    intro e W5 hP5
    clear cS
    cases Y with
    | error f =>
      obtain ⟨K5, rfl⟩ := hP5
      have hU : Except.error f = U := HU1.out
      subst hU
      exact ⟨rfl, G4.kr.trans K5, rfl⟩
    | ok p =>
      obtain ⟨x, g2⟩ := p
      obtain ⟨K5, ⟨m, a, cp, rfl, hin⟩, E5⟩ := hP5
      have hU : Except.ok (nd 10 [x], g2) = U := HU1.out
      subst hU
      have G5 := G4.step hRlt K5 E5 (hD _ _ _ G4.ok HY.out).1
      have hk5 := K5.below.size
      obtain ⟨W6, hW6⟩ : ∃ W6, W5.alloc (.cells #[.int .i64 x.o, .int .i64 x.i, .string x.s, .slice a x.l.length cp] 24) = W6 := ⟨_, rfl⟩
      have b6 : Below W5.heap.size W5 W6 := by rw [← hW6]; exact (Below.refl _ W5).alloc (Nat.le_refl _) _
      have q6 : W6.heap[W5.heap.size]? = some (.cells #[.int .i64 x.o, .int .i64 x.i, .string x.s, .slice a x.l.length cp] 24 (0, 0)) := by rw [← hW6]; exact heap_alloc_new W5 _
      have s6 : W6.heap.size = W5.heap.size + 1 := by rw [← hW6]; simp
      have cN := node_c 10 (some ⟨W5.heap.size, 0, none⟩) 1 1 W6
      have HG5 : Hid (Gx w W5 R s g2) := G5
      clear G5 G4 K5 E5
      go_wp2_with fail
      refine cN.mono ?_
      rintro e W7 ⟨rfl, b7⟩
      have b57 := nx b6 b7
      have G7 := HG5.out.below hRlt b57
      have s7 := b7.size
      have hin7 : XBase.In false (Rg W4.heap.size W7.heap.size) W7 (m + 1) (.agg #[.int .i64 10, .int .i64 0, .string ⟨#[]⟩, .slice (some ⟨W5.heap.size, 0, none⟩) 1 1]) (.mk 10 0 ⟨#[]⟩ [x]) :=
        EKd.in_one (lo := 0) (hi := 0) ((b7.block _ (by omega)).trans q6) ⟨by omega, by omega⟩ (in_rg (hin.below b57) (Nat.le_refl _) (by omega)) 10 0 ⟨#[]⟩ (by omega) (by omega) (by decide)
      obtain ⟨c0, c1, c2, c3⟩ := four_box G7.box
      have f0 := frozen_box G7.box 0
      have f1 := frozen_box G7.box 1
      have f2 := frozen_box G7.box 2
      have f3 := frozen_box G7.box 3
      obtain ⟨W8, hW8⟩ : ∃ W8, ((((W7.setCell ⟨w.heap.size, 0, none⟩ (.int .i64 10)).setCell ⟨w.heap.size, 1, none⟩ (.int .i64 0)).setCell ⟨w.heap.size, 2, none⟩ (.string ⟨#[]⟩)).setCell ⟨w.heap.size, 3, none⟩ (.slice (some ⟨W5.heap.size, 0, none⟩) 1 1)) = W8 := ⟨_, rfl⟩
      obtain ⟨p1, p2⟩ := EKd.made (l := [x]) G7 hRlt hin7 hl4 hW8
      obtain ⟨y0, y1, y2, y3⟩ := four_box p1
      have HP2 : Hid (PR w W8 R s (.returned (.agg #[.int .i64 10, .int .i64 0, .string ⟨#[]⟩, .slice (some ⟨W5.heap.size, 0, none⟩) 1 1])) (.ok (.mk 10 0 ⟨#[]⟩ [x], g2))) := p2
      clear p1 p2 G7 hin hin7 q6 b6 b7 b57 s6 s7 hk5 hl4 cN hW6
      go_wp2_with fail
      refine bodyPost_ret (v := .agg #[.int .i64 10, .int .i64 0, .string ⟨#[]⟩, .slice (some ⟨W5.heap.size, 0, none⟩) 1 1]) (by simp [results, Tryd.results59, go_sem, y0, y1, y2, y3]) rfl ?_
      exact HP2.out
set_option maxRecDepth 20000 in
set_option maxHeartbeats 1600000 in
theorem signed_not {w : World} {R : Nat} {s : ByteArray} {g : Sr} {n : Nat} {S : P} (hn : n ≤ 32) (hS : SgI s (n + 1) S) (hD : Dn s S) (h : Es w R s g.a g.r g.tk) (ho : SrOk s g) (hb1 : is g.tk [45] = false) (hb2 : is g.tk [33] = true) :
    Calls Tryd.prog 59 #[ptr R, .int .i64 n] w fun e w' => PR w w' R s e (sgk S 11 (adv s g.a g.r)) := by
  have hRlt := h.er.lt
  have G0 := Gx.start h ho
  obtain ⟨W0, hW0⟩ : ∃ W0, w.alloc (.cells #[.int .i64 0, .int .i64 0, .string ⟨#[]⟩, .slice none 0 0] 24) = W0 := ⟨_, rfl⟩
  rw [hW0] at G0
  have hkk := is_k hb2
  obtain ⟨U, hU⟩ : ∃ U, sgk S 11 (adv s g.a g.r) = U := ⟨_, rfl⟩
  rw [hU]
  obtain ⟨X, hX⟩ : ∃ X, adv s g.a g.r = X := ⟨_, rfl⟩
  rw [hX] at hU
  have HX : Hid (adv s g.a g.r = X) := hX
  have HU : Hid (sgk S 11 X = U) := hU
  clear hX hU
  have cG := begin_ok G0.es (n := n) (by omega) (.inl hn)
  unfold ptr at cG ⊢
  clear h
  go_enter Tryd.func59, Tryd.ntmps59
  go_wp2_with fail
  refine cG.mono ?_
  rintro e W1 ⟨⟨z0, rfl⟩, b1⟩
  have G1 := G0.below hRlt b1
  obtain ⟨k3, k4, k5, k6⟩ := Es.cells G1.es
  have cI := is_b hb1 W1
  clear cG G0 b1 hW0
  go_wp2_with fail
  refine cI.mono ?_
  rintro e W2 ⟨rfl, b2⟩
  have G2 := G1.below hRlt b2
  clear cI G1 b2 k3 k4 k5 k6
  obtain ⟨k3, k4, k5, k6⟩ := Es.cells G2.es
  have cJ := is_b hb2 W2
  go_wp2_with fail
  refine cJ.mono ?_
  rintro e W3 ⟨rfl, b3⟩
  have G3 := G2.below hRlt b3
  clear cJ G2 b3 k3 k4 k5 k6
  have cA := adv_c G3.es G3.ok.r
  rw [HX.out] at cA
  unfold ptr at cA
  go_wp2_with fail
  refine cA.mono ?_
  intro e W4 hA
  clear cA
  cases X with
  | error f =>
    obtain ⟨K4, rfl⟩ := hA
    have hU : Except.error f = U := HU.out
    subst hU
    exact ⟨rfl, G3.kr.trans K4, rfl⟩
  | ok g1 =>
    obtain ⟨K4, ⟨z, rfl⟩, E4⟩ := hA
    have G4 := G3.step hRlt K4 E4 (adv_mu G3.ok hkk HX.out).1
    have cS := hS W4 R g1 G4.es G4.ok
    obtain ⟨Y, hY⟩ : ∃ Y, S g1 = Y := ⟨_, rfl⟩
    have HY : Hid (S g1 = Y) := hY
    have HU1 : Hid (sgk1 11 Y = U) := by
      have := HU.out
      show _ = _
      rw [← this, ← hY]
      rfl
    rw [hY] at cS
    unfold ptr at cS
    have hl4 := G4.lt
    clear K4 E4 G3 hY HU
    go_wp2_with fail
    refine cS.mono ?_
    intro e W5 hP5
    clear cS
    cases Y with
    | error f =>
      obtain ⟨K5, rfl⟩ := hP5
      have hU : Except.error f = U := HU1.out
      subst hU
      exact ⟨rfl, G4.kr.trans K5, rfl⟩
    | ok p =>
      obtain ⟨x, g2⟩ := p
      obtain ⟨K5, ⟨m, a, cp, rfl, hin⟩, E5⟩ := hP5
      have hU : Except.ok (nd 11 [x], g2) = U := HU1.out
      subst hU
      have G5 := G4.step hRlt K5 E5 (hD _ _ _ G4.ok HY.out).1
      have hk5 := K5.below.size
      obtain ⟨W6, hW6⟩ : ∃ W6, W5.alloc (.cells #[.int .i64 x.o, .int .i64 x.i, .string x.s, .slice a x.l.length cp] 24) = W6 := ⟨_, rfl⟩
      have b6 : Below W5.heap.size W5 W6 := by rw [← hW6]; exact (Below.refl _ W5).alloc (Nat.le_refl _) _
      have q6 : W6.heap[W5.heap.size]? = some (.cells #[.int .i64 x.o, .int .i64 x.i, .string x.s, .slice a x.l.length cp] 24 (0, 0)) := by rw [← hW6]; exact heap_alloc_new W5 _
      have s6 : W6.heap.size = W5.heap.size + 1 := by rw [← hW6]; simp
      have cN := node_c 11 (some ⟨W5.heap.size, 0, none⟩) 1 1 W6
      have HG5 : Hid (Gx w W5 R s g2) := G5
      clear G5 G4 K5 E5
      go_wp2_with fail
      refine cN.mono ?_
      rintro e W7 ⟨rfl, b7⟩
      have b57 := nx b6 b7
      have G7 := HG5.out.below hRlt b57
      have s7 := b7.size
      have hin7 : XBase.In false (Rg W4.heap.size W7.heap.size) W7 (m + 1) (.agg #[.int .i64 11, .int .i64 0, .string ⟨#[]⟩, .slice (some ⟨W5.heap.size, 0, none⟩) 1 1]) (.mk 11 0 ⟨#[]⟩ [x]) :=
        EKd.in_one (lo := 0) (hi := 0) ((b7.block _ (by omega)).trans q6) ⟨by omega, by omega⟩ (in_rg (hin.below b57) (Nat.le_refl _) (by omega)) 11 0 ⟨#[]⟩ (by omega) (by omega) (by decide)
      obtain ⟨c0, c1, c2, c3⟩ := four_box G7.box
      have f0 := frozen_box G7.box 0
      have f1 := frozen_box G7.box 1
      have f2 := frozen_box G7.box 2
      have f3 := frozen_box G7.box 3
      obtain ⟨W8, hW8⟩ : ∃ W8, ((((W7.setCell ⟨w.heap.size, 0, none⟩ (.int .i64 11)).setCell ⟨w.heap.size, 1, none⟩ (.int .i64 0)).setCell ⟨w.heap.size, 2, none⟩ (.string ⟨#[]⟩)).setCell ⟨w.heap.size, 3, none⟩ (.slice (some ⟨W5.heap.size, 0, none⟩) 1 1)) = W8 := ⟨_, rfl⟩
      obtain ⟨p1, p2⟩ := EKd.made (l := [x]) G7 hRlt hin7 hl4 hW8
      obtain ⟨y0, y1, y2, y3⟩ := four_box p1
      have HP2 : Hid (PR w W8 R s (.returned (.agg #[.int .i64 11, .int .i64 0, .string ⟨#[]⟩, .slice (some ⟨W5.heap.size, 0, none⟩) 1 1])) (.ok (.mk 11 0 ⟨#[]⟩ [x], g2))) := p2
      clear p1 p2 G7 hin hin7 q6 b6 b7 b57 s6 s7 hk5 hl4 cN hW6
      go_wp2_with fail
      refine bodyPost_ret (v := .agg #[.int .i64 11, .int .i64 0, .string ⟨#[]⟩, .slice (some ⟨W5.heap.size, 0, none⟩) 1 1]) (by simp [results, Tryd.results59, go_sem, y0, y1, y2, y3]) rfl ?_
      exact HP2.out
set_option maxRecDepth 20000 in
set_option maxHeartbeats 1600000 in
theorem signed_part {w : World} {R : Nat} {s : ByteArray} {g : Sr} {n : Nat} {Q : P} (hn : n ≤ 33) (hk : n ≤ 32 ∨ g.tk.k = 0) (hP : PaI s n Q) (hD : Dn s Q) (h : Es w R s g.a g.r g.tk) (ho : SrOk s g) (hb1 : is g.tk [45] = false) (hb2 : is g.tk [33] = false) :
    Calls Tryd.prog 59 #[ptr R, .int .i64 n] w fun e w' => PR w w' R s e (Q g) := by
  have hRlt := h.er.lt
  have G0 := Gx.start h ho
  obtain ⟨W0, hW0⟩ : ∃ W0, w.alloc (.cells #[.int .i64 0, .int .i64 0, .string ⟨#[]⟩, .slice none 0 0] 24) = W0 := ⟨_, rfl⟩
  rw [hW0] at G0
  obtain ⟨U, hU⟩ : ∃ U, Q g = U := ⟨_, rfl⟩
  rw [hU]
  have HU : Hid (Q g = U) := hU
  clear hU
  have cG := begin_ok G0.es (n := n) hn hk
  unfold ptr at cG ⊢
  clear h
  go_enter Tryd.func59, Tryd.ntmps59
  go_wp2_with fail
  refine cG.mono ?_
  rintro e W1 ⟨⟨z0, rfl⟩, b1⟩
  have G1 := G0.below hRlt b1
  obtain ⟨k3, k4, k5, k6⟩ := Es.cells G1.es
  have cI := is_b hb1 W1
  clear cG G0 b1 hW0
  go_wp2_with fail
  refine cI.mono ?_
  rintro e W2 ⟨rfl, b2⟩
  have G2 := G1.below hRlt b2
  clear cI G1 b2 k3 k4 k5 k6
  obtain ⟨k3, k4, k5, k6⟩ := Es.cells G2.es
  have cJ := is_b hb2 W2
  go_wp2_with fail
  refine cJ.mono ?_
  rintro e W3 ⟨rfl, b3⟩
  have G3 := G2.below hRlt b3
  clear cJ G2 b3 k3 k4 k5 k6
  have cP := hP W3 R g G3.es G3.ok
  rw [HU.out] at cP
  unfold ptr at cP
  have hl3 := G3.lt
  go_wp2_with fail
  refine cP.mono ?_
  intro e W4 hN
  clear cP
  cases U with
  | error f =>
    obtain ⟨K4, rfl⟩ := hN
    exact ⟨rfl, G3.kr.trans K4, rfl⟩
  | ok p =>
    obtain ⟨x, g3⟩ := p
    obtain ⟨K4, ⟨m, a, cp, rfl, hin⟩, E4⟩ := hN
    have G4 := G3.step hRlt K4 E4 (hD _ _ _ G3.ok HU.out).1
    clear G3
    obtain ⟨c0, c1, c2, c3⟩ := four_box G4.box
    have f0 := frozen_box G4.box 0
    have f1 := frozen_box G4.box 1
    have f2 := frozen_box G4.box 2
    have f3 := frozen_box G4.box 3
    obtain ⟨W5, hW5⟩ : ∃ W5, ((((W4.setCell ⟨w.heap.size, 0, none⟩ (.int .i64 x.o)).setCell ⟨w.heap.size, 1, none⟩ (.int .i64 x.i)).setCell ⟨w.heap.size, 2, none⟩ (.string x.s)).setCell ⟨w.heap.size, 3, none⟩ (.slice a x.l.length cp)) = W5 := ⟨_, rfl⟩
    obtain ⟨p1, p2⟩ := G4.fin hRlt hin hl3 hW5
    obtain ⟨y0, y1, y2, y3⟩ := four_box p1
    have HP2 : Hid (PR w W5 R s (.returned (.agg #[.int .i64 x.o, .int .i64 x.i, .string x.s, .slice a x.l.length cp])) (.ok (x, g3))) := p2
    clear p1 p2 G4 K4 E4 hin hl3
    go_wp2_with fail
    refine bodyPost_ret (v := .agg #[.int .i64 x.o, .int .i64 x.i, .string x.s, .slice a x.l.length cp]) (by simp [results, Tryd.results59, go_sem, y0, y1, y2, y3]) rfl ?_
    exact HP2.out
set_option maxRecDepth 20000 in
set_option maxHeartbeats 1600000 in
theorem signed_deep {w : World} {R : Nat} {s : ByteArray} {g : Sr} (h : Es w R s g.a g.r g.tk) (ho : SrOk s g) (hk : g.tk.k ≠ 0) :
    Calls Tryd.prog 59 #[ptr R, .int .i64 33] w fun e w' => PR w w' R s e (.error (1001, g.tk.a)) := by
  have hRlt := h.er.lt
  have G0 := Gx.start h ho
  obtain ⟨W0, hW0⟩ : ∃ W0, w.alloc (.cells #[.int .i64 0, .int .i64 0, .string ⟨#[]⟩, .slice none 0 0] 24) = W0 := ⟨_, rfl⟩
  rw [hW0] at G0
  have cG := begin_deep G0.es hk
  unfold ptr at cG ⊢
  clear h
  go_enter Tryd.func59, Tryd.ntmps59
  go_wp2_with fail
  refine cG.mono ?_
  rintro e W1 ⟨rfl, b1⟩
  exact ⟨rfl, (G0.below hRlt b1).kr, rfl⟩
theorem is_end {t : Tk} (h : t.k = 0) (x : List UInt8) : is t x = false := by unfold is; rw [h]; rfl
theorem signed_c {s : ByteArray} {n : Nat} {S C : P} (hn : n ≤ 32) (hS : SgI s (n + 1) S) (hDS : Dn s S) (hC : ChI s (n + 1) C) (hDC : Dn s C) : SgI s n (sgd s S C) := by
  intro w R g h ho
  rw [sgd_eq]
  cases hb1 : is g.tk [45] with
  | true => rw [if_pos rfl]; exact signed_neg hn hS hDS h ho hb1
  | false =>
    rw [if_neg (by simp)]
    cases hb2 : is g.tk [33] with
    | true => rw [if_pos rfl]; exact signed_not hn hS hDS h ho hb1 hb2
    | false => rw [if_neg (by simp)]; exact signed_part (by omega) (.inl hn) (EPw.part_c (by omega) hC hDC) (par_dn hDC) h ho hb1 hb2
end Go.Proofs.YtnoohlmlpijhaaaDoor.ESd
namespace Go.Proofs.YtnoohlmlpijhaaaDoor.ELs
open Go.RowKit Go.Proofs.YtnoohlmlpijhaaaDoor.Base Go.Proofs.YtnoohlmlpijhaaaDoor.EPure
set_option linter.unusedVariables false
/-- An operation whose outcome is plain to the kernel. -/
theorem plainly {ops : Array Oper} {rest : List Oper} {o : Oper} {a : Act} {w : World} {Q : Exit → Act → World → Prop} (hg : o.guard = none) (d : Option Tmp) (hd : o.dst = d) (v : Value) (w' : World)
    (hr : (execOp a.eval o).run Tryd.prog w = .ok (.value v) w') (h : wpList Tryd.prog ops Q rest (a.put d v) w') : wpList Tryd.prog ops Q (o :: rest) a w := by
  refine wpList_plain hg fun K hK => ?_
  unfold Oper.wp
  rw [hr, Oper.upon_value, hd]
  exact hK _ _ h
theorem reads {ops : Array Oper} {rest : List Oper} {o : Oper} {a : Act} {w : World} {Q : Exit → Act → World → Prop} (hg : o.guard = none) (d : Option Tmp) (hd : o.dst = d) (v : Value)
    (hr : (execOp a.eval o).run Tryd.prog w = .ok (.value v) w) (h : wpList Tryd.prog ops Q rest (a.put d v) w) : wpList Tryd.prog ops Q (o :: rest) a w := plainly hg d hd v w hr h
/-- The cells of the table of levels. -/
def lvc : List Value := [.string ⟨#[124, 124]⟩, .int .i64 30, .string ⟨#[]⟩, .int .i64 0, .string ⟨#[]⟩, .int .i64 0, .string ⟨#[]⟩, .int .i64 0, .string ⟨#[38, 38]⟩, .int .i64 29, .string ⟨#[]⟩, .int .i64 0, .string ⟨#[]⟩, .int .i64 0, .string ⟨#[]⟩, .int .i64 0, .string ⟨#[61, 61]⟩, .int .i64 27, .string ⟨#[33, 61]⟩, .int .i64 28, .string ⟨#[]⟩, .int .i64 0, .string ⟨#[]⟩, .int .i64 0, .string ⟨#[60]⟩, .int .i64 23, .string ⟨#[60, 61]⟩, .int .i64 24, .string ⟨#[62]⟩, .int .i64 25, .string ⟨#[62, 61]⟩, .int .i64 26, .string ⟨#[124]⟩, .int .i64 22, .string ⟨#[]⟩, .int .i64 0, .string ⟨#[]⟩, .int .i64 0, .string ⟨#[]⟩, .int .i64 0, .string ⟨#[94]⟩, .int .i64 21, .string ⟨#[]⟩, .int .i64 0, .string ⟨#[]⟩, .int .i64 0, .string ⟨#[]⟩, .int .i64 0, .string ⟨#[38]⟩, .int .i64 20, .string ⟨#[]⟩, .int .i64 0, .string ⟨#[]⟩, .int .i64 0, .string ⟨#[]⟩, .int .i64 0, .string ⟨#[60, 60]⟩, .int .i64 18, .string ⟨#[62, 62]⟩, .int .i64 19, .string ⟨#[]⟩, .int .i64 0, .string ⟨#[]⟩, .int .i64 0, .string ⟨#[126]⟩, .int .i64 17, .string ⟨#[]⟩, .int .i64 0, .string ⟨#[]⟩, .int .i64 0, .string ⟨#[]⟩, .int .i64 0, .string ⟨#[43]⟩, .int .i64 15, .string ⟨#[45]⟩, .int .i64 16, .string ⟨#[]⟩, .int .i64 0, .string ⟨#[]⟩, .int .i64 0, .string ⟨#[42]⟩, .int .i64 12, .string ⟨#[47]⟩, .int .i64 13, .string ⟨#[37]⟩, .int .i64 14, .string ⟨#[]⟩, .int .i64 0]
def lvz : List Value := [.string ⟨#[]⟩, .int .i64 0, .string ⟨#[]⟩, .int .i64 0, .string ⟨#[]⟩, .int .i64 0, .string ⟨#[]⟩, .int .i64 0, .string ⟨#[]⟩, .int .i64 0, .string ⟨#[]⟩, .int .i64 0, .string ⟨#[]⟩, .int .i64 0, .string ⟨#[]⟩, .int .i64 0, .string ⟨#[]⟩, .int .i64 0, .string ⟨#[]⟩, .int .i64 0, .string ⟨#[]⟩, .int .i64 0, .string ⟨#[]⟩, .int .i64 0, .string ⟨#[]⟩, .int .i64 0, .string ⟨#[]⟩, .int .i64 0, .string ⟨#[]⟩, .int .i64 0, .string ⟨#[]⟩, .int .i64 0, .string ⟨#[]⟩, .int .i64 0, .string ⟨#[]⟩, .int .i64 0, .string ⟨#[]⟩, .int .i64 0, .string ⟨#[]⟩, .int .i64 0, .string ⟨#[]⟩, .int .i64 0, .string ⟨#[]⟩, .int .i64 0, .string ⟨#[]⟩, .int .i64 0, .string ⟨#[]⟩, .int .i64 0, .string ⟨#[]⟩, .int .i64 0, .string ⟨#[]⟩, .int .i64 0, .string ⟨#[]⟩, .int .i64 0, .string ⟨#[]⟩, .int .i64 0, .string ⟨#[]⟩, .int .i64 0, .string ⟨#[]⟩, .int .i64 0, .string ⟨#[]⟩, .int .i64 0, .string ⟨#[]⟩, .int .i64 0, .string ⟨#[]⟩, .int .i64 0, .string ⟨#[]⟩, .int .i64 0, .string ⟨#[]⟩, .int .i64 0, .string ⟨#[]⟩, .int .i64 0, .string ⟨#[]⟩, .int .i64 0, .string ⟨#[]⟩, .int .i64 0, .string ⟨#[]⟩, .int .i64 0, .string ⟨#[]⟩, .int .i64 0, .string ⟨#[]⟩, .int .i64 0, .string ⟨#[]⟩, .int .i64 0, .string ⟨#[]⟩, .int .i64 0, .string ⟨#[]⟩, .int .i64 0]
set_option maxRecDepth 20000 in
set_option maxHeartbeats 1600000 in
theorem levels_c (w : World) : Calls Tryd.prog 38 #[] w fun e w' => e = .returned (.agg lvc.toArray) ∧ Below w.heap.size w w' := by
  go_enter Tryd.func38, Tryd.ntmps38
  apply wp_seq_k; intro K0 hK0
  apply wp_region_lit
  refine plainly rfl (some 0) rfl (.pointer (some ⟨w.heap.size, 0, none⟩)) (w.alloc (.cells lvz.toArray 70)) (by kernel_rfl) ?_
  apply wpList_nil
  refine hK0 _ _ ?_
  clear hK0 K0
  apply wp_seq_k; intro K1 hK1
  apply wp_region_lit
  refine reads rfl (some 1) rfl (.agg #[.string ⟨#[124, 124]⟩, .int .i64 30]) (by kernel_rfl) ?_
  refine reads rfl (some 2) rfl (.agg #[.string ⟨#[124, 124]⟩, .int .i64 30, .string ⟨#[]⟩, .int .i64 0, .string ⟨#[]⟩, .int .i64 0, .string ⟨#[]⟩, .int .i64 0]) (by kernel_rfl) ?_
  refine reads rfl (some 3) rfl (.agg #[.string ⟨#[38, 38]⟩, .int .i64 29]) (by kernel_rfl) ?_
  refine reads rfl (some 4) rfl (.agg #[.string ⟨#[38, 38]⟩, .int .i64 29, .string ⟨#[]⟩, .int .i64 0, .string ⟨#[]⟩, .int .i64 0, .string ⟨#[]⟩, .int .i64 0]) (by kernel_rfl) ?_
  refine reads rfl (some 5) rfl (.agg #[.string ⟨#[61, 61]⟩, .int .i64 27]) (by kernel_rfl) ?_
  refine reads rfl (some 6) rfl (.agg #[.string ⟨#[33, 61]⟩, .int .i64 28]) (by kernel_rfl) ?_
  refine reads rfl (some 7) rfl (.agg #[.string ⟨#[61, 61]⟩, .int .i64 27, .string ⟨#[33, 61]⟩, .int .i64 28, .string ⟨#[]⟩, .int .i64 0, .string ⟨#[]⟩, .int .i64 0]) (by kernel_rfl) ?_
  refine reads rfl (some 8) rfl (.agg #[.string ⟨#[60]⟩, .int .i64 23]) (by kernel_rfl) ?_
  refine reads rfl (some 9) rfl (.agg #[.string ⟨#[60, 61]⟩, .int .i64 24]) (by kernel_rfl) ?_
  refine reads rfl (some 10) rfl (.agg #[.string ⟨#[62]⟩, .int .i64 25]) (by kernel_rfl) ?_
  refine reads rfl (some 11) rfl (.agg #[.string ⟨#[62, 61]⟩, .int .i64 26]) (by kernel_rfl) ?_
  refine reads rfl (some 12) rfl (.agg #[.string ⟨#[60]⟩, .int .i64 23, .string ⟨#[60, 61]⟩, .int .i64 24, .string ⟨#[62]⟩, .int .i64 25, .string ⟨#[62, 61]⟩, .int .i64 26]) (by kernel_rfl) ?_
  refine reads rfl (some 13) rfl (.agg #[.string ⟨#[124]⟩, .int .i64 22]) (by kernel_rfl) ?_
  refine reads rfl (some 14) rfl (.agg #[.string ⟨#[124]⟩, .int .i64 22, .string ⟨#[]⟩, .int .i64 0, .string ⟨#[]⟩, .int .i64 0, .string ⟨#[]⟩, .int .i64 0]) (by kernel_rfl) ?_
  refine reads rfl (some 15) rfl (.agg #[.string ⟨#[94]⟩, .int .i64 21]) (by kernel_rfl) ?_
  refine reads rfl (some 16) rfl (.agg #[.string ⟨#[94]⟩, .int .i64 21, .string ⟨#[]⟩, .int .i64 0, .string ⟨#[]⟩, .int .i64 0, .string ⟨#[]⟩, .int .i64 0]) (by kernel_rfl) ?_
  refine reads rfl (some 17) rfl (.agg #[.string ⟨#[38]⟩, .int .i64 20]) (by kernel_rfl) ?_
  refine reads rfl (some 18) rfl (.agg #[.string ⟨#[38]⟩, .int .i64 20, .string ⟨#[]⟩, .int .i64 0, .string ⟨#[]⟩, .int .i64 0, .string ⟨#[]⟩, .int .i64 0]) (by kernel_rfl) ?_
  refine reads rfl (some 19) rfl (.agg #[.string ⟨#[60, 60]⟩, .int .i64 18]) (by kernel_rfl) ?_
  refine reads rfl (some 20) rfl (.agg #[.string ⟨#[62, 62]⟩, .int .i64 19]) (by kernel_rfl) ?_
  refine reads rfl (some 21) rfl (.agg #[.string ⟨#[60, 60]⟩, .int .i64 18, .string ⟨#[62, 62]⟩, .int .i64 19, .string ⟨#[]⟩, .int .i64 0, .string ⟨#[]⟩, .int .i64 0]) (by kernel_rfl) ?_
  refine reads rfl (some 22) rfl (.agg #[.string ⟨#[126]⟩, .int .i64 17]) (by kernel_rfl) ?_
  refine reads rfl (some 23) rfl (.agg #[.string ⟨#[126]⟩, .int .i64 17, .string ⟨#[]⟩, .int .i64 0, .string ⟨#[]⟩, .int .i64 0, .string ⟨#[]⟩, .int .i64 0]) (by kernel_rfl) ?_
  refine reads rfl (some 24) rfl (.agg #[.string ⟨#[43]⟩, .int .i64 15]) (by kernel_rfl) ?_
  refine reads rfl (some 25) rfl (.agg #[.string ⟨#[45]⟩, .int .i64 16]) (by kernel_rfl) ?_
  refine reads rfl (some 26) rfl (.agg #[.string ⟨#[43]⟩, .int .i64 15, .string ⟨#[45]⟩, .int .i64 16, .string ⟨#[]⟩, .int .i64 0, .string ⟨#[]⟩, .int .i64 0]) (by kernel_rfl) ?_
  refine reads rfl (some 27) rfl (.agg #[.string ⟨#[42]⟩, .int .i64 12]) (by kernel_rfl) ?_
  refine reads rfl (some 28) rfl (.agg #[.string ⟨#[47]⟩, .int .i64 13]) (by kernel_rfl) ?_
  refine reads rfl (some 29) rfl (.agg #[.string ⟨#[37]⟩, .int .i64 14]) (by kernel_rfl) ?_
  refine reads rfl (some 30) rfl (.agg #[.string ⟨#[42]⟩, .int .i64 12, .string ⟨#[47]⟩, .int .i64 13, .string ⟨#[37]⟩, .int .i64 14, .string ⟨#[]⟩, .int .i64 0]) (by kernel_rfl) ?_
  refine reads rfl (some 31) rfl (.agg lvc.toArray) (by kernel_rfl) ?_
  refine wpList_store_row rfl 70 (.tmp 0) (.tmp 31) rfl w.heap.size lvc.toArray (by kernel_rfl) (by kernel_rfl) 70 lvz.toArray (heap_alloc_new w _) (by kernel_rfl) (by kernel_rfl) (by kernel_rfl) ?_
  apply wpList_nil
  refine hK1 _ _ ?_
  clear hK1 K1
  apply wp_ret
  have hb : ((w.alloc (.cells lvz.toArray 70)).setRow w.heap.size lvc.toArray).heap[w.heap.size]? = some (.cells lvc.toArray 70 (0, 0)) := setRow_heap _ w.heap.size lvz.toArray lvc.toArray 70 (0, 0) (heap_alloc_new w _)
  refine bodyPost_ret (results_cell_row rfl _ _ w.heap.size 70 lvc.toArray (0, 0) _ (by kernel_rfl) hb Tryd.underlying70 rfl (by kernel_rfl)) (by kernel_rfl) ?_
  refine ⟨rfl, ?_⟩
  exact ((Below.refl _ w).alloc (Nat.le_refl _) _).trans ⟨rfl, rfl, rfl, by simp [World.setRow], fun k hk => setRow_other _ w.heap.size k _ (by omega)⟩
end Go.Proofs.YtnoohlmlpijhaaaDoor.ELs
namespace Go.Proofs.YtnoohlmlpijhaaaDoor.ELv
open Go.RowKit Go.Proofs.YtnoohlmlpijhaaaDoor.Base Go.Proofs.YtnoohlmlpijhaaaDoor.UBase Go.Proofs.YtnoohlmlpijhaaaDoor.EPure Go.Proofs.YtnoohlmlpijhaaaDoor.ERd Go.Proofs.YtnoohlmlpijhaaaDoor.ESk Go.Proofs.YtnoohlmlpijhaaaDoor.ETk Go.Proofs.YtnoohlmlpijhaaaDoor.EChr Go.Proofs.YtnoohlmlpijhaaaDoor.ECh Go.Proofs.YtnoohlmlpijhaaaDoor.ESc Go.Proofs.YtnoohlmlpijhaaaDoor.EAdv Go.Proofs.YtnoohlmlpijhaaaDoor.EDn Go.Proofs.YtnoohlmlpijhaaaDoor.EGx Go.Proofs.YtnoohlmlpijhaaaDoor.EBt Go.Proofs.YtnoohlmlpijhaaaDoor.EPa Go.Proofs.YtnoohlmlpijhaaaDoor.ELs
open Go.Proofs.YtnoohlmlpijhaaaDoor.XBase (four_box frozen_box Rg)
set_option linter.unusedVariables false
set_option maxRecDepth 20000 in
set_option maxHeartbeats 1600000 in
theorem level_sign {w : World} {R : Nat} {s : ByteArray} {g : Sr} {n : Nat} {Q : P} (hQ : SgI s n Q) (hD : Dn s Q) (h : Es w R s g.a g.r g.tk) (ho : SrOk s g) :
    Calls Tryd.prog 44 #[ptr R, .int .i64 11, .int .i64 n] w fun e w' => PR w w' R s e (Q g) := by
  have hRlt := h.er.lt
  have G0 := Gx.start h ho
  obtain ⟨W0, hW0⟩ : ∃ W0, w.alloc (.cells #[.int .i64 0, .int .i64 0, .string ⟨#[]⟩, .slice none 0 0] 24) = W0 := ⟨_, rfl⟩
  rw [hW0] at G0
  obtain ⟨U, hU⟩ : ∃ U, Q g = U := ⟨_, rfl⟩
  rw [hU]
  have HU : Hid (Q g = U) := hU
  clear hU
  unfold ptr
  go_enter Tryd.func44, Tryd.ntmps44
  go_wp2_with fail
  go_step3
  apply wp_seq_k; intro K1 hK1
  apply wp_region_lit
  refine wpList_plain rfl fun K hK => ?_
  go_simp
  refine (levels_c W0).mono ?_
  rintro e W1 ⟨rfl, b1⟩
  refine hK _ _ ?_
  clear hK K
  refine plainly rfl (some 7) rfl (.pointer (some ⟨W1.heap.size, 0, none⟩)) (W1.alloc (.cells lvz.toArray 70)) (by kernel_rfl) ?_
  refine wpList_store_row rfl 70 (.tmp 7) (.tmp 11) rfl W1.heap.size lvc.toArray (by kernel_rfl) (by kernel_rfl) 70 lvz.toArray (heap_alloc_new W1 _) (by kernel_rfl) (by kernel_rfl) (by kernel_rfl) ?_
  apply wpList_nil
  refine hK1 _ _ ?_
  clear hK1 K1
  have hb : ((W1.alloc (.cells lvz.toArray 70)).setRow W1.heap.size lvc.toArray).heap[W1.heap.size]? = some (.cells lvc.toArray 70 (0, 0)) := setRow_heap _ W1.heap.size lvz.toArray lvc.toArray 70 (0, 0) (heap_alloc_new W1 _)
  have b2 : Below W1.heap.size W1 ((W1.alloc (.cells lvz.toArray 70)).setRow W1.heap.size lvc.toArray) := ((Below.refl _ W1).alloc (Nat.le_refl _) _).trans ⟨rfl, rfl, rfl, by simp [World.setRow], fun k hk => setRow_other _ W1.heap.size k _ (by omega)⟩
  revert hb b2
  generalize ((W1.alloc (.cells lvz.toArray 70)).setRow W1.heap.size lvc.toArray) = W2
  intro hb b2
  have G2 := G0.below hRlt (nx b1 b2)
  try simp only [Act.put, List.setIfInBounds_toArray, List.set_cons_zero, List.set_cons_succ]
  have cS := hQ W2 R g G2.es G2.ok
  rw [HU.out] at cS
  unfold ptr at cS
  have hl2 := G2.lt
  clear h G0 hW0 b1 b2 hb
  go_wp2_with fail
  refine cS.mono ?_
  intro e W4 hN
  clear cS
  cases U with
  | error f =>
    obtain ⟨K4, rfl⟩ := hN
    exact ⟨rfl, G2.kr.trans K4, rfl⟩
  | ok p =>
    obtain ⟨x, g3⟩ := p
    obtain ⟨K4, ⟨m, a, cp, rfl, hin⟩, E4⟩ := hN
    have G4 := G2.step hRlt K4 E4 (hD _ _ _ G2.ok HU.out).1
    clear G2
    obtain ⟨c0, c1, c2, c3⟩ := four_box G4.box
    have f0 := frozen_box G4.box 0
    have f1 := frozen_box G4.box 1
    have f2 := frozen_box G4.box 2
    have f3 := frozen_box G4.box 3
    obtain ⟨W5, hW5⟩ : ∃ W5, ((((W4.setCell ⟨w.heap.size, 0, none⟩ (.int .i64 x.o)).setCell ⟨w.heap.size, 1, none⟩ (.int .i64 x.i)).setCell ⟨w.heap.size, 2, none⟩ (.string x.s)).setCell ⟨w.heap.size, 3, none⟩ (.slice a x.l.length cp)) = W5 := ⟨_, rfl⟩
    obtain ⟨p1, p2⟩ := G4.fin hRlt hin hl2 hW5
    obtain ⟨y0, y1, y2, y3⟩ := four_box p1
    have HP2 : Hid (PR w W5 R s (.returned (.agg #[.int .i64 x.o, .int .i64 x.i, .string x.s, .slice a x.l.length cp])) (.ok (x, g3))) := p2
    clear p1 p2 G4 K4 E4 hin hl2
    go_wp2_with fail
    try rw [Exit.noGoto_ret]
    refine bodyPost_ret (v := .agg #[.int .i64 x.o, .int .i64 x.i, .string x.s, .slice a x.l.length cp]) (by simp [results, Tryd.results44, go_sem, y0, y1, y2, y3]) rfl ?_
    exact HP2.out
/-- A level's row of four: what it has not ends in operators without a sign. -/
def pd (k : Nat) : List (List UInt8 × Int) := lvs.getD k [] ++ List.replicate (4 - (lvs.getD k []).length) ([], 0)
def pS (k i : Nat) : ByteArray := ⟨((pd k).getD i ([], 0)).1.toArray⟩
def pO (k i : Nat) : Int := ((pd k).getD i ([], 0)).2
theorem lv_cell : ∀ k, k < 11 → ∀ i, i < 4 → lvc[k * 8 + 2 * i]? = some (.string (pS k i)) ∧ lvc[k * 8 + 2 * i + 1]? = some (.int .i64 (pO k i)) := by
  intro k hk i hi
  match k, hk, i, hi with
  | 0, _, 0, _ => exact ⟨rfl, rfl⟩
  | 0, _, 1, _ => exact ⟨rfl, rfl⟩
  | 0, _, 2, _ => exact ⟨rfl, rfl⟩
  | 0, _, 3, _ => exact ⟨rfl, rfl⟩
  | 1, _, 0, _ => exact ⟨rfl, rfl⟩
  | 1, _, 1, _ => exact ⟨rfl, rfl⟩
  | 1, _, 2, _ => exact ⟨rfl, rfl⟩
  | 1, _, 3, _ => exact ⟨rfl, rfl⟩
  | 2, _, 0, _ => exact ⟨rfl, rfl⟩
  | 2, _, 1, _ => exact ⟨rfl, rfl⟩
  | 2, _, 2, _ => exact ⟨rfl, rfl⟩
  | 2, _, 3, _ => exact ⟨rfl, rfl⟩
  | 3, _, 0, _ => exact ⟨rfl, rfl⟩
  | 3, _, 1, _ => exact ⟨rfl, rfl⟩
  | 3, _, 2, _ => exact ⟨rfl, rfl⟩
  | 3, _, 3, _ => exact ⟨rfl, rfl⟩
  | 4, _, 0, _ => exact ⟨rfl, rfl⟩
  | 4, _, 1, _ => exact ⟨rfl, rfl⟩
  | 4, _, 2, _ => exact ⟨rfl, rfl⟩
  | 4, _, 3, _ => exact ⟨rfl, rfl⟩
  | 5, _, 0, _ => exact ⟨rfl, rfl⟩
  | 5, _, 1, _ => exact ⟨rfl, rfl⟩
  | 5, _, 2, _ => exact ⟨rfl, rfl⟩
  | 5, _, 3, _ => exact ⟨rfl, rfl⟩
  | 6, _, 0, _ => exact ⟨rfl, rfl⟩
  | 6, _, 1, _ => exact ⟨rfl, rfl⟩
  | 6, _, 2, _ => exact ⟨rfl, rfl⟩
  | 6, _, 3, _ => exact ⟨rfl, rfl⟩
  | 7, _, 0, _ => exact ⟨rfl, rfl⟩
  | 7, _, 1, _ => exact ⟨rfl, rfl⟩
  | 7, _, 2, _ => exact ⟨rfl, rfl⟩
  | 7, _, 3, _ => exact ⟨rfl, rfl⟩
  | 8, _, 0, _ => exact ⟨rfl, rfl⟩
  | 8, _, 1, _ => exact ⟨rfl, rfl⟩
  | 8, _, 2, _ => exact ⟨rfl, rfl⟩
  | 8, _, 3, _ => exact ⟨rfl, rfl⟩
  | 9, _, 0, _ => exact ⟨rfl, rfl⟩
  | 9, _, 1, _ => exact ⟨rfl, rfl⟩
  | 9, _, 2, _ => exact ⟨rfl, rfl⟩
  | 9, _, 3, _ => exact ⟨rfl, rfl⟩
  | 10, _, 0, _ => exact ⟨rfl, rfl⟩
  | 10, _, 1, _ => exact ⟨rfl, rfl⟩
  | 10, _, 2, _ => exact ⟨rfl, rfl⟩
  | 10, _, 3, _ => exact ⟨rfl, rfl⟩
  | k + 11, h, _, _ => omega
  | _, _, i + 4, h => omega
theorem pd_len : ∀ k, k < 11 → (pd k).length = 4 := by decide
theorem pO_rg : ∀ k, k < 11 → ∀ i, i < 4 → 0 ≤ pO k i ∧ pO k i ≤ 31 := by decide
theorem pd_drop {k i : Nat} (hk : k < 11) (hi : i < 4) : (pd k).drop i = ((pS k i).data.toList, pO k i) :: (pd k).drop (i + 1) := by
  have hl : i < (pd k).length := by rw [pd_len k hk]; exact hi
  rw [List.drop_eq_getElem_cons hl]
  congr 1
  unfold pS pO
  simp [List.getD, hl]
theorem opOf_app (t : Tk) (l m : List (List UInt8 × Int)) : opOf t (l ++ m) = (match opOf t l with | some o => some o | none => opOf t m) := by
  induction l with
  | nil => simp [opOf]
  | cons p l ih =>
    obtain ⟨x, o⟩ := p
    rw [List.cons_append, opOf, opOf]
    by_cases h : is t x = true
    · rw [if_pos h, if_pos h]
    · rw [if_neg h, if_neg h]; exact ih
theorem opOf_pad {t : Tk} (h : t.k = 4 → t.t.data.toList ∈ signs) (n : Nat) : opOf t (List.replicate n ([], 0)) = none := by
  induction n with
  | zero => rfl
  | succ n ih =>
    rw [List.replicate_succ, opOf, if_neg, ih]
    intro hi
    unfold is at hi
    simp only [Bool.and_eq_true, beq_iff_eq] at hi
    have := h hi.1
    rw [hi.2] at this
    exact absurd this (by decide)
theorem opOf_pd {t : Tk} (h : t.k = 4 → t.t.data.toList ∈ signs) (k : Nat) : opOf t (pd k) = opOf t (lvs.getD k []) := by
  unfold pd
  rw [opOf_app, opOf_pad h]
  cases opOf t (lvs.getD k []) <;> rfl
end Go.Proofs.YtnoohlmlpijhaaaDoor.ELv
namespace Go.Proofs.YtnoohlmlpijhaaaDoor.PPk
open Go.RowKit Go.Proofs.YtnoohlmlpijhaaaDoor.Base Go.Proofs.YtnoohlmlpijhaaaDoor.ETx
set_option linter.unusedVariables false
theorem info5 : (Tryd.prog.info? 5).map (fun i => (i.zero, i.size, i.bytes)) = some (some (.int .u8 0), 1, 1) := by kernel_rfl
theorem own_below {w w' : World} {B : Nat} {e : TypeId} {s n : Nat} {v : Value} {xs : List Value} (h : w.ownsRow B e s v n xs) (hb : Below w.heap.size w w') : w'.ownsRow B e s v n xs := by
  refine ⟨h.1, ?_⟩
  rcases h.2 with h2 | ⟨g, cap, cur, hv, hg, hh, r⟩
  · exact .inl h2
  · exact .inr ⟨g, cap, cur, hv, hg, (hb.block g (Array.getElem?_eq_some_iff.1 hh).1).trans hh, r⟩
theorem size_list (s : ByteArray) : s.data.toList.length = s.size := by rw [Array.length_toList]; rfl
/-- v is a row of one's own that holds L; older blocks and blocks of other things than bytes are as in w0; lits: blocks of bytes that were laid out since. -/
structure Pk (B : Nat) (w0 W : World) (v : Value) (L : List UInt8) (lits : List (Nat × List UInt8)) : Prop where
  own : Own W B v L
  bel : Below B w0 W
  ty : ∀ (k : Nat) (cs : Array Value) (t : TypeId) (fz : Nat × Nat), w0.heap[k]? = some (Obj.cells cs t fz) → t ≠ 5 → W.heap[k]? = some (Obj.cells cs t fz)
  le : B ≤ W.heap.size
  lit : ∀ p ∈ lits, v.ownBlock ≠ some p.1 ∧ p.1 < W.heap.size ∧ ∀ j u, (Lib.byteCells p.2)[j]? = some u → W.cell? ⟨p.1, j, none⟩ = some u
  nil : v = .slice none 0 0 ↔ L = []
theorem Pk.start {B : Nat} {W : World} {v : Value} {L : List UInt8} (h : Own W B v L) (hB : B ≤ W.heap.size) (hn : v = .slice none 0 0 ↔ L = []) : Pk B W W v L [] :=
  ⟨h, Below.refl _ _, fun _ _ _ _ h _ => h, hB, (fun p hp => by cases hp), hn⟩
theorem Pk.below {B : Nat} {w0 W W' : World} {v : Value} {L : List UInt8} {lits : List (Nat × List UInt8)} (h : Pk B w0 W v L lits) (hb : Below W.heap.size W W') : Pk B w0 W' v L lits :=
  ⟨own_below h.own hb, h.bel.trans (hb.mono h.le), fun k cs t fz hk ht => (hb.block k (Array.getElem?_eq_some_iff.1 (h.ty k cs t fz hk ht)).1).trans (h.ty k cs t fz hk ht), by have := hb.size; have := h.le; omega,
    (fun p hp => ⟨(h.lit p hp).1, by have := (h.lit p hp).2.1; have := hb.size; omega, fun j u hu => (World.cell?_of_block (w := W) (hb.block p.1 (h.lit p hp).2.1)).trans ((h.lit p hp).2.2 j u hu)⟩), h.nil⟩
theorem Pk.drew {B : Nat} {w0 W : World} {v : Value} {L : List UInt8} {lits : List (Nat × List UInt8)} (h : Pk B w0 W v L lits) : Pk B w0 W.drew v L lits := h.below (Below.refl _ _).drew
theorem Pk.put {B : Nat} {w0 W : World} {v : Value} {L : List UInt8} {lits : List (Nat × List UInt8)} (h : Pk B w0 W v L lits) (x : List UInt8) : Pk B w0 (W.alloc (.cells (Lib.byteCells x).toArray 5)) v L ((W.heap.size, x) :: lits) := by
  have k := h.below ((Below.refl _ _).alloc (Nat.le_refl _) (.cells (Lib.byteCells x).toArray 5))
  refine ⟨k.own, k.bel, k.ty, k.le, fun p hp => ?_, h.nil⟩
  rcases List.mem_cons.1 hp with rfl | hp
  · refine ⟨fun e => by have := (World.ownsRow.lt h.own _ e).2; omega, by simp, fun j u hu => ?_⟩
    have h2 := Base.heap_alloc_new W (.cells (Lib.byteCells x).toArray 5)
    unfold World.cell?
    rw [h2]
    simpa using hu
  · exact k.lit p hp
theorem Pk.more {B : Nat} {w0 W W' : World} {v v' : Value} {L : List UInt8} {lits : List (Nat × List UInt8)} {n : Nat} {x : List UInt8} (h : Pk B w0 W v L lits) (hown : W'.ownsRow B 5 1 v' (L.length + n) (Lib.byteCells L ++ Lib.byteCells x)) (hn : n = x.length)
    (hgrow : W.grownBy W' v.ownBlock) (hnil : v' = .slice none 0 0 ↔ v = .slice none 0 0 ∧ n = 0) (hat : v'.ownBlock = v.ownBlock ∨ v'.ownBlock = some W.heap.size) : Pk B w0 W' v' (L ++ x) lits := by
  subst hn
  refine ⟨?_, h.bel.grown hgrow h.le (fun k hk => (World.ownsRow.lt h.own k hk).1), fun k cs t fz hk ht => ?_, by have := hgrow.size; have := h.le; omega, fun p hp => ?_, ?_⟩
  · unfold Own
    rw [Lib.byteCells_append, List.length_append]
    exact hown
  · have hk1 := h.ty k cs t fz hk ht
    have hne := Lib.ownBlock_ne h.own hk1 ht
    rw [hgrow.block k (Array.getElem?_eq_some_iff.1 hk1).1 (fun e => hne e.symm)]
    exact hk1
  · obtain ⟨h1, hlt, h2⟩ := h.lit p hp
    refine ⟨?_, by have := hgrow.size; omega, fun j u hu => (World.cell?_of_block (w := W) (hgrow.block p.1 hlt (fun e => h1 e.symm))).trans (h2 j u hu)⟩
    rcases hat with e | e
    · rw [e]; exact h1
    · rw [e]
      intro e2
      have := Option.some.inj e2
      omega
  · rw [hnil, h.nil, List.length_eq_zero_iff, List.append_eq_nil_iff]
theorem Pk.shape {B : Nat} {w0 W : World} {v : Value} {L : List UInt8} {lits : List (Nat × List UInt8)} (h : Pk B w0 W v L lits) : ∃ ao n c, v = .slice ao n c := by
  rcases h.own.2 with ⟨hv, _⟩ | ⟨g, cap, cur, hv, _⟩
  · exact ⟨_, _, _, hv⟩
  · exact ⟨_, _, _, hv⟩
theorem bytes_one (x : List UInt8) : ∀ u ∈ Lib.byteCells x, u.oneCell' = true := by
  intro u hu
  obtain ⟨b, _, rfl⟩ := List.mem_map.1 hu
  rfl
theorem Pk.lay {B : Nat} {w0 W : World} {v : Value} {L : List UInt8} {lits : List (Nat × List UInt8)} (h : Pk B w0 W v L lits) (x : List UInt8) (cs : Array Value) (hx : (Lib.byteCells x).toArray = cs) : Pk B w0 (W.alloc (.cells cs 5)) v L ((W.heap.size, x) :: lits) := by
  subst hx
  exact h.put x
theorem Pk.trans {B : Nat} {w0 W1 W : World} {v v' : Value} {L L' : List UInt8} {l1 lits : List (Nat × List UInt8)} (h : Pk B w0 W1 v L l1) (k : Pk B W1 W v' L' lits) : Pk B w0 W v' L' [] :=
  ⟨k.own, h.bel.trans k.bel, fun n cs t fz hn ht => k.ty n cs t fz (h.ty n cs t fz hn ht) ht, k.le, (fun p hp => by cases hp), k.nil⟩
theorem Pk.bare {B : Nat} {w0 W : World} {v : Value} {L : List UInt8} {lits : List (Nat × List UInt8)} (h : Pk B w0 W v L lits) : Pk B w0 W v L [] :=
  ⟨h.own, h.bel, h.ty, h.le, (fun p hp => by cases hp), h.nil⟩
/-- Bytes that a callee has laid out. -/
theorem Pk.row {B : Nat} {w0 W W' : World} {v : Value} {L : List UInt8} {lits : List (Nat × List UInt8)} (h : Pk B w0 W v L lits) (hb : Below W.heap.size W W') {g : Nat} {x : List UInt8} (hg : W.heap.size ≤ g) (hg2 : g < W'.heap.size) (hx : ∀ j u, (Lib.byteCells x)[j]? = some u → W'.cell? ⟨g, j, none⟩ = some u) : Pk B w0 W' v L ((g, x) :: lits) := by
  have k := h.below hb
  refine ⟨k.own, k.bel, k.ty, k.le, fun p hp => ?_, k.nil⟩
  rcases List.mem_cons.1 hp with rfl | hp
  · exact ⟨fun e => by have := (World.ownsRow.lt h.own _ e).2; omega, hg2, hx⟩
  · exact k.lit p hp
set_option maxRecDepth 20000 in
/-- A text appended. -/
theorem run_text (ty : TypeId) {B : Nat} {w0 W : World} {v : Value} {L : List UInt8} {lits : List (Nat × List UInt8)} (h : Pk B w0 W v L lits) (y : ByteArray) (hlen : L.length + y.size ≤ 140737488355328) :
    ∃ v' W', (Builtin.append_ #[42, 9] ty #[v, .string y]).run Tryd.prog W = .ok v' W' ∧ Pk B w0 W' v' (L ++ y.data.toList) lits := by
  obtain ⟨i0, hi, hz0, hz1, hz2⟩ := info_parts info5
  obtain ⟨v', W', hr, h2, h3, h4⟩ := Lib.run_append_own_string (P := Tryd.prog) W B 42 9 ty 5 i0 Tryd.underlying42 Tryd.underlying9 hi hz0 hz1 hz2 v L.length (Lib.byteCells L) h.own y (by unfold maxLen; omega) hlen h.le
  refine ⟨v', W', hr, h.more h2 (size_list y).symm h3 h4 ?_⟩
  rcases h.own.2 with ⟨rfl, h0⟩ | ⟨g, cap, cur, rfl, _, hh, hn, hm, hcs, _⟩
  · by_cases hy : y.size = 0
    · left
      rw [h4.2 ⟨rfl, hy⟩]
    · right
      have hr2 := run_append_nil_string (P := Tryd.prog) W 42 9 ty 5 i0 (.int .u8 0) Tryd.underlying42 Tryd.underlying9 hi hz0 y (by omega) (by omega) (by rw [hz2]; omega)
      have e := hr.symm.trans hr2
      injection e with e1 e2
      rw [e1]
      rfl
  · by_cases hroom : L.length + y.size ≤ cap
    · left
      have hcs' : cur.size = cap := by simpa using hcs
      have hr2 := Lib.run_append_room_string (P := Tryd.prog) W 42 9 ty 5 i0 Tryd.underlying42 Tryd.underlying9 hi hz1 g L.length cap cur hh y hroom (by omega)
      have e := hr.symm.trans hr2
      injection e with e1 e2
      rw [e1]
      rfl
    · right
      have hr2 := Lib.run_append_grow_string (P := Tryd.prog) W 42 9 ty 5 i0 (.int .u8 0) Tryd.underlying42 Tryd.underlying9 hi hz0 ⟨g, 0, none⟩ L.length cap (Lib.byteCells L) (by rw [hz1, Lib.byteCells_length]; omega) (World.ownsRow.cells (g := g) h.own rfl) y (by omega) (by omega) (by rw [hz2]; exact growslice_fits (by omega) (by omega))
      have e := hr.symm.trans hr2
      injection e with e1 e2
      rw [e1]
      rfl
/-- Bytes that lie somewhere appended. -/
theorem run_bytes (ty : TypeId) {B : Nat} {w0 W : World} {v : Value} {L : List UInt8} {lits : List (Nat × List UInt8)} (h : Pk B w0 W v L lits) (g c : Nat) (x : List UInt8) (hx : ∀ j u, (Lib.byteCells x)[j]? = some u → W.cell? ((⟨g, 0, none⟩ : Addr).add j) = some u) (hlen : L.length + x.length ≤ 140737488355328) :
    ∃ v' W', (Builtin.append_ #[42, 42] ty #[v, .slice (some ⟨g, 0, none⟩) x.length c]).run Tryd.prog W = .ok v' W' ∧ Pk B w0 W' v' (L ++ x) lits := by
  obtain ⟨i0, hi, hz0, hz1, hz2⟩ := info_parts info5
  obtain ⟨v', W', hr, h2, h3, h4, h5⟩ := run_append_own_at (P := Tryd.prog) W B 42 ty 5 i0 (.int .u8 0) 1 1 Tryd.underlying42 hi hz0 hz1 hz2 rfl (by decide) v L.length (Lib.byteCells L) h.own ⟨g, 0, none⟩ x.length c (Lib.byteCells x) (by rw [Lib.byteCells_length]; omega) hx (bytes_one x) (by unfold maxLen; omega) (by omega) h.le
  exact ⟨v', W', hr, h.more h2 rfl h3 h4 h5⟩
theorem lit_cells {B : Nat} {w0 W : World} {v : Value} {L : List UInt8} {lits : List (Nat × List UInt8)} (h : Pk B w0 W v L lits) {g : Nat} {x : List UInt8} (hm : (g, x) ∈ lits) : ∀ j u, (Lib.byteCells x)[j]? = some u → W.cell? ((⟨g, 0, none⟩ : Addr).add j) = some u := by
  intro j u hu
  rw [add_none, Nat.zero_add]
  exact (h.lit _ hm).2.2 j u hu
/-- Nothing appended. -/
theorem run_none (ty : TypeId) {B : Nat} {w0 W : World} {v : Value} {L : List UInt8} {lits : List (Nat × List UInt8)} (h : Pk B w0 W v L lits) :
    (Builtin.append_ #[42, 42] ty #[v, .slice none 0 0]).run Tryd.prog W = .ok v W := by
  obtain ⟨i0, hi, hz0, hz1, hz2⟩ := info_parts info5
  have hf : (Builtin.firstCells 1 0 (Value.slice none 0 0)).run Tryd.prog W = .ok #[] W := by simp [Builtin.firstCells]
  rcases h.own.2 with ⟨rfl, h0⟩ | ⟨g, cap, cur, rfl, _, hh, hn, hm, hcs, _⟩
  · simp [Builtin.append_, run_underlying Tryd.underlying42, sizeOf, typeInfo, hi, hz1, Builtin.lenOf, hf]
  · simp [Builtin.append_, run_underlying Tryd.underlying42, sizeOf, typeInfo, hi, hz1, Builtin.lenOf, hn, hf, storeCells]
section
variable {ops : Array Oper} {o : Oper} {a : Act} {K : Act → World → Prop} {Q : Exit → Act → World → Prop} {E : Prop} {B : Nat} {w0 W : World} {v : Value} {L : List UInt8} {lits : List (Nat × List UInt8)}
theorem wp_text (s x : Operand) (ho : o.op = .call { callee := .builtin .append, args := #[s, x], argTypes := #[42, 9] }) (h : Pk B w0 W v L lits) (hs : a.eval s = v) (y : ByteArray) (hx : a.eval x = .string y) (hlen : L.length + y.size ≤ 140737488355328)
    (hk : ∀ v' W', Pk B w0 W' v' (L ++ y.data.toList) lits → K (a.put o.dst v') W') : o.wp Tryd.prog a W K Q := by
  obtain ⟨v', W', hr, h2⟩ := run_text o.type h y hlen
  unfold Oper.wp execOp
  simp only [ho, resolve, invoke, builtin, Sem.run_bind, Sem.run_pure, Result.andThen_ok, List.map_toArray, List.map_cons, List.map_nil, hs, hx, hr]
  exact hk v' W' h2
theorem wp_bytes (s x : Operand) (ho : o.op = .call { callee := .builtin .append, args := #[s, x], argTypes := #[42, 42] }) (h : Pk B w0 W v L lits) (hs : a.eval s = v) (g c : Nat) (y : List UInt8) (hx : a.eval x = .slice (some ⟨g, 0, none⟩) y.length c)
    (hy : ∀ j u, (Lib.byteCells y)[j]? = some u → W.cell? ((⟨g, 0, none⟩ : Addr).add j) = some u) (hlen : L.length + y.length ≤ 140737488355328)
    (hk : ∀ v' W', Pk B w0 W' v' (L ++ y) lits → K (a.put o.dst v') W') : o.wp Tryd.prog a W K Q := by
  obtain ⟨v', W', hr, h2⟩ := run_bytes o.type h g c y hy hlen
  unfold Oper.wp execOp
  simp only [ho, resolve, invoke, builtin, Sem.run_bind, Sem.run_pure, Result.andThen_ok, List.map_toArray, List.map_cons, List.map_nil, hs, hx, hr]
  exact hk v' W' h2
theorem step_none (hgd : o.guard = none) (s x : Operand) (ho : o.op = .call { callee := .builtin .append, args := #[s, x], argTypes := #[42, 42] }) (h : Pk B w0 W v L lits) (hs : a.eval s = v) (hx : a.eval x = .slice none 0 0)
    (hk : K (a.put o.dst v) W) : if Region.wanted o (yielded ops a.tmps) = true then Oper.wp Tryd.prog o a W K Q else E := by
  have hw : Region.wanted o (yielded ops a.tmps) = true := by simp [Region.wanted, hgd]
  rw [if_pos hw]
  have hr := run_none o.type h
  unfold Oper.wp execOp
  simp only [ho, resolve, invoke, builtin, Sem.run_bind, Sem.run_pure, Result.andThen_ok, List.map_toArray, List.map_cons, List.map_nil, hs, hx, hr]
  exact hk
/-- At a step of a statement that draws its order. -/
theorem step_text (hgd : o.guard = none) (s x : Operand) (ho : o.op = .call { callee := .builtin .append, args := #[s, x], argTypes := #[42, 9] }) (h : Pk B w0 W v L lits) (hs : a.eval s = v) (y : ByteArray) (hx : a.eval x = .string y) (hlen : L.length + y.size ≤ 140737488355328)
    (hk : ∀ v' W', Pk B w0 W' v' (L ++ y.data.toList) lits → K (a.put o.dst v') W') : if Region.wanted o (yielded ops a.tmps) = true then Oper.wp Tryd.prog o a W K Q else E := by
  have hw : Region.wanted o (yielded ops a.tmps) = true := by simp [Region.wanted, hgd]
  rw [if_pos hw]
  exact wp_text s x ho h hs y hx hlen hk
theorem step_bytes (hgd : o.guard = none) (s x : Operand) (ho : o.op = .call { callee := .builtin .append, args := #[s, x], argTypes := #[42, 42] }) (h : Pk B w0 W v L lits) (hs : a.eval s = v) (g c : Nat) (y : List UInt8) (hx : a.eval x = .slice (some ⟨g, 0, none⟩) y.length c)
    (hm : (g, y) ∈ lits) (hlen : L.length + y.length ≤ 140737488355328)
    (hk : ∀ v' W', Pk B w0 W' v' (L ++ y) lits → K (a.put o.dst v') W') : if Region.wanted o (yielded ops a.tmps) = true then Oper.wp Tryd.prog o a W K Q else E := by
  have hw : Region.wanted o (yielded ops a.tmps) = true := by simp [Region.wanted, hgd]
  rw [if_pos hw]
  exact wp_bytes s x ho h hs g c y hx (lit_cells h hm) hlen hk
theorem list_text {rest : List Oper} (hgd : o.guard = none) (s x : Operand) (ho : o.op = .call { callee := .builtin .append, args := #[s, x], argTypes := #[42, 9] }) (h : Pk B w0 W v L lits) (hs : a.eval s = v) (y : ByteArray) (hx : a.eval x = .string y) (hlen : L.length + y.size ≤ 140737488355328)
    (hk : ∀ v' W', Pk B w0 W' v' (L ++ y.data.toList) lits → wpList Tryd.prog ops Q rest (a.put o.dst v') W') : wpList Tryd.prog ops Q (o :: rest) a W :=
  wpList_plain hgd fun _ hK => wp_text s x ho h hs y hx hlen fun v' W' h2 => hK _ _ (hk v' W' h2)
theorem list_bytes {rest : List Oper} (hgd : o.guard = none) (s x : Operand) (ho : o.op = .call { callee := .builtin .append, args := #[s, x], argTypes := #[42, 42] }) (h : Pk B w0 W v L lits) (hs : a.eval s = v) (g c : Nat) (y : List UInt8) (hx : a.eval x = .slice (some ⟨g, 0, none⟩) y.length c)
    (hm : (g, y) ∈ lits) (hlen : L.length + y.length ≤ 140737488355328)
    (hk : ∀ v' W', Pk B w0 W' v' (L ++ y) lits → wpList Tryd.prog ops Q rest (a.put o.dst v') W') : wpList Tryd.prog ops Q (o :: rest) a W :=
  wpList_plain hgd fun _ hK => wp_bytes s x ho h hs g c y hx (lit_cells h hm) hlen fun v' W' h2 => hK _ _ (hk v' W' h2)
end
end Go.Proofs.YtnoohlmlpijhaaaDoor.PPk
