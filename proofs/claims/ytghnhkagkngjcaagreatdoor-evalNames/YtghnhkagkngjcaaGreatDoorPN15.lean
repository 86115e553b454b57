import Derived.Deep.RegionWith
import Derived.LoopN
import Derived.LoopTactic
import Derived.Test.YtghnhkagkngjcaaGreatDoorPN14
set_option linter.unusedVariables false
set_option maxRecDepth 20000
set_option maxHeartbeats 3200000
namespace Go.Proofs.YtghnhkagkngjcaaGreatDoor.EWd
open Go.RowKit Base UBase EPure ERd ESk ETk EChr ECh ESc EAdv EDn EGx EBt ENd
open XBase (four_box frozen_box Rg)
def wlk (x : Ex) : Except F Sr → A Ex
  | .error e => .error e
  | .ok g1 => .ok (x, g1)
def wnk (s : ByteArray) (C : P) (t : ByteArray) : Except F Sr → A Ex
  | .error e => .error e
  | .ok g1 => nmd s C t g1
theorem word_num {w : World} {R : Nat} {s : ByteArray} {g : Sr} {n : Nat} (h : Es w R s g.a g.r g.tk) (ho : SrOk s g) (hk : g.tk.k = 1) :
    Calls Tryz.prog 157 #[ptr R, .int .i64 n] w fun e w' => PR w w' R s e (wlk (.mk 4 g.tk.n ⟨#[]⟩ []) (adv s g.a g.r)) := by
  have hRlt := h.er.lt
  have G0 := Gx.start h ho
  obtain ⟨W0, hW0⟩ : ∃ W0, w.alloc (.cells #[.int .i64 0, .int .i64 0, .string ⟨#[]⟩, .slice none 0 0] 24) = W0 := ⟨_, rfl⟩
  rw [hW0] at G0
  obtain ⟨k3, k4, k5, k6⟩ := Es.cells G0.es
  obtain ⟨W1, hW1⟩ : ∃ W1, W0.alloc (.cells #[.int .i64 g.tk.k, .string g.tk.t, .int .i64 g.tk.n, .int .i64 g.tk.a] 83) = W1 := ⟨_, rfl⟩
  have b1 : Below W0.heap.size W0 W1 := by rw [← hW1]; exact (Below.refl _ W0).alloc (Nat.le_refl _) _
  have q1 : W1.heap[W0.heap.size]? = some (.cells #[.int .i64 g.tk.k, .string g.tk.t, .int .i64 g.tk.n, .int .i64 g.tk.a] 83 (0, 0)) := by rw [← hW1]; exact heap_alloc_new W0 _
  have G1 := G0.below hRlt b1
  have l1 := (Array.getElem?_eq_some_iff.1 q1).1
  have l0 := G0.lt
  obtain ⟨m0, m1, m2, m3⟩ := four_box q1
  have hk0 : g.tk.k ≠ 0 := by omega
  rw [hk] at m0
  have cA := adv_c G1.es ho.r
  obtain ⟨X, hX⟩ : ∃ X, adv s g.a g.r = X := ⟨_, rfl⟩
  rw [hX] at cA ⊢
  have HX : Hid (adv s g.a g.r = X) := hX
  unfold ptr at cA ⊢
  clear h hX b1 G0 hk
  go_enter Tryz.func157, Tryz.ntmps157
  go_wp2_with fail
  refine cA.mono ?_
  intro e W2 hA
  clear cA hW1 hW0 m0 m1 m2 m3
  cases X with
  | error f =>
    obtain ⟨K2, rfl⟩ := hA
    exact ⟨rfl, G1.kr.trans K2, rfl⟩
  | ok g1 =>
    obtain ⟨K2, ⟨z, rfl⟩, E2⟩ := hA
    have G2 := G1.step hRlt K2 E2 (adv_mu ho hk0 HX.out).1
    obtain ⟨m0, m1, m2, m3⟩ := four_box ((K2.other W0.heap.size (by omega) l1).trans q1)
    obtain ⟨c0, c1, c2, c3⟩ := four_box G2.box
    have f0 := XBase.frozen_box G2.box 0
    have f1 := XBase.frozen_box G2.box 1
    have f2 := XBase.frozen_box G2.box 2
    have f3 := XBase.frozen_box G2.box 3
    obtain ⟨W5, hW5⟩ : ∃ W5, ((((W2.setCell ⟨w.heap.size, 0, none⟩ (.int .i64 (4))).setCell ⟨w.heap.size, 1, none⟩ (.int .i64 (g.tk.n))).setCell ⟨w.heap.size, 2, none⟩ (.string ⟨#[]⟩)).setCell ⟨w.heap.size, 3, none⟩ (.slice none 0 0)) = W5 := ⟨_, rfl⟩
    obtain ⟨p1, p2⟩ := EKd.leaf G2 hRlt (4) (g.tk.n) ⟨#[]⟩ (by omega) ho.t.hn (by decide) hW5
    obtain ⟨y0, y1, y2, y3⟩ := four_box p1
    have HP2 : Hid (PR w W5 R s (.returned (.agg #[.int .i64 (4), .int .i64 (g.tk.n), .string ⟨#[]⟩, .slice none 0 0])) (.ok (.mk (4) (g.tk.n) ⟨#[]⟩ [], g1))) := p2
    clear p1 p2 G2 G1 K2 E2 l1 l0
    go_wp2_with fail
    refine bodyPost_ret (v := .agg #[.int .i64 (4), .int .i64 (g.tk.n), .string ⟨#[]⟩, .slice none 0 0]) (by simp [results, Tryz.results157, go_sem, y0, y1, y2, y3]) rfl ?_
    exact HP2.out
theorem word_text {w : World} {R : Nat} {s : ByteArray} {g : Sr} {n : Nat} (h : Es w R s g.a g.r g.tk) (ho : SrOk s g) (hk : g.tk.k = 2) :
    Calls Tryz.prog 157 #[ptr R, .int .i64 n] w fun e w' => PR w w' R s e (wlk (.mk 5 0 g.tk.t []) (adv s g.a g.r)) := by
  have hRlt := h.er.lt
  have G0 := Gx.start h ho
  obtain ⟨W0, hW0⟩ : ∃ W0, w.alloc (.cells #[.int .i64 0, .int .i64 0, .string ⟨#[]⟩, .slice none 0 0] 24) = W0 := ⟨_, rfl⟩
  rw [hW0] at G0
  obtain ⟨k3, k4, k5, k6⟩ := Es.cells G0.es
  obtain ⟨W1, hW1⟩ : ∃ W1, W0.alloc (.cells #[.int .i64 g.tk.k, .string g.tk.t, .int .i64 g.tk.n, .int .i64 g.tk.a] 83) = W1 := ⟨_, rfl⟩
  have b1 : Below W0.heap.size W0 W1 := by rw [← hW1]; exact (Below.refl _ W0).alloc (Nat.le_refl _) _
  have q1 : W1.heap[W0.heap.size]? = some (.cells #[.int .i64 g.tk.k, .string g.tk.t, .int .i64 g.tk.n, .int .i64 g.tk.a] 83 (0, 0)) := by rw [← hW1]; exact heap_alloc_new W0 _
  have G1 := G0.below hRlt b1
  have l1 := (Array.getElem?_eq_some_iff.1 q1).1
  have l0 := G0.lt
  obtain ⟨m0, m1, m2, m3⟩ := four_box q1
  have hk0 : g.tk.k ≠ 0 := by omega
  rw [hk] at m0
  have cA := adv_c G1.es ho.r
  obtain ⟨X, hX⟩ : ∃ X, adv s g.a g.r = X := ⟨_, rfl⟩
  rw [hX] at cA ⊢
  have HX : Hid (adv s g.a g.r = X) := hX
  unfold ptr at cA ⊢
  clear h hX b1 G0 hk
  go_enter Tryz.func157, Tryz.ntmps157
  go_wp2_with fail
  refine cA.mono ?_
  intro e W2 hA
  clear cA hW1 hW0 m0 m1 m2 m3
  cases X with
  | error f =>
    obtain ⟨K2, rfl⟩ := hA
    exact ⟨rfl, G1.kr.trans K2, rfl⟩
  | ok g1 =>
    obtain ⟨K2, ⟨z, rfl⟩, E2⟩ := hA
    have G2 := G1.step hRlt K2 E2 (adv_mu ho hk0 HX.out).1
    obtain ⟨m0, m1, m2, m3⟩ := four_box ((K2.other W0.heap.size (by omega) l1).trans q1)
    obtain ⟨c0, c1, c2, c3⟩ := four_box G2.box
    have f0 := XBase.frozen_box G2.box 0
    have f1 := XBase.frozen_box G2.box 1
    have f2 := XBase.frozen_box G2.box 2
    have f3 := XBase.frozen_box G2.box 3
    obtain ⟨W5, hW5⟩ : ∃ W5, ((((W2.setCell ⟨w.heap.size, 0, none⟩ (.int .i64 (5))).setCell ⟨w.heap.size, 1, none⟩ (.int .i64 (0))).setCell ⟨w.heap.size, 2, none⟩ (.string g.tk.t)).setCell ⟨w.heap.size, 3, none⟩ (.slice none 0 0)) = W5 := ⟨_, rfl⟩
    obtain ⟨p1, p2⟩ := EKd.leaf G2 hRlt (5) (0) g.tk.t (by omega) (by omega) (by have := ho.t.sh; omega) hW5
    obtain ⟨y0, y1, y2, y3⟩ := four_box p1
    have HP2 : Hid (PR w W5 R s (.returned (.agg #[.int .i64 (5), .int .i64 (0), .string g.tk.t, .slice none 0 0])) (.ok (.mk (5) (0) g.tk.t [], g1))) := p2
    clear p1 p2 G2 G1 K2 E2 l1 l0
    go_wp2_with fail
    refine bodyPost_ret (v := .agg #[.int .i64 (5), .int .i64 (0), .string g.tk.t, .slice none 0 0]) (by simp [results, Tryz.results157, go_sem, y0, y1, y2, y3]) rfl ?_
    exact HP2.out
theorem word_name {w : World} {R : Nat} {s : ByteArray} {g : Sr} {n : Nat} {C : P} (hn : n ≤ 100) (hC : ChI s (n + 1) C) (hD : Dn s C) (h : Es w R s g.a g.r g.tk) (ho : SrOk s g) (hk : g.tk.k = 3) :
    Calls Tryz.prog 157 #[ptr R, .int .i64 n] w fun e w' => PR w w' R s e (wnk s C g.tk.t (adv s g.a g.r)) := by
  have hRlt := h.er.lt
  have G0 := Gx.start h ho
  obtain ⟨W0, hW0⟩ : ∃ W0, w.alloc (.cells #[.int .i64 0, .int .i64 0, .string ⟨#[]⟩, .slice none 0 0] 24) = W0 := ⟨_, rfl⟩
  rw [hW0] at G0
  obtain ⟨k3, k4, k5, k6⟩ := Es.cells G0.es
  obtain ⟨W1, hW1⟩ : ∃ W1, W0.alloc (.cells #[.int .i64 g.tk.k, .string g.tk.t, .int .i64 g.tk.n, .int .i64 g.tk.a] 83) = W1 := ⟨_, rfl⟩
  have b1 : Below W0.heap.size W0 W1 := by rw [← hW1]; exact (Below.refl _ W0).alloc (Nat.le_refl _) _
  have q1 : W1.heap[W0.heap.size]? = some (.cells #[.int .i64 g.tk.k, .string g.tk.t, .int .i64 g.tk.n, .int .i64 g.tk.a] 83 (0, 0)) := by rw [← hW1]; exact heap_alloc_new W0 _
  have G1 := G0.below hRlt b1
  have l1 := (Array.getElem?_eq_some_iff.1 q1).1
  have l0 := G0.lt
  obtain ⟨m0, m1, m2, m3⟩ := four_box q1
  have hk0 : g.tk.k ≠ 0 := by omega
  have hts := ho.t.sh
  have hnm := ho.t.nm hk
  rw [hk] at m0
  obtain ⟨U, hU⟩ : ∃ U, wnk s C g.tk.t (adv s g.a g.r) = U := ⟨_, rfl⟩
  rw [hU]
  have cA := adv_c G1.es ho.r
  obtain ⟨X, hX⟩ : ∃ X, adv s g.a g.r = X := ⟨_, rfl⟩
  rw [hX] at cA hU
  have HX : Hid (adv s g.a g.r = X) := hX
  have HU : Hid (wnk s C g.tk.t X = U) := hU
  unfold ptr at cA ⊢
  clear h hX b1 G0 hk hU
  go_enter Tryz.func157, Tryz.ntmps157
  go_wp2_with fail
  refine cA.mono ?_
  intro e W2 hA
  clear cA hW1 hW0 m0 m1 m2 m3
  cases X with
  | error f =>
    obtain ⟨K2, rfl⟩ := hA
    have hU : Except.error f = U := HU.out
    subst hU
    exact ⟨rfl, G1.kr.trans K2, rfl⟩
  | ok g1 =>
    obtain ⟨K2, ⟨z, rfl⟩, E2⟩ := hA
    have G2 := G1.step hRlt K2 E2 (adv_mu ho hk0 HX.out).1
    obtain ⟨m0, m1, m2, m3⟩ := four_box ((K2.other W0.heap.size (by omega) l1).trans q1)
    have cN := named_c hn hC hD G2.es G2.ok hnm hts (t := g.tk.t)
    obtain ⟨Y, hY⟩ : ∃ Y, nmd s C g.tk.t g1 = Y := ⟨_, rfl⟩
    have hU : nmd s C g.tk.t g1 = U := HU.out
    rw [hU] at cN
    have HU1 : Hid (nmd s C g.tk.t g1 = U) := hU
    unfold ptr at cN
    have hl2 := G2.lt
    clear K2 E2 hU hY Y HU q1 l1 l0
    go_wp2_with fail
    refine cN.mono ?_
    intro e W3 hN
    clear cN m0 m1 m2 m3
    cases U with
    | error f =>
      obtain ⟨K3, rfl⟩ := hN
      exact ⟨rfl, G2.kr.trans K3, rfl⟩
    | ok p =>
    obtain ⟨x, g3⟩ := p
    obtain ⟨K3, ⟨m, a, cp, rfl, hin⟩, E3⟩ := hN
    have G3 := G2.step hRlt K3 E3 (nmd_dn hD _ _ _ _ G2.ok HU1.out).1
    have hlo : w.heap.size < W2.heap.size := hl2
    clear G2 G1
    obtain ⟨c0, c1, c2, c3⟩ := four_box G3.box
    have f0 := XBase.frozen_box G3.box 0
    have f1 := XBase.frozen_box G3.box 1
    have f2 := XBase.frozen_box G3.box 2
    have f3 := XBase.frozen_box G3.box 3
    obtain ⟨W5, hW5⟩ : ∃ W5, ((((W3.setCell ⟨w.heap.size, 0, none⟩ (.int .i64 x.o)).setCell ⟨w.heap.size, 1, none⟩ (.int .i64 x.i)).setCell ⟨w.heap.size, 2, none⟩ (.string x.s)).setCell ⟨w.heap.size, 3, none⟩ (.slice a x.l.length cp)) = W5 := ⟨_, rfl⟩
    obtain ⟨p1, p2⟩ := G3.fin hRlt hin hlo hW5
    obtain ⟨y0, y1, y2, y3⟩ := four_box p1
    have HP2 : Hid (PR w W5 R s (.returned (.agg #[.int .i64 x.o, .int .i64 x.i, .string x.s, .slice a x.l.length cp])) (.ok (x, g3))) := p2
    clear p1 p2 G3 K3 E3 hin hlo
    go_wp2_with fail
    refine bodyPost_ret (v := .agg #[.int .i64 x.o, .int .i64 x.i, .string x.s, .slice a x.l.length cp]) (by simp [results, Tryz.results157, go_sem, y0, y1, y2, y3]) rfl ?_
    exact HP2.out
theorem word_else {w : World} {R : Nat} {s : ByteArray} {g : Sr} {n : Nat} {C : P} (hn : n ≤ 100) (hC : ChI s (n + 1) C) (hD : Dn s C) (h : Es w R s g.a g.r g.tk) (ho : SrOk s g) (hk : g.tk.k = 0 ∨ g.tk.k = 4) :
    Calls Tryz.prog 157 #[ptr R, .int .i64 n] w fun e w' => PR w w' R s e (btw s C [40] [41] g) := by
  have hRlt := h.er.lt
  have G0 := Gx.start h ho
  obtain ⟨W0, hW0⟩ : ∃ W0, w.alloc (.cells #[.int .i64 0, .int .i64 0, .string ⟨#[]⟩, .slice none 0 0] 24) = W0 := ⟨_, rfl⟩
  rw [hW0] at G0
  obtain ⟨k3, k4, k5, k6⟩ := Es.cells G0.es
  obtain ⟨W1, hW1⟩ : ∃ W1, W0.alloc (.cells #[.int .i64 g.tk.k, .string g.tk.t, .int .i64 g.tk.n, .int .i64 g.tk.a] 83) = W1 := ⟨_, rfl⟩
  have b1 : Below W0.heap.size W0 W1 := by rw [← hW1]; exact (Below.refl _ W0).alloc (Nat.le_refl _) _
  have q1 : W1.heap[W0.heap.size]? = some (.cells #[.int .i64 g.tk.k, .string g.tk.t, .int .i64 g.tk.n, .int .i64 g.tk.a] 83 (0, 0)) := by rw [← hW1]; exact heap_alloc_new W0 _
  have G1 := G0.below hRlt b1
  have l1 := (Array.getElem?_eq_some_iff.1 q1).1
  have l0 := G0.lt
  obtain ⟨m0, m1, m2, m3⟩ := four_box q1
  have e1 : (((g.tk.k : Nat) : Int) == 1) = false := by simp; omega
  have e2 : (((g.tk.k : Nat) : Int) == 2) = false := by simp; omega
  have e3 : (((g.tk.k : Nat) : Int) == 3) = false := by simp; omega
  have cB := between_c hn hC hD G1.es G1.ok [40] [41]
  obtain ⟨U, hU⟩ : ∃ U, btw s C [40] [41] g = U := ⟨_, rfl⟩
  rw [hU] at cB ⊢
  have HU : Hid (btw s C [40] [41] g = U) := hU
  have hl2 := G1.lt
  unfold ptr at cB ⊢
  clear h b1 G0 hk hU
  go_enter Tryz.func157, Tryz.ntmps157
  go_wp2_with fail
  refine cB.mono ?_
  intro e W3 hN
  clear cB m0 m1 m2 m3 hW1 hW0
  cases U with
  | error f =>
    obtain ⟨K3, rfl⟩ := hN
    exact ⟨rfl, G1.kr.trans K3, rfl⟩
  | ok p =>
    obtain ⟨x, g3⟩ := p
    obtain ⟨K3, ⟨m, a, cp, rfl, hin⟩, E3⟩ := hN
    have G3 := G1.step hRlt K3 E3 (btw_dn hD _ _ _ _ _ G1.ok HU.out).1
    have hlo : w.heap.size < W1.heap.size := hl2
    clear G1 q1 l1 l0
    obtain ⟨c0, c1, c2, c3⟩ := four_box G3.box
    have f0 := XBase.frozen_box G3.box 0
    have f1 := XBase.frozen_box G3.box 1
    have f2 := XBase.frozen_box G3.box 2
    have f3 := XBase.frozen_box G3.box 3
    obtain ⟨W5, hW5⟩ : ∃ W5, ((((W3.setCell ⟨w.heap.size, 0, none⟩ (.int .i64 x.o)).setCell ⟨w.heap.size, 1, none⟩ (.int .i64 x.i)).setCell ⟨w.heap.size, 2, none⟩ (.string x.s)).setCell ⟨w.heap.size, 3, none⟩ (.slice a x.l.length cp)) = W5 := ⟨_, rfl⟩
    obtain ⟨p1, p2⟩ := G3.fin hRlt hin hlo hW5
    obtain ⟨y0, y1, y2, y3⟩ := four_box p1
    have HP2 : Hid (PR w W5 R s (.returned (.agg #[.int .i64 x.o, .int .i64 x.i, .string x.s, .slice a x.l.length cp])) (.ok (x, g3))) := p2
    clear p1 p2 G3 K3 E3 hin hlo
    go_wp2_with fail
    refine bodyPost_ret (v := .agg #[.int .i64 x.o, .int .i64 x.i, .string x.s, .slice a x.l.length cp]) (by simp [results, Tryz.results157, go_sem, y0, y1, y2, y3]) rfl ?_
    exact HP2.out
theorem word_c {s : ByteArray} {n : Nat} {C : P} (hn : n ≤ 100) (hC : ChI s (n + 1) C) (hD : Dn s C) : WoI s n (wor s C) := by
  intro w R g h ho
  have hk4 := ho.t.hk
  unfold wor
  by_cases h1 : g.tk.k = 1
  · rw [if_pos h1]
    refine (word_num h ho h1).mono ?_
    intro e w'
    generalize adv s g.a g.r = X
    cases X <;> exact id
  · rw [if_neg h1]
    by_cases h2 : g.tk.k = 2
    · rw [if_pos h2]
      refine (word_text h ho h2).mono ?_
      intro e w'
      generalize adv s g.a g.r = X
      cases X <;> exact id
    · rw [if_neg h2]
      by_cases h3 : g.tk.k = 3
      · rw [if_pos h3]
        refine (word_name hn hC hD h ho h3).mono ?_
        intro e w'
        generalize adv s g.a g.r = X
        cases X <;> exact id
      · rw [if_neg h3]
        exact word_else hn hC hD h ho (by omega)
end Go.Proofs.YtghnhkagkngjcaaGreatDoor.EWd
namespace Go.Proofs.YtghnhkagkngjcaaGreatDoor.EPa
open Go.RowKit Base UBase EPure ERd ESk ETk EChr ECh ESc EAdv EDn EGx EBt
open XBase (four_box frozen_box Rg)
def fld (s : ByteArray) (g : Sr) : Except F (ByteArray × Sr) := if g.tk.k = 3 then match adv s g.a g.r with
    | .error e => .error e
    | .ok g' => .ok (g.tk.t, g')
  else .error (ends g.tk)
def FlR (w w' : World) (R : Nat) (s : ByteArray) (e : Ending) : Except F (ByteArray × Sr) → Prop
  | .ok (t, g) => Kr R w w' ∧ e = .returned (.string t) ∧ Er w' R s g.a g.r g.tk
  | .error f => Kr R w w' ∧ e = .panicked (pk f)
def flk (t : ByteArray) : Except F Sr → Except F (ByteArray × Sr)
  | .error e => .error e
  | .ok g' => .ok (t, g')
theorem field_yes {w : World} {R : Nat} {s : ByteArray} {g : Sr} (h : Es w R s g.a g.r g.tk) (ho : SrOk s g) (hk : g.tk.k = 3) :
    Calls Tryz.prog 158 #[ptr R] w fun e w' => FlR w w' R s e (flk g.tk.t (adv s g.a g.r)) := by
  have hRlt := h.er.lt
  obtain ⟨k3, k4, k5, k6⟩ := Es.cells h
  obtain ⟨W1, hW1⟩ : ∃ W1, w.alloc (.cells #[.int .i64 g.tk.k, .string g.tk.t, .int .i64 g.tk.n, .int .i64 g.tk.a] 83) = W1 := ⟨_, rfl⟩
  have b1 : Below w.heap.size w W1 := by rw [← hW1]; exact (Below.refl _ w).alloc (Nat.le_refl _) _
  have q1 : W1.heap[w.heap.size]? = some (.cells #[.int .i64 g.tk.k, .string g.tk.t, .int .i64 g.tk.n, .int .i64 g.tk.a] 83 (0, 0)) := by rw [← hW1]; exact heap_alloc_new w _
  have l1 := (Array.getElem?_eq_some_iff.1 q1).1
  obtain ⟨m0, m1, m2, m3⟩ := four_box q1
  rw [hk] at m0
  have cA := adv_c (h.below b1) ho.r
  obtain ⟨X, hX⟩ : ∃ X, adv s g.a g.r = X := ⟨_, rfl⟩
  rw [hX] at cA ⊢
  have K1 : Kr R w W1 := Kr.of_below b1 (Nat.le_of_lt hRlt)
  unfold ptr at cA ⊢
  clear h hX b1 hk
  go_enter Tryz.func158, Tryz.ntmps158
  go_wp2_with fail
  refine cA.mono ?_
  intro e W2 hA
  clear cA hW1 m0 m1 m2 m3
  cases X with
  | error f =>
    obtain ⟨K2, rfl⟩ := hA
    exact ⟨rfl, K1.trans K2, rfl⟩
  | ok g1 =>
    obtain ⟨K2, ⟨z, rfl⟩, E2⟩ := hA
    obtain ⟨m0, m1, m2, m3⟩ := four_box ((K2.other w.heap.size (by omega) l1).trans q1)
    go_wp2_with fail
    go_ret
    exact ⟨K1.trans K2, rfl, E2⟩
theorem field_no {w : World} {R : Nat} {s : ByteArray} {g : Sr} (h : Es w R s g.a g.r g.tk) (ho : SrOk s g) (hk : g.tk.k ≠ 3) :
    Calls Tryz.prog 158 #[ptr R] w fun e w' => FlR w w' R s e (.error (ends g.tk)) := by
  have hRlt := h.er.lt
  obtain ⟨k3, k4, k5, k6⟩ := Es.cells h
  obtain ⟨W1, hW1⟩ : ∃ W1, w.alloc (.cells #[.int .i64 g.tk.k, .string g.tk.t, .int .i64 g.tk.n, .int .i64 g.tk.a] 83) = W1 := ⟨_, rfl⟩
  have b1 : Below w.heap.size w W1 := by rw [← hW1]; exact (Below.refl _ w).alloc (Nat.le_refl _) _
  have q1 : W1.heap[w.heap.size]? = some (.cells #[.int .i64 g.tk.k, .string g.tk.t, .int .i64 g.tk.n, .int .i64 g.tk.a] 83 (0, 0)) := by rw [← hW1]; exact heap_alloc_new w _
  have l1 := (Array.getElem?_eq_some_iff.1 q1).1
  obtain ⟨m0, m1, m2, m3⟩ := four_box q1
  have e3 : (((g.tk.k : Nat) : Int) != 3) = true := by simp; omega
  have cM := misplaced_c g.tk W1
  have K1 : Kr R w W1 := Kr.of_below b1 (Nat.le_of_lt hRlt)
  unfold ptr ends
  clear h b1 hk
  go_enter Tryz.func158, Tryz.ntmps158
  go_wp2_with fail
  refine cM.mono ?_
  rintro e W2 ⟨rfl, b2⟩
  go_wp2_with fail
  exact ⟨rfl, K1.trans (Kr.of_below b2 (by omega)), rfl⟩
theorem field_c {w : World} {R : Nat} {s : ByteArray} {g : Sr} (h : Es w R s g.a g.r g.tk) (ho : SrOk s g) :
    Calls Tryz.prog 158 #[ptr R] w fun e w' => FlR w w' R s e (fld s g) := by
  unfold fld
  by_cases hk : g.tk.k = 3
  · rw [if_pos hk]
    refine (field_yes h ho hk).mono ?_
    intro e w'
    generalize adv s g.a g.r = X
    cases X <;> exact id
  · rw [if_neg hk]
    exact field_no h ho hk
def Sx (lo hi B : Nat) : Nat → Prop := fun b => lo ≤ b ∧ b < hi ∧ b ≠ B
structure Pa (w W : World) (R : Nat) (s : ByteArray) (g : Sr) (x : Ex) (B lo : Nat) : Prop where
  gx : Gx w W R s g
  row : ∃ m a c, W.heap[B]? = some (.cells #[.int .i64 x.o, .int .i64 x.i, .string x.s, .slice a x.l.length c] 24 (0, 0)) ∧ XBase.In false (Sx lo W.heap.size B) W m (.agg #[.int .i64 x.o, .int .i64 x.i, .string x.s, .slice a x.l.length c]) x
  lo1 : w.heap.size < lo
  lo2 : lo ≤ B
theorem Pa.lt {w W : World} {R : Nat} {s : ByteArray} {g : Sr} {x : Ex} {B lo : Nat} (h : Pa w W R s g x B lo) : B < W.heap.size := by
  obtain ⟨m, a, c, hb, -⟩ := h.row
  exact (Array.getElem?_eq_some_iff.1 hb).1
theorem Pa.step {w W W' : World} {R : Nat} {s : ByteArray} {g g' : Sr} {x : Ex} {B lo : Nat} (h : Pa w W R s g x B lo) (hR : R < w.heap.size) (k : Kr R W W') (e : Er W' R s g'.a g'.r g'.tk) (ho : SrOk s g') : Pa w W' R s g' x B lo := by
  have h1 := h.lo1
  have h2 := h.lo2
  have hl := h.lt
  have hs := k.below.size
  obtain ⟨m, a, c, hb, hin⟩ := h.row
  exact ⟨h.gx.step hR k e ho, ⟨m, a, c, (k.other B (by omega) hl).trans hb, (hin.keep fun b hb hlt => k.other b (by have := hb.1; omega) hlt).weak (fun b hb => ⟨hb.1, by have := hb.2.1; omega, hb.2.2⟩) false id m (Nat.le_refl _)⟩, h.lo1, h.lo2⟩
theorem Pa.below {w W W' : World} {R : Nat} {s : ByteArray} {g : Sr} {x : Ex} {B lo : Nat} (h : Pa w W R s g x B lo) (hR : R < w.heap.size) (b : Below W.heap.size W W') : Pa w W' R s g x B lo :=
  h.step hR (Kr.of_below b (Nat.le_of_lt h.gx.es.er.lt)) (h.gx.es.er.keep (b.block R h.gx.es.er.lt)) h.gx.ok
theorem Pa.put {w W W' : World} {R : Nat} {s : ByteArray} {g : Sr} {x : Ex} {B lo m c : Nat} {o i : Int} {t : ByteArray} {l : List Ex} {a : Option Addr} (h : Pa w W R s g x B lo) (hR : R < w.heap.size)
    (hin : XBase.In false (Sx lo W.heap.size B) W m (.agg #[.int .i64 o, .int .i64 i, .string t, .slice a l.length c]) (.mk o i t l))
    (hW : ((((W.setCell ⟨B, 0, none⟩ (.int .i64 o)).setCell ⟨B, 1, none⟩ (.int .i64 i)).setCell ⟨B, 2, none⟩ (.string t)).setCell ⟨B, 3, none⟩ (.slice a l.length c)) = W') : Pa w W' R s g (.mk o i t l) B lo := by
  subst hW
  have h1 := h.lo1
  have h2 := h.lo2
  obtain ⟨m0, a0, c0, hb, -⟩ := h.row
  have hne : ∀ b, b ≠ B → ((((W.setCell ⟨B, 0, none⟩ (.int .i64 o)).setCell ⟨B, 1, none⟩ (.int .i64 i)).setCell ⟨B, 2, none⟩ (.string t)).setCell ⟨B, 3, none⟩ (.slice a l.length c)).heap[b]? = W.heap[b]? := fun b hb => by
    rw [Below.heap_setCell _ _ _ _ hb, Below.heap_setCell _ _ _ _ hb, Below.heap_setCell _ _ _ _ hb, Below.heap_setCell _ _ _ _ hb]
  have hRB : R < B := by omega
  have hk : Kr R w ((((W.setCell ⟨B, 0, none⟩ (.int .i64 o)).setCell ⟨B, 1, none⟩ (.int .i64 i)).setCell ⟨B, 2, none⟩ (.string t)).setCell ⟨B, 3, none⟩ (.slice a l.length c)) :=
    Kr.off (Kr.off (Kr.off (Kr.off h.gx.kr (by omega) hRB 0 _) (by omega) hRB 1 _) (by omega) hRB 2 _) (by omega) hRB 3 _
  have he : Er ((((W.setCell ⟨B, 0, none⟩ (.int .i64 o)).setCell ⟨B, 1, none⟩ (.int .i64 i)).setCell ⟨B, 2, none⟩ (.string t)).setCell ⟨B, 3, none⟩ (.slice a l.length c)) R s g.a g.r g.tk := h.gx.es.er.keep (hne R (by omega))
  refine ⟨⟨⟨he, tab_keep h.gx.es.tab (hne _ (by have := h.gx.es.gR; omega)) (hne _ (by have := h.gx.es.gR; omega)), h.gx.es.gR⟩, h.gx.ok, hk, (hne _ (by omega)).trans h.gx.box⟩, ⟨m, a, c, set_box4 hb, ?_⟩, h.lo1, h.lo2⟩
  have hs : ((((W.setCell ⟨B, 0, none⟩ (.int .i64 o)).setCell ⟨B, 1, none⟩ (.int .i64 i)).setCell ⟨B, 2, none⟩ (.string t)).setCell ⟨B, 3, none⟩ (.slice a l.length c)).heap.size = W.heap.size := by simp [World.setCell]
  rw [hs]
  exact hin.keep fun b hb _ => hne b hb.2.2
def muw (R : Nat) (s : ByteArray) (w : World) : Nat := match w.cell? ⟨R, 3, none⟩ with
  | some (.int _ k) => 2 * (s.size - plc R w) + (if k = 0 then 0 else 1)
  | _ => 0
theorem muw_of {w : World} {R : Nat} {s : ByteArray} {g : Sr} (h : Er w R s g.a g.r g.tk) : muw R s w = mu s g := by
  unfold muw mu
  rw [h.cells.2.2.2.1, plc_of h]
  by_cases hk : g.tk.k = 0
  · simp [hk]
  · simp [hk]
end Go.Proofs.YtghnhkagkngjcaaGreatDoor.EPa
namespace Go.Proofs.YtghnhkagkngjcaaGreatDoor.EPt
open Go.RowKit Base UBase EPure ERd ESk ETk EChr ECh ESc EAdv EDn EGx EBt EPa
open XBase (four_box frozen_box Rg)
def ptk (s : ByteArray) (C : P) (f : Nat) (x : Ex) : Except F (ByteArray × Sr) → A Ex
  | .error e => .error e
  | .ok (t, g2) => prt s C f (.mk 7 0 t [x]) g2
def pdk (s : ByteArray) (C : P) (f : Nat) (x : Ex) : Except F Sr → A Ex
  | .error e => .error e
  | .ok g1 => ptk s C f x (fld s g1)
def pik (s : ByteArray) (C : P) (f : Nat) (x : Ex) : A Ex → A Ex
  | .error e => .error e
  | .ok (y, g1) => prt s C f (nd 8 [x, y]) g1
theorem prt_step (s : ByteArray) (C : P) (f : Nat) (x : Ex) (g : Sr) : prt s C (f + 1) x g = if is g.tk [46] = true then pdk s C f x (adv s g.a g.r)
    else if is g.tk [91] = true then pik s C f x (btw s C [91] [93] g) else .ok (x, g) := by
  rw [prt]
  by_cases h1 : is g.tk [46] = true
  · rw [if_pos h1, if_pos h1]
    unfold pdk
    cases adv s g.a g.r with
    | error e => rfl
    | ok g1 =>
      dsimp only
      unfold fld
      by_cases h3 : g1.tk.k = 3
      · rw [if_pos h3, if_pos h3]
        cases adv s g1.a g1.r <;> rfl
      · rw [if_neg h3, if_neg h3]
        rfl
  · rw [if_neg h1, if_neg h1]
    by_cases h2 : is g.tk [91] = true
    · rw [if_pos h2, if_pos h2]
      unfold pik
      rfl
    · rw [if_neg h2, if_neg h2]
theorem fld_mu {s : ByteArray} {g g' : Sr} {t : ByteArray} (hg : SrOk s g) (h : fld s g = .ok (t, g')) : SrOk s g' ∧ mu s g' < mu s g ∧ t.size ≤ 4096 := by
  unfold fld at h
  split at h
  · split at h
    · cases h
    · next hk _ _ e =>
      cases h
      obtain ⟨h1, h2⟩ := adv_mu hg (by omega) e
      exact ⟨h1, h2, hg.t.sh⟩
  · cases h
theorem Pa.field {w W W' W'' : World} {R : Nat} {s : ByteArray} {g : Sr} {x : Ex} {B lo m c : Nat} {a : Option Addr} {t : ByteArray} (h : Pa w W R s g x B lo) (hR : R < w.heap.size) (ht : t.size ≤ 4096)
    (hb : W.heap[B]? = some (.cells #[.int .i64 x.o, .int .i64 x.i, .string x.s, .slice a x.l.length c] 24 (0, 0)))
    (hW : W.alloc (.cells #[.int .i64 x.o, .int .i64 x.i, .string x.s, .slice a x.l.length c] 24) = W')
    (hW2 : ((((W'.setCell ⟨B, 0, none⟩ (.int .i64 7)).setCell ⟨B, 1, none⟩ (.int .i64 0)).setCell ⟨B, 2, none⟩ (.string t)).setCell ⟨B, 3, none⟩ (.slice (some ⟨W.heap.size, 0, none⟩) 1 1)) = W'') : Pa w W'' R s g (.mk 7 0 t [x]) B lo := by
  have hl := h.lt
  have h2 := h.lo2
  have b1 : Below W.heap.size W W' := by rw [← hW]; exact (Below.refl _ W).alloc (Nat.le_refl _) _
  have hs : W'.heap.size = W.heap.size + 1 := by rw [← hW]; simp
  obtain ⟨m', a', c', hb', hin⟩ := h.row
  have e := hb.symm.trans hb'
  simp only [Option.some.injEq, Obj.cells.injEq, Array.mk.injEq, List.cons.injEq, Value.slice.injEq, and_true, true_and] at e
  obtain ⟨rfl, rfl⟩ := e
  refine (h.below hR b1).put (l := [x]) hR (EKd.in_one (lo := 0) (hi := 0) (by rw [← hW]; exact heap_alloc_new W _) ⟨by omega, by omega, by omega⟩ ((hin.below b1).weak (fun b hb => ⟨hb.1, by have := hb.2.1; omega, hb.2.2⟩) false id m' (Nat.le_refl _)) 7 0 t (by omega) (by omega) (by omega)) hW2
theorem Pa.two {w W W' W2 W3 : World} {R : Nat} {s : ByteArray} {g : Sr} {x y : Ex} {B lo l1 m c c' : Nat} {a a' : Option Addr} {o : Int} (h : Pa w W R s g x B lo) (hR : R < w.heap.size) (ho : 0 ≤ o ∧ o ≤ 100)
    (hb : W.heap[B]? = some (.cells #[.int .i64 x.o, .int .i64 x.i, .string x.s, .slice a x.l.length c] 24 (0, 0)))
    (hy : XBase.In false (XBase.Rg l1 W.heap.size) W m (.agg #[.int .i64 y.o, .int .i64 y.i, .string y.s, .slice a' y.l.length c']) y) (hl1 : B < l1)
    (hW : W.alloc (.cells #[.int .i64 x.o, .int .i64 x.i, .string x.s, .slice a x.l.length c, .int .i64 y.o, .int .i64 y.i, .string y.s, .slice a' y.l.length c'] 24) = W')
    (bb : Below W'.heap.size W' W2)
    (hW2 : ((((W2.setCell ⟨B, 0, none⟩ (.int .i64 o)).setCell ⟨B, 1, none⟩ (.int .i64 0)).setCell ⟨B, 2, none⟩ (.string ⟨#[]⟩)).setCell ⟨B, 3, none⟩ (.slice (some ⟨W.heap.size, 0, none⟩) 2 2)) = W3) : Pa w W3 R s g (nd o [x, y]) B lo := by
  have hl := h.lt
  have h2 := h.lo2
  have b1 : Below W.heap.size W W' := by rw [← hW]; exact (Below.refl _ W).alloc (Nat.le_refl _) _
  have hs : W'.heap.size = W.heap.size + 1 := by rw [← hW]; simp
  have hs2 := bb.size
  have b2 : Below W.heap.size W W2 := nx b1 bb
  obtain ⟨m', a0, c0, hb', hin⟩ := h.row
  have e := hb.symm.trans hb'
  simp only [Option.some.injEq, Obj.cells.injEq, Array.mk.injEq, List.cons.injEq, Value.slice.injEq, and_true, true_and] at e
  obtain ⟨rfl, rfl⟩ := e
  have hbl : W2.heap[W.heap.size]? = some (.cells #[.int .i64 x.o, .int .i64 x.i, .string x.s, .slice a x.l.length c, .int .i64 y.o, .int .i64 y.i, .string y.s, .slice a' y.l.length c'] 24 (0, 0)) := (bb.block _ (by omega)).trans (by rw [← hW]; exact heap_alloc_new W _)
  have hx2 : XBase.In false (Sx lo W2.heap.size B) W2 (m' + m) (.agg #[.int .i64 x.o, .int .i64 x.i, .string x.s, .slice a x.l.length c]) x :=
    (hin.below b2).weak (fun b hb => ⟨hb.1, by have := hb.2.1; omega, hb.2.2⟩) false id _ (by omega)
  have hy2 : XBase.In false (Sx lo W2.heap.size B) W2 (m' + m) (.agg #[.int .i64 y.o, .int .i64 y.i, .string y.s, .slice a' y.l.length c']) y :=
    (hy.below b2).weak (fun b hb => ⟨by have := hb.1; omega, by have := hb.2; omega, by have := hb.1; omega⟩) false id _ (by omega)
  exact (h.below hR b2).put (l := [x, y]) hR (EKd.in_two hbl ⟨by omega, by omega, by omega⟩ hx2 hy2 o 0 ⟨#[]⟩ (by omega) (by omega) (by decide)) hW2
theorem Pa.fin {w W W' : World} {R : Nat} {s : ByteArray} {g : Sr} {x : Ex} {B lo c : Nat} {a : Option Addr} (h : Pa w W R s g x B lo) (hR : R < w.heap.size)
    (hb : W.heap[B]? = some (.cells #[.int .i64 x.o, .int .i64 x.i, .string x.s, .slice a x.l.length c] 24 (0, 0)))
    (hW : ((((W.setCell ⟨w.heap.size, 0, none⟩ (.int .i64 x.o)).setCell ⟨w.heap.size, 1, none⟩ (.int .i64 x.i)).setCell ⟨w.heap.size, 2, none⟩ (.string x.s)).setCell ⟨w.heap.size, 3, none⟩ (.slice a x.l.length c)) = W') :
    W'.heap[w.heap.size]? = some (.cells #[.int .i64 x.o, .int .i64 x.i, .string x.s, .slice a x.l.length c] 24 (0, 0)) ∧
    PR w W' R s (.returned (.agg #[.int .i64 x.o, .int .i64 x.i, .string x.s, .slice a x.l.length c])) (.ok (x, g)) := by
  obtain ⟨m', a0, c0, hb', hin⟩ := h.row
  have e := hb.symm.trans hb'
  simp only [Option.some.injEq, Obj.cells.injEq, Array.mk.injEq, List.cons.injEq, Value.slice.injEq, and_true, true_and] at e
  obtain ⟨rfl, rfl⟩ := e
  exact h.gx.fin hR (hin.weak (S' := XBase.Rg lo W.heap.size) (fun b hb => ⟨hb.1, hb.2.1⟩) false id m' (Nat.le_refl _)) h.lo1 hW
theorem Pa.start {w W W1 W' : World} {R : Nat} {s : ByteArray} {g : Sr} {x : Ex} {m c : Nat} {a : Option Addr} (h : Gx w W R s g) (hR : R < w.heap.size) (hin : XBase.In false (XBase.Rg W1.heap.size W.heap.size) W m (.agg #[.int .i64 x.o, .int .i64 x.i, .string x.s, .slice a x.l.length c]) x) (h1 : w.heap.size < W1.heap.size) (h2 : W1.heap.size ≤ W.heap.size)
    (hW : W.alloc (.cells #[.int .i64 x.o, .int .i64 x.i, .string x.s, .slice a x.l.length c] 24) = W') : Pa w W' R s g x W.heap.size W1.heap.size := by
  have b1 : Below W.heap.size W W' := by rw [← hW]; exact (Below.refl _ W).alloc (Nat.le_refl _) _
  have hs : W'.heap.size = W.heap.size + 1 := by rw [← hW]; simp
  exact ⟨h.below hR b1, ⟨m, a, c, by rw [← hW]; exact heap_alloc_new W _, (hin.below b1).weak (fun b hb => ⟨hb.1, by have := hb.2; omega, by have := hb.2; omega⟩) false id m (Nat.le_refl _)⟩, h1, h2⟩
end Go.Proofs.YtghnhkagkngjcaaGreatDoor.EPt
namespace Go.Proofs.YtghnhkagkngjcaaGreatDoor.EPw
open Go.RowKit Base UBase EPure ERd ESk ETk EChr ECh ESc EAdv EDn EGx EBt EPa EPt
open XBase (four_box frozen_box Rg)
def pak (s : ByteArray) (C : P) : A Ex → A Ex
  | .error e => .error e
  | .ok (x, g1) => prt s C (2 * s.size + 2) x g1
theorem mu_le (s : ByteArray) (g : Sr) : mu s g ≤ 2 * s.size + 1 := by unfold mu; split <;> omega
theorem in_row {w W : World} {R : Nat} {s : ByteArray} {g : Sr} {x : Ex} {B lo c : Nat} {a : Option Addr} (h : Pa w W R s g x B lo)
    (hb : W.heap[B]? = some (.cells #[.int .i64 x.o, .int .i64 x.i, .string x.s, .slice a x.l.length c] 24 (0, 0))) : ∃ m, XBase.In false (Sx lo W.heap.size B) W m (.agg #[.int .i64 x.o, .int .i64 x.i, .string x.s, .slice a x.l.length c]) x := by
  obtain ⟨m', a0, c0, hb', hin⟩ := h.row
  have e := hb.symm.trans hb'
  simp only [Option.some.injEq, Obj.cells.injEq, Array.mk.injEq, List.cons.injEq, Value.slice.injEq, and_true, true_and] at e
  obtain ⟨rfl, rfl⟩ := e
  exact ⟨m', hin⟩
theorem part_c {s : ByteArray} {n : Nat} {C : P} (hn : n ≤ 100) (hC : ChI s (n + 1) C) (hD : Dn s C) : PaI s n (par s C) := by
  intro w R g h ho
  have hRlt := h.er.lt
  have G0 := Gx.start h ho
  obtain ⟨W0, hW0⟩ : ∃ W0, w.alloc (.cells #[.int .i64 0, .int .i64 0, .string ⟨#[]⟩, .slice none 0 0] 24) = W0 := ⟨_, rfl⟩
  rw [hW0] at G0
  have cW := EWd.word_c hn hC hD W0 R g G0.es G0.ok
  obtain ⟨X, hX⟩ : ∃ X, wor s C g = X := ⟨_, rfl⟩
  obtain ⟨U, hU⟩ : ∃ U, par s C g = U := ⟨_, rfl⟩
  rw [hU]
  have HU : Hid (pak s C X = U) := by
    show _ = _
    rw [← hU, ← hX]
    unfold par pak
    rfl
  rw [hX] at cW
  have HX : Hid (wor s C g = X) := hX
  unfold ptr at cW ⊢
  clear h hX hU
  go_enter Tryz.func132, Tryz.ntmps132
  go_wp2_with fail
  refine cW.mono ?_
  intro e W1 hT
  clear cW hW0
  cases X with
  | error f =>
    obtain ⟨K1, rfl⟩ := hT
    have hU : Except.error f = U := HU.out
    subst hU
    exact ⟨rfl, G0.kr.trans K1, rfl⟩
  | ok p =>
    obtain ⟨x0, g1⟩ := p
    obtain ⟨K1, ⟨m0, a0, c0, rfl, hin0⟩, E1⟩ := hT
    have G1 := G0.step hRlt K1 E1 (wor_dn hD _ _ _ G0.ok HX.out).1
    obtain ⟨W2, hW2⟩ : ∃ W2, W1.alloc (.cells #[.int .i64 x0.o, .int .i64 x0.i, .string x0.s, .slice a0 x0.l.length c0] 24) = W2 := ⟨_, rfl⟩
    have P2 : Pa w W2 R s g1 x0 W1.heap.size W0.heap.size := Pa.start G1 hRlt hin0 G0.lt K1.below.size hW2
    obtain ⟨B, hB⟩ : ∃ B, W1.heap.size = B := ⟨_, rfl⟩
    obtain ⟨lo, hlo⟩ : ∃ lo, W0.heap.size = lo := ⟨_, rfl⟩
    have HP2 : Hid (Pa w W2 R s g1 x0 B lo) := by rw [← hB, ← hlo]; exact P2
    have HBE : Hid (W1.heap.size = B) := hB
    have HU1 : Hid (prt s C (2 * s.size + 2) x0 g1 = U) := HU.out
    clear P2 G1 K1 E1 hin0 G0 HU hlo hB
    go_wp2_with fail
    rw [HBE.out]
    clear hW2
    go_loopw [] (fun wr => ∃ (g' : Sr) (x : Ex) (f : Nat), Pa w wr R s g' x B lo ∧ prt s C f x g' = U ∧ mu s g' < f) (fun wr => muw R s wr)
    case atStart => exact ⟨g1, x0, _, HP2.out, HU1.out, by have := mu_le s g1; omega⟩
    case round =>
      clear HP2 HU1 HX
      obtain ⟨g', x, f, hP, hpr, hf⟩ := hrel
      obtain ⟨f, rfl⟩ : ∃ f', f = f' + 1 := ⟨f - 1, by omega⟩
      have HM : Hid (muw R s wr = mu s g') := muw_of hP.gx.es.er
      rw [prt_step] at hpr
      obtain ⟨k3, k4, k5, k6⟩ := Es.cells hP.gx.es
      have hk0 : is g'.tk [46] = true ∨ is g'.tk [91] = true → g'.tk.k ≠ 0 := fun h => h.elim is_k is_k
      cases hb1 : is g'.tk [46] with
      | true =>
        rw [if_pos hb1] at hpr
        have hkk := hk0 (.inl hb1)
        have cI := is_b hb1 wr
        obtain ⟨X, hX⟩ : ∃ X, adv s g'.a g'.r = X := ⟨_, rfl⟩
        have HX1 : Hid (adv s g'.a g'.r = X) := hX
        rw [hX] at hpr
        have HPR : Hid (pdk s C f x X = U) := hpr
        have HPA : Hid (Pa w wr R s g' x B lo) := hP
        clear hpr hP hX hk0 hb1
        go_wp2_with fail
        refine cI.mono ?_
        rintro e W3 ⟨rfl, b3⟩
        have P3 := HPA.out.below hRlt b3
        have cA := adv_c P3.gx.es P3.gx.ok.r
        rw [HX1.out] at cA
        unfold ptr at cA
        clear cI k3 k4 k5 k6 b3
        go_wp2_with fail
        refine cA.mono ?_
        intro e W4 hA
        clear cA
        cases X with
        | error fe =>
          obtain ⟨K4, rfl⟩ := hA
          have hU : Except.error fe = U := HPR.out
          subst hU
          exact ⟨rfl, P3.gx.kr.trans K4, rfl⟩
        | ok g2 =>
          obtain ⟨K4, ⟨z, rfl⟩, E4⟩ := hA
          obtain ⟨ho2, hm2⟩ := adv_mu P3.gx.ok hkk HX1.out
          have P4 := P3.step hRlt K4 E4 ho2
          have P4d : Pa w W4.drew R s g2 x B lo := P4.below hRlt (Below.refl _ W4).drew
          have cF := field_c P4d.gx.es P4d.gx.ok
          obtain ⟨Y, hY⟩ : ∃ Y, fld s g2 = Y := ⟨_, rfl⟩
          have HY : Hid (fld s g2 = Y) := hY
          have HPR2 : Hid (ptk s C f x Y = U) := by
            show _ = _
            rw [← hY]
            exact HPR.out
          rw [hY] at cF
          unfold ptr at cF
          obtain ⟨mx, ax, cx, hbx, -⟩ := P4.row
          obtain ⟨j0, j1, j2, j3⟩ := four_box hbx
          have hB4 := P4.lt
          have hwB : R < B := by have := P4.lo1; have := P4.lo2; omega
          have HP4 : Hid (Pa w W4.drew R s g2 x B lo) := P4d
          have HP4u : Hid (Pa w W4 R s g2 x B lo) := P4
          have HBX : Hid (W4.heap[B]? = some (.cells #[.int .i64 x.o, .int .i64 x.i, .string x.s, .slice ax x.l.length cx] 24 (0, 0))) := hbx
          have HKR : Hid (Kr R w W4) := P4.gx.kr
          clear K4 E4 P3 P4 P4d hY hbx HPA HPR
          obtain ⟨W4a, hW4a⟩ : ∃ W, W4.alloc (.cells #[.int .i64 x.o, .int .i64 x.i, .string x.s, .slice ax x.l.length cx] 24) = W := ⟨_, rfl⟩
          have b4a : Below W4.heap.size W4 W4a := by rw [← hW4a]; exact (Below.refl _ W4).alloc (Nat.le_refl _) _
          have P4a : Pa w W4a.drew R s g2 x B lo := (HP4u.out.below hRlt b4a).below hRlt (Below.refl _ W4a).drew
          have hb4a := (b4a.block B hB4).trans HBX.out
          obtain ⟨l0, l1, l2, l3⟩ := four_box hb4a
          have cFa := field_c P4a.gx.es P4a.gx.ok
          rw [HY.out] at cFa
          unfold ptr at cFa
          cases Y with
          | error fe =>
            have hU : Except.error fe = U := HPR2.out
            subst hU
            go_wp2_with fail
            refine wp_region_held_drew (S := (fun w' => w'.cell? ⟨B, 0, none⟩ = some (.int .i64 x.o) ∧ w'.cell? ⟨B, 1, none⟩ = some (.int .i64 x.i) ∧ w'.cell? ⟨B, 2, none⟩ = some (.string x.s) ∧ w'.cell? ⟨B, 3, none⟩ = some (.slice ax x.l.length cx))) (by kernel_rfl) ?_ (fun hHeld => ?_)
            · exact four_box (show W4.drew.heap[B]? = _ from HBX.out)
            refine wpAnyH_take (i := 0) (v := ?_) rfl (by kernel_rfl) (by kernel_rfl) (by kernel_rfl) (fun _ _ _ h => h) (Or.inl ⟨by rfl, ?_⟩) (by assumption) ?_
            rotate_left 1
            · intro w hSw; (try dsimp only at hSw); go_simp; first | done | with_reducible rfl
            try simp only [Act.put, zA, zB, zD, zE, zF]
            refine wpAnyH_take (i := 2) (v := ?_) rfl (by kernel_rfl) (by kernel_rfl) (by kernel_rfl) (fun _ _ _ h => h) (Or.inl ⟨by rfl, ?_⟩) (by assumption) ?_
            rotate_left 1
            · intro w hSw; (try dsimp only at hSw); go_simp; first | done | with_reducible rfl
            try simp only [Act.put, zA, zB, zC, zD, zE, zF]
            refine wpAnyH_ready (rs := [1, 3]) (by kernel_rfl) (by simp) ?_
            refine AllReadyH.cons rfl (fun K hK => ?_) (AllReadyH.cons rfl (fun K hK => ?_) AllReadyH.nil)
            · go_simp
              refine cF.mono ?_
              rintro e W5 ⟨K5, rfl⟩
              exact ⟨rfl, HP4.out.gx.kr.trans K5, rfl⟩
            · go_simp
              refine hK.out _ _ ?_ (fun hHeld => ?_)
              · exact four_box (show (W4a.drew).heap[B]? = _ from hb4a)
              clear hK K
              try simp only [Act.put, zA, zB, zC, zD, zE, zF]
              refine wpAnyH_ready (rs := [1]) (by kernel_rfl) (by simp) ?_
              refine AllReadyH.cons rfl (fun K hK => ?_) AllReadyH.nil
              go_simp
              refine cFa.mono ?_
              rintro e W5 ⟨K5, rfl⟩
              exact ⟨rfl, P4a.gx.kr.trans K5, rfl⟩
          | ok q =>
            obtain ⟨t, g3⟩ := q
            obtain ⟨ho3, hm3, ht3⟩ := fld_mu HP4.out.gx.ok HY.out
            have q4a : W4a.heap[W4.heap.size]? = some (.cells #[.int .i64 x.o, .int .i64 x.i, .string x.s, .slice ax x.l.length cx] 24 (0, 0)) := by rw [← hW4a]; exact heap_alloc_new W4 _
            go_wp2_with fail
            go_region_with (first | (go_at_call 158; refine cF.mono ?_; rintro e W5 ⟨K5, rfl, E5⟩; have P5 := HP4.out.step hRlt K5 E5 ho3; have hb5 := (K5.other B (by omega) hB4).trans HBX.out; obtain ⟨i0, i1, i2, i3⟩ := four_box hb5; obtain ⟨W6, hW6⟩ : ∃ W6, W5.alloc (.cells #[.int .i64 x.o, .int .i64 x.i, .string x.s, .slice ax x.l.length cx] 24) = W6 := ⟨_, rfl⟩; have hb6 : W6.heap[B]? = some (.cells #[.int .i64 x.o, .int .i64 x.i, .string x.s, .slice ax x.l.length cx] 24 (0, 0)) := (by rw [← hW6]; exact (Below.heap_alloc _ _ _ P5.lt).trans hb5); obtain ⟨h0, h1, h2, h3⟩ := four_box hb6; have f0 := XBase.frozen_box hb6 0; have f1 := XBase.frozen_box hb6 1; have f2 := XBase.frozen_box hb6 2; have f3 := XBase.frozen_box hb6 3) | (go_at_call 158; refine cFa.mono ?_; rintro e W5 ⟨K5, rfl, E5⟩; have P5 := P4a.step hRlt K5 E5 ho3; have hb5 := (K5.other B (by omega) (show B < W4a.heap.size by have := b4a.size; omega)).trans hb4a; obtain ⟨i0, i1, i2, i3⟩ := four_box hb5; have f0 := XBase.frozen_box hb5 0; have f1 := XBase.frozen_box hb5 1; have f2 := XBase.frozen_box hb5 2; have f3 := XBase.frozen_box hb5 3))
            all_goals first
              | (obtain ⟨W7, hW7⟩ : ∃ W7, ((((W6.setCell ⟨B, 0, none⟩ (.int .i64 7)).setCell ⟨B, 1, none⟩ (.int .i64 0)).setCell ⟨B, 2, none⟩ (.string t)).setCell ⟨B, 3, none⟩ (.slice (some ⟨W5.heap.size, 0, none⟩) 1 1)) = W7 := ⟨_, rfl⟩
                 have P7 := Pa.field (m := 0) P5 hRlt ht3 hb5 hW6 hW7
                 rw [hW7]
                 clear hW7 hW6 hW4a)
              | (obtain ⟨W7, hW7⟩ : ∃ W7, ((((W5.setCell ⟨B, 0, none⟩ (.int .i64 7)).setCell ⟨B, 1, none⟩ (.int .i64 0)).setCell ⟨B, 2, none⟩ (.string t)).setCell ⟨B, 3, none⟩ (.slice (some ⟨W4.heap.size, 0, none⟩) 1 1)) = W7 := ⟨_, rfl⟩
                 obtain ⟨mr, hmr⟩ := in_row P5 hb5
                 have P7 : Pa w W7 R s g3 (.mk 7 0 t [x]) B lo := P5.put (l := [x]) hRlt (EKd.in_one (lo := 0) (hi := 0) ((K5.other W4.heap.size (by omega) (show W4.heap.size < W4a.heap.size by rw [← hW4a]; simp)).trans q4a) ⟨by have := P5.lo2; omega, by have := K5.below.size; have h9 : W4a.drew.heap.size = W4.heap.size + 1 := (by rw [← hW4a]; show (W4.alloc _).heap.size = _; simp); omega, by omega⟩ hmr 7 0 t (by omega) (by omega) (by omega)) hW7
                 rw [hW7]
                 clear hW7 hW4a)
            all_goals
              have HP7 : Hid (Pa w W7 R s g3 (.mk 7 0 t [x]) B lo) := P7
              have HM7 : Hid (muw R s W7 = mu s g3) := muw_of P7.gx.es.er
              clear P7 P5 K5 E5 P4a cF cFa hb5
              go_wp2_with fail
              go_roundw
              case rel => exact ⟨g3, .mk 7 0 t [x], f, HP7.out, HPR2.out, by omega⟩
              case measure =>
                show muw R s W7 < muw R s wr
                rw [HM7.out, HM.out]
                omega
      | false =>
        rw [if_neg (by simp [hb1])] at hpr
        have cI := is_b hb1 wr
        cases hb2 : is g'.tk [91] with
        | false =>
          rw [if_neg (by simp [hb2])] at hpr
          subst hpr
          have HPA : Hid (Pa w wr R s g' x B lo) := hP
          clear hP hk0 hb1
          go_wp2_with fail
          refine cI.mono ?_
          rintro e W3 ⟨rfl, b3⟩
          have P3 := HPA.out.below hRlt b3
          clear k3 k4 k5 k6
          obtain ⟨k3, k4, k5, k6⟩ := Es.cells P3.gx.es
          have cI2 := is_b hb2 W3
          clear cI b3
          go_wp2_with fail
          refine cI2.mono ?_
          rintro e W4 ⟨rfl, b4⟩
          have P4 := P3.below hRlt b4
          obtain ⟨mx, ax, cx, hbx, -⟩ := P4.row
          obtain ⟨j0, j1, j2, j3⟩ := four_box hbx
          obtain ⟨d0, d1, d2, d3⟩ := four_box P4.gx.box
          have f0 := XBase.frozen_box P4.gx.box 0
          have f1 := XBase.frozen_box P4.gx.box 1
          have f2 := XBase.frozen_box P4.gx.box 2
          have f3 := XBase.frozen_box P4.gx.box 3
          obtain ⟨W5, hW5⟩ : ∃ W5, ((((W4.setCell ⟨w.heap.size, 0, none⟩ (.int .i64 x.o)).setCell ⟨w.heap.size, 1, none⟩ (.int .i64 x.i)).setCell ⟨w.heap.size, 2, none⟩ (.string x.s)).setCell ⟨w.heap.size, 3, none⟩ (.slice ax x.l.length cx)) = W5 := ⟨_, rfl⟩
          obtain ⟨p1, p2⟩ := Pa.fin P4 hRlt hbx hW5
          obtain ⟨y0, y1, y2, y3⟩ := four_box p1
          have HP2 : Hid (PR w W5 R s (.returned (.agg #[.int .i64 x.o, .int .i64 x.i, .string x.s, .slice ax x.l.length cx])) (.ok (x, g'))) := p2
          clear p1 p2 P4 P3 cI2 b4 k3 k4 k5 k6 hbx
          go_wp2_with fail
          refine bodyPost_ret (v := .agg #[.int .i64 x.o, .int .i64 x.i, .string x.s, .slice ax x.l.length cx]) (by simp [results, Tryz.results132, go_sem, y0, y1, y2, y3]) rfl ?_
          exact HP2.out
        | true =>
          rw [if_pos hb2] at hpr
          obtain ⟨Y, hY⟩ : ∃ Y, btw s C [91] [93] g' = Y := ⟨_, rfl⟩
          have HY : Hid (btw s C [91] [93] g' = Y) := hY
          rw [hY] at hpr
          have HPR : Hid (pik s C f x Y = U) := hpr
          have HPA : Hid (Pa w wr R s g' x B lo) := hP
          clear hP hk0 hb1 hpr hY
          go_wp2_with fail
          refine cI.mono ?_
          rintro e W3 ⟨rfl, b3⟩
          have P3 := HPA.out.below hRlt b3
          clear k3 k4 k5 k6
          obtain ⟨k3, k4, k5, k6⟩ := Es.cells P3.gx.es
          have cI2 := is_b hb2 W3
          clear cI b3
          go_wp2_with fail
          refine cI2.mono ?_
          rintro e W4 ⟨rfl, b4⟩
          have P4 := P3.below hRlt b4
          have P4d : Pa w W4.drew R s g' x B lo := P4.below hRlt (Below.refl _ W4).drew
          have cB := between_c hn hC hD P4d.gx.es P4d.gx.ok [91] [93]
          rw [HY.out] at cB
          unfold ptr at cB
          obtain ⟨mx, ax, cx, hbx, -⟩ := P4.row
          obtain ⟨j0, j1, j2, j3⟩ := four_box hbx
          have hB4 := P4.lt
          have hwB : R < B := by have := P4.lo1; have := P4.lo2; omega
          have HP4 : Hid (Pa w W4.drew R s g' x B lo) := P4d
          have HBX : Hid (W4.heap[B]? = some (.cells #[.int .i64 x.o, .int .i64 x.i, .string x.s, .slice ax x.l.length cx] 24 (0, 0))) := hbx
          clear P4 P4d P3 cI2 b4 k3 k4 k5 k6 hbx HPA
          cases Y with
          | error fe =>
            have hU : Except.error fe = U := HPR.out
            subst hU
            go_wp2_with fail
            refine wp_region_held_drew (S := (fun w' => w'.cell? ⟨B, 0, none⟩ = some (.int .i64 x.o) ∧ w'.cell? ⟨B, 1, none⟩ = some (.int .i64 x.i) ∧ w'.cell? ⟨B, 2, none⟩ = some (.string x.s) ∧ w'.cell? ⟨B, 3, none⟩ = some (.slice ax x.l.length cx))) (by kernel_rfl) ?_ (fun hHeld => ?_)
            · exact four_box (show W4.drew.heap[B]? = _ from HBX.out)
            refine wpAnyH_take (i := 0) (v := ?_) rfl (by kernel_rfl) (by kernel_rfl) (by kernel_rfl) (fun _ _ _ h => h) (Or.inl ⟨by rfl, ?_⟩) (by assumption) ?_
            rotate_left 1
            · intro w hSw; (try dsimp only at hSw); go_simp; first | done | with_reducible rfl
            try simp only [Act.put, zA, zB, zD, zE, zF]
            refine wpAnyH_take (i := 1) (v := ?_) rfl (by kernel_rfl) (by kernel_rfl) (by kernel_rfl) (fun _ _ _ h => h) (Or.inl ⟨by rfl, ?_⟩) (by assumption) ?_
            rotate_left 1
            · intro w hSw; (try dsimp only at hSw); go_simp; first | done | with_reducible rfl
            try simp only [Act.put, zA, zB, zC, zD, zE, zF]
            refine wpAnyH_take (i := 2) (v := ?_) rfl (by kernel_rfl) (by kernel_rfl) (by kernel_rfl) (fun _ _ _ h => h) (Or.inl ⟨by rfl, ?_⟩) (by assumption) ?_
            rotate_left 1
            · intro w hSw; (try dsimp only at hSw); go_simp; first | done | with_reducible rfl
            try simp only [Act.put, zA, zB, zC, zD, zE, zF]
            refine wpAnyH_ready (rs := [3]) (by kernel_rfl) (by simp) ?_
            refine AllReadyH.cons rfl (fun K hK => ?_) AllReadyH.nil
            go_simp
            refine cB.mono ?_
            rintro e W5 ⟨K5, rfl⟩
            exact ⟨rfl, HP4.out.gx.kr.trans K5, rfl⟩
          | ok q =>
            obtain ⟨y, g3⟩ := q
            obtain ⟨ho3, hm3⟩ := btw_dn hD _ _ _ _ _ HP4.out.gx.ok HY.out
            go_wp2_with fail
            go_region_with (first | (go_at_call 159; refine cB.mono ?_; rintro e W5 ⟨K5, ⟨my, ay, cy, rfl, hiny⟩, E5⟩; have P5 := HP4.out.step hRlt K5 E5 ho3; have hb5 := (K5.other B (by omega) hB4).trans HBX.out; obtain ⟨i0, i1, i2, i3⟩ := four_box hb5; obtain ⟨W6, hW6⟩ : ∃ W6, W5.alloc (.cells #[.int .i64 x.o, .int .i64 x.i, .string x.s, .slice ax x.l.length cx, .int .i64 y.o, .int .i64 y.i, .string y.s, .slice ay y.l.length cy] 24) = W6 := ⟨_, rfl⟩; have hb6 : W6.heap[B]? = some (.cells #[.int .i64 x.o, .int .i64 x.i, .string x.s, .slice ax x.l.length cx] 24 (0, 0)) := (by rw [← hW6]; exact (Below.heap_alloc _ _ _ P5.lt).trans hb5); have hs6 : B < W6.heap.size := (by rw [← hW6]; have := P5.lt; simp; omega); have cN := node_c 8 (some ⟨W5.heap.size, 0, none⟩) 2 2 W6) | (go_at_call 81; refine cN.mono ?_; rintro e W7 ⟨rfl, b7⟩; have hb7 := (b7.block B hs6).trans hb6; obtain ⟨h0, h1, h2, h3⟩ := four_box hb7; have f0 := XBase.frozen_box hb7 0; have f1 := XBase.frozen_box hb7 1; have f2 := XBase.frozen_box hb7 2; have f3 := XBase.frozen_box hb7 3))
            all_goals
              obtain ⟨W8, hW8⟩ : ∃ W8, ((((W7.setCell ⟨B, 0, none⟩ (.int .i64 8)).setCell ⟨B, 1, none⟩ (.int .i64 0)).setCell ⟨B, 2, none⟩ (.string ⟨#[]⟩)).setCell ⟨B, 3, none⟩ (.slice (some ⟨W5.heap.size, 0, none⟩) 2 2)) = W8 := ⟨_, rfl⟩
              have P8 := Pa.two (o := 8) P5 hRlt (by omega) hb5 hiny (show B < W4.heap.size from hB4) hW6 b7 hW8
              rw [hW8]
              have HP8 : Hid (Pa w W8 R s g3 (nd 8 [x, y]) B lo) := P8
              have HM8 : Hid (muw R s W8 = mu s g3) := muw_of P8.gx.es.er
              clear P8 P5 K5 E5 cB hb5 hb6 hb7 b7 hW8 hW6 hiny cN
              go_wp2_with fail
              go_roundw
              case rel => exact ⟨g3, nd 8 [x, y], f, HP8.out, HPR.out, by omega⟩
              case measure =>
                show muw R s W8 < muw R s wr
                rw [HM8.out, HM.out]
                omega
end Go.Proofs.YtghnhkagkngjcaaGreatDoor.EPw
