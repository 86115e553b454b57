import Derived.Defers
import Derived.Recover
import Derived.Test.YtnoohlmlpijhaaaGreatDoorPZ04
import Derived.Test.YtnoohlmlpijhaaaGreatDoorPZ24
namespace Go.Proofs.YtnoohlmlpijhaaaGreatDoor.EDo
open Go.RowKit Go.Proofs.YtnoohlmlpijhaaaGreatDoor.Base Go.Proofs.YtnoohlmlpijhaaaGreatDoor.UBase Go.Proofs.YtnoohlmlpijhaaaGreatDoor.EPure Go.Proofs.YtnoohlmlpijhaaaGreatDoor.ERd Go.Proofs.YtnoohlmlpijhaaaGreatDoor.ESk Go.Proofs.YtnoohlmlpijhaaaGreatDoor.ETk Go.Proofs.YtnoohlmlpijhaaaGreatDoor.EChr Go.Proofs.YtnoohlmlpijhaaaGreatDoor.ECh Go.Proofs.YtnoohlmlpijhaaaGreatDoor.ESc Go.Proofs.YtnoohlmlpijhaaaGreatDoor.EAdv Go.Proofs.YtnoohlmlpijhaaaGreatDoor.EDn Go.Proofs.YtnoohlmlpijhaaaGreatDoor.EGx Go.Proofs.YtnoohlmlpijhaaaGreatDoor.EAll
open Go.Proofs.YtnoohlmlpijhaaaGreatDoor.XBase (four_box two_box frozen_box Rg)
set_option linter.unusedVariables false
theorem block_set {w : World} {B j : Nat} {cs : Array Value} {t : TypeId} {fz : Nat × Nat} (h : w.heap[B]? = some (.cells cs t fz)) (u : Value) : (w.setCell ⟨B, j, none⟩ u).heap[B]? = some (.cells (cs.setIfInBounds j u) t fz) := by
  simp [World.setCell, Array.getElem?_modify, h]
theorem set4 {W W' : World} {B : Nat} {t : TypeId} {y0 y1 y2 y3 : Value} (x0 x1 x2 x3 : Value) (h : W.heap[B]? = some (.cells #[y0, y1, y2, y3] t (0, 0))) (hW : ((((W.setCell ⟨B, 0, none⟩ x0).setCell ⟨B, 1, none⟩ x1).setCell ⟨B, 2, none⟩ x2).setCell ⟨B, 3, none⟩ x3) = W') :
    W'.heap[B]? = some (.cells #[x0, x1, x2, x3] t (0, 0)) ∧ (∀ b, b ≠ B → W'.heap[b]? = W.heap[b]?) ∧ W'.heap.size = W.heap.size ∧ ∀ w n, n ≤ B → Below n w W → Below n w W' := by
  subst hW
  refine ⟨set_box4 h, fun b hb => ?_, by simp [World.setCell], fun w n hn hb => ?_⟩
  · rw [Below.heap_setCell _ _ _ _ hb, Below.heap_setCell _ _ _ _ hb, Below.heap_setCell _ _ _ _ hb, Below.heap_setCell _ _ _ _ hb]
  · exact (((hb.setCell (p := ⟨B, 0, none⟩) hn x0).setCell (p := ⟨B, 1, none⟩) hn x1).setCell (p := ⟨B, 2, none⟩) hn x2).setCell (p := ⟨B, 3, none⟩) hn x3
theorem wp_tmps {P : Program} {c : Code} {Q : Exit → Act → World → Prop} {T : Array Value} (L : Array Value) {w : World} (e : T = L) (h : c.wp P Q { tmps := L, defers := [] } w) : c.wp P Q { tmps := T, defers := [] } w := by
  subst e; exact h
theorem as_no (w : World) : (Instr.typeAssert .nilIface 20 79 true).run Tryz.prog w = .ok (.tuple #[.agg #[.int .i64 0, .int .i64 0], .bool false]) w := by
  simp [Instr.typeAssert, run_underlying Tryz.underlying79, Tryz.zeroValue79]
theorem as_yes (v : Value) (w : World) : (Instr.typeAssert (.iface 79 v) 20 79 true).run Tryz.prog w = .ok (.tuple #[v, .bool true]) w := by
  simp [Instr.typeAssert, run_underlying Tryz.underlying79]
set_option maxRecDepth 20000 in
theorem catch_idle (p q : Addr) (w : World) :
    CallsD Tryz.prog 62 #[.pointer (some p), .pointer (some q)] .returning w fun e u' w' => e = .returned (.tuple #[]) ∧ u' = .returning ∧ Below w.heap.size w w' := by
  refine callsD_of_wpS Tryz.func62 rfl fun c₀ cs hu => ?_
  apply wpS_seq
  apply wpS_region
  simp [wpOpsS, go_sem, recoverD, hu, Tryz.ntmps62, Exit.thenS, as_no]
  refine wpS_of_wp ?_
  refine wp_tmps (#[.pointer (some p), .pointer (some q), .pointer (some ⟨w.heap.size, 0, none⟩), .bool false, .tuple #[.agg #[.int .i64 0, .int .i64 0], .bool false], .nilIface, .tuple #[.agg #[.int .i64 0, .int .i64 0], .bool false], .agg #[.int .i64 0, .int .i64 0], .bool false, undef, undef, undef]) (by kernel_rfl) ?_
  go_wp2
  cases c₀
  simp_all [bodyPostS, results, Tryz.results62]
  exact (Below.refl _ w).alloc (Nat.le_refl _) _
set_option maxRecDepth 20000 in
set_option maxHeartbeats 1600000 in
theorem catch_fault (V M : Nat) (c0 c1 : Int) (older : List PanicEntry) (w : World) (y0 y1 y2 y3 z0 z1 : Value) (hV : w.heap[V]? = some (.cells #[y0, y1, y2, y3] 24 (0, 0))) (hM : w.heap[M]? = some (.cells #[z0, z1] 79 (0, 0))) :
    CallsD Tryz.prog 62 #[.pointer (some ⟨V, 0, none⟩), .pointer (some ⟨M, 0, none⟩)] (.panicking ({ v := .iface 79 (.agg #[.int .i64 c0, .int .i64 c1]), recovered := false } :: older)) w fun e u' w' => e = .returned (.tuple #[]) ∧
      u' = .panicking ({ v := .iface 79 (.agg #[.int .i64 c0, .int .i64 c1]), recovered := true } :: older) ∧ w'.heap[V]? = some (.cells #[.int .i64 0, .int .i64 0, .string ⟨#[]⟩, .slice none 0 0] 24 (0, 0)) ∧
        w'.heap[M]? = some (.cells #[.int .i64 c0, .int .i64 c1] 79 (0, 0)) ∧ ∀ n, n ≤ V → n ≤ M → Below n w w' := by
  have hVl : V < w.heap.size := (Array.getElem?_eq_some_iff.1 hV).1
  have hMl : M < w.heap.size := (Array.getElem?_eq_some_iff.1 hM).1
  have hVM : V ≠ M := fun e => by subst e; rw [hV] at hM; simp at hM
  obtain ⟨W, hW⟩ : ∃ W, w.alloc (.cells #[.int .i64 c0, .int .i64 c1] 79) = W := ⟨_, rfl⟩
  have hV1 : W.heap[V]? = some (.cells #[y0, y1, y2, y3] 24 (0, 0)) := by rw [← hW, Below.heap_alloc _ _ _ hVl]; exact hV
  have hM1 : W.heap[M]? = some (.cells #[z0, z1] 79 (0, 0)) := by rw [← hW, Below.heap_alloc _ _ _ hMl]; exact hM
  have hF1 : W.heap[w.heap.size]? = some (.cells #[.int .i64 c0, .int .i64 c1] 79 (0, 0)) := by rw [← hW]; exact heap_alloc_new w _
  have hB : Below w.heap.size w W := by rw [← hW]; exact (Below.refl _ w).alloc (Nat.le_refl _) _
  obtain ⟨d0, d1, d2, d3⟩ := four_box hV1
  have f0 := frozen_box hV1 0
  have f1 := frozen_box hV1 1
  have f2 := frozen_box hV1 2
  have f3 := frozen_box hV1 3
  have e0 : W.cell? ⟨M, 0, none⟩ = some z0 := (two_box hM1).1
  have e1 : W.cell? ⟨M, 1, none⟩ = some z1 := (two_box hM1).2
  have g0 := frozen_box hM1 0
  have g1 := frozen_box hM1 1
  have a0 : W.cell? ⟨w.heap.size, 0, none⟩ = some (.int .i64 c0) := (two_box hF1).1
  have a1 : W.cell? ⟨w.heap.size, 1, none⟩ = some (.int .i64 c1) := (two_box hF1).2
  have n1 : V ≠ M := hVM
  have n2 : M ≠ V := hVM.symm
  have n3 : V ≠ w.heap.size := by omega
  have n4 : w.heap.size ≠ V := by omega
  have n5 : M ≠ w.heap.size := by omega
  have n6 : w.heap.size ≠ M := by omega
  refine callsD_of_wpS Tryz.func62 rfl fun c₀ cs hu => ?_
  apply wpS_seq
  apply wpS_region
  simp [wpOpsS, go_sem, recoverD, hu, Tryz.ntmps62, Exit.thenS, as_yes]
  refine wpS_of_wp ?_
  rw [hW]
  refine wp_tmps (#[.pointer (some ⟨V, 0, none⟩), .pointer (some ⟨M, 0, none⟩), .pointer (some ⟨w.heap.size, 0, none⟩), .bool true, .tuple #[.agg #[.int .i64 c0, .int .i64 c1], .bool true], .iface 79 (.agg #[.int .i64 c0, .int .i64 c1]), .tuple #[.agg #[.int .i64 c0, .int .i64 c1], .bool true], .agg #[.int .i64 c0, .int .i64 c1], .bool true, undef, undef, undef]) (by kernel_rfl) ?_
  have HV1 : Hid (W.heap[V]? = some (.cells #[y0, y1, y2, y3] 24 (0, 0))) := hV1
  have HM1 : Hid (W.heap[M]? = some (.cells #[z0, z1] 79 (0, 0))) := hM1
  have HB : Hid (Below w.heap.size w W) := hB
  clear hV1 hM1 hF1 hB hV hM hW hVM
  go_wp2_with fail
  go_region
  obtain ⟨W6, hW6⟩ : ∃ W6, ((((W.setCell ⟨V, 0, none⟩ (.int .i64 0)).setCell ⟨V, 1, none⟩ (.int .i64 0)).setCell ⟨V, 2, none⟩ (.string ⟨#[]⟩)).setCell ⟨V, 3, none⟩ (.slice none 0 0)) = W6 := ⟨_, rfl⟩
  rw [hW6]
  obtain ⟨q1, q2, q3, q4⟩ := set4 _ _ _ _ HV1.out hW6
  have m1 := (q2 M n2).trans HM1.out
  refine ⟨rfl, _, rfl, .tuple #[], results_none rfl _ _ _, rfl, rfl, ?_, ?_, fun n hV hM => (((q4 _ n hV (HB.out.mono (by omega))).setCell (p := ⟨M, 0, none⟩) hM _).setCell (p := ⟨M, 1, none⟩) hM _).drew⟩
  · show ((W6.setCell ⟨M, 0, none⟩ _).setCell ⟨M, 1, none⟩ _).heap[V]? = _
    rw [Below.heap_setCell _ _ _ _ n1, Below.heap_setCell _ _ _ _ n1]
    exact q1
  · show ((W6.setCell ⟨M, 0, none⟩ _).setCell ⟨M, 1, none⟩ _).heap[M]? = _
    rw [block_set (block_set m1 _) _]
    rfl
end Go.Proofs.YtnoohlmlpijhaaaGreatDoor.EDo
namespace Go.Proofs.YtnoohlmlpijhaaaGreatDoor.ERe
open Go.RowKit Go.Proofs.YtnoohlmlpijhaaaGreatDoor.Base Go.Proofs.YtnoohlmlpijhaaaGreatDoor.UBase Go.Proofs.YtnoohlmlpijhaaaGreatDoor.EPure Go.Proofs.YtnoohlmlpijhaaaGreatDoor.ERd Go.Proofs.YtnoohlmlpijhaaaGreatDoor.ESk Go.Proofs.YtnoohlmlpijhaaaGreatDoor.ETk Go.Proofs.YtnoohlmlpijhaaaGreatDoor.EChr Go.Proofs.YtnoohlmlpijhaaaGreatDoor.ECh Go.Proofs.YtnoohlmlpijhaaaGreatDoor.ESc Go.Proofs.YtnoohlmlpijhaaaGreatDoor.EAdv Go.Proofs.YtnoohlmlpijhaaaGreatDoor.EDn Go.Proofs.YtnoohlmlpijhaaaGreatDoor.EGx Go.Proofs.YtnoohlmlpijhaaaGreatDoor.EAll Go.Proofs.YtnoohlmlpijhaaaGreatDoor.EDo
open Go.Proofs.YtnoohlmlpijhaaaGreatDoor.XBase (four_box two_box frozen_box Rg)
set_option linter.unusedVariables false
/-- What comes of reading a text. -/
def Rout (w : World) (e : Ending) (w' : World) : Except F Ex → Prop
  | .ok x => Below w.heap.size w w' ∧ ∃ m a c, e = .returned (.tuple #[.agg #[.int .i64 x.o, .int .i64 x.i, .string x.s, .slice a x.l.length c], .agg #[.int .i64 0, .int .i64 0]]) ∧ XBase.In false (Rg w.heap.size w'.heap.size) w' m (.agg #[.int .i64 x.o, .int .i64 x.i, .string x.s, .slice a x.l.length c]) x
  | .error f => Below w.heap.size w w' ∧ e = .returned (.tuple #[.agg #[.int .i64 0, .int .i64 0, .string ⟨#[]⟩, .slice none 0 0], .agg #[.int .i64 (f.1 : Nat), .int .i64 (f.2 : Nat)]])
def prk1 : A Ex → Except F Ex
  | .error e => .error e
  | .ok (x, g1) => if g1.tk.k = 0 then .ok x else .error (ends g1.tk)
def prk (s : ByteArray) : Except F Sr → Except F Ex
  | .error e => .error e
  | .ok g => prk1 ((lv2 s 32).2 g)
theorem prs_eq (s : ByteArray) : prs s = prk s (adv s 0 0) := by
  unfold prs prk prk1
  rfl
/-- The boxes of read: what is handed out, the fault, the reader. -/
structure Bx (w W : World) (s : ByteArray) : Prop where
  kr : Below w.heap.size w W
  zV : W.heap[w.heap.size]? = some (.cells #[.int .i64 0, .int .i64 0, .string ⟨#[]⟩, .slice none 0 0] 24 (0, 0))
  zM : W.heap[w.heap.size + 1]? = some (.cells #[.int .i64 0, .int .i64 0] 79 (0, 0))
theorem Bx.step {w W W' : World} {s : ByteArray} (h : Bx w W s) (k : Kr (w.heap.size + 1 + 1) W W') : Bx w W' s := by
  have l1 := (Array.getElem?_eq_some_iff.1 h.zV).1
  have l2 := (Array.getElem?_eq_some_iff.1 h.zM).1
  exact ⟨h.kr.trans (k.below.mono (by omega)), (k.other _ (by omega) l1).trans h.zV, (k.other _ (by omega) l2).trans h.zM⟩
set_option maxRecDepth 20000 in
set_option maxHeartbeats 3200000 in
theorem read_c {w : World} {s : ByteArray} (hs : s.size ≤ 140737488351300) (ht : Tabs w) (hg : 2 < w.heap.size ∧ 3 < w.heap.size) :
    Calls Tryz.prog 48 #[.string s] w fun e w' => Rout w e w' (prs s) := by
  have hmf : ∀ (fn : Fn) (first cap : Array Value) (w : World), (Instr.makeFunc fn first cap).run Tryz.prog w = .ok (.func fn first cap) w := fun _ _ _ _ => rfl
  obtain ⟨W, hW⟩ : ∃ W, ((w.alloc (.cells #[.int .i64 0, .int .i64 0, .string ⟨#[]⟩, .slice none 0 0] 24)).alloc (.cells #[.int .i64 0, .int .i64 0] 79)).alloc (.cells #[.string s, .int .i64 0, .int .i64 0, .int .i64 0, .string ⟨#[]⟩, .int .i64 0, .int .i64 0] 99) = W := ⟨_, rfl⟩
  have bW : Below w.heap.size w W := by rw [← hW]; exact (((Below.refl _ w).alloc (Nat.le_refl _) _).alloc (by simp) _).alloc (by simp <;> omega) _
  have sW : W.heap.size = w.heap.size + 3 := by rw [← hW]; simp
  have zV : W.heap[w.heap.size]? = some (.cells #[.int .i64 0, .int .i64 0, .string ⟨#[]⟩, .slice none 0 0] 24 (0, 0)) := by rw [← hW, Below.heap_alloc _ _ _ (by simp <;> omega), Below.heap_alloc _ _ _ (by simp), heap_alloc_new]
  have zM : W.heap[w.heap.size + 1]? = some (.cells #[.int .i64 0, .int .i64 0] 79 (0, 0)) := by
    rw [← hW, Below.heap_alloc _ _ _ (by simp)]
    have := heap_alloc_new (w.alloc (.cells #[.int .i64 0, .int .i64 0, .string ⟨#[]⟩, .slice none 0 0] 24)) (.cells #[.int .i64 0, .int .i64 0] 79)
    rwa [World.size_alloc] at this
  have zR : W.heap[w.heap.size + 1 + 1]? = some (.cells #[.string s, .int .i64 (0 : Nat), .int .i64 (0 : Nat), .int .i64 (0 : Nat), .string ⟨#[]⟩, .int .i64 0, .int .i64 (0 : Nat)] 99 (0, 0)) := by
    rw [← hW]
    have := heap_alloc_new ((w.alloc (.cells #[.int .i64 0, .int .i64 0, .string ⟨#[]⟩, .slice none 0 0] 24)).alloc (.cells #[.int .i64 0, .int .i64 0] 79)) (.cells #[.string s, .int .i64 0, .int .i64 0, .int .i64 0, .string ⟨#[]⟩, .int .i64 0, .int .i64 0] 99)
    rwa [World.size_alloc, World.size_alloc] at this
  have hE : Es W (w.heap.size + 1 + 1) s 0 0 ⟨0, ⟨#[]⟩, 0, 0⟩ := ⟨⟨zR, by omega, hs⟩, tab_keep ht (bW.block _ hg.1) (bW.block _ hg.2), by omega, by omega⟩
  have B0 : Bx w W s := ⟨bW, zV, zM⟩
  have cA := adv_c hE (by omega)
  rw [prs_eq]
  obtain ⟨X, hX⟩ : ∃ X, adv s 0 0 = X := ⟨_, rfl⟩
  rw [hX] at cA ⊢
  have HX : Hid (adv s 0 0 = X) := hX
  obtain ⟨U, hU⟩ : ∃ U, prk s X = U := ⟨_, rfl⟩
  rw [hU]
  have HU : Hid (prk s X = U) := hU
  have HE : Hid (Es W (w.heap.size + 1 + 1) s 0 0 ⟨0, ⟨#[]⟩, 0, 0⟩) := hE
  have HW : Hid (((w.alloc (.cells #[.int .i64 0, .int .i64 0, .string ⟨#[]⟩, .slice none 0 0] 24)).alloc (.cells #[.int .i64 0, .int .i64 0] 79)).alloc (.cells #[.string s, .int .i64 0, .int .i64 0, .int .i64 0, .string ⟨#[]⟩, .int .i64 0, .int .i64 0] 99) = W) := hW
  unfold ptr at cA
  rw [← hW] at cA
  clear hX hU hE zR zV zM bW hW
  go_enter_defers Tryz.func48, Tryz.ntmps48
  go_wp2_with fail
  refine cA.mono ?_
  intro e W1 hA
  rw [HW.out] at hA
  clear cA
  cases X with
  | error f =>
    obtain ⟨K1, rfl⟩ := hA
    have hU : Except.error f = U := HU.out
    subst hU
    have B1 := B0.step K1
    have HB1 : Hid (Bx w W1 s) := B1
    refine leaves_cons (f := 62) (args := #[.pointer (some ⟨w.heap.size, 0, none⟩), .pointer (some ⟨w.heap.size + 1, 0, none⟩)]) (by simp) (by simp [go_sem]) ?_
    refine (catch_fault w.heap.size (w.heap.size + 1) f.1 f.2 [] W1 _ _ _ _ _ _ B1.zV B1.zM).mono ?_
    rintro e u' w5 ⟨rfl, rfl, r1, r2, r3⟩
    obtain ⟨c0, c1, c2, c3⟩ := four_box r1
    obtain ⟨m0, m1⟩ := two_box r2
    have HD : Hid (Below w.heap.size w w5) := HB1.out.kr.trans (r3 _ (by omega) (by omega))
    simp [Leaves, settle, results, Tryz.results48, go_sem, c0, c1, c2, c3, m0, m1]
    exact ⟨HD.out, rfl⟩
  | ok g1 =>
    obtain ⟨K1, ⟨z, rfl⟩, E1⟩ := hA
    have B1 := B0.step K1
    have ho1 : SrOk s g1 := (adv_in (Nat.zero_le _) (by omega) HX.out).1
    have S1 := HE.out.step K1 E1
    have cC := choice_top s W1 _ g1 S1 ho1
    obtain ⟨Y, hY⟩ : ∃ Y, (lv2 s 32).2 g1 = Y := ⟨_, rfl⟩
    have HY : Hid ((lv2 s 32).2 g1 = Y) := hY
    have HU1 : Hid (prk1 Y = U) := by
      show _ = _
      rw [← hY]
      exact HU.out
    rw [hY, show ((1 : Nat) : Int) = 1 from rfl] at cC
    unfold ptr at cC
    have l1 : W.heap.size ≤ W1.heap.size := K1.below.size
    clear hY K1 E1 B0 HU HE HW
    go_wp2_with fail
    refine cC.mono ?_
    intro e W2 hC
    clear cC
    cases Y with
    | error f =>
      obtain ⟨K2, rfl⟩ := hC
      have hU : Except.error f = U := HU1.out
      subst hU
      have B2 := B1.step K2
      have HB2 : Hid (Bx w W2 s) := B2
      refine leaves_cons (f := 62) (args := #[.pointer (some ⟨w.heap.size, 0, none⟩), .pointer (some ⟨w.heap.size + 1, 0, none⟩)]) (by simp) (by simp [go_sem]) ?_
      refine (catch_fault w.heap.size (w.heap.size + 1) f.1 f.2 [] W2 _ _ _ _ _ _ B2.zV B2.zM).mono ?_
      rintro e u' w5 ⟨rfl, rfl, r1, r2, r3⟩
      obtain ⟨c0, c1, c2, c3⟩ := four_box r1
      obtain ⟨m0, m1⟩ := two_box r2
      have HD : Hid (Below w.heap.size w w5) := HB2.out.kr.trans (r3 _ (by omega) (by omega))
      simp [Leaves, settle, results, Tryz.results48, go_sem, c0, c1, c2, c3, m0, m1]
      exact ⟨HD.out, rfl⟩
    | ok p =>
      obtain ⟨x, g2⟩ := p
      obtain ⟨K2, ⟨m, a, c, rfl, hin⟩, E2⟩ := hC
      have B2 := B1.step K2
      have l2 := K2.below.size
      obtain ⟨d0, d1, d2, d3⟩ := four_box B2.zV
      have f0 := frozen_box B2.zV 0
      have f1 := frozen_box B2.zV 1
      have f2 := frozen_box B2.zV 2
      have f3 := frozen_box B2.zV 3
      obtain ⟨W3, hW3⟩ : ∃ W3, ((((W2.setCell ⟨w.heap.size, 0, none⟩ (.int .i64 x.o)).setCell ⟨w.heap.size, 1, none⟩ (.int .i64 x.i)).setCell ⟨w.heap.size, 2, none⟩ (.string x.s)).setCell ⟨w.heap.size, 3, none⟩ (.slice a x.l.length c)) = W3 := ⟨_, rfl⟩
      obtain ⟨q1, q2, q3, q4⟩ := set4 _ _ _ _ B2.zV hW3
      have zM3 := (q2 (w.heap.size + 1) (by omega)).trans B2.zM
      have E3 : Er W3 (w.heap.size + 1 + 1) s g2.a g2.r g2.tk := E2.keep (q2 _ (by omega))
      have b3 : Below w.heap.size w W3 := q4 _ _ (Nat.le_refl _) B2.kr
      have hin3 : XBase.In false (Rg W1.heap.size W3.heap.size) W3 m (.agg #[.int .i64 x.o, .int .i64 x.i, .string x.s, .slice a x.l.length c]) x := by
        rw [q3]
        exact hin.keep fun b hb _ => q2 b (by have := hb.1; omega)
      obtain ⟨-, -, -, k3, k4, k5, k6⟩ := E3.cells
      have HQ1 : Hid (W3.heap[w.heap.size]? = some (.cells #[.int .i64 x.o, .int .i64 x.i, .string x.s, .slice a x.l.length c] 24 (0, 0))) := q1
      have HM3 : Hid (W3.heap[w.heap.size + 1]? = some (.cells #[.int .i64 0, .int .i64 0] 79 (0, 0))) := zM3
      have HB3 : Hid (Below w.heap.size w W3) := b3
      have HI3 : Hid (XBase.In false (Rg W1.heap.size W3.heap.size) W3 m (.agg #[.int .i64 x.o, .int .i64 x.i, .string x.s, .slice a x.l.length c]) x) := hin3
      have hl3 : W2.heap.size = W3.heap.size := q3.symm
      have HL3 : Hid (W2.heap.size = W3.heap.size) := hl3
      clear q1 q2 q3 q4 zM3 E3 b3 hin3 hin B2 B1 K2 E2 hl3
      by_cases hk : g2.tk.k = 0
      · have hU : Except.ok x = U := by
          rw [← HU1.out]
          unfold prk1
          dsimp only
          rw [if_pos hk]
        subst hU
        rw [hk] at k3
        have q1 := HQ1.out
        have zM := HM3.out
        obtain ⟨y0, y1, y2, y3⟩ := four_box q1
        obtain ⟨z0, z1⟩ := two_box zM
        have g0 := frozen_box q1 0
        have g1' := frozen_box q1 1
        have g2' := frozen_box q1 2
        have g3 := frozen_box q1 3
        have n0 := frozen_box zM 0
        have n1 := frozen_box zM 1
        clear hk q1 zM
        go_wp2_with fail
        clear hW3
        go_region
        obtain ⟨W8, hW8⟩ : ∃ W8, ((((W3.setCell ⟨w.heap.size, 0, none⟩ (.int .i64 x.o)).setCell ⟨w.heap.size, 1, none⟩ (.int .i64 x.i)).setCell ⟨w.heap.size, 2, none⟩ (.string x.s)).setCell ⟨w.heap.size, 3, none⟩ (.slice a x.l.length c)) = W8 := ⟨_, rfl⟩
        rw [hW8]
        obtain ⟨p1, p2, p3, p4⟩ := set4 _ _ _ _ HQ1.out hW8
        obtain ⟨W9, hW9⟩ : ∃ W9, (W8.setCell ⟨w.heap.size + 1, 0, none⟩ (.int .i64 0)).setCell ⟨w.heap.size + 1, 1, none⟩ (.int .i64 0) = W9 := ⟨_, rfl⟩
        rw [hW9]
        have v9 : W9.heap[w.heap.size]? = some (.cells #[.int .i64 x.o, .int .i64 x.i, .string x.s, .slice a x.l.length c] 24 (0, 0)) := by rw [← hW9, Below.heap_setCell _ _ _ _ (by simp), Below.heap_setCell _ _ _ _ (by simp)]; exact p1
        have m9 : W9.heap[w.heap.size + 1]? = some (.cells #[.int .i64 0, .int .i64 0] 79 (0, 0)) := by
          rw [← hW9, block_set (block_set ((p2 _ (by omega)).trans HM3.out) _) _]; rfl
        have o9 : ∀ g, g ≠ w.heap.size → g ≠ w.heap.size + 1 → W9.heap[g]? = W3.heap[g]? := fun g e1 e2 => by rw [← hW9, Below.heap_setCell _ _ _ _ e2, Below.heap_setCell _ _ _ _ e2]; exact p2 g e1
        go_wp2_with fail
        have s9 : W9.heap.size = W3.heap.size := by rw [← hW9, ← p3]; simp [World.setCell]
        have b9 : Below w.heap.size w W9 := by rw [← hW9]; exact ((p4 _ _ (Nat.le_refl _) HB3.out).setCell (p := ⟨w.heap.size + 1, 0, none⟩) (by simp) _).setCell (p := ⟨w.heap.size + 1, 1, none⟩) (by simp) _
        have l9 := HL3.out
        refine leaves_cons (f := 62) (args := #[.pointer (some ⟨w.heap.size, 0, none⟩), .pointer (some ⟨w.heap.size + 1, 0, none⟩)]) (by simp) (by simp [go_sem]) ?_
        refine (catch_idle ⟨w.heap.size, 0, none⟩ ⟨w.heap.size + 1, 0, none⟩ W9.drew).mono ?_
        rintro e u' wa ⟨rfl, rfl, ba⟩
        have ba : Below W9.heap.size W9 wa := (Below.refl _ W9).drew.trans ba
        have sa := ba.size
        obtain ⟨c0, c1, c2, c3⟩ := four_box ((ba.block w.heap.size (by omega)).trans v9)
        obtain ⟨m0, m1⟩ := two_box ((ba.block (w.heap.size + 1) (by omega)).trans m9)
        have HD : Hid (Below w.heap.size w wa) := b9.trans (ba.mono (by omega))
        have HF : Hid (XBase.In false (Rg w.heap.size wa.heap.size) wa m (.agg #[.int .i64 x.o, .int .i64 x.i, .string x.s, .slice a x.l.length c]) x) :=
          in_rg (HI3.out.keep fun g hg hlt => (ba.block g (by omega)).trans (o9 g (by have := hg.1; omega) (by have := hg.1; omega))) (by omega) (by omega)
        simp [Leaves, settle, results, Tryz.results48, go_sem, c0, c1, c2, c3, m0, m1]
        exact ⟨HD.out, m, a, c, rfl, HF.out⟩
      · have hU : Except.error (ends g2.tk) = U := by
          rw [← HU1.out]
          unfold prk1
          dsimp only
          rw [if_neg hk]
        subst hU
        have e0 : (((g2.tk.k : Nat) : Int) != 0) = true := by simp; omega
        have cM := misplaced_c g2.tk W3
        clear hk
        go_wp2_with fail
        refine cM.mono ?_
        rintro e W4 ⟨rfl, b4⟩
        clear hW3
        have v4 := (b4.block w.heap.size (by have := (Array.getElem?_eq_some_iff.1 HQ1.out).1; omega)).trans HQ1.out
        have m4 := (b4.block (w.heap.size + 1) (by have := (Array.getElem?_eq_some_iff.1 HM3.out).1; omega)).trans HM3.out
        have HB4 : Hid (Below w.heap.size w W4) := nx HB3.out b4
        go_wp2_with fail
        refine leaves_cons (f := 62) (args := #[.pointer (some ⟨w.heap.size, 0, none⟩), .pointer (some ⟨w.heap.size + 1, 0, none⟩)]) (by simp) (by simp [go_sem]) ?_
        refine (catch_fault w.heap.size (w.heap.size + 1) 1000 g2.tk.a [] W4 _ _ _ _ _ _ v4 m4).mono ?_
        rintro e u' w5 ⟨rfl, rfl, r1, r2, r3⟩
        obtain ⟨c0, c1, c2, c3⟩ := four_box r1
        obtain ⟨m0, m1⟩ := two_box r2
        have HD : Hid (Below w.heap.size w w5) := HB4.out.trans (r3 _ (by omega) (by omega))
        simp [Leaves, settle, results, Tryz.results48, go_sem, c0, c1, c2, c3, m0, m1]
        exact ⟨HD.out, rfl⟩
end Go.Proofs.YtnoohlmlpijhaaaGreatDoor.ERe
namespace Go.Proofs.YtnoohlmlpijhaaaGreatDoor.EPs
open Go.RowKit Go.Proofs.YtnoohlmlpijhaaaGreatDoor.Base Go.Proofs.YtnoohlmlpijhaaaGreatDoor.UBase Go.Proofs.YtnoohlmlpijhaaaGreatDoor.EPure Go.Proofs.YtnoohlmlpijhaaaGreatDoor.ERd Go.Proofs.YtnoohlmlpijhaaaGreatDoor.EChr Go.Proofs.YtnoohlmlpijhaaaGreatDoor.ECh Go.Proofs.YtnoohlmlpijhaaaGreatDoor.EGx Go.Proofs.YtnoohlmlpijhaaaGreatDoor.EDo Go.Proofs.YtnoohlmlpijhaaaGreatDoor.ERe
open Go.Proofs.YtnoohlmlpijhaaaGreatDoor.XBase (four_box two_box frozen_box Rg)
set_option linter.unusedVariables false
/-- What comes of Parse. -/
def Pout (w : World) (e : Ending) (w' : World) : Except F Ex → Prop
  | .ok x => Below w.heap.size w w' ∧ ∃ m a c, e = .returned (.tuple #[.agg #[.int .i64 x.o, .int .i64 x.i, .string x.s, .slice a x.l.length c], .int .i64 0, .int .i64 0]) ∧ XBase.In false (Rg w.heap.size w'.heap.size) w' m (.agg #[.int .i64 x.o, .int .i64 x.i, .string x.s, .slice a x.l.length c]) x
  | .error f => Below w.heap.size w w' ∧ e = .returned (.tuple #[.agg #[.int .i64 0, .int .i64 0, .string ⟨#[]⟩, .slice none 0 0], .int .i64 (f.2 : Nat), .int .i64 (f.1 : Nat)])
set_option maxRecDepth 20000 in
set_option maxHeartbeats 3200000 in
theorem parse_gen {w : World} {s : ByteArray} (Q : Value → Int → Int → World → Prop)
    (cD : Calls Tryz.prog 48 #[.string s] (w.alloc (.cells #[.int .i64 0, .int .i64 0, .string ⟨#[]⟩, .slice none 0 0] 24)) fun e w' => ∃ k i t a n c c0 c1, e = .returned (.tuple #[.agg #[.int .i64 k, .int .i64 i, .string t, .slice a n c], .agg #[.int .i64 c0, .int .i64 c1]]) ∧ w.heap.size < w'.heap.size ∧ Below w.heap.size w w' ∧ w'.heap[w.heap.size]? = some (.cells #[.int .i64 0, .int .i64 0, .string ⟨#[]⟩, .slice none 0 0] 24 (0, 0)) ∧ Q (.agg #[.int .i64 k, .int .i64 i, .string t, .slice a n c]) c0 c1 w') :
    Calls Tryz.prog 25 #[.string s] w fun e w'' => ∃ u c0 c1 w4, Q u c0 c1 w4 ∧ e = .returned (.tuple #[u, .int .i64 c1, .int .i64 c0]) ∧ w.heap.size < w4.heap.size ∧ Below w.heap.size w w'' ∧ (∀ g, g ≠ w.heap.size → g < w4.heap.size → w''.heap[g]? = w4.heap[g]?) ∧ w4.heap.size ≤ w''.heap.size := by
  go_enter Tryz.func25, Tryz.ntmps25
  go_wp2_with fail
  refine cD.mono ?_
  rintro e w4 ⟨k, i, t, a, n, c, c0, c1, rfl, l4, b4, gV, hQ⟩
  have HGV : Hid (w4.heap[w.heap.size]? = some (.cells #[.int .i64 0, .int .i64 0, .string ⟨#[]⟩, .slice none 0 0] 24 (0, 0))) := gV
  have HB4 : Hid (Below w.heap.size w w4) := b4
  have HQ : Hid (Q (.agg #[.int .i64 k, .int .i64 i, .string t, .slice a n c]) c0 c1 w4) := hQ
  clear gV b4 hQ cD
  go_wp2_with fail
  obtain ⟨W5, hW5⟩ : ∃ W5, (w4.alloc (.cells #[.int .i64 k, .int .i64 i, .string t, .slice a n c] 24)).alloc (.cells #[.int .i64 c0, .int .i64 c1] 79) = W5 := ⟨_, rfl⟩
  rw [hW5]
  have b5 : Below w4.heap.size w4 W5 := by rw [← hW5]; exact ((Below.refl _ w4).alloc (Nat.le_refl _) _).alloc (by simp) _
  have s5 : W5.heap.size = w4.heap.size + 2 := by rw [← hW5]; simp
  have u5 : W5.heap[w4.heap.size]? = some (.cells #[.int .i64 k, .int .i64 i, .string t, .slice a n c] 24 (0, 0)) := by rw [← hW5, Below.heap_alloc _ _ _ (by simp), heap_alloc_new]
  have m5 : W5.heap[w4.heap.size + 1]? = some (.cells #[.int .i64 c0, .int .i64 c1] 79 (0, 0)) := by
    rw [← hW5]
    have := heap_alloc_new (w4.alloc (.cells #[.int .i64 k, .int .i64 i, .string t, .slice a n c] 24)) (.cells #[.int .i64 c0, .int .i64 c1] 79)
    rwa [World.size_alloc] at this
  have v5 := (b5.block w.heap.size l4).trans HGV.out
  obtain ⟨d0, d1, d2, d3⟩ := four_box v5
  obtain ⟨e0, e1, e2, e3⟩ := four_box u5
  obtain ⟨m0, m1⟩ := two_box m5
  have f0 := frozen_box v5 0
  have f1 := frozen_box v5 1
  have f2 := frozen_box v5 2
  have f3 := frozen_box v5 3
  have n1 : w.heap.size ≠ w4.heap.size := by omega
  have n2 : w4.heap.size ≠ w.heap.size := by omega
  have n3 : w.heap.size ≠ w4.heap.size + 1 := by omega
  have n4 : w4.heap.size + 1 ≠ w.heap.size := by omega
  have HV5 : Hid (W5.heap[w.heap.size]? = some (.cells #[.int .i64 0, .int .i64 0, .string ⟨#[]⟩, .slice none 0 0] 24 (0, 0))) := v5
  have HB5 : Hid (Below w4.heap.size w4 W5) := b5
  have HS5 : Hid (W5.heap.size = w4.heap.size + 2) := s5
  clear hW5 v5 u5 m5 b5 s5
  go_region
  obtain ⟨W6, hW6⟩ : ∃ W6, ((((W5.setCell ⟨w.heap.size, 0, none⟩ (.int .i64 k)).setCell ⟨w.heap.size, 1, none⟩ (.int .i64 i)).setCell ⟨w.heap.size, 2, none⟩ (.string t)).setCell ⟨w.heap.size, 3, none⟩ (.slice a n c)) = W6 := ⟨_, rfl⟩
  rw [hW6]
  obtain ⟨q1, q2, q3, q4⟩ := set4 _ _ _ _ HV5.out hW6
  go_wp2_with fail
  have v6 : W6.drew.heap[w.heap.size]? = _ := q1
  obtain ⟨p0, p1, p2, p3⟩ := four_box v6
  refine bodyPost_ret (v := .tuple #[.agg #[.int .i64 k, .int .i64 i, .string t, .slice a n c], .int .i64 c1, .int .i64 c0]) (by simp [results, Tryz.results25, go_sem, p0, p1, p2, p3]) rfl ?_
  have s5 := HS5.out
  exact ⟨_, c0, c1, w4, HQ.out, rfl, l4, (q4 _ _ (Nat.le_refl _) (HB4.out.trans (HB5.out.mono (by omega)))).drew, fun g h1 h2 => (q2 g h1).trans (HB5.out.block g h2), by show _ ≤ W6.heap.size; omega⟩
theorem parse_c {w : World} {s : ByteArray} (hs : s.size ≤ 140737488351300) (ht : Tabs w) (hg : 2 < w.heap.size ∧ 3 < w.heap.size) :
    Calls Tryz.prog 25 #[.string s] w fun e w' => Pout w e w' (prs s) := by
  obtain ⟨W0, hW0⟩ : ∃ W0, w.alloc (.cells #[.int .i64 0, .int .i64 0, .string ⟨#[]⟩, .slice none 0 0] 24) = W0 := ⟨_, rfl⟩
  have b0 : Below w.heap.size w W0 := by rw [← hW0]; exact (Below.refl _ w).alloc (Nat.le_refl _) _
  have s0 : W0.heap.size = w.heap.size + 1 := by rw [← hW0]; simp
  have hz : W0.heap[w.heap.size]? = some (.cells #[.int .i64 0, .int .i64 0, .string ⟨#[]⟩, .slice none 0 0] 24 (0, 0)) := by rw [← hW0]; exact heap_alloc_new w _
  have cD := read_c (w := W0) hs (tab_keep ht (b0.block _ hg.1) (b0.block _ hg.2)) ⟨by omega, by omega⟩
  generalize prs s = X at cD ⊢
  cases X with
  | error x =>
    refine (parse_gen (fun u c0 c1 w4 => u = .agg #[.int .i64 0, .int .i64 0, .string ⟨#[]⟩, .slice none 0 0] ∧ c0 = x.1 ∧ c1 = x.2) ?_).mono ?_
    · rw [hW0]
      refine cD.mono ?_
      rintro e w4 ⟨b4, rfl⟩
      exact ⟨_, _, _, _, _, _, _, _, rfl, by have := b4.size; omega, b0.trans (b4.mono (by omega)), (b4.block _ (by omega)).trans hz, rfl, rfl, rfl⟩
    · rintro e w' ⟨u, c0, c1, w4, ⟨rfl, rfl, rfl⟩, rfl, -, h2, -, -⟩
      exact ⟨h2, rfl⟩
  | ok x =>
    refine (parse_gen (fun u c0 c1 w4 => c0 = 0 ∧ c1 = 0 ∧ ∃ m a c, u = .agg #[.int .i64 x.o, .int .i64 x.i, .string x.s, .slice a x.l.length c] ∧ XBase.In false (Rg W0.heap.size w4.heap.size) w4 m (.agg #[.int .i64 x.o, .int .i64 x.i, .string x.s, .slice a x.l.length c]) x) ?_).mono ?_
    · rw [hW0]
      refine cD.mono ?_
      rintro e w4 ⟨b4, m, a, c, rfl, hin⟩
      exact ⟨_, _, _, _, _, _, _, _, rfl, by have := b4.size; omega, b0.trans (b4.mono (by omega)), (b4.block _ (by omega)).trans hz, rfl, rfl, m, a, c, rfl, hin⟩
    · rintro e w' ⟨u, c0, c1, w4, ⟨rfl, rfl, m, a, c, rfl, hin⟩, rfl, l4, h2, h3, h4⟩
      exact ⟨h2, m, a, c, rfl, in_rg (hin.keep fun g hg hlt => h3 g (by have := hg.1; omega) hlt) (by omega) (by omega)⟩
end Go.Proofs.YtnoohlmlpijhaaaGreatDoor.EPs
namespace Go.Proofs.YtnoohlmlpijhaaaGreatDoor.ELn
open Go.Proofs.YtnoohlmlpijhaaaGreatDoor.EPure
set_option linter.unusedVariables false
/-- The same, down to n. -/
def eqx : Nat → Ex → Ex → Bool
  | 0, _, _ => false
  | n + 1, .mk o i s l, .mk o' i' s' l' => ((o == o') && (i == i')) && ((s.data.toList == s'.data.toList) && ((l.length == l'.length) && (l.zip l').all fun p => eqx n p.1 p.2))
theorem zip_eq {n : Nat} (ih : ∀ x y, eqx n x y = true → x = y) : ∀ (l l' : List Ex), l.length = l'.length → ((l.zip l').all fun p => eqx n p.1 p.2) = true → l = l'
  | [], [], _, _ => rfl
  | x :: t, y :: t', h, ha => by
    simp only [List.zip_cons_cons, List.all_cons, Bool.and_eq_true] at ha
    rw [ih x y ha.1, zip_eq ih t t' (by simpa using h) ha.2]
theorem eqx_eq : ∀ n x y, eqx n x y = true → x = y
  | 0, _, _, h => by cases h
  | n + 1, .mk o i s l, .mk o' i' s' l', h => by
    simp only [eqx, Bool.and_eq_true, beq_iff_eq] at h
    obtain ⟨⟨rfl, rfl⟩, hs, hl, ha⟩ := h
    obtain rfl := zip_eq (eqx_eq n) l l' hl ha
    obtain rfl : s = s' := by cases s; cases s'; congr 1; exact Array.toList_inj.1 hs
    rfl
def s1 (s t : List UInt8) : List UInt8 := [97, 32] ++ s ++ [32, 98, 32] ++ t ++ [32, 99]
def s2 (s t : List UInt8) : List UInt8 := [40, 97, 32] ++ s ++ [32, 98, 41, 32] ++ t ++ [32, 99]
def s3 (s t : List UInt8) : List UInt8 := [97, 32] ++ s ++ [32, 40, 98, 32] ++ t ++ [32, 99, 41]
def va : Ex := .mk 6 0 ⟨#[97]⟩ []
def vb : Ex := .mk 6 0 ⟨#[98]⟩ []
def vc : Ex := .mk 6 0 ⟨#[99]⟩ []
def lt' (o o' : Int) : Ex := nd o' [nd o [va, vb], vc]
def rt' (o o' : Int) : Ex := nd o [va, nd o' [vb, vc]]
def isx (t : List UInt8) (x : Ex) : Bool := match prs ⟨t.toArray⟩ with
  | .ok y => eqx 4 y x
  | .error _ => false
def chk (k k' : Nat) (s t : List UInt8 × Int) : Bool := (decide (12 ≤ s.2) && isx (s1 s.1 t.1) (if k < k' then rt' s.2 t.2 else lt' s.2 t.2)) && (isx (s2 s.1 t.1) (lt' s.2 t.2) && isx (s3 s.1 t.1) (rt' s.2 t.2))
theorem t0_0 : (List.range 11).all (fun k' => (lvs.getD k' []).all fun t => chk 0 k' ([124, 124], 30) t) = true := by decide +kernel
theorem t1_0 : (List.range 11).all (fun k' => (lvs.getD k' []).all fun t => chk 1 k' ([38, 38], 29) t) = true := by decide +kernel
theorem t2_0 : (List.range 11).all (fun k' => (lvs.getD k' []).all fun t => chk 2 k' ([61, 61], 27) t) = true := by decide +kernel
theorem t2_1 : (List.range 11).all (fun k' => (lvs.getD k' []).all fun t => chk 2 k' ([33, 61], 28) t) = true := by decide +kernel
theorem t3_0 : (List.range 11).all (fun k' => (lvs.getD k' []).all fun t => chk 3 k' ([60], 23) t) = true := by decide +kernel
theorem t3_1 : (List.range 11).all (fun k' => (lvs.getD k' []).all fun t => chk 3 k' ([60, 61], 24) t) = true := by decide +kernel
theorem t3_2 : (List.range 11).all (fun k' => (lvs.getD k' []).all fun t => chk 3 k' ([62], 25) t) = true := by decide +kernel
theorem t3_3 : (List.range 11).all (fun k' => (lvs.getD k' []).all fun t => chk 3 k' ([62, 61], 26) t) = true := by decide +kernel
theorem t4_0 : (List.range 11).all (fun k' => (lvs.getD k' []).all fun t => chk 4 k' ([124], 22) t) = true := by decide +kernel
theorem t5_0 : (List.range 11).all (fun k' => (lvs.getD k' []).all fun t => chk 5 k' ([94], 21) t) = true := by decide +kernel
theorem t6_0 : (List.range 11).all (fun k' => (lvs.getD k' []).all fun t => chk 6 k' ([38], 20) t) = true := by decide +kernel
theorem t7_0 : (List.range 11).all (fun k' => (lvs.getD k' []).all fun t => chk 7 k' ([60, 60], 18) t) = true := by decide +kernel
theorem t7_1 : (List.range 11).all (fun k' => (lvs.getD k' []).all fun t => chk 7 k' ([62, 62], 19) t) = true := by decide +kernel
theorem t8_0 : (List.range 11).all (fun k' => (lvs.getD k' []).all fun t => chk 8 k' ([126], 17) t) = true := by decide +kernel
theorem t9_0 : (List.range 11).all (fun k' => (lvs.getD k' []).all fun t => chk 9 k' ([43], 15) t) = true := by decide +kernel
theorem t9_1 : (List.range 11).all (fun k' => (lvs.getD k' []).all fun t => chk 9 k' ([45], 16) t) = true := by decide +kernel
theorem t10_0 : (List.range 11).all (fun k' => (lvs.getD k' []).all fun t => chk 10 k' ([42], 12) t) = true := by decide +kernel
theorem t10_1 : (List.range 11).all (fun k' => (lvs.getD k' []).all fun t => chk 10 k' ([47], 13) t) = true := by decide +kernel
theorem t10_2 : (List.range 11).all (fun k' => (lvs.getD k' []).all fun t => chk 10 k' ([37], 14) t) = true := by decide +kernel
theorem both {k k' : Nat} {s t : List UInt8 × Int} (h : (List.range 11).all (fun k' => (lvs.getD k' []).all fun t => chk k k' s t) = true) (hk : k' < 11) (ht : t ∈ lvs.getD k' []) : chk k k' s t = true :=
  List.all_eq_true.1 (List.all_eq_true.1 h k' (List.mem_range.2 hk)) t ht
theorem all : ∀ {k : Nat}, k < 11 → ∀ {s : List UInt8 × Int}, s ∈ lvs.getD k [] → ∀ {k' : Nat}, k' < 11 → ∀ {t : List UInt8 × Int}, t ∈ lvs.getD k' [] → chk k k' s t = true := by
  intro k hk s hs k' hk' t ht
  match k, hk, hs with
  | 0, _, hs =>
    have hs : s ∈ ([([124, 124], 30)] : List (List UInt8 × Int)) := hs
    simp only [List.mem_cons, List.not_mem_nil, or_false] at hs
    subst hs; exact both t0_0 hk' ht
  | 1, _, hs =>
    have hs : s ∈ ([([38, 38], 29)] : List (List UInt8 × Int)) := hs
    simp only [List.mem_cons, List.not_mem_nil, or_false] at hs
    subst hs; exact both t1_0 hk' ht
  | 2, _, hs =>
    have hs : s ∈ ([([61, 61], 27), ([33, 61], 28)] : List (List UInt8 × Int)) := hs
    simp only [List.mem_cons, List.not_mem_nil, or_false] at hs
    rcases hs with rfl | rfl
    · exact both t2_0 hk' ht
    · exact both t2_1 hk' ht
  | 3, _, hs =>
    have hs : s ∈ ([([60], 23), ([60, 61], 24), ([62], 25), ([62, 61], 26)] : List (List UInt8 × Int)) := hs
    simp only [List.mem_cons, List.not_mem_nil, or_false] at hs
    rcases hs with rfl | rfl | rfl | rfl
    · exact both t3_0 hk' ht
    · exact both t3_1 hk' ht
    · exact both t3_2 hk' ht
    · exact both t3_3 hk' ht
  | 4, _, hs =>
    have hs : s ∈ ([([124], 22)] : List (List UInt8 × Int)) := hs
    simp only [List.mem_cons, List.not_mem_nil, or_false] at hs
    subst hs; exact both t4_0 hk' ht
  | 5, _, hs =>
    have hs : s ∈ ([([94], 21)] : List (List UInt8 × Int)) := hs
    simp only [List.mem_cons, List.not_mem_nil, or_false] at hs
    subst hs; exact both t5_0 hk' ht
  | 6, _, hs =>
    have hs : s ∈ ([([38], 20)] : List (List UInt8 × Int)) := hs
    simp only [List.mem_cons, List.not_mem_nil, or_false] at hs
    subst hs; exact both t6_0 hk' ht
  | 7, _, hs =>
    have hs : s ∈ ([([60, 60], 18), ([62, 62], 19)] : List (List UInt8 × Int)) := hs
    simp only [List.mem_cons, List.not_mem_nil, or_false] at hs
    rcases hs with rfl | rfl
    · exact both t7_0 hk' ht
    · exact both t7_1 hk' ht
  | 8, _, hs =>
    have hs : s ∈ ([([126], 17)] : List (List UInt8 × Int)) := hs
    simp only [List.mem_cons, List.not_mem_nil, or_false] at hs
    subst hs; exact both t8_0 hk' ht
  | 9, _, hs =>
    have hs : s ∈ ([([43], 15), ([45], 16)] : List (List UInt8 × Int)) := hs
    simp only [List.mem_cons, List.not_mem_nil, or_false] at hs
    rcases hs with rfl | rfl
    · exact both t9_0 hk' ht
    · exact both t9_1 hk' ht
  | 10, _, hs =>
    have hs : s ∈ ([([42], 12), ([47], 13), ([37], 14)] : List (List UInt8 × Int)) := hs
    simp only [List.mem_cons, List.not_mem_nil, or_false] at hs
    rcases hs with rfl | rfl | rfl
    · exact both t10_0 hk' ht
    · exact both t10_1 hk' ht
    · exact both t10_2 hk' ht
  | k + 11, h, _ => exact absurd h (by omega)
end Go.Proofs.YtnoohlmlpijhaaaGreatDoor.ELn
namespace Go.Proofs.YtnoohlmlpijhaaaGreatDoor.EBs
open Go.Proofs.YtnoohlmlpijhaaaGreatDoor.UBase Go.Proofs.YtnoohlmlpijhaaaGreatDoor.EPure Go.Proofs.YtnoohlmlpijhaaaGreatDoor.EDn
set_option linter.unusedVariables false
/-- t stands at i. -/
def St (s : ByteArray) (i : Nat) (t : List UInt8) : Prop := ∃ a b, s.data.toList = a ++ t ++ b ∧ a.length = i
theorem sz (s : ByteArray) : s.data.toList.length = s.size := Array.length_toList
theorem St.left {s : ByteArray} {i : Nat} {t u : List UInt8} (h : St s i (t ++ u)) : St s i t := by
  obtain ⟨a, b, h1, h2⟩ := h
  exact ⟨a, u ++ b, by rw [h1]; simp, h2⟩
theorem St.right {s : ByteArray} {i : Nat} {t u : List UInt8} (h : St s i (t ++ u)) : St s (i + t.length) u := by
  obtain ⟨a, b, h1, h2⟩ := h
  exact ⟨a ++ t, b, by rw [h1]; simp, by simp [h2]⟩
theorem St.tail {s : ByteArray} {i : Nat} {c : UInt8} {t : List UInt8} (h : St s i (c :: t)) : St s (i + 1) t := h.right (t := [c])
theorem St.le {s : ByteArray} {i : Nat} {t : List UInt8} (h : St s i t) : i + t.length ≤ s.size := by
  obtain ⟨a, b, h1, h2⟩ := h
  rw [← sz s, h1]
  simp; omega
theorem St.drop {s : ByteArray} {i : Nat} {t : List UInt8} (h : St s i t) : ∃ b, s.data.toList.drop i = t ++ b := by
  obtain ⟨a, b, h1, h2⟩ := h
  exact ⟨b, by rw [h1, List.append_assoc, List.drop_left' h2]⟩
theorem at_drop (s : ByteArray) (i : Nat) : at' s i = ((s.data.toList.drop i).headD 0).toNat := by
  by_cases h : i < s.size
  · rw [at_get s i h, List.drop_eq_getElem_cons (by rw [sz]; exact h)]
    simp [ByteArray.getElem_eq_getElem_data]
  · rw [at_out s i h, List.drop_eq_nil_of_le (by rw [sz]; omega)]
    rfl
theorem St.at {s : ByteArray} {i : Nat} {c : UInt8} {t : List UInt8} (h : St s i (c :: t)) : at' s i = c.toNat := by
  obtain ⟨b, hb⟩ := h.drop
  rw [at_drop, hb]; rfl
theorem St.lt {s : ByteArray} {i : Nat} {c : UInt8} {t : List UInt8} (h : St s i (c :: t)) : i < s.size := by
  have := h.le
  simp at this; omega
theorem skp_stop {p : Nat → Bool} {s : ByteArray} {i : Nat} (h : i < s.size → p (at' s i) = false) : skp p s i = i := by
  unfold skp
  cases hn : s.size - i with
  | zero => rfl
  | succ n =>
    rw [sk, if_neg]
    rintro ⟨h1, h2⟩
    rw [h h1] at h2; cases h2
theorem skp_step {p : Nat → Bool} {s : ByteArray} {i : Nat} (h : i < s.size) (hp : p (at' s i) = true) : skp p s i = skp p s (i + 1) := by
  unfold skp
  rw [show s.size - i = (s.size - (i + 1)) + 1 by omega, sk, if_pos ⟨h, hp⟩]
theorem skp_all {p : Nat → Bool} {s : ByteArray} : ∀ {t : List UInt8} {i : Nat}, St s i t → (∀ c ∈ t, p c.toNat = true) → (i + t.length < s.size → p (at' s (i + t.length)) = false) → skp p s i = i + t.length
  | [], i, _, _, h => by simpa using skp_stop (by simpa using h)
  | c :: t, i, hs, ha, h => by
    rw [skp_step hs.lt (by rw [hs.at]; exact ha c (by simp)), skp_all hs.tail (fun d hd => ha d (by simp [hd])) (by simpa [Nat.add_assoc, Nat.add_comm, Nat.add_left_comm] using h)]
    simp; omega
theorem adv_blank {s : ByteArray} {i r : Nat} {c : UInt8} {t : List UInt8} (h : St s i (c :: t)) (hc : isb c.toNat = true) : adv s i r = adv s (i + 1) r := by
  unfold adv
  rw [skp_step h.lt (by rw [h.at]; exact hc)]
/-- At i stands a token. -/
def Tok (s : ByteArray) (i : Nat) (t : Tk) (j : Nat) : Prop := isb (at' s i) = false ∧ scan s i = .ok (t, j) ∧ t.k ≠ 0
theorem Tok.adv {s : ByteArray} {i j : Nat} {t : Tk} (h : Tok s i t j) (r : Nat) : (adv s i r = .error (1002, t.a)) ∨ (r ≠ 512 ∧ adv s i r = .ok ⟨t, j, r + 1⟩) := by
  unfold EPure.adv
  rw [skp_stop (fun _ => h.1), h.2.1]
  simp only
  rw [if_neg h.2.2]
  by_cases hr : r = 512
  · left; rw [if_pos hr]
  · right; exact ⟨hr, by rw [if_neg hr]⟩
theorem Tok.ok {s : ByteArray} {i j : Nat} {t : Tk} (h : Tok s i t j) {r : Nat} {g : Sr} (hg : EPure.adv s i r = .ok g) : g = ⟨t, j, r + 1⟩ := by
  rcases h.adv r with e | ⟨_, e⟩
  · rw [e] at hg; cases hg
  · rw [e] at hg; injection hg with hg; exact hg.symm
theorem pre_eq (s : ByteArray) (i : Nat) (y : List UInt8) (hi : i ≤ s.size) : pre s i y = y.isPrefixOf (s.data.toList.drop i) := by
  unfold pre
  rw [Bool.eq_iff_iff]
  simp only [Bool.and_eq_true, decide_eq_true_eq, beq_iff_eq, List.isPrefixOf_iff_prefix]
  constructor
  · rintro ⟨h1, h2⟩
    rw [← h2]; exact List.take_prefix _ _
  · intro h
    have hl := h.length_le
    rw [List.length_drop, sz] at hl
    exact ⟨by omega, (List.prefix_iff_eq_take.1 h).symm⟩
/-- The sign at i, out of the bytes there. -/
def sg2 (l : List UInt8) : List (List UInt8) → Option (List UInt8)
  | [] => none
  | x :: r => if x.isPrefixOf l = true then some x else sg2 l r
theorem sgn_of {s : ByteArray} {i : Nat} (hi : i ≤ s.size) {x : List UInt8} : ∀ {L : List (List UInt8)}, sg2 (s.data.toList.drop i) L = some x → sgn s i L = .ok (⟨x.toArray⟩, i + x.length)
  | [], h => by cases h
  | y :: r, h => by
    rw [sg2] at h
    rw [sgn, pre_eq s i y hi]
    by_cases hp : y.isPrefixOf (s.data.toList.drop i) = true
    · rw [if_pos hp] at h ⊢
      injection h with h; subst h; rfl
    · rw [if_neg hp] at h ⊢
      exact sgn_of hi h
/-- A byte with which a sign begins. -/
def sgb (c : Nat) : Bool := !(isb c) && (!(c == 39) && (!(EPure.dig c) && !(EPure.let' c)))
theorem sign_tok {s : ByteArray} {i : Nat} {c : UInt8} {t x : List UInt8} (h : St s i (c :: t)) (hc : sgb c.toNat = true) (hx : ∀ b, sg2 (c :: t ++ b) signs = some x) : Tok s i ⟨4, ⟨x.toArray⟩, 0, i⟩ (i + x.length) := by
  simp only [sgb, Bool.and_eq_true, Bool.not_eq_true', beq_eq_false_iff_ne, ne_eq] at hc
  obtain ⟨h1, h2, h3, h4⟩ := hc
  have ha := h.at
  refine ⟨by rw [ha]; exact h1, ?_, by simp⟩
  unfold scan
  rw [if_neg (by have := h.lt; omega), ha, if_neg h2, if_neg (by intro h48; rw [h48] at h3; cases h3), if_neg (by rw [h3]; simp), if_neg (by rw [h4]; simp)]
  obtain ⟨b, hb⟩ := h.drop
  rw [sgn_of (by have := h.lt; omega) (by rw [hb]; exact hx b)]
theorem cut_st {s : ByteArray} {i : Nat} {t : List UInt8} (h : St s i t) : cut s i (i + t.length) = ⟨t.toArray⟩ := by
  obtain ⟨a, b, h1, h2⟩ := h
  have : (cut s i (i + t.length)).data.toList = t := by
    unfold cut
    rw [ByteArray.data_extract, Array.toList_extract, h1]
    simp [List.extract_eq_take_drop, List.drop_left' h2, List.append_assoc]
  cases hc : cut s i (i + t.length) with
  | mk d => rw [hc] at this; simp only at this; rw [← this]
theorem name_tok {s t : ByteArray} {i : Nat} (h : St s i t.data.toList) (hw : word t 95 = true) (hf : i + t.data.toList.length < s.size → wrd (at' s (i + t.data.toList.length)) = false) : Tok s i ⟨3, t, 0, i⟩ (i + t.data.toList.length) := by
  unfold word at hw
  simp only [Bool.and_eq_true, decide_eq_true_eq] at hw
  obtain ⟨h0, h32, hl, ha⟩ := hw
  have hall : ∀ c ∈ t.data.toList, wrd c.toNat = true := by
    intro c hc
    obtain ⟨k, hk, e⟩ := List.mem_iff_getElem.1 hc
    have hk' : k < t.size := by rw [← sz t]; exact hk
    have := ha k hk'
    rw [at_get t k hk'] at this
    have e2 : t[k] = c := by rw [← e]; simp [ByteArray.getElem_eq_getElem_data]
    rw [e2] at this
    unfold sign at this
    unfold wrd
    simpa [UBase.let', UBase.dig, EPure.let', EPure.dig] using this
  obtain ⟨c, l, hcl⟩ : ∃ c l, t.data.toList = c :: l := by
    cases hh : t.data.toList with
    | nil => have := sz t; rw [hh] at this; simp at this; omega
    | cons c l => exact ⟨c, l, rfl⟩
  have hc0 : at' t 0 = c.toNat := by rw [at_drop, List.drop_zero, hcl]; rfl
  have hsk := skp_all h hall hf
  have hat : at' s i = c.toNat := by rw [hcl] at h; exact h.at
  have hle : EPure.let' (at' s i) = true := by rw [hat, ← hc0]; simpa [UBase.let', EPure.let'] using hl
  have hlt : i < s.size := by rw [hcl] at h; exact h.lt
  have hbd : 97 ≤ at' s i ∧ at' s i ≤ 122 := by simpa [EPure.let'] using hle
  refine ⟨by unfold isb; simp; omega, ?_, by simp⟩
  unfold scan
  rw [if_neg (by omega), if_neg (by omega), if_neg (by omega), if_neg (by simp [EPure.dig]; omega), if_pos hle, hsk, if_pos (by rw [sz]; omega), cut_st h]
theorem num_tok {s : ByteArray} {i : Nat} {n : Int} (h0 : 0 ≤ n) (h1 : n ≤ 9223372036854775807) (h : St s i (Lib.itoa n)) (hf : i + (Lib.itoa n).length < s.size → EPure.dig (at' s (i + (Lib.itoa n).length)) = false) : Tok s i ⟨1, ⟨#[]⟩, n, i⟩ (i + (Lib.itoa n).length) := by
  rcases Int.lt_or_eq_of_le h0 with hp | rfl
  · obtain ⟨e1, e2⟩ := Nums.parse_itoa n (by omega) h1
    have hd : Lib.itoa n = Lib.decDigits n.toNat := by
      unfold Lib.itoa
      rw [if_neg (by omega)]
    have hpf := Nums.posForm_digits (N := n.toNat) (by omega)
    rw [← hd] at hpf
    obtain ⟨l, hl⟩ : ∃ l, Lib.itoa n = l := ⟨_, rfl⟩
    rw [hl] at h hf e1 e2 hpf ⊢
    cases l with
    | nil => cases hpf
    | cons c t =>
      simp only [Sums.posForm, Bool.and_eq_true, bne_iff_ne, ne_eq] at hpf
      have hall : ∀ d ∈ c :: t, EPure.dig d.toNat = true := fun d hd => List.all_eq_true.1 hpf.2 d hd
      have hat := h.at
      have hc := hall c (by simp)
      have hbd : 48 ≤ c.toNat ∧ c.toNat ≤ 57 := by simpa [EPure.dig] using hc
      have hsk := skp_all h hall hf
      refine ⟨by rw [hat]; unfold isb; simp; omega, ?_, by simp⟩
      unfold scan
      rw [if_neg (by have := h.lt; omega), hat, if_neg (by omega), if_neg hpf.1, if_pos hc, hsk, cut_st h, if_pos (by rw [Nums.bs_mk]; exact e2), Nums.bs_mk, e1]
  · have hz : Lib.itoa 0 = [48] := by decide +kernel
    rw [hz] at h ⊢
    have hat := h.at
    refine ⟨by rw [hat]; decide, ?_, by simp⟩
    unfold scan
    rw [if_neg (by have := h.lt; omega), hat, if_neg (by decide), if_pos (by decide)]
    rfl
end Go.Proofs.YtnoohlmlpijhaaaGreatDoor.EBs
