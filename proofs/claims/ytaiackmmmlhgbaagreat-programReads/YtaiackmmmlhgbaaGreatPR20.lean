import Derived.Test.YtaiackmmmlhgbaaGreatPR06
import Derived.Test.YtaiackmmmlhgbaaGreatPR09
import Derived.Test.YtaiackmmmlhgbaaGreatPR19
open Go.Proofs.Tryz
set_option linter.unusedVariables false
set_option maxRecDepth 20000
set_option maxHeartbeats 3200000
namespace Go.Proofs.YtaiackmmmlhgbaaGreat.YCa
open Go.RowKit YRr
theorem block_set {w : World} {B j : Nat} {cs : Array Value} {t : TypeId} {fz : Nat × Nat} (h : w.heap[B]? = some (.cells cs t fz)) (u : Value) : (w.setCell ⟨B, j, none⟩ u).heap[B]? = some (.cells (cs.setIfInBounds j u) t fz) := by
  simp [World.setCell, Array.getElem?_modify, h]
theorem wp_tmps {P : Program} {c : Code} {Q : Exit -> Act -> World -> Prop} {T : Array Value} (L : Array Value) {w : World} (e : T = L) (h : c.wp P Q { tmps := L, defers := [] } w) : c.wp P Q { tmps := T, defers := [] } w := by
  subst e; exact h
theorem as_no (w : World) : (Instr.typeAssert .nilIface 20 52 true).run prog w = .ok (.tuple #[.agg #[.int .i64 0, .int .i64 0], .bool false]) w := by
  simp [Instr.typeAssert, run_underlying underlying52, Tryz.zeroValue52]
theorem as_yes (v : Value) (w : World) : (Instr.typeAssert (.iface 52 v) 20 52 true).run prog w = .ok (.tuple #[v, .bool true]) w := by
  simp [Instr.typeAssert, run_underlying underlying52]
theorem idle_b (p : Addr) (w : World) :
    CallsD prog 123 #[.pointer (some p)] .returning w fun e u' w' => e = .returned (.tuple #[]) /\ u' = .returning /\ Below w.heap.size w w' := by
  refine callsD_of_wpS func123 rfl fun c₀ cs hu => ?_
  apply wpS_seq
  apply wpS_region
  simp [wpOpsS, go_sem, recoverD, hu, ntmps123, Exit.thenS, as_no]
  refine wpS_of_wp ?_
  refine wp_tmps (#[.pointer (some p), .pointer (some ⟨w.heap.size, 0, none⟩), .bool false, .tuple #[.agg #[.int .i64 0, .int .i64 0], .bool false], .nilIface, .tuple #[.agg #[.int .i64 0, .int .i64 0], .bool false], .agg #[.int .i64 0, .int .i64 0], .bool false, undef, undef]) (by kernel_rfl) ?_
  go_wp2
  cases c₀
  simp_all [bodyPostS, results, results123]
  exact (Below.refl _ w).alloc (Nat.le_refl _) _
theorem fault_b (M : Nat) (c0 c1 : Int) (older : List PanicEntry) (w : World) (z0 z1 : Value) (hM : w.heap[M]? = some (.cells #[z0, z1] 52 (0, 0))) :
    CallsD prog 123 #[.pointer (some ⟨M, 0, none⟩)] (.panicking ({ v := .iface 52 (.agg #[.int .i64 c0, .int .i64 c1]), recovered := false } :: older)) w fun e u' w' => e = .returned (.tuple #[]) /\
      u' = .panicking ({ v := .iface 52 (.agg #[.int .i64 c0, .int .i64 c1]), recovered := true } :: older) /\
        w'.heap[M]? = some (.cells #[.int .i64 c0, .int .i64 c1] 52 (0, 0)) /\ ∀ n, n <= M -> Below n w w' := by
  have hMl : M < w.heap.size := (Array.getElem?_eq_some_iff.1 hM).1
  obtain ⟨W, hW⟩ : ∃ W, w.alloc (.cells #[.int .i64 c0, .int .i64 c1] 52) = W := ⟨_, rfl⟩
  have hM1 : W.heap[M]? = some (.cells #[z0, z1] 52 (0, 0)) := by rw [<- hW, Below.heap_alloc _ _ _ hMl]; exact hM
  have hF1 : W.heap[w.heap.size]? = some (.cells #[.int .i64 c0, .int .i64 c1] 52 (0, 0)) := by rw [<- hW]; exact heap_alloc_new w _
  have hB : Below w.heap.size w W := by rw [<- hW]; exact (Below.refl _ w).alloc (Nat.le_refl _) _
  have e0 := cell_of hM1 0 _ rfl
  have e1 := cell_of hM1 1 _ rfl
  have g0 := TBase.frozen_box hM1 0
  have g1 := TBase.frozen_box hM1 1
  have a0 := cell_of hF1 0 _ rfl
  have a1 := cell_of hF1 1 _ rfl
  have n5 : M ≠ w.heap.size := by omega
  have n6 : w.heap.size ≠ M := by omega
  refine callsD_of_wpS func123 rfl fun c₀ cs hu => ?_
  apply wpS_seq
  apply wpS_region
  simp [wpOpsS, go_sem, recoverD, hu, ntmps123, Exit.thenS, as_yes]
  refine wpS_of_wp ?_
  rw [hW]
  refine wp_tmps (#[.pointer (some ⟨M, 0, none⟩), .pointer (some ⟨w.heap.size, 0, none⟩), .bool true, .tuple #[.agg #[.int .i64 c0, .int .i64 c1], .bool true], .iface 52 (.agg #[.int .i64 c0, .int .i64 c1]), .tuple #[.agg #[.int .i64 c0, .int .i64 c1], .bool true], .agg #[.int .i64 c0, .int .i64 c1], .bool true, undef, undef]) (by kernel_rfl) ?_
  have HM1 : Hid (W.heap[M]? = some (.cells #[z0, z1] 52 (0, 0))) := hM1
  have HB : Hid (Below w.heap.size w W) := hB
  clear hM1 hF1 hB hM hW
  go_wp2_with fail
  refine ⟨rfl, _, rfl, .tuple #[], results_none rfl _ _ _, rfl, rfl, ?_, fun n hM => (((HB.out.mono (by omega)).setCell (p := ⟨M, 0, none⟩) hM _).setCell (p := ⟨M, 1, none⟩) hM _)⟩
  show ((W.setCell ⟨M, 0, none⟩ _).setCell ⟨M, 1, none⟩ _).heap[M]? = _
  rw [block_set (block_set HM1.out _) _]
  rfl
theorem idle_p (p : Addr) (w : World) :
    CallsD prog 55 #[.pointer (some p)] .returning w fun e u' w' => e = .returned (.tuple #[]) /\ u' = .returning /\ Below w.heap.size w w' := by
  refine callsD_of_wpS func55 rfl fun c₀ cs hu => ?_
  apply wpS_seq
  apply wpS_region
  simp [wpOpsS, go_sem, recoverD, hu, ntmps55, Exit.thenS, as_no]
  refine wpS_of_wp ?_
  refine wp_tmps (#[.pointer (some p), .pointer (some ⟨w.heap.size, 0, none⟩), .bool false, .tuple #[.agg #[.int .i64 0, .int .i64 0], .bool false], .nilIface, .tuple #[.agg #[.int .i64 0, .int .i64 0], .bool false], .agg #[.int .i64 0, .int .i64 0], .bool false, undef, undef]) (by kernel_rfl) ?_
  go_wp2
  cases c₀
  simp_all [bodyPostS, results, results55]
  exact (Below.refl _ w).alloc (Nat.le_refl _) _
theorem fault_p (M : Nat) (c0 c1 : Int) (older : List PanicEntry) (w : World) (z0 z1 : Value) (hM : w.heap[M]? = some (.cells #[z0, z1] 52 (0, 0))) :
    CallsD prog 55 #[.pointer (some ⟨M, 0, none⟩)] (.panicking ({ v := .iface 52 (.agg #[.int .i64 c0, .int .i64 c1]), recovered := false } :: older)) w fun e u' w' => e = .returned (.tuple #[]) /\
      u' = .panicking ({ v := .iface 52 (.agg #[.int .i64 c0, .int .i64 c1]), recovered := true } :: older) /\
        w'.heap[M]? = some (.cells #[.int .i64 c0, .int .i64 c1] 52 (0, 0)) /\ ∀ n, n <= M -> Below n w w' := by
  have hMl : M < w.heap.size := (Array.getElem?_eq_some_iff.1 hM).1
  obtain ⟨W, hW⟩ : ∃ W, w.alloc (.cells #[.int .i64 c0, .int .i64 c1] 52) = W := ⟨_, rfl⟩
  have hM1 : W.heap[M]? = some (.cells #[z0, z1] 52 (0, 0)) := by rw [<- hW, Below.heap_alloc _ _ _ hMl]; exact hM
  have hF1 : W.heap[w.heap.size]? = some (.cells #[.int .i64 c0, .int .i64 c1] 52 (0, 0)) := by rw [<- hW]; exact heap_alloc_new w _
  have hB : Below w.heap.size w W := by rw [<- hW]; exact (Below.refl _ w).alloc (Nat.le_refl _) _
  have e0 := cell_of hM1 0 _ rfl
  have e1 := cell_of hM1 1 _ rfl
  have g0 := TBase.frozen_box hM1 0
  have g1 := TBase.frozen_box hM1 1
  have a0 := cell_of hF1 0 _ rfl
  have a1 := cell_of hF1 1 _ rfl
  have n5 : M ≠ w.heap.size := by omega
  have n6 : w.heap.size ≠ M := by omega
  refine callsD_of_wpS func55 rfl fun c₀ cs hu => ?_
  apply wpS_seq
  apply wpS_region
  simp [wpOpsS, go_sem, recoverD, hu, ntmps55, Exit.thenS, as_yes]
  refine wpS_of_wp ?_
  rw [hW]
  refine wp_tmps (#[.pointer (some ⟨M, 0, none⟩), .pointer (some ⟨w.heap.size, 0, none⟩), .bool true, .tuple #[.agg #[.int .i64 c0, .int .i64 c1], .bool true], .iface 52 (.agg #[.int .i64 c0, .int .i64 c1]), .tuple #[.agg #[.int .i64 c0, .int .i64 c1], .bool true], .agg #[.int .i64 c0, .int .i64 c1], .bool true, undef, undef]) (by kernel_rfl) ?_
  have HM1 : Hid (W.heap[M]? = some (.cells #[z0, z1] 52 (0, 0))) := hM1
  have HB : Hid (Below w.heap.size w W) := hB
  clear hM1 hF1 hB hM hW
  go_wp2_with fail
  refine ⟨rfl, _, rfl, .tuple #[], results_none rfl _ _ _, rfl, rfl, ?_, fun n hM => (((HB.out.mono (by omega)).setCell (p := ⟨M, 0, none⟩) hM _).setCell (p := ⟨M, 1, none⟩) hM _)⟩
  show ((W.setCell ⟨M, 0, none⟩ _).setCell ⟨M, 1, none⟩ _).heap[M]? = _
  rw [block_set (block_set HM1.out _) _]
  rfl
end Go.Proofs.YtaiackmmmlhgbaaGreat.YCa
namespace Go.Proofs.YtaiackmmmlhgbaaGreat.YEn
open Go.RowKit Leb YPl YWr YWo YRr
open TBase (T)
open TVisit (Lo keep_lo)
def InPg (K m : Nat) (w : World) (v : Value) (x : Pg) : Prop := ∃ a n1 c1 b n2 c2 c n3 c3 d n4 c4, v = .agg #[.slice a n1 c1, .slice b n2 c2, .slice c n3 c3, .slice d n4 c4] /\ Rr 1 LyS K w (.slice a n1 c1) x.t /\ Rr 1 (LyC K) K w (.slice b n2 c2) x.c /\ TBase.InL false (Lo K) w m (.slice c n3 c3) x.s /\ Rr 3 (LyB K) K w (.slice d n4 c4) x.b
theorem InPg.below {K m : Nat} {w w' : World} {v : Value} {x : Pg} (h : InPg K m w v x) (hb : Below K w w') : InPg K m w' v x := by
  obtain ⟨a, n1, c1, b, n2, c2, c, n3, c3, d, n4, c4, rfl, h1, h2, h3, h4⟩ := h
  exact ⟨a, n1, c1, b, n2, c2, c, n3, c3, d, n4, c4, rfl, Rr.keep h1 (Nat.le_refl _) fun g o x _ hg h => h.below hb hg, Rr.keep h2 (Nat.le_refl _) fun g o x _ hg h => h.below hb hg, h3.keep (keep_lo hb), Rr.keep h4 (Nat.le_refl _) fun g o x _ hg h => h.below hb hg⟩
theorem InPg.up {K K' m : Nat} {w : World} {v : Value} {x : Pg} (h : InPg K m w v x) (hk : K <= K') : InPg K' m w v x := by
  obtain ⟨a, n1, c1, b, n2, c2, c, n3, c3, d, n4, c4, rfl, h1, h2, h3, h4⟩ := h
  exact ⟨a, n1, c1, b, n2, c2, c, n3, c3, d, n4, c4, rfl, Rr.keep h1 hk fun g o x _ hg h => h, Rr.keep h2 hk fun g o x _ hg h => h.up hk, h3.weak (fun b hb => Nat.lt_of_lt_of_le hb hk) false id m (Nat.le_refl _), Rr.keep h4 hk fun g o x _ hg h => h.up hk⟩
def WE (K : Nat) (a : Except Nat By) (w : World) (e : Ending) (w' : World) : Prop := Below K w w' /\ w.heap.size <= w'.heap.size /\ match a with
  | .ok X => ∃ p n c, e = .returned (.slice p n c) /\ Own w' K (.slice p n c) X
  | .error q => e = .panicked (pkF q 0)
theorem written_c {K m : Nat} {w : World} {v : Value} (x : Pg) (hI : InPg K m w v x) (hK : K <= w.heap.size) :
    Calls prog 77 #[v] w fun e w' => WE K (enc x) w e w' := by
  obtain ⟨a, n1, c1, b, n2, c2, c, n3, c3, d, n4, c4, rfl, h1, h2, h3, h4⟩ := hI
  obtain ⟨W0, hW0⟩ : ∃ W, w.alloc (.cells #[.slice a n1 c1, .slice b n2 c2, .slice c n3 c3, .slice d n4 c4] 29) = W := ⟨_, rfl⟩
  obtain ⟨W1, hW1⟩ : ∃ W, W0.alloc (.cells #[.slice none 0 0] 174) = W := ⟨_, rfl⟩
  have b0 : Below w.heap.size w W0 := by rw [<- hW0]; exact (Below.refl _ w).alloc (Nat.le_refl _) _
  have s0 : W0.heap.size = w.heap.size + 1 := by rw [<- hW0]; simp
  have b1 : Below W0.heap.size W0 W1 := by rw [<- hW1]; exact (Below.refl _ W0).alloc (Nat.le_refl _) _
  have g0 : W0.heap[w.heap.size]? = some (.cells #[.slice a n1 c1, .slice b n2 c2, .slice c n3 c3, .slice d n4 c4] 29 (0, 0)) := by rw [<- hW0]; exact heap_alloc_new w _
  have q0 := (b1.block w.heap.size (by omega)).trans g0
  have q1 : W1.heap[w.heap.size + 1]? = some (.cells #[.slice none 0 0] 174 (0, 0)) := by rw [<- s0, <- hW1]; exact heap_alloc_new W0 _
  have b01 : Below w.heap.size w W1 := b0.trans (b1.mono b0.size)
  have bK := b01.mono hK
  have hW : Wr K W1 (w.heap.size + 1) [] := ⟨by omega, by simp, _, q1, World.ownsRow_nil _ _ _ _⟩
  have k0 : Below K w W1 := bK
  have cP := YPg.program_c (K := K) (B := w.heap.size + 1) (L := []) x (Rr.keep h1 (Nat.le_refl _) fun g o x _ hg h => h.below bK hg) (Rr.keep h2 (Nat.le_refl _) fun g o x _ hg h => h.below bK hg) (h3.keep (keep_lo bK)) (Rr.keep h4 (Nat.le_refl _) fun g o x _ hg h => h.below bK hg) hW (Nat.le_trans hK b01.size)
  have z0 := cell_of q0 0 _ rfl
  have z1 := cell_of q0 1 _ rfl
  have z2 := cell_of q0 2 _ rfl
  have z3 := cell_of q0 3 _ rfl
  have H01 : Hid (Below K w W1 /\ w.heap.size <= W1.heap.size) := ⟨bK, b01.size⟩
  clear h1 h2 h3 h4 b0 b1 g0 q0 q1 b01 bK hW k0
  go_enter func77, ntmps77
  go_wp2_with fail
  try rw [hW0]
  try rw [s0]
  try rw [hW1]
  refine cP.mono ?_
  rintro e W2 ⟨b2, f2, hA⟩
  have H2 : Hid (Below K w W2 /\ w.heap.size <= W2.heap.size) := ⟨H01.out.1.trans b2, Nat.le_trans H01.out.2 f2.1⟩
  clear cP b2 f2 z0 z1 z2 z3
  cases hP : prg x with
  | none =>
    rw [hP] at hA
    obtain rfl := hA
    exact ⟨rfl, by rw [show enc x = .error 2100 by unfold enc; rw [hP]]; exact ⟨H2.out.1, H2.out.2, rfl⟩⟩
  | some Xs =>
  rw [hP] at hA
  obtain ⟨rfl, hWr⟩ := hA
  have cF := full_c hWr
  obtain ⟨hKB, hlen, v, hB, ho⟩ := hWr
  obtain ⟨av, cv, rfl⟩ : ∃ a c, v = .slice a (pts [] Xs).length c := by obtain ⟨a, c, h, -⟩ := ho.seen; exact ⟨a, c, h⟩
  have z0 := cell_of hB 0 _ rfl
  have HO : Hid _ := ho
  clear hB ho
  by_cases hl : 1048576 < (pts [] Xs).length
  · rw [decide_eq_true hl] at cF
    go_wp2_with fail
    refine cF.mono ?_
    rintro e W3 ⟨rfl, rfl⟩
    go_wp2_with fail
    exact ⟨rfl, by rw [show enc x = .error 2101 by unfold enc; rw [hP]; simp only [hl, if_true]]; exact ⟨H2.out.1, H2.out.2, rfl⟩⟩
  · rw [decide_eq_false hl] at cF
    go_wp2_with fail
    refine cF.mono ?_
    rintro e W3 ⟨rfl, rfl⟩
    go_wp2_with fail
    go_ret
    rw [show enc x = .ok (pts [] Xs) by unfold enc; rw [hP]; simp only [hl, if_false]]
    exact ⟨H2.out.1, H2.out.2, _, _, _, rfl, HO.out⟩
theorem clos_c {K m X : Nat} {w : World} {x : Pg} {cs : Array Value} (hX : w.heap[X]? = some (.cells cs 29 (0, 0))) (hI : InPg K m w (.agg cs) x) (hK : K <= w.heap.size) :
    Calls prog 76 #[ptw X] w fun e w' => WE w.heap.size (enc x) w e w' := by
  have cW := written_c x (hI.up hK) (Nat.le_refl _)
  obtain ⟨a, n1, c1, b, n2, c2, c, n3, c3, d, n4, c4, he, -⟩ := hI
  cases he
  have z0 := cell_of hX 0 _ rfl
  have z1 := cell_of hX 1 _ rfl
  have z2 := cell_of hX 2 _ rfl
  have z3 := cell_of hX 3 _ rfl
  clear hX
  go_enter func76, ntmps76
  go_wp2_with fail
  refine cW.mono ?_
  rintro e w1 ⟨b1, s1, hA⟩
  cases hE : enc x with
  | error q =>
    rw [hE] at hA
    obtain rfl := hA
    exact ⟨rfl, b1, s1, by rw [hE]⟩
  | ok Y =>
    rw [hE] at hA
    obtain ⟨p, n, c, rfl, ho⟩ := hA
    have HO : Hid _ := ho
    clear ho
    go_wp2_with fail
    go_ret
    exact ⟨b1, s1, by rw [hE]; exact ⟨_, _, _, rfl, HO.out⟩⟩
abbrev clE (X : Nat) : Value := .func (.func 76) #[] #[ptw X]
def CB (a : Except Nat By) (w : World) (e : Ending) (w' : World) : Prop := Below w.heap.size w w' /\ match a with
  | .ok X => ∃ p n c, e = .returned (.tuple #[.slice p n c, .agg #[.int .i64 0, .int .i64 0]]) /\ Own w' w.heap.size (.slice p n c) X
  | .error q => e = .returned (.tuple #[.slice none 0 0, .agg #[.int .i64 (q : Nat), .int .i64 0]])
theorem own_set {w : World} {K M : Nat} {v : Value} {X : By} {cs : Array Value} (hM : w.heap[M]? = some (.cells cs 52 (0, 0))) (h : Own w K v X) (j : Nat) (u : Value) : Own (w.setCell ⟨M, j, none⟩ u) K v X := by
  have hg : w.grownBy (w.setCell ⟨M, j, none⟩ u) (some M) := ⟨rfl, rfl, rfl, by simp, fun k hk hne => Below.heap_setCell _ _ _ _ (fun e => hne (by rw [e]))⟩
  refine h.kept hg (.inr fun hv => ?_)
  rcases h.2 with ⟨rfl, h0⟩ | ⟨g, cap, cur, rfl, hb, hh, hn, hm, _⟩
  · cases hv
  · obtain rfl : g = M := by simpa [Value.ownBlock] using hv
    rw [hM] at hh
    simp at hh
theorem caught_c {X : Nat} {w : World} {a : Except Nat By} (cR : ∀ W, Below w.heap.size w W -> Calls prog 76 #[ptw X] W fun e w' => WE W.heap.size a W e w') :
    Calls prog 75 #[clE X] w fun e w' => CB a w e w' := by
  have hmf : ∀ (fn : Fn) (first cap : Array Value) (w : World), (Instr.makeFunc fn first cap).run prog w = .ok (.func fn first cap) w := fun _ _ _ _ => rfl
  obtain ⟨W, hW⟩ : ∃ W, w.alloc (.cells #[.int .i64 0, .int .i64 0] 52) = W := ⟨_, rfl⟩
  have bW : Below w.heap.size w W := by rw [<- hW]; exact (Below.refl _ w).alloc (Nat.le_refl _) _
  have sW : W.heap.size = w.heap.size + 1 := by rw [<- hW]; simp
  have zM : W.heap[w.heap.size]? = some (.cells #[.int .i64 0, .int .i64 0] 52 (0, 0)) := by rw [<- hW]; exact heap_alloc_new w _
  have cV := cR W bW
  have HB : Hid (Below w.heap.size w W) := bW
  have HM : Hid _ := zM
  clear bW zM cR
  go_enter_defers func75, ntmps75
  go_wp2_with fail
  try rw [hW]
  refine cV.mono ?_
  rintro e W1 ⟨hb1, hs1, hA⟩
  have m1 := (hb1.block w.heap.size (by omega)).trans HM.out
  have HB1 : Hid (Below w.heap.size w W1) := HB.out.trans (hb1.mono HB.out.size)
  clear cV hb1 HM HB hW
  cases a with
  | error q =>
    obtain rfl := hA
    refine leaves_cons (f := 123) (args := #[.pointer (some ⟨w.heap.size, 0, none⟩)]) (by simp) (by simp [go_sem]) ?_
    refine (YCa.fault_b w.heap.size (q : Nat) 0 [] W1 _ _ m1).mono ?_
    rintro e u' w5 ⟨rfl, rfl, r2, r3⟩
    have q0 := cell_of r2 0 _ rfl
    have q1 := cell_of r2 1 _ rfl
    have HD : Hid (Below w.heap.size w w5) := HB1.out.trans (r3 _ (Nat.le_refl _))
    simp [Leaves, settle, results, results75, go_sem, q0, q1]
    exact ⟨HD.out, rfl⟩
  | ok Y =>
    obtain ⟨p, n, c, rfl, ho⟩ := hA
    have e0 := cell_of m1 0 _ rfl
    have e1 := cell_of m1 1 _ rfl
    have f0 := TBase.frozen_box m1 0
    have f1 := TBase.frozen_box m1 1
    obtain ⟨W3, hW3⟩ : ∃ W3, (W1.setCell ⟨w.heap.size, 0, none⟩ (.int .i64 0)).setCell ⟨w.heap.size, 1, none⟩ (.int .i64 0) = W3 := ⟨_, rfl⟩
    have m2 := YCa.block_set (j := 0) m1 (.int .i64 0)
    have m3 : W3.heap[w.heap.size]? = some (.cells #[.int .i64 0, .int .i64 0] 52 (0, 0)) := by rw [<- hW3, YCa.block_set m2]; rfl
    have b3 : Below w.heap.size W1 W3 := by rw [<- hW3]; exact ((Below.refl _ _).setCell (p := ⟨w.heap.size, 0, none⟩) (Nat.le_refl _) _).setCell (p := ⟨w.heap.size, 1, none⟩) (Nat.le_refl _) _
    have o3 : Own W3 w.heap.size (.slice p n c) Y := by rw [<- hW3]; exact own_set m2 (own_set m1 (YWr.own_low ho (by omega)) _ _) _ _
    have HD : Hid (Below w.heap.size w W3) := HB1.out.trans b3
    have HO : Hid _ := o3
    have M3 : Hid _ := m3
    clear ho o3 m1 m2 m3 b3
    go_wp2_with fail
    try rw [hW3]
    refine leaves_cons (f := 123) (args := #[.pointer (some ⟨w.heap.size, 0, none⟩)]) (by simp) (by simp [go_sem]) ?_
    refine (YCa.idle_b ⟨w.heap.size, 0, none⟩ W3).mono ?_
    rintro e u' w5 ⟨rfl, rfl, b5⟩
    have m5 := (b5.block w.heap.size ((Array.getElem?_eq_some_iff.1 M3.out).1)).trans M3.out
    have p0 := cell_of m5 0 _ rfl
    have p1 := cell_of m5 1 _ rfl
    have HD5 : Hid (Below w.heap.size w w5) := HD.out.trans (b5.mono HD.out.size)
    have HO5 : Hid (Own w5 w.heap.size (.slice p n c) Y) := YWr.own_below HO.out b5
    simp [Leaves, settle, results, results75, go_sem, p0, p1]
    exact ⟨HD5.out, _, _, _, rfl, HO5.out⟩
end Go.Proofs.YtaiackmmmlhgbaaGreat.YEn
namespace Go.Proofs.YtaiackmmmlhgbaaGreat.YRp
open Go.RowKit YPl YRd YWr YRr YRs YRb YRl YRt YRn
open TBase (T Keep)
theorem static_c {K R p k : Nat} {w : World} {b : By} (h : Rb K w R b p k) :
    Calls prog 63 #[ptw R] w fun e w' => RT K R b (VA (HdT 65)) (rnd b 64 p 0) w e w' := by
  have hRlt := h.lt
  obtain ⟨W0, hW0⟩ : ∃ W, w.alloc (.cells #[.string ⟨#[]⟩, .string ⟨#[]⟩, .slice none 0 0, .slice none 0 0] 68) = W := ⟨_, rfl⟩
  have b0 : Below w.heap.size w W0 := by rw [<- hW0]; exact (Below.refl _ w).alloc (Nat.le_refl _) _
  have s0 : w.heap.size < W0.heap.size := by rw [<- hW0]; simp
  have g0 : W0.heap[w.heap.size]? = some (.cells #[.string ⟨#[]⟩, .string ⟨#[]⟩, .slice none 0 0, .slice none 0 0] 68 (0, 0)) := by rw [<- hW0]; exact heap_alloc_new w _
  have hR0 := Rb.below h b0
  obtain ⟨W1, hW1⟩ : ∃ W, W0.setCell ⟨R, 2, none⟩ (.int .i64 0) = W := ⟨_, rfl⟩
  have hz := Rb.setk (j := 0) (z := 0) hR0 rfl (by omega)
  rw [hW1] at hz
  obtain ⟨-, -, -, -, -, ia, il, ic, h6, -, -⟩ := hR0
  have y2 := cell_of h6 2 _ rfl
  have fy := TBase.frozen_box h6 2
  have c1 := nodes (K := K) (R := R) (b := b) 64 (by omega) W1 p 0 1 (by omega) hz.1 (by omega)
  have G1 : Hid (Gx R w W1 /\ Gx R W0 W1) := ⟨Gx.trans (Gx.of b0) hz.2, hz.2⟩
  have HZ : Hid _ := g0
  obtain ⟨A, hE⟩ : ∃ A, rnd b 64 p 0 = A := ⟨_, rfl⟩
  rw [hE] at c1 ⊢
  clear h b0 g0 h6 hz hE
  go_enter func63, ntmps63
  go_wp2_with fail
  try rw [hW0]
  try rw [hW1]
  refine c1.mono ?_
  rintro e W2 ⟨g2, hA⟩
  cases A with
  | error z =>
    obtain rfl := hA
    exact ⟨rfl, Gx.trans G1.out.1 g2, rfl⟩
  | ok t =>
    obtain ⟨x, q, k2⟩ := t
    obtain ⟨ve, rfl, ⟨cc, rfl, nv, lv, rfl, hin⟩, hR2, hk2⟩ := hA
    obtain ⟨na, nn, nc, rfl⟩ : ∃ a n c, nv = .slice a n c := by obtain ⟨m', nv', lv', -, e, -, -, ⟨a, c, h, -⟩, -⟩ := hin.shape; cases e; exact ⟨_, _, _, h⟩
    obtain ⟨la, ln, lc, rfl⟩ : ∃ a n c, lv = .slice a n c := by obtain ⟨m', nv', lv', -, e, -, -, -, ⟨a, c, h, -⟩⟩ := hin.shape; cases e; exact ⟨_, _, _, h⟩
    have hz := ((Gx.trans G1.out.2 g2).block w.heap.size s0 (fun e => by cases e; omega)).trans HZ.out
    have z0 := cell_of hz 0 _ rfl
    have z1 := cell_of hz 1 _ rfl
    have z2 := cell_of hz 2 _ rfl
    have z3 := cell_of hz 3 _ rfl
    have f0 := TBase.frozen_box hz 0
    have f1 := TBase.frozen_box hz 1
    have f2 := TBase.frozen_box hz 2
    have f3 := TBase.frozen_box hz 3
    obtain ⟨W9, hW9⟩ : ∃ W, (((W2.setCell ⟨w.heap.size, 0, none⟩ (.string x.g)).setCell ⟨w.heap.size, 1, none⟩ (.string x.s)).setCell ⟨w.heap.size, 2, none⟩ (.slice na nn nc)).setCell ⟨w.heap.size, 3, none⟩ (.slice la ln lc) = W := ⟨_, rfl⟩
    obtain ⟨hn, hg9⟩ := YRg.set4 _ _ _ _ hz hW9
    have l1 := G1.out.2.size
    have l2 := g2.size
    have l9 := hg9.size
    have HN : Hid _ := hn
    have HG9 : Hid (Gx R w W9) := gx_row (Gx.trans G1.out.1 g2) hg9 (fun r hr => by cases hr; exact Nat.le_refl _)
    have HR9 : Hid (Rb K W9 R b q k2) := Rb.row (lo := w.heap.size) hR2 hg9 hRlt (fun r hr => by cases hr; exact Nat.le_refl _)
    have HI : Hid (TBase.In false (fun g => w.heap.size <= g /\ g < W9.heap.size) W9 65 (.agg #[.string x.g, .string x.s, .slice na nn nc, .slice la ln lc]) x) := (hin.keep (w' := W9) (fun g hg hl => hg9.block g hl (fun e => by cases e; omega))).weak (fun g hg => by constructor <;> omega) false id _ (Nat.le_refl _)
    clear hz hn hg9 hin hR2 g2 c1
    go_wp2_with fail
    try rw [hW9]
    refine bodyPost_ret (results_cell_row rfl _ W9 w.heap.size 68 _ (0, 0) _ rfl HN.out underlying68 rfl (by kernel_rfl)) rfl ?_
    exact ⟨HG9.out, _, rfl, ⟨_, rfl, _, _, rfl, HI.out⟩, HR9.out, hk2⟩
def HvP (S : Nat -> Prop) (w : World) (v : Value) (x : Pg) : Prop := ∃ a n1 c1 b n2 c2 c n3 c3 d n4 c4, v = .agg #[.slice a n1 c1, .slice b n2 c2, .slice c n3 c3, .slice d n4 c4] /\ RrS 1 LyS S w (.slice a n1 c1) x.t /\ RrS 1 (LyCs S) S w (.slice b n2 c2) x.c /\ TBase.InL false S w 65 (.slice c n3 c3) x.s /\ RrS 3 (LyBs S) S w (.slice d n4 c4) x.b
theorem HvP.pg {S : Nat -> Prop} {w : World} {v : Value} {x : Pg} {K : Nat} (h : HvP S w v x) (hS : ∀ b, S b -> b < K) : YEn.InPg K 65 w v x := by
  obtain ⟨a, n1, c1, b, n2, c2, c, n3, c3, d, n4, c4, rfl, h1, h2, h3, h4⟩ := h
  refine ⟨a, n1, c1, b, n2, c2, c, n3, c3, d, n4, c4, rfl, h1.rr hS fun g o x _ h => h, h2.rr hS fun g o x _ h => ?_, h3.weak hS false id 65 (Nat.le_refl _), h4.rr hS fun g o x _ h => ?_⟩
  · obtain ⟨v, k1, k2⟩ := h
    exact ⟨v, k1, k2.rr hS fun g o x _ h => h⟩
  · obtain ⟨v, u, k1, k2, k3, k4, k5, k6⟩ := h
    refine ⟨v, u, k1, k2, k3, k4, k5.rr hS fun g o x _ h => ?_, k6.rr hS fun g o x _ h => h⟩
    obtain ⟨v, j1, j2, j3, j4, j5, j6, j7⟩ := h
    exact ⟨v, j1, j2, j3, j4, j5, j6, j7.rr hS fun g o x _ h => h⟩
theorem HvP.keep {S S' : Nat -> Prop} {w w' : World} {v : Value} {x : Pg} (hk : Keep S w w') (hS : ∀ b, S b -> S' b) (h : HvP S w v x) : HvP S' w' v x := by
  obtain ⟨a, n1, c1, b, n2, c2, c, n3, c3, d, n4, c4, rfl, h1, h2, h3, h4⟩ := h
  exact ⟨a, n1, c1, b, n2, c2, c, n3, c3, d, n4, c4, rfl, h1.keep hS fun g o x _ hg h => kS hk hg h, h2.keep hS fun g o x _ hg h => kC hk hS hg h, (h3.keep hk).weak hS false id 65 (Nat.le_refl _), h4.keep hS fun g o x _ hg h => kB hk hS hg h⟩
end Go.Proofs.YtaiackmmmlhgbaaGreat.YRp
namespace Go.Proofs.YtaiackmmmlhgbaaGreat.YRsf
open Go.RowKit Leb YPl YRr
open TBase (T Keep)
def RrS {α : Type} (n : Nat) (Ly : World -> Nat -> Nat -> α -> Prop) (S : Nat -> Prop) (w : World) (v : Value) (l : List α) : Prop :=
  ∃ a cap, v = .slice a l.length cap /\ l.length <= cap /\ cap <= 9223372036854775807 /\ l.length <= 140737488351232 /\ (a = none -> cap = 0) /\ (l = [] \/ ∃ g o, a = some ⟨g, o, none⟩ /\ S g /\ ∀ j (h : j < l.length), Ly w g (o + j * n) l[j])
def NfB (w : World) (b : Nat) : Prop := ∀ j, w.frozen? ⟨b, j, none⟩ = false
theorem NfB.keep {w w' : World} {b : Nat} (h : NfB w b) (hb : w'.heap[b]? = w.heap[b]?) : NfB w' b := fun j => (World.frozen?_of_block (w := w) hb).trans (h j)
structure Bz (w : World) (lo b : Nat) : Prop where
  at' : lo <= b /\ b < w.heap.size
  nf : NfB w b
theorem bz_up {A B : World} {lo lo' : Nat} (hk : Keep (Bz A lo) A B) (h1 : lo' <= lo) (h2 : A.heap.size <= B.heap.size) : ∀ g, Bz A lo g -> Bz B lo' g := fun g h => ⟨⟨Nat.le_trans h1 h.at'.1, Nat.lt_of_lt_of_le h.at'.2 h2⟩, h.nf.keep (hk g h h.at'.2)⟩
theorem RrS.keep {α : Type} {n : Nat} {Ly Ly' : World -> Nat -> Nat -> α -> Prop} {S S' : Nat -> Prop} {w w' : World} {v : Value} {l : List α} (h : RrS n Ly S w v l) (hS : ∀ b, S b -> S' b) (hl : ∀ g o x, x ∈ l -> S g -> Ly w g o x -> Ly' w' g o x) : RrS n Ly' S' w' v l := by
  obtain ⟨a, cap, h1, h2, h3, h4, h5, h6⟩ := h
  refine ⟨a, cap, h1, h2, h3, h4, h5, ?_⟩
  rcases h6 with h6 | ⟨g, o, ha, hg, hc⟩
  · exact .inl h6
  · exact .inr ⟨g, o, ha, hS _ hg, fun j hj => hl _ _ _ (List.getElem_mem hj) hg (hc j hj)⟩
theorem RrS.rr {α : Type} {n K : Nat} {Ly Ly' : World -> Nat -> Nat -> α -> Prop} {S : Nat -> Prop} {w : World} {v : Value} {l : List α} (h : RrS n Ly S w v l) (hS : ∀ b, S b -> b < K) (hl : ∀ g o x, x ∈ l -> Ly w g o x -> Ly' w g o x) : Rr n Ly' K w v l := by
  obtain ⟨a, cap, h1, h2, h3, h4, h5, h6⟩ := h
  refine ⟨a, cap, h1, h2, h3, h4, h5, ?_⟩
  rcases h6 with h6 | ⟨g, o, ha, hg, hc⟩
  · exact .inl h6
  · exact .inr ⟨g, o, ha, hS _ hg, fun j hj => hl _ _ _ (List.getElem_mem hj) (hc j hj)⟩
theorem RrS.slice {α : Type} {n : Nat} {Ly : World -> Nat -> Nat -> α -> Prop} {S : Nat -> Prop} {w : World} {v : Value} {l : List α} (h : RrS n Ly S w v l) : ∃ a m c, v = .slice a m c := by
  obtain ⟨a, cap, h1, -⟩ := h
  exact ⟨_, _, _, h1⟩
section
variable {S S' : Nat -> Prop} {w w' : World} {g o : Nat}
theorem kS (hk : Keep S w w') (hg : S g) {x : ByteArray} (h : LyS w g o x) : LyS w' g o x := ⟨hk.cell hg h.1, h.2⟩
theorem kI (hk : Keep S w w') (hg : S g) {x : Int} (h : LyI w g o x) : LyI w' g o x := ⟨hk.cell hg h.1, h.2⟩
theorem kN (hk : Keep S w w') (hg : S g) {x : Ins} (h : LyN w g o x) : LyN w' g o x := ⟨hk.cell hg h.1, hk.cell hg h.2.1, h.2.2⟩
def LyOs (S : Nat -> Prop) (w : World) (g o : Nat) (x : Oq) : Prop := ∃ v, w.cell? ⟨g, o, none⟩ = some (.int .i64 x.k) /\ w.cell? ⟨g, o + 1, none⟩ = some (.int .i64 x.a) /\ w.cell? ⟨g, o + 2, none⟩ = some (.int .i64 x.b) /\ w.cell? ⟨g, o + 3, none⟩ = some (.int .i64 x.c) /\ w.cell? ⟨g, o + 4, none⟩ = some v /\ (i64 x.k /\ i64 x.a /\ i64 x.b /\ i64 x.c) /\ RrS 1 LyI S w v x.l
def LyCs (S : Nat -> Prop) (w : World) (g o : Nat) (x : List Ins) : Prop := ∃ v, w.cell? ⟨g, o, none⟩ = some v /\ RrS 2 LyN S w v x
def LyBs (S : Nat -> Prop) (w : World) (g o : Nat) (x : Bk) : Prop := ∃ v u, w.cell? ⟨g, o, none⟩ = some (.int .i64 x.d) /\ w.cell? ⟨g, o + 1, none⟩ = some v /\ w.cell? ⟨g, o + 2, none⟩ = some u /\ i64 x.d /\ RrS 5 (LyOs S) S w v x.o /\ RrS 1 LyI S w u x.u
def LyTs (m : Nat) (S : Nat -> Prop) (w : World) (g o : Nat) (t : T) : Prop := ∃ u, TBase.Four w g o u /\ TBase.In false S w m u t
theorem kO (hk : Keep S w w') (hS : ∀ b, S b -> S' b) (hg : S g) {x : Oq} (h : LyOs S w g o x) : LyOs S' w' g o x := by
  obtain ⟨v, h1, h2, h3, h4, h5, h6, h7⟩ := h
  exact ⟨v, hk.cell hg h1, hk.cell hg h2, hk.cell hg h3, hk.cell hg h4, hk.cell hg h5, h6, h7.keep hS fun g o x _ hg h => kI hk hg h⟩
theorem kC (hk : Keep S w w') (hS : ∀ b, S b -> S' b) (hg : S g) {x : List Ins} (h : LyCs S w g o x) : LyCs S' w' g o x := by
  obtain ⟨v, h1, h2⟩ := h
  exact ⟨v, hk.cell hg h1, h2.keep hS fun g o x _ hg h => kN hk hg h⟩
theorem kB (hk : Keep S w w') (hS : ∀ b, S b -> S' b) (hg : S g) {x : Bk} (h : LyBs S w g o x) : LyBs S' w' g o x := by
  obtain ⟨v, u, h1, h2, h3, h4, h5, h6⟩ := h
  exact ⟨v, u, hk.cell hg h1, hk.cell hg h2, hk.cell hg h3, h4, h5.keep hS fun g o x _ hg h => kO hk hS hg h, h6.keep hS fun g o x _ hg h => kI hk hg h⟩
end
abbrev Hdt (α : Type) := (Nat -> Prop) -> World -> List Value -> α -> Prop
def HdS : Hdt ByteArray := fun S w c x => c = [.string x] /\ x.size <= 140737488351232
def HdI : Hdt Int := fun S w c x => c = [.int .i64 x] /\ i64 x
def HdN : Hdt Ins := fun S w c x => c = [.int .i64 x.1, .int .i64 x.2] /\ i64 x.1 /\ i64 x.2
def HdA : Hdt (ByteArray × ByteArray) := fun S w c x => c = [.string x.1, .string x.2] /\ x.1.size <= 140737488351232 /\ x.2.size <= 140737488351232
def HdC : Hdt (List Ins) := fun S w c x => ∃ v, c = [v] /\ RrS 2 LyN S w v x
def HdO : Hdt Oq := fun S w c x => ∃ v, c = [.int .i64 x.k, .int .i64 x.a, .int .i64 x.b, .int .i64 x.c, v] /\ (i64 x.k /\ i64 x.a /\ i64 x.b /\ i64 x.c) /\ RrS 1 LyI S w v x.l
def HdB : Hdt Bk := fun S w c x => ∃ v u, c = [.int .i64 x.d, v, u] /\ i64 x.d /\ RrS 5 (LyOs S) S w v x.o /\ RrS 1 LyI S w u x.u
def HdT (m : Nat) : Hdt T := fun S w c x => ∃ nv lv, c = [.string x.g, .string x.s, nv, lv] /\ TBase.In false S w m (.agg #[.string x.g, .string x.s, nv, lv]) x
structure Stays {α : Type} (Hd : Hdt α) : Prop where
  out : ∀ {S S' : Nat -> Prop} {w w' : World} {c : List Value} {x : α}, Keep S w w' -> (∀ b, S b -> S' b) -> Hd S w c x -> Hd S' w' c x
theorem sS : Stays HdS := ⟨fun _ _ h => h⟩
theorem sI : Stays HdI := ⟨fun _ _ h => h⟩
theorem sN : Stays HdN := ⟨fun _ _ h => h⟩
theorem sA : Stays HdA := ⟨fun _ _ h => h⟩
theorem sC : Stays HdC := ⟨fun hk hS ⟨v, h1, h2⟩ => ⟨v, h1, h2.keep hS fun g o x _ hg h => kN hk hg h⟩⟩
theorem sO : Stays HdO := ⟨fun hk hS ⟨v, h1, h2, h3⟩ => ⟨v, h1, h2, h3.keep hS fun g o x _ hg h => kI hk hg h⟩⟩
theorem sB : Stays HdB := ⟨fun hk hS ⟨v, u, h1, h2, h3, h4⟩ => ⟨v, u, h1, h2, h3.keep hS fun g o x _ hg h => kO hk hS hg h, h4.keep hS fun g o x _ hg h => kI hk hg h⟩⟩
theorem sT {m : Nat} : Stays (HdT m) := ⟨fun hk hS ⟨nv, lv, h1, h2⟩ => ⟨nv, lv, h1, (h2.keep hk).weak hS false id m (Nat.le_refl _)⟩⟩
def Sx (lo : Nat) (w : World) (v : Value) (b : Nat) : Prop := lo <= b /\ b < w.heap.size /\ v.ownBlock ≠ some b /\ NfB w b
def RowI {α : Type} (Hd : Hdt α) (ty : TypeId) (n lo : Nat) (w : World) (v : Value) (l : List α) : Prop :=
  ∃ css : List (List Value), w.ownsRow lo ty n v l.length css.flatten /\ css.length = l.length /\ (∀ c ∈ css, c.length = n) /\ ∀ j (h1 : j < css.length) (h2 : j < l.length), Hd (Sx lo w v) w css[j] l[j]
theorem RowI.nil {α : Type} (Hd : Hdt α) (ty : TypeId) (n lo : Nat) (w : World) : RowI Hd ty n lo w (.slice none 0 0) [] := ⟨[], World.ownsRow_nil _ _ _ _, rfl, by simp, fun j h => by simp at h⟩
abbrev Gx (R : Nat) (w w' : World) : Prop := w.grownBy w' (some R)
theorem Gx.refl (R : Nat) (w : World) : Gx R w w := ⟨rfl, rfl, rfl, Nat.le_refl _, fun _ _ _ => rfl⟩
theorem Gx.trans {R : Nat} {a b c : World} (h : Gx R a b) (g : Gx R b c) : Gx R a c := ⟨g.os.trans h.os, g.tape.trans h.tape, g.output.trans h.output, Nat.le_trans h.size g.size, fun k hk hR => (g.block k (by have := h.size; omega) hR).trans (h.block k hk hR)⟩
theorem Gx.of {R : Nat} {a b : World} (h : Below a.heap.size a b) : Gx R a b := ⟨h.os, h.tape, h.output, h.size, fun k hk _ => h.block k hk⟩
theorem Gx.below {R K : Nat} {a b : World} (h : Gx R a b) (hK : K <= R) (hKa : K <= a.heap.size) : Below K a b := ⟨h.os, h.tape, h.output, h.size, fun k hk => h.block k (by omega) (fun e => by cases e; omega)⟩
theorem RowI.other {α : Type} {Hd : Hdt α} (hs : Stays Hd) {ty : TypeId} {n lo R : Nat} {w w' : World} {v : Value} {l : List α} (h : RowI Hd ty n lo w v l) (hR : R < lo) (hg : Gx R w w') : RowI Hd ty n lo w' v l := by
  obtain ⟨css, h1, h2, h3, h4⟩ := h
  have hne : v.ownBlock ≠ some R := fun e => by have := (World.ownsRow.lt h1 R e).1; omega
  refine ⟨css, World.ownsRow.kept h1 hg (.inr hne), h2, h3, fun j a b => hs.out (S := Sx lo w v) (fun b hb hl => hg.block b hl (fun e => by cases e; have := hb.1; omega)) (fun b hb => ⟨hb.1, by have := hb.2.1; have := hg.size; omega, hb.2.2.1, hb.2.2.2.keep (hg.block b hb.2.1 (fun e => by cases e; have := hb.1; omega))⟩) (h4 j a b)⟩
theorem RowI.snoc {α : Type} {Hd : Hdt α} (hs : Stays Hd) {ty : TypeId} {n lo : Nat} {w2 w3 : World} {v v' : Value} {l : List α} {x : α} {c : List Value} {css : List (List Value)}
    (h1 : w2.ownsRow lo ty n v l.length css.flatten) (h2 : css.length = l.length) (h3 : ∀ c ∈ css, c.length = n) (h4 : ∀ j (h1 : j < css.length) (h2 : j < l.length), Hd (Sx lo w2 v) w2 css[j] l[j])
    (hx : Hd (Sx lo w2 v) w2 c x) (hc : c.length = n) (hgr : w2.grownBy w3 v.ownBlock) (hown : w3.ownsRow lo ty n v' (l.length + 1) (css.flatten ++ c)) (hb : v'.ownBlock = v.ownBlock \/ v'.ownBlock = some w2.heap.size) : RowI Hd ty n lo w3 v' (l ++ [x]) := by
  have kp : Keep (Sx lo w2 v) w2 w3 := fun b hb hl => hgr.block b hl (fun e => hb.2.2.1 e.symm)
  have up : ∀ b, Sx lo w2 v b -> Sx lo w3 v' b := fun b h => ⟨h.1, by have := h.2.1; have := hgr.size; omega, fun e => by
    rcases hb with hb | hb
    · exact h.2.2.1 (hb ▸ e)
    · rw [hb] at e; cases e; have := h.2.1; omega, h.2.2.2.keep (kp b h h.2.1)⟩
  refine ⟨css ++ [c], by rw [List.length_append]; simpa using hown, by simp [h2], fun d hd => ?_, fun j a b => ?_⟩
  · rcases List.mem_append.1 hd with hd | hd
    · exact h3 d hd
    · simp at hd; rw [hd]; exact hc
  · by_cases hj : j < css.length
    · rw [List.getElem_append_left hj, List.getElem_append_left (by omega)]
      exact hs.out kp up (h4 j hj (by omega))
    · obtain rfl : j = css.length := by simp at a; omega
      have e1 : (css ++ [c])[css.length]'a = c := by simp
      have e2 : (l ++ [x])[css.length]'b = x := by simp [h2]
      rw [e1, e2]
      exact hs.out kp up hx
theorem flat_at {n : Nat} {css : List (List Value)} (h3 : ∀ c ∈ css, c.length = n) : ∀ (j : Nat) (hj : j < css.length) (i : Nat), i < n -> css.flatten[j * n + i]? = css[j][i]? := by
  induction css with
  | nil => intro j hj; simp at hj
  | cons c r ih =>
    intro j hj i hi
    have hc : c.length = n := h3 c (by simp)
    cases j with
    | zero =>
      rw [List.flatten_cons, List.getElem?_append_left (by omega)]
      simp
    | succ j =>
      rw [List.flatten_cons, List.getElem?_append_right (by rw [hc, Nat.succ_mul]; omega), hc, show (j + 1) * n + i - n = j * n + i by rw [Nat.succ_mul]; omega, ih (fun d hd => h3 d (by simp [hd])) j (by simpa using hj) i hi]
      simp
theorem RowI.rr {α : Type} {Hd : Hdt α} {ty : TypeId} {n lo : Nat} {w : World} {v : Value} {l : List α} {Ly : World -> Nat -> Nat -> α -> Prop} {S : Nat -> Prop} (h : RowI Hd ty n lo w v l) (hl : l.length <= 140737488351232) (hS : ∀ b, lo <= b -> b < w.heap.size -> NfB w b -> S b)
    (hly : ∀ g o c x, S g -> (∀ i u, c[i]? = some u -> w.cell? ⟨g, o + i, none⟩ = some u) -> c.length = n -> Hd (Sx lo w v) w c x -> Ly w g o x) : RrS n Ly S w v l := by
  obtain ⟨css, h1, h2, h3, h4⟩ := h
  rcases h1.2 with ⟨rfl, h0⟩ | ⟨g, cap, cur, rfl, hb, hh, hn, hm, hcs, htk⟩
  · have : l = [] := List.eq_nil_of_length_eq_zero h0
    subst this
    exact ⟨none, 0, rfl, by simp, by omega, by simp, fun _ => rfl, .inl rfl⟩
  · have hlt := (World.ownsRow.lt h1 g rfl)
    refine ⟨_, cap, rfl, hn, by unfold maxLen at hm; omega, hl, (fun h => by cases h), .inr ⟨g, 0, rfl, hS g hlt.1 hlt.2 (fun j => TBase.frozen_box hh j), fun j hj => ?_⟩⟩
    have hjc : j < css.length := by omega
    refine hly g (0 + j * n) css[j] l[j] (hS g hlt.1 hlt.2 (fun j => TBase.frozen_box hh j)) (fun i u hu => ?_) (h3 _ (List.getElem_mem hjc)) (h4 j hjc hj)
    have hi : i < n := by
      have := (List.getElem?_eq_some_iff.1 hu).1
      rw [h3 _ (List.getElem_mem hjc)] at this
      exact this
    have hcl := World.ownsRow.cells (g := g) h1 rfl (j * n + i) u (by rw [flat_at h3 j hjc i hi]; exact hu)
    rw [Leb.add_none] at hcl
    rw [Nat.add_assoc]
    exact hcl
end Go.Proofs.YtaiackmmmlhgbaaGreat.YRsf
