/- Programs written: written, Encode. -/
import Derived.Test.YtgknjjaemjkloaaYNd
import Derived.Defers
import Derived.Recover
namespace Go.Proofs.Ytgknjjaemjkloaa.YPg
open Go.RowKit Go.Proofs.Ytgknjjaemjkloaa.Leb Go.Proofs.Ytgknjjaemjkloaa.YPl Go.Proofs.Ytgknjjaemjkloaa.YWr Go.Proofs.Ytgknjjaemjkloaa.YWo Go.Proofs.Ytgknjjaemjkloaa.YRr Go.Proofs.Ytgknjjaemjkloaa.YTr
open Go.Proofs.Ytgknjjaemjkloaa.TBase (T)
open Go.Proofs.Ytgknjjaemjkloaa.TVisit (Lo keep_lo)
set_option linter.unusedVariables false

set_option maxRecDepth 20000 in
set_option maxHeartbeats 1600000 in
theorem program_c {K B : Nat} {w : World} {L : By} {m : Nat} {a b c d : Option Addr} {n1 c1 n2 c2 n3 c3 n4 c4 : Nat} (x : Pg) (h1 : Rr 1 LyS K w (.slice a n1 c1) x.t) (h2 : Rr 1 (LyC K) K w (.slice b n2 c2) x.c) (h3 : TBase.InL false (Lo K) w m (.slice c n3 c3) x.s) (h4 : Rr 3 (LyB K) K w (.slice d n4 c4) x.b) (h : Wr K w B L) (hK : K ≤ w.heap.size) :
    Calls Try.prog 37 #[ptw B, .agg #[.slice a n1 c1, .slice b n2 c2, .slice c n3 c3, .slice d n4 c4]] w fun e w' => WP K B L (prg x) w e w' := by
  obtain ⟨W0, hW0⟩ : ∃ W, w.alloc (.cells #[.slice a n1 c1, .slice b n2 c2, .slice c n3 c3, .slice d n4 c4] 27) = W := ⟨_, rfl⟩
  have b0 : Below w.heap.size w W0 := by rw [← hW0]; exact (Below.refl _ w).alloc (Nat.le_refl _) _
  have s0 : w.heap.size < W0.heap.size := by rw [← hW0]; simp
  have g0 : W0.heap[w.heap.size]? = some (.cells #[.slice a n1 c1, .slice b n2 c2, .slice c n3 c3, .slice d n4 c4] 27 (0, 0)) := by rw [← hW0]; exact heap_alloc_new w _
  have HB : Hid (∀ W', Fr B W0 W' → W'.heap[w.heap.size]? = some (.cells #[.slice a n1 c1, .slice b n2 c2, .slice c n3 c3, .slice d n4 c4] 27 (0, 0))) := fun W' hf => (Fr.box h b0 hf (Nat.le_refl _) s0).trans g0
  have G0 : Hid (Below K w W0 ∧ Fr B w W0 ∧ Fr B W0 W0 ∧ Wr K W0 B (pts L [])) := ⟨b0.mono hK, Fr.of h.lt b0, Fr.refl _ _, Wr.below h b0⟩
  have H1 : Hid _ := h1
  have H2 : Hid _ := h2
  have H3 : Hid _ := h3
  have H4 : Hid _ := h4
  clear h b0 g0 h1 h2 h3 h4
  go_enter Try.func37, Try.ntmps37
  have c0 := octet_c 1 G0.out.2.2.2 (Nat.le_trans hK G0.out.2.1.1)
  go_wp2_with fail
  try rw [hW0]
  refine c0.mono ?_
  rintro e W1 ⟨b1, f1, hA⟩
  cases hP0 : oct 1 with
  | none =>
    rw [hP0] at hA
    obtain rfl := hA
    exact ⟨rfl, by rw [show prg x = none by simp only [prg, hP0, cat_none]]; exact ⟨G0.out.1.trans b1, G0.out.2.1.trans f1, rfl⟩⟩
  | some Y0 =>
  rw [hP0] at hA
  obtain ⟨rfl, hWr0⟩ := hA
  have G1 : Hid (Below K w W1 ∧ Fr B w W1 ∧ Fr B W0 W1 ∧ Wr K W1 B (pts L ([] ++ Y0))) := ⟨G0.out.1.trans b1, G0.out.2.1.trans f1, G0.out.2.2.1.trans f1, by rw [pts_app]; exact hWr0⟩
  clear b1 f1 hWr0 c0
  have c1 := YLa.wl_s 16384 (by omega) txt G1.out.2.2.2 (Nat.le_trans hK G1.out.2.1.1) (Rr.keep H1.out (Nat.le_refl _) fun g o x _ hg h => h.below G1.out.1 hg) (show _ from fun y W M _ _ hW hK hy => text_c y hy hW hK)
  have z1 := cell_of (HB.out _ G1.out.2.2.1) 0 _ rfl
  go_wp2_with fail
  try rw [hW0]
  refine c1.mono ?_
  rintro e W2 ⟨b2, f2, hA⟩
  cases hP1 : lst 16384 txt x.t with
  | none =>
    rw [hP1] at hA
    obtain rfl := hA
    exact ⟨rfl, by rw [show prg x = none by simp only [prg, hP0, hP1, cat_none, cat_no]]; exact ⟨G1.out.1.trans b2, G1.out.2.1.trans f2, rfl⟩⟩
  | some Y1 =>
  rw [hP1] at hA
  obtain ⟨rfl, hWr1⟩ := hA
  have G2 : Hid (Below K w W2 ∧ Fr B w W2 ∧ Fr B W0 W2 ∧ Wr K W2 B (pts L (([] ++ Y0) ++ Y1))) := ⟨G1.out.1.trans b2, G1.out.2.1.trans f2, G1.out.2.2.1.trans f2, by rw [pts_app]; exact hWr1⟩
  clear b2 f2 hWr1 c1 z1
  have c2 := YLb.wl_c 8192 (by omega) (fun l => lst 8192 ins l) G2.out.2.2.2 (Nat.le_trans hK G2.out.2.1.1) (Rr.keep H2.out (Nat.le_refl _) fun g o x _ hg h => h.below G2.out.1 hg) (show _ from fun y v0 W M _ _ hW hK hy => YSq.code_c y hy hW hK)
  have z2 := cell_of (HB.out _ G2.out.2.2.1) 1 _ rfl
  go_wp2_with fail
  try rw [hW0]
  refine c2.mono ?_
  rintro e W3 ⟨b3, f3, hA⟩
  cases hP2 : lst 8192 (fun l => lst 8192 ins l) x.c with
  | none =>
    rw [hP2] at hA
    obtain rfl := hA
    exact ⟨rfl, by rw [show prg x = none by simp only [prg, hP0, hP1, hP2, cat_none, cat_no]]; exact ⟨G2.out.1.trans b3, G2.out.2.1.trans f3, rfl⟩⟩
  | some Y2 =>
  rw [hP2] at hA
  obtain ⟨rfl, hWr2⟩ := hA
  have G3 : Hid (Below K w W3 ∧ Fr B w W3 ∧ Fr B W0 W3 ∧ Wr K W3 B (pts L ((([] ++ Y0) ++ Y1) ++ Y2))) := ⟨G2.out.1.trans b3, G2.out.2.1.trans f3, G2.out.2.2.1.trans f3, by rw [pts_app]; exact hWr2⟩
  clear b3 f3 hWr2 c2 z2
  have c3 := YLd.wl_u 4096 (by omega) stt G3.out.2.2.2 (Nat.le_trans hK G3.out.2.1.1) (Rr.keep (inl_rr H3.out) (Nat.le_refl _) fun g o x _ hg h => h.below G3.out.1 hg) (show _ from fun y u W M _ _ hW hK hy => YNd.static_c y hy hW hK)
  have z3 := cell_of (HB.out _ G3.out.2.2.1) 2 _ rfl
  go_wp2_with fail
  try rw [hW0]
  refine c3.mono ?_
  rintro e W4 ⟨b4, f4, hA⟩
  cases hP3 : lst 4096 stt x.s with
  | none =>
    rw [hP3] at hA
    obtain rfl := hA
    exact ⟨rfl, by rw [show prg x = none by simp only [prg, hP0, hP1, hP2, hP3, cat_none, cat_no]]; exact ⟨G3.out.1.trans b4, G3.out.2.1.trans f4, rfl⟩⟩
  | some Y3 =>
  rw [hP3] at hA
  obtain ⟨rfl, hWr3⟩ := hA
  have G4 : Hid (Below K w W4 ∧ Fr B w W4 ∧ Fr B W0 W4 ∧ Wr K W4 B (pts L (((([] ++ Y0) ++ Y1) ++ Y2) ++ Y3))) := ⟨G3.out.1.trans b4, G3.out.2.1.trans f4, G3.out.2.2.1.trans f4, by rw [pts_app]; exact hWr3⟩
  clear b4 f4 hWr3 c3 z3
  have c4 := YLc.wl_b 8192 (by omega) blk G4.out.2.2.2 (Nat.le_trans hK G4.out.2.1.1) (Rr.keep H4.out (Nat.le_refl _) fun g o x _ hg h => h.below G4.out.1 hg) (show _ from fun y v0 u0 W M _ _ hW hK hy => YSq.block_v y hy.1 hy.2.1 hy.2.2 hW hK)
  have z4 := cell_of (HB.out _ G4.out.2.2.1) 3 _ rfl
  go_wp2_with fail
  try rw [hW0]
  refine c4.mono ?_
  rintro e W5 ⟨b5, f5, hA⟩
  cases hP4 : lst 8192 blk x.b with
  | none =>
    rw [hP4] at hA
    obtain rfl := hA
    exact ⟨rfl, by rw [show prg x = none by simp only [prg, hP0, hP1, hP2, hP3, hP4, cat_no]]; exact ⟨G4.out.1.trans b5, G4.out.2.1.trans f5, rfl⟩⟩
  | some Y4 =>
  rw [hP4] at hA
  obtain ⟨rfl, hWr4⟩ := hA
  have G5 : Hid (Below K w W5 ∧ Fr B w W5 ∧ Fr B W0 W5 ∧ Wr K W5 B (pts L ((((([] ++ Y0) ++ Y1) ++ Y2) ++ Y3) ++ Y4))) := ⟨G4.out.1.trans b5, G4.out.2.1.trans f5, G4.out.2.2.1.trans f5, by rw [pts_app]; exact hWr4⟩
  clear b5 f5 hWr4 c4 z4
  go_wp2_with fail
  go_end0
  rw [show prg x = some ((((([] ++ Y0) ++ Y1) ++ Y2) ++ Y3) ++ Y4) by simp only [prg, hP0, hP1, hP2, hP3, hP4, cat, List.nil_append, List.append_assoc]]
  exact ⟨G5.out.1, G5.out.2.1, rfl, G5.out.2.2.2⟩
end Go.Proofs.Ytgknjjaemjkloaa.YPg

namespace Go.Proofs.Ytgknjjaemjkloaa.YCa
open Go.RowKit Go.Proofs.Ytgknjjaemjkloaa.YRr
set_option linter.unusedVariables false

theorem block_set {w : World} {B j : Nat} {cs : Array Value} {t : TypeId} {fz : Nat × Nat} (h : w.heap[B]? = some (.cells cs t fz)) (u : Value) : (w.setCell ⟨B, j, none⟩ u).heap[B]? = some (.cells (cs.setIfInBounds j u) t fz) := by
  simp [World.setCell, Array.getElem?_modify, h]
theorem wp_tmps {P : Program} {c : Code} {Q : Exit → Act → World → Prop} {T : Array Value} (L : Array Value) {w : World} (e : T = L) (h : c.wp P Q { tmps := L, defers := [] } w) : c.wp P Q { tmps := T, defers := [] } w := by
  subst e; exact h
theorem as_no (w : World) : (Instr.typeAssert .nilIface 20 59 true).run Try.prog w = .ok (.tuple #[.agg #[.int .i64 0, .int .i64 0], .bool false]) w := by
  simp [Instr.typeAssert, run_underlying Try.underlying59, Try.zeroValue59]
theorem as_yes (v : Value) (w : World) : (Instr.typeAssert (.iface 59 v) 20 59 true).run Try.prog w = .ok (.tuple #[v, .bool true]) w := by
  simp [Instr.typeAssert, run_underlying Try.underlying59]
set_option maxRecDepth 20000 in
theorem idle_b (p : Addr) (w : World) :
    CallsD Try.prog 36 #[.pointer (some p)] .returning w fun e u' w' => e = .returned (.tuple #[]) ∧ u' = .returning ∧ Below w.heap.size w w' := by
  refine callsD_of_wpS Try.func36 rfl fun c₀ cs hu => ?_
  apply wpS_seq
  apply wpS_region
  simp [wpOpsS, go_sem, recoverD, hu, Try.ntmps36, Exit.thenS, as_no]
  refine wpS_of_wp ?_
  refine wp_tmps (#[.pointer (some p), .pointer (some ⟨w.heap.size, 0, none⟩), .bool false, .tuple #[.agg #[.int .i64 0, .int .i64 0], .bool false], .nilIface, .tuple #[.agg #[.int .i64 0, .int .i64 0], .bool false], .agg #[.int .i64 0, .int .i64 0], .bool false, undef, undef]) (by kernel_rfl) ?_
  go_wp2
  cases c₀
  simp_all [bodyPostS, results, Try.results36]
  exact (Below.refl _ w).alloc (Nat.le_refl _) _
set_option maxRecDepth 20000 in
set_option maxHeartbeats 1600000 in
theorem fault_b (M : Nat) (c0 c1 : Int) (older : List PanicEntry) (w : World) (z0 z1 : Value) (hM : w.heap[M]? = some (.cells #[z0, z1] 59 (0, 0))) :
    CallsD Try.prog 36 #[.pointer (some ⟨M, 0, none⟩)] (.panicking ({ v := .iface 59 (.agg #[.int .i64 c0, .int .i64 c1]), recovered := false } :: older)) w fun e u' w' => e = .returned (.tuple #[]) ∧
      u' = .panicking ({ v := .iface 59 (.agg #[.int .i64 c0, .int .i64 c1]), recovered := true } :: older) ∧
        w'.heap[M]? = some (.cells #[.int .i64 c0, .int .i64 c1] 59 (0, 0)) ∧ ∀ n, n ≤ M → Below n w w' := by
  have hMl : M < w.heap.size := (Array.getElem?_eq_some_iff.1 hM).1
  obtain ⟨W, hW⟩ : ∃ W, w.alloc (.cells #[.int .i64 c0, .int .i64 c1] 59) = W := ⟨_, rfl⟩
  have hM1 : W.heap[M]? = some (.cells #[z0, z1] 59 (0, 0)) := by rw [← hW, Below.heap_alloc _ _ _ hMl]; exact hM
  have hF1 : W.heap[w.heap.size]? = some (.cells #[.int .i64 c0, .int .i64 c1] 59 (0, 0)) := by rw [← hW]; exact heap_alloc_new w _
  have hB : Below w.heap.size w W := by rw [← hW]; exact (Below.refl _ w).alloc (Nat.le_refl _) _
  have e0 := cell_of hM1 0 _ rfl
  have e1 := cell_of hM1 1 _ rfl
  have g0 := TBase.frozen_box hM1 0
  have g1 := TBase.frozen_box hM1 1
  have a0 := cell_of hF1 0 _ rfl
  have a1 := cell_of hF1 1 _ rfl
  have n5 : M ≠ w.heap.size := by omega
  have n6 : w.heap.size ≠ M := by omega
  refine callsD_of_wpS Try.func36 rfl fun c₀ cs hu => ?_
  apply wpS_seq
  apply wpS_region
  simp [wpOpsS, go_sem, recoverD, hu, Try.ntmps36, Exit.thenS, as_yes]
  refine wpS_of_wp ?_
  rw [hW]
  refine wp_tmps (#[.pointer (some ⟨M, 0, none⟩), .pointer (some ⟨w.heap.size, 0, none⟩), .bool true, .tuple #[.agg #[.int .i64 c0, .int .i64 c1], .bool true], .iface 59 (.agg #[.int .i64 c0, .int .i64 c1]), .tuple #[.agg #[.int .i64 c0, .int .i64 c1], .bool true], .agg #[.int .i64 c0, .int .i64 c1], .bool true, undef, undef]) (by kernel_rfl) ?_
  have HM1 : Hid (W.heap[M]? = some (.cells #[z0, z1] 59 (0, 0))) := hM1
  have HB : Hid (Below w.heap.size w W) := hB
  clear hM1 hF1 hB hM hW
  go_wp2_with fail
  refine ⟨rfl, _, rfl, .tuple #[], results_none rfl _ _ _, rfl, rfl, ?_, fun n hM => (((HB.out.mono (by omega)).setCell (p := ⟨M, 0, none⟩) hM _).setCell (p := ⟨M, 1, none⟩) hM _)⟩
  show ((W.setCell ⟨M, 0, none⟩ _).setCell ⟨M, 1, none⟩ _).heap[M]? = _
  rw [block_set (block_set HM1.out _) _]
  rfl
set_option maxRecDepth 20000 in
theorem idle_p (p : Addr) (w : World) :
    CallsD Try.prog 39 #[.pointer (some p)] .returning w fun e u' w' => e = .returned (.tuple #[]) ∧ u' = .returning ∧ Below w.heap.size w w' := by
  refine callsD_of_wpS Try.func39 rfl fun c₀ cs hu => ?_
  apply wpS_seq
  apply wpS_region
  simp [wpOpsS, go_sem, recoverD, hu, Try.ntmps39, Exit.thenS, as_no]
  refine wpS_of_wp ?_
  refine wp_tmps (#[.pointer (some p), .pointer (some ⟨w.heap.size, 0, none⟩), .bool false, .tuple #[.agg #[.int .i64 0, .int .i64 0], .bool false], .nilIface, .tuple #[.agg #[.int .i64 0, .int .i64 0], .bool false], .agg #[.int .i64 0, .int .i64 0], .bool false, undef, undef]) (by kernel_rfl) ?_
  go_wp2
  cases c₀
  simp_all [bodyPostS, results, Try.results39]
  exact (Below.refl _ w).alloc (Nat.le_refl _) _
set_option maxRecDepth 20000 in
set_option maxHeartbeats 1600000 in
theorem fault_p (M : Nat) (c0 c1 : Int) (older : List PanicEntry) (w : World) (z0 z1 : Value) (hM : w.heap[M]? = some (.cells #[z0, z1] 59 (0, 0))) :
    CallsD Try.prog 39 #[.pointer (some ⟨M, 0, none⟩)] (.panicking ({ v := .iface 59 (.agg #[.int .i64 c0, .int .i64 c1]), recovered := false } :: older)) w fun e u' w' => e = .returned (.tuple #[]) ∧
      u' = .panicking ({ v := .iface 59 (.agg #[.int .i64 c0, .int .i64 c1]), recovered := true } :: older) ∧
        w'.heap[M]? = some (.cells #[.int .i64 c0, .int .i64 c1] 59 (0, 0)) ∧ ∀ n, n ≤ M → Below n w w' := by
  have hMl : M < w.heap.size := (Array.getElem?_eq_some_iff.1 hM).1
  obtain ⟨W, hW⟩ : ∃ W, w.alloc (.cells #[.int .i64 c0, .int .i64 c1] 59) = W := ⟨_, rfl⟩
  have hM1 : W.heap[M]? = some (.cells #[z0, z1] 59 (0, 0)) := by rw [← hW, Below.heap_alloc _ _ _ hMl]; exact hM
  have hF1 : W.heap[w.heap.size]? = some (.cells #[.int .i64 c0, .int .i64 c1] 59 (0, 0)) := by rw [← hW]; exact heap_alloc_new w _
  have hB : Below w.heap.size w W := by rw [← hW]; exact (Below.refl _ w).alloc (Nat.le_refl _) _
  have e0 := cell_of hM1 0 _ rfl
  have e1 := cell_of hM1 1 _ rfl
  have g0 := TBase.frozen_box hM1 0
  have g1 := TBase.frozen_box hM1 1
  have a0 := cell_of hF1 0 _ rfl
  have a1 := cell_of hF1 1 _ rfl
  have n5 : M ≠ w.heap.size := by omega
  have n6 : w.heap.size ≠ M := by omega
  refine callsD_of_wpS Try.func39 rfl fun c₀ cs hu => ?_
  apply wpS_seq
  apply wpS_region
  simp [wpOpsS, go_sem, recoverD, hu, Try.ntmps39, Exit.thenS, as_yes]
  refine wpS_of_wp ?_
  rw [hW]
  refine wp_tmps (#[.pointer (some ⟨M, 0, none⟩), .pointer (some ⟨w.heap.size, 0, none⟩), .bool true, .tuple #[.agg #[.int .i64 c0, .int .i64 c1], .bool true], .iface 59 (.agg #[.int .i64 c0, .int .i64 c1]), .tuple #[.agg #[.int .i64 c0, .int .i64 c1], .bool true], .agg #[.int .i64 c0, .int .i64 c1], .bool true, undef, undef]) (by kernel_rfl) ?_
  have HM1 : Hid (W.heap[M]? = some (.cells #[z0, z1] 59 (0, 0))) := hM1
  have HB : Hid (Below w.heap.size w W) := hB
  clear hM1 hF1 hB hM hW
  go_wp2_with fail
  refine ⟨rfl, _, rfl, .tuple #[], results_none rfl _ _ _, rfl, rfl, ?_, fun n hM => (((HB.out.mono (by omega)).setCell (p := ⟨M, 0, none⟩) hM _).setCell (p := ⟨M, 1, none⟩) hM _)⟩
  show ((W.setCell ⟨M, 0, none⟩ _).setCell ⟨M, 1, none⟩ _).heap[M]? = _
  rw [block_set (block_set HM1.out _) _]
  rfl
end Go.Proofs.Ytgknjjaemjkloaa.YCa

namespace Go.Proofs.Ytgknjjaemjkloaa.YEn
open Go.RowKit Go.Proofs.Ytgknjjaemjkloaa.Leb Go.Proofs.Ytgknjjaemjkloaa.YPl Go.Proofs.Ytgknjjaemjkloaa.YWr Go.Proofs.Ytgknjjaemjkloaa.YWo Go.Proofs.Ytgknjjaemjkloaa.YRr Go.Proofs.Ytgknjjaemjkloaa.YTr
open Go.Proofs.Ytgknjjaemjkloaa.TBase (T)
open Go.Proofs.Ytgknjjaemjkloaa.TVisit (Lo keep_lo)
set_option linter.unusedVariables false

/-- A program in memory, in blocks below K. -/
def InPg (K m : Nat) (w : World) (v : Value) (x : Pg) : Prop := ∃ a n1 c1 b n2 c2 c n3 c3 d n4 c4, v = .agg #[.slice a n1 c1, .slice b n2 c2, .slice c n3 c3, .slice d n4 c4] ∧ Rr 1 LyS K w (.slice a n1 c1) x.t ∧ Rr 1 (LyC K) K w (.slice b n2 c2) x.c ∧ TBase.InL false (Lo K) w m (.slice c n3 c3) x.s ∧ Rr 3 (LyB K) K w (.slice d n4 c4) x.b
theorem InPg.below {K m : Nat} {w w' : World} {v : Value} {x : Pg} (h : InPg K m w v x) (hb : Below K w w') : InPg K m w' v x := by
  obtain ⟨a, n1, c1, b, n2, c2, c, n3, c3, d, n4, c4, rfl, h1, h2, h3, h4⟩ := h
  exact ⟨a, n1, c1, b, n2, c2, c, n3, c3, d, n4, c4, rfl, Rr.keep h1 (Nat.le_refl _) fun g o x _ hg h => h.below hb hg, Rr.keep h2 (Nat.le_refl _) fun g o x _ hg h => h.below hb hg, h3.keep (keep_lo hb), Rr.keep h4 (Nat.le_refl _) fun g o x _ hg h => h.below hb hg⟩
theorem InPg.up {K K' m : Nat} {w : World} {v : Value} {x : Pg} (h : InPg K m w v x) (hk : K ≤ K') : InPg K' m w v x := by
  obtain ⟨a, n1, c1, b, n2, c2, c, n3, c3, d, n4, c4, rfl, h1, h2, h3, h4⟩ := h
  exact ⟨a, n1, c1, b, n2, c2, c, n3, c3, d, n4, c4, rfl, Rr.keep h1 hk fun g o x _ hg h => h, Rr.keep h2 hk fun g o x _ hg h => h.up hk, h3.weak (fun b hb => Nat.lt_of_lt_of_le hb hk) false id m (Nat.le_refl _), Rr.keep h4 hk fun g o x _ hg h => h.up hk⟩
/-- What written does. -/
def WE (K : Nat) (a : Except Nat By) (w : World) (e : Ending) (w' : World) : Prop := Below K w w' ∧ w.heap.size ≤ w'.heap.size ∧ match a with
  | .ok X => ∃ p n c, e = .returned (.slice p n c) ∧ Own w' K (.slice p n c) X
  | .error q => e = .panicked (pkF q 0)
set_option maxRecDepth 20000 in
set_option maxHeartbeats 3200000 in
theorem written_c {K m : Nat} {w : World} {v : Value} (x : Pg) (hI : InPg K m w v x) (hK : K ≤ w.heap.size) :
    Calls Try.prog 21 #[v] w fun e w' => WE K (enc x) w e w' := by
  obtain ⟨a, n1, c1, b, n2, c2, c, n3, c3, d, n4, c4, rfl, h1, h2, h3, h4⟩ := hI
  obtain ⟨W0, hW0⟩ : ∃ W, w.alloc (.cells #[.slice a n1 c1, .slice b n2 c2, .slice c n3 c3, .slice d n4 c4] 27) = W := ⟨_, rfl⟩
  obtain ⟨W1, hW1⟩ : ∃ W, W0.alloc (.cells #[.slice none 0 0] 91) = W := ⟨_, rfl⟩
  have b0 : Below w.heap.size w W0 := by rw [← hW0]; exact (Below.refl _ w).alloc (Nat.le_refl _) _
  have s0 : W0.heap.size = w.heap.size + 1 := by rw [← hW0]; simp
  have b1 : Below W0.heap.size W0 W1 := by rw [← hW1]; exact (Below.refl _ W0).alloc (Nat.le_refl _) _
  have g0 : W0.heap[w.heap.size]? = some (.cells #[.slice a n1 c1, .slice b n2 c2, .slice c n3 c3, .slice d n4 c4] 27 (0, 0)) := by rw [← hW0]; exact heap_alloc_new w _
  have q0 := (b1.block w.heap.size (by omega)).trans g0
  have q1 : W1.heap[w.heap.size + 1]? = some (.cells #[.slice none 0 0] 91 (0, 0)) := by rw [← s0, ← hW1]; exact heap_alloc_new W0 _
  have b01 : Below w.heap.size w W1 := b0.trans (b1.mono b0.size)
  have bK := b01.mono hK
  have hW : Wr K W1 (w.heap.size + 1) [] := ⟨by omega, by simp, _, q1, World.ownsRow_nil _ _ _ _⟩
  have k0 : Below K w W1 := bK
  have cP := YPg.program_c (K := K) (B := w.heap.size + 1) (L := []) x (Rr.keep h1 (Nat.le_refl _) fun g o x _ hg h => h.below bK hg) (Rr.keep h2 (Nat.le_refl _) fun g o x _ hg h => h.below bK hg) (h3.keep (keep_lo bK)) (Rr.keep h4 (Nat.le_refl _) fun g o x _ hg h => h.below bK hg) hW (Nat.le_trans hK b01.size)
  have z0 := cell_of q0 0 _ rfl
  have z1 := cell_of q0 1 _ rfl
  have z2 := cell_of q0 2 _ rfl
  have z3 := cell_of q0 3 _ rfl
  have H01 : Hid (Below K w W1 ∧ w.heap.size ≤ W1.heap.size) := ⟨bK, b01.size⟩
  clear h1 h2 h3 h4 b0 b1 g0 q0 q1 b01 bK hW k0
  go_enter Try.func21, Try.ntmps21
  go_wp2_with fail
  try rw [hW0]
  try rw [s0]
  try rw [hW1]
  refine cP.mono ?_
  rintro e W2 ⟨b2, f2, hA⟩
  have H2 : Hid (Below K w W2 ∧ w.heap.size ≤ W2.heap.size) := ⟨H01.out.1.trans b2, Nat.le_trans H01.out.2 f2.1⟩
  clear cP b2 f2 z0 z1 z2 z3
  cases hP : prg x with
  | none =>
    rw [hP] at hA
    obtain rfl := hA
    exact ⟨rfl, by rw [show enc x = .error 2100 by unfold enc; rw [hP]]; exact ⟨H2.out.1, H2.out.2, rfl⟩⟩
  | some Xs =>
  rw [hP] at hA
  obtain ⟨rfl, hWr⟩ := hA
  have cF := full_c hWr
  obtain ⟨hKB, hlen, v, hB, ho⟩ := hWr
  obtain ⟨av, cv, rfl⟩ : ∃ a c, v = .slice a (pts [] Xs).length c := by obtain ⟨a, c, h, -⟩ := ho.seen; exact ⟨a, c, h⟩
  have z0 := cell_of hB 0 _ rfl
  have HO : Hid _ := ho
  clear hB ho
  by_cases hl : 1048576 < (pts [] Xs).length
  · rw [decide_eq_true hl] at cF
    go_wp2_with fail
    refine cF.mono ?_
    rintro e W3 ⟨rfl, rfl⟩
    go_wp2_with fail
    exact ⟨rfl, by rw [show enc x = .error 2101 by unfold enc; rw [hP]; simp only [hl, if_true]]; exact ⟨H2.out.1, H2.out.2, rfl⟩⟩
  · rw [decide_eq_false hl] at cF
    go_wp2_with fail
    refine cF.mono ?_
    rintro e W3 ⟨rfl, rfl⟩
    go_wp2_with fail
    go_ret
    rw [show enc x = .ok (pts [] Xs) by unfold enc; rw [hP]; simp only [hl, if_false]]
    exact ⟨H2.out.1, H2.out.2, _, _, _, rfl, HO.out⟩
theorem clos_c {K m X : Nat} {w : World} {x : Pg} {cs : Array Value} (hX : w.heap[X]? = some (.cells cs 27 (0, 0))) (hI : InPg K m w (.agg cs) x) (hK : K ≤ w.heap.size) :
    Calls Try.prog 20 #[ptw X] w fun e w' => WE w.heap.size (enc x) w e w' := by
  have cW := written_c x (hI.up hK) (Nat.le_refl _)
  obtain ⟨a, n1, c1, b, n2, c2, c, n3, c3, d, n4, c4, he, -⟩ := hI
  cases he
  have z0 := cell_of hX 0 _ rfl
  have z1 := cell_of hX 1 _ rfl
  have z2 := cell_of hX 2 _ rfl
  have z3 := cell_of hX 3 _ rfl
  clear hX
  go_enter Try.func20, Try.ntmps20
  go_wp2_with fail
  refine cW.mono ?_
  rintro e w1 ⟨b1, s1, hA⟩
  cases hE : enc x with
  | error q =>
    rw [hE] at hA
    obtain rfl := hA
    exact ⟨rfl, b1, s1, by rw [hE]⟩
  | ok Y =>
    rw [hE] at hA
    obtain ⟨p, n, c, rfl, ho⟩ := hA
    have HO : Hid _ := ho
    clear ho
    go_wp2_with fail
    go_ret
    exact ⟨b1, s1, by rw [hE]; exact ⟨_, _, _, rfl, HO.out⟩⟩
abbrev clE (X : Nat) : Value := .func (.func 20) #[] #[ptw X]
/-- What caught answers. -/
def CB (a : Except Nat By) (w : World) (e : Ending) (w' : World) : Prop := Below w.heap.size w w' ∧ match a with
  | .ok X => ∃ p n c, e = .returned (.tuple #[.slice p n c, .agg #[.int .i64 0, .int .i64 0]]) ∧ Own w' w.heap.size (.slice p n c) X
  | .error q => e = .returned (.tuple #[.slice none 0 0, .agg #[.int .i64 (q : Nat), .int .i64 0]])
theorem own_set {w : World} {K M : Nat} {v : Value} {X : By} {cs : Array Value} (hM : w.heap[M]? = some (.cells cs 59 (0, 0))) (h : Own w K v X) (j : Nat) (u : Value) : Own (w.setCell ⟨M, j, none⟩ u) K v X := by
  have hg : w.grownBy (w.setCell ⟨M, j, none⟩ u) (some M) := ⟨rfl, rfl, rfl, by simp, fun k hk hne => Below.heap_setCell _ _ _ _ (fun e => hne (by rw [e]))⟩
  refine h.kept hg (.inr fun hv => ?_)
  rcases h.2 with ⟨rfl, h0⟩ | ⟨g, cap, cur, rfl, hb, hh, hn, hm, _⟩
  · cases hv
  · obtain rfl : g = M := by simpa [Value.ownBlock] using hv
    rw [hM] at hh
    simp at hh
set_option maxRecDepth 20000 in
set_option maxHeartbeats 3200000 in
theorem caught_c {X : Nat} {w : World} {a : Except Nat By} (cR : ∀ W, Below w.heap.size w W → Calls Try.prog 20 #[ptw X] W fun e w' => WE W.heap.size a W e w') :
    Calls Try.prog 19 #[clE X] w fun e w' => CB a w e w' := by
  have hmf : ∀ (fn : Fn) (first cap : Array Value) (w : World), (Instr.makeFunc fn first cap).run Try.prog w = .ok (.func fn first cap) w := fun _ _ _ _ => rfl
  obtain ⟨W, hW⟩ : ∃ W, w.alloc (.cells #[.int .i64 0, .int .i64 0] 59) = W := ⟨_, rfl⟩
  have bW : Below w.heap.size w W := by rw [← hW]; exact (Below.refl _ w).alloc (Nat.le_refl _) _
  have sW : W.heap.size = w.heap.size + 1 := by rw [← hW]; simp
  have zM : W.heap[w.heap.size]? = some (.cells #[.int .i64 0, .int .i64 0] 59 (0, 0)) := by rw [← hW]; exact heap_alloc_new w _
  have cV := cR W bW
  have HB : Hid (Below w.heap.size w W) := bW
  have HM : Hid _ := zM
  clear bW zM cR
  go_enter_defers Try.func19, Try.ntmps19
  go_wp2_with fail
  try rw [hW]
  refine cV.mono ?_
  rintro e W1 ⟨hb1, hs1, hA⟩
  have m1 := (hb1.block w.heap.size (by omega)).trans HM.out
  have HB1 : Hid (Below w.heap.size w W1) := HB.out.trans (hb1.mono HB.out.size)
  clear cV hb1 HM HB hW
  cases a with
  | error q =>
    obtain rfl := hA
    refine leaves_cons (f := 36) (args := #[.pointer (some ⟨w.heap.size, 0, none⟩)]) (by simp) (by simp [go_sem]) ?_
    refine (YCa.fault_b w.heap.size (q : Nat) 0 [] W1 _ _ m1).mono ?_
    rintro e u' w5 ⟨rfl, rfl, r2, r3⟩
    have q0 := cell_of r2 0 _ rfl
    have q1 := cell_of r2 1 _ rfl
    have HD : Hid (Below w.heap.size w w5) := HB1.out.trans (r3 _ (Nat.le_refl _))
    simp [Leaves, settle, results, Try.results19, go_sem, q0, q1]
    exact ⟨HD.out, rfl⟩
  | ok Y =>
    obtain ⟨p, n, c, rfl, ho⟩ := hA
    have e0 := cell_of m1 0 _ rfl
    have e1 := cell_of m1 1 _ rfl
    have f0 := TBase.frozen_box m1 0
    have f1 := TBase.frozen_box m1 1
    obtain ⟨W3, hW3⟩ : ∃ W3, (W1.setCell ⟨w.heap.size, 0, none⟩ (.int .i64 0)).setCell ⟨w.heap.size, 1, none⟩ (.int .i64 0) = W3 := ⟨_, rfl⟩
    have m2 := YCa.block_set (j := 0) m1 (.int .i64 0)
    have m3 : W3.heap[w.heap.size]? = some (.cells #[.int .i64 0, .int .i64 0] 59 (0, 0)) := by rw [← hW3, YCa.block_set m2]; rfl
    have b3 : Below w.heap.size W1 W3 := by rw [← hW3]; exact ((Below.refl _ _).setCell (p := ⟨w.heap.size, 0, none⟩) (Nat.le_refl _) _).setCell (p := ⟨w.heap.size, 1, none⟩) (Nat.le_refl _) _
    have o3 : Own W3 w.heap.size (.slice p n c) Y := by rw [← hW3]; exact own_set m2 (own_set m1 (YWr.own_low ho (by omega)) _ _) _ _
    have HD : Hid (Below w.heap.size w W3) := HB1.out.trans b3
    have HO : Hid _ := o3
    have M3 : Hid _ := m3
    clear ho o3 m1 m2 m3 b3
    go_wp2_with fail
    try rw [hW3]
    refine leaves_cons (f := 36) (args := #[.pointer (some ⟨w.heap.size, 0, none⟩)]) (by simp) (by simp [go_sem]) ?_
    refine (YCa.idle_b ⟨w.heap.size, 0, none⟩ W3).mono ?_
    rintro e u' w5 ⟨rfl, rfl, b5⟩
    have m5 := (b5.block w.heap.size ((Array.getElem?_eq_some_iff.1 M3.out).1)).trans M3.out
    have p0 := cell_of m5 0 _ rfl
    have p1 := cell_of m5 1 _ rfl
    have HD5 : Hid (Below w.heap.size w w5) := HD.out.trans (b5.mono HD.out.size)
    have HO5 : Hid (Own w5 w.heap.size (.slice p n c) Y) := YWr.own_below HO.out b5
    simp [Leaves, settle, results, Try.results19, go_sem, p0, p1]
    exact ⟨HD5.out, _, _, _, rfl, HO5.out⟩
end Go.Proofs.Ytgknjjaemjkloaa.YEn
