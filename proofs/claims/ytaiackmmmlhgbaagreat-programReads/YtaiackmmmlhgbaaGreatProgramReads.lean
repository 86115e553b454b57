/- Proved: for all bytes b, of whatever length and spare room, the call stencillaw21.ProgramReads(b) of the landed program returns true, and what came in reads as before. Conditions: none beside those of the given row. -/
import Derived.Test.YtaiackmmmlhgbaaGreatRows
import Derived.Test.YtaiackmmmlhgbaaGreatPR01
import Derived.Test.YtaiackmmmlhgbaaGreatPR33
namespace Go.Proofs.YtaiackmmmlhgbaaGreat.programReads
open Go.ChangeShapes Go.WideShapes Go.ChangeAt Go.RowKit Leb
set_option linter.unusedVariables false
set_option maxRecDepth 100000 in
theorem lifted (os : Os) (started : os.Started) (H : Type) (enc : TypeId × Value -> H) :
    ReturnsInHanded {} Tryz.checked os 3 .any (Rows.programReadsSpec.pre6 enc Tryz.prog Tryz.f3 Rows.programReadsRow.domain false) (Rows.programReadsSpec.post enc Tryz.prog Tryz.f3 false true false false) := by
  refine returnsInHanded_of_change_sized (C := Tryz.checked) own started (by kernel_rfl) Tryz.func3
    (ChangeSpec.witness6 (enc := enc) (C := Tryz.checked) false ⟨#[], #[.slice none 0 0], []⟩ 8 (by kernel_rfl) (by kernel_rfl) (by kernel_rfl) (by kernel_rfl)) ?_
  intro W base args ds gs before hval0 hW hcnd hsz0 _
  have hval : ∀ (j : Nat) t v, Tryz.f3.params[j]? = some t -> args[j]? = some v -> Value.okWide Tryz.prog W .any base t v := hval0
  have hsz : (DataW.weightsEach Tryz.prog (Tryz.f3.params.toList ++ Rows.programReadsSpec.plain.varTypes Tryz.prog) (ds ++ gs)).all (· <= reachBytes) = true := hsz0
  have hW' := hW
  obtain ⟨p, q, hA0, hV, rfl, hfz, hnd⟩ := hW
  have hA : DataW.TrodAll enc Tryz.prog W 0 (fun _ => true) true Tryz.f3.params.toList args.toList ds p := hA0
  rw [Tryz.params3] at hA hval hsz
  obtain ⟨v0, vs0, d0, ds0, p0, q0, hargs, rfl, rfl, h0, r0⟩ := trodAll_cons hA
  obtain ⟨rfl, rfl, rfl⟩ := trodAll_nil r0
  obtain rfl : args = #[v0] := by cases args; simp_all
  obtain ⟨rfl, rfl⟩ := trodVars_none hV
  obtain ⟨a0, len0, cap0, rfl⟩ := okWide_slice Tryz.underlying22 (hval 0 22 v0 rfl rfl)
  have k0 := h0
  have lt0 : ∀ x ∈ p0, x.block < W.heap.size := by obtain ⟨m, hm⟩ := k0; exact DataW.trod_lt m _ _ _ hm
  obtain ⟨L, w0, hl0⟩ : ∃ L, Seen W (.slice a0 len0 cap0) L /\ L.length <= 140737488351232 := by
    obtain ⟨fuel, hf⟩ := h0
    rcases open_ints Tryz.underlying22 Tryz.underlying5 (by kernel_rfl) hf with ⟨hcs, _⟩ | ⟨x, l, c, zs, hcs, _, hl, hm, hz, hd, hcell, hwz⟩
    · simp [Value.cells] at hcs
      obtain ⟨rfl, rfl, rfl⟩ := hcs
      exact ⟨[], seen_nil W, by simp⟩
    · simp [Value.cells] at hcs
      obtain ⟨rfl, rfl, rfl⟩ := hcs
      have hz' : zs.length = cap0 := by simpa using hz
      obtain ⟨hs, hlen⟩ := seen_of hl hm hz' hcell hwz
      refine ⟨_, hs, ?_⟩
      obtain ⟨rfl, _⟩ := Prod.mk.inj hd
      have hw := sized_slice hsz (j := 0) (t := 22) (e := 5) rfl rfl Tryz.underlying22
      rw [bytes5] at hw
      simp only [lits, List.length_map, List.length_take, List.length_drop, reachBytes] at hw
      omega
  have hbl : ∀ g, a0 = some g -> g.block < W.heap.size := fun g e => by
    subst e
    have h := hval 0 22 _ rfl rfl
    simp only [Value.okWide, Tryz.underlying22, Cell.okWide, Cell.ok] at h
    obtain ⟨-, -, h⟩ := h
    obtain ⟨-, -, row, cells, hs, -⟩ := h
    by_cases hn : g.block < W.heap.size
    · exact hn
    · have hnone : W.heap[g.block]? = none := by simp; omega
      simp [World.shape?, hnone] at hs
  clear hA0 hval0 hsz0
  have el : len0 = L.length := by obtain ⟨a, c, e, -⟩ := w0; cases e; rfl
  subst el
  have cw := WPr.walk w0 hbl hl0
  refine cw.mono fun e W' ⟨he, bel⟩ => ?_
  subst he
  exact ⟨_, rfl, _, _, _, [], _, [], hW', trodAll_mk1 (shut_bool Tryz.underlying4 _), (trodAll_cons_mk (Below.trod laidOut (by kernel_rfl) (of_decide_eq_true (by kernel_rfl)) k0 bel lt0) trodAll_mk0), rfl, bel.frame _, fun h => by cases h⟩
theorem over : Rows.programReadsRow.holds Tryz.pinned (OpenSpec.ofChange Rows.programReadsSpec) :=
  OpenClaim.holds_of_wide 3 Tryz.f3 rfl rfl rfl rfl rfl rfl rfl ⟨rfl, rfl, rfl, rfl, rfl⟩ rfl rfl rfl rfl rfl (by kernel_rfl) Tryz.func3 (by kernel_rfl)
    (of_decide_eq_true (by kernel_rfl)) (by unfold Func.isWrapper; first | (rw [if_pos (by decide +kernel)]; kernel_rfl) | (rw [if_neg (by decide +kernel)]; exact ⟨rfl, rfl⟩))
    (fun os started H enc _ => lifted os started H enc)
theorem programReads_holds : Rows.ProgramReadsSaid := over
#print axioms programReads_holds
end Go.Proofs.YtaiackmmmlhgbaaGreat.programReads
