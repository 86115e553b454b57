/- Proved: for every two lists of cores a and b of bulk together at most 1048576 (Rows.uptoBulk) the call stencillaw15.CoreJoins(a, b) of the landed program returns true, and both lists read as before. Conditions: the bulk, and those of the given row. -/
import Derived.Test.YtenhljiibfdckaaRows
import Derived.Test.YtenhljiibfdckaaKOp
import Derived.Test.YtenhljiibfdckaaWJn
import Derived.SizedLaws
import Derived.ChangeOld
import Derived.ShutString
import Derived.Deep.CondSized
namespace Go.Proofs.Ytenhljiibfdckaa.KCm
open Go.RowKit Go.Proofs.Ytenhljiibfdckaa Go.Proofs.Ytenhljiibfdckaa.KBase
set_option linter.unusedVariables false

theorem bulk_pos {H : Type} (d : DataW H) : 1 ≤ Rows.uptoBulk d := by
  cases d with
  | lit l => cases l <;> simp [Rows.uptoBulk]
  | _ => simp [Rows.uptoBulk]
theorem bulk_len {H : Type} : ∀ (E : List (DataW H)), E.length ≤ Rows.uptoBulkAll E
  | [] => by simp
  | d :: E => by
    have h0 := bulk_pos d
    have ih := bulk_len E
    rw [Rows.uptoBulkAll, List.length_cons]
    omega
theorem laidOut : laidOutB Try.prog = true := by kernel_rfl
theorem come {H : Type} {enc : TypeId × Value → H} {W : World} {v : Value} {d : DataW H} {p : List MemPlace} {ts : List TypeId} {ds : List (DataW H)} {j : Nat}
    (h : DataW.Trod enc Try.prog W 0 (fun _ => true) true 22 v d p)
    (hsz : (DataW.weightsEach Try.prog ts ds).all (· ≤ reachBytes) = true) (ht : ts[j]? = some 22) (hd : ds[j]? = some d) (hv : v.cells.toList = [v]) :
    (∃ m l, InL false (fun _ => True) W m v l ∧ l.length ≤ Rows.uptoBulk d) ∧ ∀ W', Below W.heap.size W W' → DataW.Trod enc Try.prog W' 0 (fun b => decide (b < W.heap.size)) true 22 v d p := by
  have lt0 : ∀ x ∈ p, x.block < W.heap.size := by obtain ⟨m, hm⟩ := h; exact DataW.trod_lt m _ _ _ hm
  refine ⟨?_, fun W' bel => Below.trod laidOut (by kernel_rfl) (of_decide_eq_true (by kernel_rfl)) h bel lt0⟩
  obtain ⟨fuel, hf⟩ := h
  rw [hv] at hf
  have hw : ∀ q ∈ DataW.weights Try.prog 22 d, q ≤ reachBytes := fun q hq => by simpa using List.all_eq_true.1 hsz q (DataW.weights_mem_each ht hd q hq)
  obtain ⟨l, hl⟩ := KOp.row_c (M := fuel + 1) hf hw (fun n' hn' cs x h1 h2 => by
    obtain ⟨c, hc⟩ := KOp.open_c h1 h2
    exact ⟨c, hc.weak (fun _ h => h) false id (fuel + 1) (by omega)⟩)
  refine ⟨fuel + 1, l, hl, ?_⟩
  obtain ⟨a, cap, hs, -⟩ := hl
  rcases DataW.trod_slice Try.underlying22 hf with ⟨e5, -⟩ | ⟨a', len, cap', els, rest, n', e0, e5, e5', _, hl, hm, hlen, hel, -, -⟩
  · simp only [List.cons.injEq, and_true] at e5
    rw [hs] at e5
    injection e5 with _ e _
    omega
  · simp only [List.cons.injEq, and_true] at e5
    rw [hs] at e5
    injection e5 with _ e _
    have e6 : d = .slice (els.map (·.1)) (rest.map (·.1)) := congrArg Prod.fst e5'
    rw [e6, Rows.uptoBulk]
    have := bulk_len (els.map (·.1))
    rw [List.length_map] at this
    omega
end Go.Proofs.Ytenhljiibfdckaa.KCm

namespace Go.Proofs.Ytenhljiibfdckaa.coreJoins
open Go.ChangeShapes Go.WideShapes Go.ChangeAt Go.RowKit Go.Proofs.Ytenhljiibfdckaa Go.Proofs.Ytenhljiibfdckaa.WJn
set_option linter.unusedVariables false

theorem own : ownKnob Try.prog.godebug = none := by kernel_rfl
set_option maxRecDepth 100000 in
theorem lifted (os : Os) (started : os.Started) (H : Type) (enc : TypeId × Value → H) (F : Stop.Interp) :
    ReturnsInHanded {} Try.checked os 3 .any ((Rows.OpenSpec.upto Rows.coreJoinsSpec).pre6 enc Try.prog Try.f3 Rows.coreJoinsUptoRow.domain false) (((Rows.OpenSpec.upto Rows.coreJoinsSpec).at F).post enc Try.prog Try.f3 false true false false) := by
  refine returnsInHanded_of_cond_sized (C := Try.checked) (s := Rows.OpenSpec.upto Rows.coreJoinsSpec) (k := Rows.uptoSmall) rfl own started (by kernel_rfl) Try.func3
    (OpenSpec.witness (enc := enc) (C := Try.checked) (s := Rows.OpenSpec.upto Rows.coreJoinsSpec) (k := Rows.uptoSmall) rfl false ⟨#[], #[.slice none 0 0, .slice none 0 0], []⟩ 8 (by kernel_rfl) (by kernel_rfl) (by kernel_rfl)
      (x := ([.nil, .nil], [], [])) (by kernel_rfl) rfl (by kernel_rfl)) ?_
  intro W base args ds gs before hval0 hW _ hk0 hsz0 _
  have hk : Rows.uptoSmall H (ds ++ gs) = true := hk0
  have hval : ∀ (j : Nat) t v, Try.f3.params[j]? = some t → args[j]? = some v → Value.okWide Try.prog W .any base t v := hval0
  have hsz : (DataW.weightsEach Try.prog (Try.f3.params.toList ++ Rows.coreJoinsSpec.plain.varTypes Try.prog) (ds ++ gs)).all (· ≤ reachBytes) = true := hsz0
  have hW' := hW
  obtain ⟨p, q, hA0, hV, rfl, hfz, hnd⟩ := hW
  have hA : DataW.TrodAll enc Try.prog W 0 (fun _ => true) true Try.f3.params.toList args.toList ds p := hA0
  rw [Try.params3] at hA hval hsz
  obtain ⟨v0, vs0, d0, ds0, p0, q0, hargs, rfl, rfl, h0, r0⟩ := trodAll_cons hA
  obtain ⟨v1, vs1, d1, ds1, p1, q1, rfl, rfl, rfl, h1, r1⟩ := trodAll_cons r0
  obtain ⟨rfl, rfl, rfl⟩ := trodAll_nil r1
  obtain rfl : args = #[v0, v1] := by cases args; simp_all
  obtain ⟨rfl, rfl⟩ := trodVars_none hV
  obtain ⟨a0, len0, cap0, rfl⟩ := okWide_slice Try.underlying22 (hval 0 22 v0 rfl rfl)
  obtain ⟨⟨m0, l0, g0, k0⟩, s0⟩ := KCm.come h0 hsz (j := 0) rfl rfl rfl
  obtain ⟨a1, len1, cap1, rfl⟩ := okWide_slice Try.underlying22 (hval 1 22 v1 rfl rfl)
  obtain ⟨⟨m1, l1, g1, k1⟩, s1⟩ := KCm.come h1 hsz (j := 1) rfl rfl rfl
  have hu : Rows.uptoBulkAll [d0, d1] ≤ 1048576 := of_decide_eq_true hk
  simp only [Rows.uptoBulkAll] at hu
  clear hA0 hval0 hsz0
  simp only [List.append_nil] at hW'
  refine (WJn.walk g0 g1 (by omega) (by omega)).mono fun e W' ⟨he, bel⟩ => ?_
  subst he
  exact ⟨_, rfl, _, _, _, [], _, [], hW', trodAll_mk1 (shut_bool Try.underlying4 _), (trodAll_cons_mk (s0 _ bel) (trodAll_cons_mk (s1 _ bel) trodAll_mk0)), rfl, bel.frame _, fun h => by cases h⟩
theorem coreJoins_upto : Rows.CoreJoinsUptoSaid :=
  OpenClaim.holds_of_cond 3 Try.f3 rfl rfl rfl rfl rfl rfl rfl ⟨rfl, rfl, rfl, rfl, rfl⟩ rfl rfl rfl rfl rfl (by kernel_rfl) Try.func3 (by kernel_rfl)
    (of_decide_eq_true (by kernel_rfl)) (by unfold Func.isWrapper; first | (rw [if_pos (by decide +kernel)]; kernel_rfl) | (rw [if_neg (by decide +kernel)]; exact ⟨rfl, rfl⟩))
    (fun os started H enc _ F => lifted os started H enc F)
#print axioms coreJoins_upto
end Go.Proofs.Ytenhljiibfdckaa.coreJoins
