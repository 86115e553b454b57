/- What the law's own small values come to: plain. -/
import Derived.Test.YtmoblfdepcjgfaaDoorMeasure
import Derived.Test.YtmoblfdepcjgfaaDoorPart
import Derived.Test.YtmoblfdepcjgfaaDoorTextKey
namespace Go.Proofs.YtmoblfdepcjgfaaDoor.Facts
open Go.RowKit Go.Proofs.YtmoblfdepcjgfaaDoor.Base Go.Proofs.YtmoblfdepcjgfaaDoor.Part Go.Proofs.YtmoblfdepcjgfaaDoor.Eq Go.Proofs.YtmoblfdepcjgfaaDoor.TextKey Go.Proofs.YtmoblfdepcjgfaaDoor.Measure Go.Proofs.YtmoblfdepcjgfaaDoor.Fault Go.Proofs.YtmoblfdepcjgfaaDoor.Pure Go.Proofs.YtmoblfdepcjgfaaDoor.Names Go.Proofs.YtmoblfdepcjgfaaDoor.Walk Go.Proofs.YtmoblfdepcjgfaaDoor.UBase Go.Proofs.YtmoblfdepcjgfaaDoor.UValid
set_option linter.unusedVariables false

def numC (i : Int) : C := .mk 3 false i ⟨#[]⟩ [] []
def vC : C := .mk 6 false 0 ⟨#[]⟩ [⟨#[97]⟩] [numC 3]
theorem ne : ∀ s : ByteArray, s.toList.isEmpty = (s.size == 0) := by
  intro s
  rw [ByteArray.toList_eq]
  cases h : s.data.toList with
  | nil =>
    have : s.size = 0 := by rw [← ByteArray.size_data, ← Array.length_toList, h]; rfl
    simp [this]
  | cons a r =>
    have : s.size = r.length + 1 := by rw [← ByteArray.size_data, ← Array.length_toList, h]; rfl
    simp [this]
theorem eqa : eqB ⟨#[97]⟩ ⟨#[97]⟩ = true := eqB_eq.2 rfl
theorem fo_v : fo vC ⟨#[97]⟩ = some (numC 3) := by
  have : fi [(⟨#[97]⟩ : ByteArray)] ⟨#[97]⟩ = some 0 := fi_some (by simp) eqa (fun j _ h => by omega)
  simp [fo, vC, C.k, C.n, C.l, fiI, this, eo]
theorem same_v : same vC vC = true := by
  simp [vC, numC, same, sameL, eqN, eqa]
theorem same_n : same vC (numC 3) = false := by simp [vC, numC, same]
theorem key_n (i : Int) : kk (numC i) = 3 ∧ ki (numC i) = i ∧ ke (numC i) = 0 := by simp [numC, kk, ki, ke]
theorem itoa5 : Lib.itoa (-5) = [45, 53] := by
  have := Lib.itoa_neg 5 (by omega)
  rw [show (-5 : Int) = -((5 : Nat) : Int) by rfl, this, Lib.decDigits_one (by omega)]
  rfl
theorem text_n : tx (numC (-5)) = ⟨#[45, 53]⟩ ∧ te (numC (-5)) = 0 := by
  simp [numC, tx, te, itoa5]
theorem ms_9 : ms 0 0 (pl 1 (.mk 9 false 0 ⟨#[]⟩ [] [])) = (0, 0, 500) := by
  simp [pl, plL, ms, ft, C.k]
theorem tg_none : tg ⟨#[]⟩ = true := by
  have : bad ⟨#[]⟩ 0 = none := bad_end (by decide)
  simp only [tg, (verr_none this).2]
  decide
theorem tg_a : tg ⟨#[97]⟩ = true := by
  have l0 : len ⟨#[97]⟩ 0 = 1 := by decide +kernel
  have : bad ⟨#[97]⟩ 0 = none := by
    rw [bad_step (by decide) (by rw [l0]; decide), l0]
    exact bad_end (by decide)
  simp only [tg, (verr_none this).2]
  decide
theorem fm_n (i : Int) : fm (numC i) = true := by
  have h : pu 3 false i ⟨#[]⟩ 0 0 = true := by
    have e := ne ⟨#[]⟩
    simp only [pu, e]
    simp
    decide
  simp [fm, numC, C.k, C.b, C.i, C.s, C.n, C.l, h, tg_none]
theorem fm_v : fm vC = true := by
  have h : pu 6 false 0 ⟨#[]⟩ 1 1 = true := by
    have e := ne ⟨#[]⟩
    simp only [pu, e]
    simp
    decide
  have h2 : nmb [⟨#[97]⟩] 1 = true := by simp [nmb, nd, tg_a]
  simp [fm, vC, C.k, C.b, C.i, C.s, C.n, C.l, h, tg_none, h2]
theorem ms_v : ms 0 0 (pl 1 vC) = (2, 2, 0) := by
  have k1 : vC.k = 6 := rfl
  have k2 : (numC 3).k = 3 := rfl
  have e1 : ft vC (1 : Nat) (0 + 1 : Nat) = 0 := by simp [ft, fm_v, k1]
  have e2 : ft (numC 3) (1 + 1 : Nat) (0 + 1 + 1 : Nat) = 0 := by simp [ft, fm_n, k2]
  have e : pl 1 vC = [(1, vC), (1 + 1, numC 3)] := by simp [vC, numC, pl, plL]
  rw [e, ms, if_pos e1, ms, if_pos e2, ms]
  rfl
/-- A number, as a value. -/
def numV (i : Int) : Value := .agg #[.int .i64 3, .bool false, .int .i64 i, .string ⟨#[]⟩, .slice none 0 0, .slice none 0 0]
theorem plain_in (w : World) (k i : Int) (hk : -9223372036854775808 ≤ k ∧ k ≤ 9223372036854775807) (h : -9223372036854775808 ≤ i ∧ i ≤ 9223372036854775807) (m : Nat) :
    In false All w (m + 1) (.agg #[.int .i64 k, .bool false, .int .i64 i, .string ⟨#[]⟩, .slice none 0 0, .slice none 0 0]) (.mk k false i ⟨#[]⟩ [] []) := by
  rw [in_iff]
  exact ⟨_, _, rfl, hk, h, by decide, ⟨none, 0, rfl, by simp, by simp, by simp, by simp, fun _ => rfl, .inl ⟨rfl, rfl⟩⟩, ⟨none, 0, rfl, by simp, by simp, by simp, fun _ => rfl, .inl ⟨rfl, rfl⟩⟩⟩
theorem num_c (i : Int) (w : World) : Calls Tryd.prog 41 #[.int .i64 i] w fun e w' => e = .returned (.agg #[.int .i64 3, .bool false, .int .i64 i, .string ⟨#[]⟩, .slice none 0 0, .slice none 0 0]) ∧ Below w.heap.size w w' := by
  go_enter Tryd.func41, Tryd.ntmps41
  go_wp2_with fail
  refine bodyPost_ret (results_cell_row rfl _ _ w.heap.size 25 _ (0, 0) _ rfl (heap_alloc_new w _) Tryd.underlying25 rfl (by kernel_rfl)) rfl ?_
  exact ⟨rfl, (Below.refl _ w).alloc (Nat.le_refl _) _⟩
theorem errno_c (x : Int) (w : World) : Calls Tryd.prog 14 #[.int .i64 x] w fun e w' => e = .returned (.int .i64 x) ∧ w' = w := by
  go_enter Tryd.func14, Tryd.ntmps14
  go_wp2_with fail
  go_ret
  exact ⟨rfl, rfl⟩
end Go.Proofs.YtmoblfdepcjgfaaDoor.Facts
