/- Templates: every token goes on, or a fault stands (no walk). -/
import Derived.Test.YtfglbgnjgapehaaLSn
namespace Go.Proofs.Ytfglbgnjgapehaa.LMu
open Go.RowKit Go.Proofs.Ytfglbgnjgapehaa.UBase Go.Proofs.Ytfglbgnjgapehaa.EPure Go.Proofs.Ytfglbgnjgapehaa.LPure Go.Proofs.Ytfglbgnjgapehaa.LRd Go.Proofs.Ytfglbgnjgapehaa.LSk Go.Proofs.Ytfglbgnjgapehaa.LNm Go.Proofs.Ytfglbgnjgapehaa.LUp Go.Proofs.Ytfglbgnjgapehaa.LTe Go.Proofs.Ytfglbgnjgapehaa.LPl Go.Proofs.Ytfglbgnjgapehaa.LSc Go.Proofs.Ytfglbgnjgapehaa.LOc Go.Proofs.Ytfglbgnjgapehaa.LEn Go.Proofs.Ytfglbgnjgapehaa.LIn Go.Proofs.Ytfglbgnjgapehaa.LSn
set_option linter.unusedVariables false

theorem mpl_ge (s : ByteArray) (x : List UInt8) (i : Nat) : i ≤ mpl s x i := by unfold mpl; split <;> omega
theorem upl_ge (s : ByteArray) (i : Nat) (x : List UInt8) : i ≤ upl s i x := by unfold upl; split <;> omega
theorem pre_one {s : ByteArray} {i : Nat} (h : i < s.size) (h60 : at' s i = 60) : pre s i [60] = true := by
  have hz : s.data.toList.length = s.size := by simp
  have hb := at_get s i h
  rw [h60] at hb
  unfold pre
  simp only [Bool.and_eq_true, decide_eq_true_eq, beq_iff_eq]
  refine ⟨by simp; omega, ?_⟩
  rw [List.drop_eq_getElem_cons (by omega)]
  simp only [List.length_cons, List.length_nil, List.take_succ_cons, List.take_zero]
  congr 1
  have : (s.data.toList[i]'(by omega)).toNat = 60 := by rw [hb]; rfl
  exact UInt8.toNat_inj.1 this
theorem end_gt {s : ByteArray} {Y : Nat} (h : pre s Y [62] = true ∨ pre s Y [47] = true) : Y < mpl s [62] (mpl s [47] Y) := by
  cases p : pre s Y [47] with
  | true =>
    have e : mpl s [47] Y = Y + 1 := by unfold mpl; rw [if_pos p]; rfl
    rw [e]
    have := mpl_ge s [62] (Y + 1)
    omega
  | false =>
    have e : mpl s [47] Y = Y := by unfold mpl; rw [if_neg (by rw [p]; decide)]
    rw [e]
    rcases h with h | h
    · have e2 : mpl s [62] Y = Y + 1 := by unfold mpl; rw [if_pos h]; rfl
      omega
    · rw [p] at h; cases h
theorem tok_adv {s : ByteArray} {i : Nat} {b : Bool} {f : F} (hi : b = true ∨ i < s.size) (hf : (LSn.tok s i b f).f.1 = 0) : i < (LSn.tok s i b f).i := by
  have hY := skp_ge isb s i
  unfold LSn.tok at hf ⊢
  by_cases hb : b = true
  · rw [if_pos hb] at hf ⊢
    by_cases p0 : pre s (skp isb s i) [62] = true
    · rw [if_pos p0]
      exact Nat.lt_of_le_of_lt hY (end_gt (Or.inl p0))
    · rw [if_neg p0] at hf ⊢
      by_cases p1 : pre s (skp isb s i) [47] = true
      · rw [if_pos p1]
        exact Nat.lt_of_le_of_lt hY (end_gt (Or.inr p1))
      · rw [if_neg p1] at hf ⊢
        by_cases hap : i < skp isb s i
        · rw [if_pos hap]
          show i < LAt.a5 s (skp isb s i)
          refine Nat.lt_of_lt_of_le hap ?_
          unfold LAt.a5 LAt.a4 LAt.a3 LAt.a2 LAt.a1
          exact Nat.le_trans (Nat.le_trans (Nat.le_trans (Nat.le_trans (mpl_ge s [58] _) (skp_ge tgb s _)) (mpl_ge s [61] _)) (mpl_ge s [34] _)) (upl_ge s _ [34])
        · rw [if_neg hap] at hf
          exfalso
          unfold tkN rf at hf
          simp only at hf
          by_cases h0 : f.1 = 0
          · rw [if_pos h0] at hf; simp at hf
          · rw [if_neg h0] at hf; exact h0 hf
  · rw [if_neg hb]
    by_cases p0 : pre s i [123, 123] = true
    · rw [if_pos p0]
      have := upl_ge s (i + 2) [125, 125]
      show i < upl s (i + 2) [125, 125]
      omega
    · rw [if_neg p0]
      by_cases p1 : pre s i [60, 47] = true
      · rw [if_pos p1]
        show i < mpl s [62] (skp isb s (nE s (i + 2)))
        have := Nat.le_trans (Nat.le_trans (skp_ge tgb s (i + 2)) (skp_ge isb s _)) (mpl_ge s [62] (skp isb s (skp tgb s (i + 2))))
        exact Nat.lt_of_lt_of_le (by omega) this
      · rw [if_neg p1]
        by_cases p2 : pre s i [60] = true
        · rw [if_pos p2]
          exact Nat.lt_of_lt_of_le (Nat.lt_succ_self i) (skp_ge tgb s (i + 1))
        · rw [if_neg p2]
          have hlt : i < s.size := hi.resolve_left hb
          show i < tnd s i
          rw [tnd_step hlt (fun h => p2 (pre_one hlt h)) (by simpa using p0)]
          exact Nat.lt_of_lt_of_le (Nat.lt_succ_self i) (tnd_ge s (i + 1))
/-- The plain lexer: the tokens up to the first fault or the end, and the fault. -/
def lxs (s : ByteArray) : Nat → Nat → Bool → List Tz → List Tz × F
  | 0, _, _, acc => (acc, (0, 0))
  | n + 1, i, b, acc =>
    if b = true ∨ i < s.size then
      (if (LSn.tok s i b (0, 0)).f.1 = 0 then lxs s n (LSn.tok s i b (0, 0)).i (LSn.tok s i b (0, 0)).b (acc ++ [LSn.tok s i b (0, 0)]) else (acc, (LSn.tok s i b (0, 0)).f))
    else (acc, (0, 0))
end Go.Proofs.Ytfglbgnjgapehaa.LMu
