/- Templates: contract of textEnd. -/
import Derived.Test.YtfglbgnjgapehaaLUp
import Derived.BigQuiet
import Derived.WalkMore
import Derived.Deep.LoopGhost
namespace Go.Proofs.Ytfglbgnjgapehaa.LTe
open Go.RowKit Go.Proofs.Ytfglbgnjgapehaa.UBase Go.Proofs.Ytfglbgnjgapehaa.EPure Go.Proofs.Ytfglbgnjgapehaa.LPure Go.Proofs.Ytfglbgnjgapehaa.LRd Go.Proofs.Ytfglbgnjgapehaa.LSk Go.Proofs.Ytfglbgnjgapehaa.LNm
set_option linter.unusedVariables false

/-- The end of the plain text that begins here. -/
def tnd (s : ByteArray) (i : Nat) : Nat := txe s (s.size - i) i
theorem tnd_step {s : ByteArray} {i : Nat} (h : i < s.size) (h1 : at' s i ≠ 60) (h2 : pre s i [123, 123] = false) : tnd s i = tnd s (i + 1) := by
  unfold tnd
  obtain ⟨f, hf⟩ : ∃ f, s.size - i = f + 1 := ⟨s.size - i - 1, by omega⟩
  rw [hf, txe, if_pos ⟨h, h1, h2⟩, show s.size - (i + 1) = f by omega]
theorem tnd_stop {s : ByteArray} {i : Nat} (h : ¬ (i < s.size ∧ at' s i ≠ 60 ∧ pre s i [123, 123] = false)) : tnd s i = i := by
  unfold tnd
  cases s.size - i with
  | zero => rfl
  | succ f => rw [txe, if_neg h]
theorem txe_le (s : ByteArray) : ∀ f i, i ≤ txe s f i ∧ (i ≤ s.size → txe s f i ≤ s.size)
  | 0, i => ⟨Nat.le_refl _, id⟩
  | f + 1, i => by
    rw [txe]
    by_cases h : i < s.size ∧ at' s i ≠ 60 ∧ pre s i [123, 123] = false
    · rw [if_pos h]
      have := txe_le s f (i + 1)
      exact ⟨by omega, fun _ => this.2 (by omega)⟩
    · rw [if_neg h]
      exact ⟨Nat.le_refl _, id⟩
theorem tnd_ge (s : ByteArray) (i : Nat) : i ≤ tnd s i := (txe_le s _ i).1
theorem tnd_in {s : ByteArray} {i : Nat} (h : i ≤ s.size) : tnd s i ≤ s.size := (txe_le s _ i).2 h
theorem pre_byte {s : ByteArray} {i : Nat} (h : at' s i ≠ 123) : pre s i [123, 123] = false := by
  cases hp : pre s i [123, 123] with
  | false => rfl
  | true =>
    exfalso
    have hle := pre_le hp
    have hz : s.data.toList.length = s.size := by simp
    simp only [List.length_cons, List.length_nil] at hle
    unfold pre at hp
    simp only [Bool.and_eq_true, decide_eq_true_eq, beq_iff_eq] at hp
    have h2 := congrArg (fun l => l[0]?) hp.2
    simp only [List.length_cons, List.length_nil] at h2
    rw [List.getElem?_take_of_lt (by omega), List.getElem?_drop] at h2
    have hb := at_get s i (by omega)
    apply h
    rw [hb]
    have : s.data.toList[i]? = some (s[i]'(by omega)) := by
      rw [List.getElem?_eq_getElem (by omega)]
      rfl
    rw [Nat.add_zero, this] at h2
    simp only [List.getElem?_cons_zero, Option.some.injEq] at h2
    rw [h2]
    rfl
set_option maxRecDepth 20000 in
set_option maxHeartbeats 1600000 in
theorem textEnd_c {w : World} {R : Nat} {s : ByteArray} {i : Nat} {b : Bool} {f : F} (h : Lr w R s i b f) :
    Calls Try.prog 60 #[ptr R] w fun e w' => e = .returned (.int .i64 (tnd s i)) ∧ w' = w := by
  have hsz := h.sz
  have hla := h.la
  obtain ⟨k0, k1, k2, k3, k4⟩ := h.cells
  obtain ⟨X, hX⟩ : ∃ X, tnd s i = X := ⟨_, rfl⟩
  rw [hX]
  have HX : Hid (tnd s i = X) := hX
  unfold ptr
  clear hX h
  go_enter Try.func60, Try.ntmps60
  go_wp2_with fail
  go_step3
  go_wp2_with fail
  go_step3
  go_wp2_with fail
  go_loopg [3] (s.size - i) (fun g v wr => ∃ n : Nat, n + g = s.size ∧ v = .int .i64 n ∧ wr = w ∧ Hid (tnd s n = X))
  case atStart => exact ⟨i, by omega, rfl, rfl, HX⟩
  case round =>
    obtain ⟨n, hg, rfl, rfl, HN⟩ := hrel
    by_cases hlt : n < s.size
    · obtain ⟨c, hc⟩ : ∃ c, (s[n]'hlt).toNat = c := ⟨_, rfl⟩
      have hca : at' s n = c := by rw [← hc]; exact at_get s n hlt
      by_cases h60 : c = 60
      · have HE : Hid (n = X) := by
          show _ = _
          rw [← HN.out, tnd_stop (fun q => q.2.1 (by rw [hca]; exact h60))]
        have d1 : ((c : Int) == 60) = true := by simp; omega
        clear HN HX hca
        go_wp2_with fail
        try rw [Exit.noGoto_ret]
        go_ret
        rw [HE.out]
        exact ⟨rfl, rfl⟩
      · have d1 : ((c : Int) == 60) = false := by simp; omega
        by_cases h123 : c = 123
        · have d2 : ((c : Int) == 123) = true := by simp; omega
          have cH := fun W => Try.strings_HasPrefix (s.extract n s.size) ⟨#[123, 123]⟩ W
          have hpe := pre_eq s n (by omega) [123, 123]
          simp only at hpe
          rw [hpe] at cH
          cases hp : pre s n [123, 123] with
          | true =>
            rw [hp] at cH
            have HE : Hid (n = X) := by
              show _ = _
              rw [← HN.out, tnd_stop (fun q => by rw [hp] at q; exact Bool.noConfusion q.2.2)]
            clear HN HX hca
            go_wp2_with (first | (go_at_call 39; refine (cH _).mono ?_; rintro e w' ⟨rfl, rfl⟩))
            try rw [Exit.noGoto_ret]
            go_ret
            rw [HE.out]
            exact ⟨rfl, rfl⟩
          | false =>
            rw [hp] at cH
            have HN2 : Hid (tnd s (n + 1) = X) := by
              show _ = _
              rw [← HN.out, tnd_step hlt (by rw [hca]; exact h60) hp]
            clear HN HX hca
            go_wp2_with (first | (go_at_call 39; refine (cH _).mono ?_; rintro e w' ⟨rfl, rfl⟩))
            go_roundg (s.size - (n + 1))
            case rel => exact ⟨n + 1, by omega, by go_num, rfl, HN2⟩
            case measure => omega
        · have d2 : ((c : Int) == 123) = false := by simp; omega
          have HN2 : Hid (tnd s (n + 1) = X) := by
            show _ = _
            rw [← HN.out, tnd_step hlt (by rw [hca]; exact h60) (pre_byte (by rw [hca]; exact h123))]
          clear HN HX hca
          go_wp2_with fail
          go_roundg (s.size - (n + 1))
          case rel => exact ⟨n + 1, by omega, by go_num, rfl, HN2⟩
          case measure => omega
    · have HE : Hid (n = X) := by
        show _ = _
        rw [← HN.out, tnd_stop (fun q => hlt q.1)]
      clear HN HX
      go_wp2_with fail
      try rw [Exit.noGoto_ret]
      go_ret
      rw [HE.out]
      exact ⟨rfl, rfl⟩
end Go.Proofs.Ytfglbgnjgapehaa.LTe
