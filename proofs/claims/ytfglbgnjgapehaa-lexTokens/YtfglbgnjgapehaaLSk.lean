/- Templates: contract of skip. -/
import Derived.Test.YtfglbgnjgapehaaLRd
import Derived.BigQuiet
namespace Go.Proofs.Ytfglbgnjgapehaa.LSk
open Go.RowKit Go.Proofs.Ytfglbgnjgapehaa.UBase Go.Proofs.Ytfglbgnjgapehaa.EPure Go.Proofs.Ytfglbgnjgapehaa.LPure Go.Proofs.Ytfglbgnjgapehaa.LRd
set_option linter.unusedVariables false

theorem skp_step {p : Nat → Bool} {s : ByteArray} {i : Nat} (h : i < s.size) (hp : p (at' s i) = true) : skp p s i = skp p s (i + 1) := by
  unfold skp
  obtain ⟨f, hf⟩ : ∃ f, s.size - i = f + 1 := ⟨s.size - i - 1, by omega⟩
  rw [hf, sk, if_pos ⟨h, hp⟩, show s.size - (i + 1) = f by omega]
theorem skp_stop {p : Nat → Bool} {s : ByteArray} {i : Nat} (h : ¬ (i < s.size ∧ p (at' s i) = true)) : skp p s i = i := by
  unfold skp
  cases s.size - i with
  | zero => rfl
  | succ f => rw [sk, if_neg h]
theorem sk_le (p : Nat → Bool) (s : ByteArray) : ∀ f i, i ≤ sk p s f i ∧ (i ≤ s.size → sk p s f i ≤ s.size)
  | 0, i => ⟨Nat.le_refl _, id⟩
  | f + 1, i => by
    rw [sk]
    by_cases h : i < s.size ∧ p (at' s i) = true
    · rw [if_pos h]
      have := sk_le p s f (i + 1)
      exact ⟨by omega, fun _ => this.2 (by omega)⟩
    · rw [if_neg h]
      exact ⟨Nat.le_refl _, id⟩
theorem skp_ge (p : Nat → Bool) (s : ByteArray) (i : Nat) : i ≤ skp p s i := (sk_le p s _ i).1
theorem skp_in {p : Nat → Bool} {s : ByteArray} {i : Nat} (h : i ≤ s.size) : skp p s i ≤ s.size := (sk_le p s _ i).2 h
/-- The set of bytes that a text names. -/
def SetIs (those : ByteArray) (p : Nat → Bool) : Prop := ∀ c, c < 256 → decide ((0 : Int) ≤ Lib.indexByte those.data.toList c.toUInt8) = p c
set_option maxRecDepth 40000 in
theorem set_b : SetIs ⟨#[32, 9, 10, 13]⟩ isb := by unfold SetIs; decide
set_option maxRecDepth 40000 in
theorem set_t : SetIs ⟨#[97, 98, 99, 100, 101, 102, 103, 104, 105, 106, 107, 108, 109, 110, 111, 112, 113, 114, 115, 116, 117, 118, 119, 120, 121, 122, 48, 49, 50, 51, 52, 53, 54, 55, 56, 57, 45]⟩ tgb := by unfold SetIs; decide +kernel
def plc (R : Nat) (w : World) : Nat := match w.cell? ⟨R, 1, none⟩ with
  | some (.int _ i) => i.toNat
  | _ => 0
theorem plc_of {w : World} {R : Nat} {s : ByteArray} {a : Nat} {b : Bool} {f : F} (h : Lr w R s a b f) : plc R w = a := by
  unfold plc
  rw [h.cells.2.1]
  simp
set_option maxRecDepth 20000 in
set_option maxHeartbeats 1600000 in
theorem skip_c {w : World} {R : Nat} {s those : ByteArray} {a : Nat} {b : Bool} {f : F} {p : Nat → Bool} (hp : SetIs those p) (h : Lr w R s a b f) :
    Calls Try.prog 52 #[ptr R, .string those] w fun e w' => e = .returned (.string (sub s a (skp p s a))) ∧ Lr w' R s (skp p s a) b f ∧ Kr R w w' := by
  have hRlt := h.lt
  have hsz := h.sz
  have hla := h.la
  have HP : Hid (SetIs those p) := hp
  obtain ⟨X, hX⟩ : ∃ X, skp p s a = X := ⟨_, rfl⟩
  rw [hX]
  have hXa : a ≤ X := by rw [← hX]; exact skp_ge p s a
  have hXs : X ≤ s.size := by rw [← hX]; exact skp_in hla
  obtain ⟨k0, k1, k2, k3, k4⟩ := h.cells
  have HX : Hid (skp p s a = X) := hX
  have HE : Hid (Lr w R s a b f) := h
  unfold ptr
  clear hX h hp
  go_enter Try.func52, Try.ntmps52
  go_wp2_with fail
  go_loopw [] (fun wr => ∃ j : Nat, a ≤ j ∧ skp p s j = X ∧ Lr wr R s j b f ∧ Kr R w wr) (fun wr => s.size - plc R wr)
  case atStart => exact ⟨a, Nat.le_refl _, HX.out, HE.out, Kr.refl _ _⟩
  case round =>
    clear HX HE k0 k1 k2 k3 k4
    obtain ⟨j, haj, hj, hE, hK⟩ := hrel
    obtain ⟨k0, k1, k2, k3, k4⟩ := hE.cells
    have f1 := hE.free 1
    have hlj := hE.la
    have HM : Hid (plc R wr = j) := plc_of hE
    by_cases hjl : j < s.size
    · have d0 : decide (j < s.size) = true := decide_eq_true hjl
      obtain ⟨y, hy⟩ : ∃ y, (s[j]'hjl).toNat = y := ⟨_, rfl⟩
      have hya : at' s j = y := by rw [← hy]; exact at_get s j hjl
      have hy256 : y < 256 := by rw [← hya]; exact at_lt s j
      have hset := HP.out y hy256
      have cI := fun W => Try.strings_IndexByte those (y : Int) W
      simp only [Int.toNat_natCast] at cI
      obtain ⟨v, hv⟩ : ∃ v, Lib.indexByte those.data.toList y.toUInt8 = v := ⟨_, rfl⟩
      rw [hv] at cI hset
      by_cases hpy : p y = true
      · have hJ2 : Hid (∀ m, Lr ((wr.drewN m).setCell ⟨R, 1, none⟩ (.int .i64 ((j : Int) + 1))) R s (j + 1) b f) := fun m => by
          have := (hE.drewN m).go (j + 1) (by omega)
          rwa [show ((j + 1 : Nat) : Int) = (j : Int) + 1 from by omega] at this
        have HS : Hid (skp p s (j + 1) = X) := by
          show _ = _
          rw [← hj, skp_step hjl (by rw [hya]; exact hpy)]
        rw [hpy] at hset
        clear hE hj hya hv
        go_wp2_with fail
        go_quiet (first | (go_at_call 66; exact Calls.quiet_of_same (cI _)))
        go_wp2_with fail
        go_roundw
        case rel => exact ⟨j + 1, by omega, HS.out, hJ2.out nq, (hK.drewN nq).set 1 _⟩
        case measure =>
          show s.size - plc R _ < s.size - plc R wr
          rw [plc_of (hJ2.out nq), HM.out]
          omega
      · have hpf : p y = false := by simpa using hpy
        have hjX : j = X := by rw [← hj, skp_stop (by rw [hya]; simp [hpf])]
        subst hjX
        have HE2 : Hid (∀ m, Lr (wr.drewN m) R s j b f) := fun m => hE.drewN m
        rw [hpf] at hset
        clear hE hj hya hpy hv
        go_wp2_with fail
        go_quiet (first | (go_at_call 66; exact Calls.quiet_of_same (cI _)))
        go_wp2_with fail
        have hE3 := HE2.out nq
        obtain ⟨k0, k1, k2, k3, k4⟩ := hE3.cells
        have b1 : (0 : Int) ≤ (a : Int) := by omega
        have b2 : (a : Int) ≤ (j : Int) := by omega
        have b3 : (j : Int) ≤ (s.size : Int) := by omega
        have b4 : (0 : Int) ≤ (j : Int) := by omega
        clear hE3
        go_quiet (fail)
        go_wp2_with fail
        go_ret
        exact ⟨rfl, (HE2.out _).drewN _, (hK.drewN _).drewN _⟩
    · have d0 : decide (j < s.size) = false := decide_eq_false hjl
      have hjX : j = X := by rw [← hj, skp_stop (by simp [hjl])]
      subst hjX
      have HE2 : Hid (∀ m, Lr (wr.drewN m) R s j b f) := fun m => hE.drewN m
      have cI := fun W => Try.strings_IndexByte those 0 W
      have HB : Hid (a ≤ j ∧ j ≤ s.size) := ⟨hXa, hXs⟩
      clear hE hj hjl hlj hXa hXs hla haj
      go_wp2_with fail
      go_quiet (first | (go_at_call 66; exact Calls.quiet_of_same (cI _)))
      go_wp2_with fail
      have hE3 := HE2.out nq
      obtain ⟨k0, k1, k2, k3, k4⟩ := hE3.cells
      obtain ⟨hXa, hXs⟩ := HB.out
      have b1 : (0 : Int) ≤ (a : Int) := by omega
      have b2 : (a : Int) ≤ (j : Int) := by omega
      have b3 : (j : Int) ≤ (s.size : Int) := by omega
      have b4 : (0 : Int) ≤ (j : Int) := by omega
      clear hE3
      go_quiet (fail)
      go_wp2_with fail
      go_ret
      exact ⟨rfl, (HE2.out _).drewN _, (hK.drewN _).drewN _⟩
end Go.Proofs.Ytfglbgnjgapehaa.LSk
