/- Templates: contracts of strings.Clone, limit, name. -/
import Derived.Test.YtfglbgnjgapehaaLSk
import Derived.Test.YtfglbgnjgapehaaUWord
import Derived.BigQuiet
namespace Go.Proofs.Ytfglbgnjgapehaa.LNm
open Go.RowKit Go.Proofs.Ytfglbgnjgapehaa.UBase Go.Proofs.Ytfglbgnjgapehaa.EPure Go.Proofs.Ytfglbgnjgapehaa.LPure Go.Proofs.Ytfglbgnjgapehaa.LRd Go.Proofs.Ytfglbgnjgapehaa.LSk
set_option linter.unusedVariables false

/-- All is well, or a fault. -/
def fif (c : Bool) (f e : F) : F := if c = true then f else rf f e
theorem fif_t (f e : F) : fif true f e = f := rfl
theorem fif_f (f e : F) : fif false f e = rf f e := rfl
theorem clone_c (s : ByteArray) (hs : s.size ≤ 281474976710656) (w : World) :
    Calls Try.prog 58 #[.string s] w fun e w' => e = .returned (.string s) ∧ Below w.heap.size w w' := by
  have c := Try.stringslite_Clone s w hs
  go_enter Try.func58, Try.ntmps58
  go_wp2_with fail
  refine c.mono ?_
  rintro e w1 ⟨rfl, hb⟩
  have HB : Hid (Below w.heap.size w w1) := hb
  clear c hb
  go_wp2_with fail
  go_ret
  exact ⟨rfl, HB.out⟩
theorem limit_c {w : World} {R : Nat} {s : ByteArray} {i : Nat} {b : Bool} {f : F} (h : Lr w R s i b f) (t : ByteArray) (p : Nat) :
    Calls Try.prog 62 #[ptr R, .string t, .int .i64 p] w fun e w' => (∃ r, e = .returned r) ∧ Lr w' R s i b (fif (decide (t.size ≤ 4096)) f (1201, p)) ∧ Kr R w w' := by
  have c := refuse_c h (1201, p)
  by_cases ht : t.size ≤ 4096
  · have HF : Hid (fif (decide (t.size ≤ 4096)) f (1201, p) = f) := by show _ = _; rw [decide_eq_true ht, fif_t]
    have HE : Hid (Lr w R s i b f) := h
    unfold ptr
    clear c h
    go_enter Try.func62, Try.ntmps62
    go_wp2_with fail
    go_end0
    rw [HF.out]
    exact ⟨⟨_, rfl⟩, HE.out, Kr.refl _ _⟩
  · have HF : Hid (fif (decide (t.size ≤ 4096)) f (1201, p) = rf f (1201, p)) := by show _ = _; rw [decide_eq_false ht, fif_f]
    unfold ptr at c ⊢
    clear h
    go_enter Try.func62, Try.ntmps62
    go_wp2_with fail
    refine c.mono ?_
    rintro e w1 ⟨⟨r, rfl⟩, h1, k1⟩
    have H1 : Hid (Lr w1 R s i b (rf f (1201, p)) ∧ Kr R w w1) := ⟨h1, k1⟩
    clear c h1 k1
    go_wp2_with fail
    go_end0
    rw [HF.out]
    exact ⟨⟨_, rfl⟩, H1.out⟩
/-- A tag: where it does not stand, its beginning is the fault's place. -/
theorem name_c {w : World} {R : Nat} {s : ByteArray} {i : Nat} {b : Bool} {f : F} (h : Lr w R s i b f) :
    Calls Try.prog 59 #[ptr R] w fun e w' => e = .returned (.string (sub s i (skp tgb s i))) ∧ Lr w' R s (skp tgb s i) b (fif (word (sub s i (skp tgb s i)) 45) f (1202, i)) ∧ Kr R w w' := by
  have cS := skip_c set_t h
  obtain ⟨X, hX⟩ : ∃ X, skp tgb s i = X := ⟨_, rfl⟩
  rw [hX] at cS ⊢
  obtain ⟨N, hN⟩ : ∃ N, sub s i X = N := ⟨_, rfl⟩
  rw [hN] at cS ⊢
  have hNs : N.size ≤ 65536 := by
    have := h.sz
    rw [← hN]
    unfold sub
    rw [ByteArray.size_extract]
    omega
  obtain ⟨U, hU⟩ : ∃ U, fif (word N 45) f (1202, i) = U := ⟨_, rfl⟩
  rw [hU]
  have HU : Hid (fif (word N 45) f (1202, i) = U) := hU
  obtain ⟨k0, k1, k2, k3, k4⟩ := h.cells
  unfold ptr at cS ⊢
  clear h hX hN hU
  go_enter Try.func59, Try.ntmps59
  go_wp2_with fail
  refine cS.mono ?_
  rintro e w1 ⟨rfl, h1, k1'⟩
  have HK1 : Hid (Kr R w w1) := k1'
  have HR1 : Hid (Lr w1 R s X b f) := h1
  have cM := misplaced_c h1 i
  have cT := UWord.tag_c N (by omega) w1
  unfold ptr at cM
  clear cS h1 k1' k0 k1 k2 k3 k4
  cases hw : word N 45 with
  | true =>
    rw [hw] at cT
    have HV : Hid (f = U) := by have := HU.out; rwa [hw, fif_t] at this
    go_wp2_with fail
    refine cT.mono ?_
    rintro e w2 ⟨rfl, hw2⟩
    subst w2
    clear cT cM hw
    have cC := clone_c N (by omega) w1
    go_wp2_with fail
    refine cC.mono ?_
    rintro e w2 ⟨rfl, hb⟩
    have H2 : Hid (Lr w2 R s X b f ∧ Kr R w w2) := ⟨HR1.out.low hb, HK1.out.trans (Kr.of_below hb (Nat.le_of_lt HR1.out.lt))⟩
    clear cC hb
    go_wp2_with fail
    go_ret
    rw [← HV.out]
    exact ⟨rfl, H2.out⟩
  | false =>
    rw [hw] at cT
    have HV : Hid (rf f (1202, i) = U) := by have := HU.out; rwa [hw, fif_f] at this
    go_wp2_with fail
    refine cT.mono ?_
    rintro e w2 ⟨rfl, hw2⟩
    subst w2
    clear cT hw
    go_wp2_with fail
    refine cM.mono ?_
    rintro e w2 ⟨⟨r, rfl⟩, h2, k2⟩
    have cC := clone_c N (by omega) w2
    have HK2 : Hid (Kr R w w2 ∧ Lr w2 R s X b (rf f (1202, i))) := ⟨HK1.out.trans k2, h2⟩
    clear cM h2 k2
    go_wp2_with fail
    refine cC.mono ?_
    rintro e w3 ⟨rfl, hb⟩
    have H3 : Hid (Lr w3 R s X b (rf f (1202, i)) ∧ Kr R w w3) := ⟨HK2.out.2.low hb, HK2.out.1.trans (Kr.of_below hb (Nat.le_of_lt HK2.out.2.lt))⟩
    clear cC hb
    go_wp2_with fail
    go_ret
    rw [← HV.out]
    exact ⟨rfl, H3.out⟩
end Go.Proofs.Ytfglbgnjgapehaa.LNm
