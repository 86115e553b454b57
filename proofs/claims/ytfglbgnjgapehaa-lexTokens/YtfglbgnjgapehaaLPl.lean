/- Templates: contracts of plain, interpolation, openingTag, closingTag. -/
import Derived.Test.YtfglbgnjgapehaaLTe
import Derived.Test.YtfglbgnjgapehaaHPlain
import Derived.BigQuiet
namespace Go.Proofs.Ytfglbgnjgapehaa.LPl
open Go.RowKit Go.Proofs.Ytfglbgnjgapehaa.UBase Go.Proofs.Ytfglbgnjgapehaa.EPure Go.Proofs.Ytfglbgnjgapehaa.LPure Go.Proofs.Ytfglbgnjgapehaa.LRd Go.Proofs.Ytfglbgnjgapehaa.LSk Go.Proofs.Ytfglbgnjgapehaa.LNm Go.Proofs.Ytfglbgnjgapehaa.LUp Go.Proofs.Ytfglbgnjgapehaa.LTe
set_option linter.unusedVariables false

theorem pl_le : ∀ (f : Nat) (l : List UInt8) (p : Nat) (acc : List UInt8), (HBase.pl f l p acc).2.1 ≤ p + 8 * f
  | 0, l, p, acc => by simp [HBase.pl]
  | f + 1, [], p, acc => by simp [HBase.pl]
  | f + 1, c :: r, p, acc => by
    by_cases h : c.toNat = 38
    · cases hb : HBase.hit (c :: r) with
      | none => rw [HBase.pl_none h hb]; show p ≤ _; omega
      | some b =>
        rw [HBase.pl_hit h hb]
        have h1 := pl_le f ((c :: r).drop (HBase.ent b).length) (p + (HBase.ent b).length) (acc ++ [UInt8.ofNat b])
        have h2 := HBase.ent_len b
        omega
    · rw [HBase.pl_byte h]
      have h1 := pl_le f r (p + 1) (acc ++ [c])
      omega
theorem pat_le (s : ByteArray) : HBase.pat s ≤ 8 * s.size := by
  have := pl_le s.size s.data.toList 0 []
  unfold HBase.pat HBase.plain
  omega
theorem plain_c {w : World} {R : Nat} {s : ByteArray} {i : Nat} {b : Bool} {f : F} (h : Lr w R s i b f) (p : Nat) (t : ByteArray) (hp : p ≤ 65536) (ht : t.size ≤ 65536) :
    Calls Try.prog 61 #[ptr R, .int .i64 p, .string t] w fun e w' => e = .returned (.string (HBase.ptext t)) ∧ Lr w' R s i b (fif (HBase.perr t == 0) f (1204, p + HBase.pat t)) ∧ Kr R w w' := by
  have cP := HPlain.plain_c t (by omega) w
  have hpa := pat_le t
  obtain ⟨T, hT⟩ : ∃ T, HBase.ptext t = T := ⟨_, rfl⟩
  obtain ⟨q, hq⟩ : ∃ q, HBase.pat t = q := ⟨_, rfl⟩
  obtain ⟨r, hr⟩ : ∃ r, HBase.perr t = r := ⟨_, rfl⟩
  rw [hT, hq, hr] at cP ⊢
  rw [hq] at hpa
  obtain ⟨U, hU⟩ : ∃ U, fif (r == 0) f (1204, p + q) = U := ⟨_, rfl⟩
  rw [hU]
  have HU : Hid (fif (r == 0) f (1204, p + q) = U) := hU
  have HE : Hid (Lr w R s i b f) := h
  unfold ptr
  clear h hT hq hr hU
  go_enter Try.func61, Try.ntmps61
  go_wp2_with fail
  refine cP.mono ?_
  rintro e w1 ⟨rfl, hb⟩
  have h1 := HE.out.low hb
  have HK1 : Hid (Kr R w w1 ∧ Lr w1 R s i b f) := ⟨Kr.of_below hb (Nat.le_of_lt HE.out.lt), h1⟩
  have cR := refuse_c h1 (1204, p + q)
  unfold ptr at cR
  rw [show ((p + q : Nat) : Int) = (p : Int) + (q : Int) by omega] at cR
  clear cP hb h1
  by_cases hr : r = 0
  · have HV : Hid (f = U) := by have := HU.out; rwa [show (r == 0) = true by simp [hr], fif_t] at this
    have d : ((r : Int) != 0) = false := by simp [hr]
    clear hr cR
    go_wp2_with fail
    go_ret
    rw [← HV.out]
    exact ⟨rfl, HK1.out.2, HK1.out.1⟩
  · have HV : Hid (rf f (1204, p + q) = U) := by have := HU.out; rwa [show (r == 0) = false by simp [hr], fif_f] at this
    have d : ((r : Int) != 0) = true := by simp; omega
    clear hr
    go_wp2_with fail
    refine cR.mono ?_
    rintro e w2 ⟨⟨r', rfl⟩, h2, k2⟩
    have H2 : Hid (Lr w2 R s i b (rf f (1204, p + q)) ∧ Kr R w w2) := ⟨h2, HK1.out.1.trans k2⟩
    clear cR h2 k2
    go_wp2_with fail
    go_ret
    rw [← HV.out]
    exact ⟨rfl, H2.out⟩
end Go.Proofs.Ytfglbgnjgapehaa.LPl
