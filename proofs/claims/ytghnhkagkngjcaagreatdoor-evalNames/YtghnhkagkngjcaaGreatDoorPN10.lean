import Derived.Deep.RegionWith
import Derived.Test.YtghnhkagkngjcaaGreatDoorPN07
import Derived.Test.YtghnhkagkngjcaaGreatDoorPN08
import Derived.Test.YtghnhkagkngjcaaGreatDoorPN09
set_option linter.unusedVariables false
set_option maxRecDepth 20000
set_option maxHeartbeats 3200000
namespace Go.Proofs.YtghnhkagkngjcaaGreatDoor.ENm
open Go.RowKit Base UBase EPure ERd ESk ETk
theorem number_zero {w : World} {R : Nat} {s : ByteArray} {a r : Nat} {t : Tk} (h : Er w R s a r t) (ha : at' s a = 48) :
  Calls Tryz.prog 100 #[ptr R] w fun e w' => e = .returned (.int .i64 0) ∧ Er w' R s (a + 1) r t ∧ Kr R w w' := by
 have hal : a < s.size := at_in (by omega)
 have hsz := h.sz
 have cN := next_c h hal
 rw [ha] at cN
 have HE : Hid (Er w R s a r t) := h
 unfold ptr at cN ⊢
 clear h
 go_enter Tryz.func100, Tryz.ntmps100
 go_wp2_with fail
 refine cN.mono ?_
 rintro e w1 ⟨rfl, k, rfl⟩
 have hE1 := HE.out.drewN k
 obtain ⟨k0, k1, -⟩ := hE1.cells
 have f1 := hE1.free 1
 have hE2 := hE1.go (a + 1) (by omega)
 rw [show ((a + 1 : Nat) : Int) = (a : Int) + 1 from by omega] at hE2
 have hK := ((Kr.refl R w).drewN k).set 1 (.int .i64 ((a : Int) + 1))
 have HE2 : Hid (Er ((w.drewN k).setCell ⟨R, 1, none⟩ (.int .i64 ((a : Int) + 1))) R s (a + 1) r t) := hE2
 clear cN hE1 hE2
 go_wp2_with fail
 go_ret
 exact ⟨rfl, HE2.out, hK⟩
theorem number_c {w : World} {R : Nat} {s : ByteArray} {a r : Nat} {t : Tk} (h : Er w R s a r t) (hal : a < s.size) (ha : at' s a ≠ 48) :
  Calls Tryz.prog 100 #[ptr R] w fun e w' => Kr R w w' ∧ Er w' R s (skp EPure.dig s a) r t ∧ if Nums.perr (Sums.bs (cut s a (skp EPure.dig s a))) = 0 then e = .returned (.int .i64 (Nums.pnum (Sums.bs (cut s a (skp EPure.dig s a))))) else e = .panicked (pk (1000, a)) := by
 have hsz := h.sz
 have cN := next_c h hal
 obtain ⟨y, hy⟩ : ∃ y, at' s a = y := ⟨_, rfl⟩
 rw [hy] at cN ha
 have e48 : ((y : Int) == 48) = false := by simp; omega
 have HE : Hid (Er w R s a r t) := h
 obtain ⟨X, hX⟩ : ∃ X, cut s a (skp EPure.dig s a) = X := ⟨_, rfl⟩
 have hXs : X.size ≤ 9223372036854775807 := by rw [← hX]; unfold cut; rw [ByteArray.size_extract]; omega
 have cP := fun W => Reads.parse X hXs W
 have HX : Hid (cut s a (skp EPure.dig s a) = X) := hX
 rw [hX]
 obtain ⟨pn, hpn⟩ : ∃ pn, Nums.pnum (Sums.bs X) = pn := ⟨_, rfl⟩
 obtain ⟨pe, hpe⟩ : ∃ pe, Nums.perr (Sums.bs X) = pe := ⟨_, rfl⟩
 rw [hpn, hpe] at cP ⊢
 obtain ⟨j, hj⟩ : ∃ j, skp EPure.dig s a = j := ⟨_, rfl⟩
 have HJ : Hid (skp EPure.dig s a = j) := hj
 rw [hj]
 unfold ptr at cN ⊢
 clear h hX hpn hpe hj hy
 by_cases h0 : pe = 0
 ·have e0 : (pe == 0) = true := by simp [h0]
  simp only [if_pos h0]
  clear h0
  go_enter Tryz.func100, Tryz.ntmps100
  go_wp2_with fail
  refine cN.mono ?_
  rintro e w1 ⟨rfl, k, rfl⟩
  have hE1 := HE.out.drewN k
  obtain ⟨k0, k1, -⟩ := hE1.cells
  have cS := skip_c set_d hE1
  rw [HX.out, HJ.out] at cS
  unfold ptr at cS
  have hK1 := (Kr.refl R w).drewN k
  clear cN hE1
  go_wp2_with fail
  refine cS.mono ?_
  rintro e w2 ⟨rfl, hE2, hK2⟩
  have hK := hK1.trans hK2
  clear cS k0 k1
  go_wp2_with (first | (go_at_call 129; refine (cP _).mono ?_; rintro e w' ⟨rfl, rfl⟩))
  go_ret
  exact ⟨hK, hE2, rfl⟩
 ·have e0 : (pe == 0) = false := by simp [h0]
  simp only [if_neg h0]
  clear h0
  go_enter Tryz.func100, Tryz.ntmps100
  go_wp2_with fail
  refine cN.mono ?_
  rintro e w1 ⟨rfl, k, rfl⟩
  have hE1 := HE.out.drewN k
  obtain ⟨k0, k1, -⟩ := hE1.cells
  have cS := skip_c set_d hE1
  rw [HX.out, HJ.out] at cS
  unfold ptr at cS
  have hK1 := (Kr.refl R w).drewN k
  clear cN hE1
  go_wp2_with fail
  refine cS.mono ?_
  rintro e w2 ⟨rfl, hE2, hK2⟩
  have hK := hK1.trans hK2
  clear cS k0 k1
  go_wp2_with (first | (go_at_call 129; refine (cP _).mono ?_; rintro e w' ⟨rfl, rfl⟩))
  exact ⟨rfl, hK, hE2, rfl⟩
theorem escaped_end {w : World} {R : Nat} {s : ByteArray} {r : Nat} {t : Tk} (h : Er w R s s.size r t) :
  Calls Tryz.prog 154 #[ptr R] w fun e w' => e = .panicked (pk (1000, s.size)) ∧ Kr R w w' := by
 have cN := next_end h
 unfold ptr at cN ⊢
 clear h
 go_enter Tryz.func154, Tryz.ntmps154
 go_wp2_with fail
 refine cN.mono ?_
 rintro e w1 ⟨rfl, k, rfl⟩
 exact ⟨rfl, rfl, (Kr.refl R w).drewN k⟩
end Go.Proofs.YtghnhkagkngjcaaGreatDoor.ENm
namespace Go.Proofs.YtghnhkagkngjcaaGreatDoor.EName
open Go.RowKit Base UBase EPure ERd ESk ETk
theorem at_extract (s : ByteArray) (i n k : Nat) (hn : n ≤ s.size) (hk : i + k < n) : at' (s.extract i n) k = at' s (i + k) := by
 rw [USmall.at_list, USmall.at_list, ByteArray.data_extract, Array.toList_extract, List.extract_eq_take_drop, List.getElem?_take, List.getElem?_drop, if_pos (by omega)]
theorem sk_all (p : Nat → Bool) (s : ByteArray) : ∀ f i j, i ≤ j → j < sk p s f i → p (at' s j) = true
 | 0, i, j, h1, h2 => by rw [sk] at h2; omega
 | f + 1, i, j, h1, h2 => by
  rw [sk] at h2
  by_cases h : i < s.size ∧ p (at' s i) = true
  ·rw [if_pos h] at h2
   by_cases e : j = i
   ·rw [e]; exact h.2
   ·exact sk_all p s f (i + 1) j (by omega) h2
  ·rw [if_neg h] at h2; omega
theorem cut_word {s : ByteArray} {a : Nat} (ha : a < s.size) (hl : UBase.let' (at' s a) = true) : UBase.word (cut s a (skp wrd s a)) 95 = decide (skp wrd s a - a ≤ 32) := by
 have h1 := skp_in (p := wrd) (s := s) (i := a) (by omega)
 have hw : wrd (at' s a) = true := by unfold wrd; rw [show EPure.let' (at' s a) = true from hl]; rfl
 have h2 : a < skp wrd s a := by rw [skp_step ha hw]; have := skp_ge wrd s (a + 1); omega
 have hsz : (cut s a (skp wrd s a)).size = skp wrd s a - a := by unfold cut; rw [ByteArray.size_extract]; omega
 have hat : ∀ i, i < (cut s a (skp wrd s a)).size → at' (cut s a (skp wrd s a)) i = at' s (a + i) := fun i hi => at_extract s a _ i h1 (by omega)
 by_cases h32 : skp wrd s a - a ≤ 32
 ·rw [decide_eq_true h32]
  refine UWord.word_of (by omega) (by omega) (by rw [hat 0 (by omega)]; exact hl) fun i hi => ?_
  rw [hat i hi]
  have := sk_all wrd s _ a (a + i) (by omega) (show a + i < skp wrd s a by omega)
  unfold wrd at this
  unfold sign
  simp only [Bool.or_eq_true] at this ⊢
  rcases this with h | h | h
  ·exact .inl h
  ·exact .inr (.inl h)
  ·exact .inr (.inr (by simpa using h))
 ·rw [decide_eq_false h32]
  exact UWord.word_not (by omega)
theorem Name_c (s : ByteArray) (hs : s.size ≤ 9223372036854775807) (w : World) :
  Calls Tryz.prog 42 #[.string s] w fun r w' => r = .returned (.bool (UBase.word s 95)) ∧ w' = w := by
 have c1 := UWord.own_c s hs 95 w
 go_enter Tryz.func42, Tryz.ntmps42
 go_wp2_with (first | (go_at_call 67; refine c1.mono ?_; rintro e w' ⟨rfl, rfl⟩))
 go_ret
 exact ⟨rfl, rfl⟩
set_option maxRecDepth 40000 in
theorem set_w : SetIs ⟨#[97, 98, 99, 100, 101, 102, 103, 104, 105, 106, 107, 108, 109, 110, 111, 112, 113, 114, 115, 116, 117, 118, 119, 120, 121, 122, 48, 49, 50, 51, 52, 53, 54, 55, 56, 57, 95]⟩ wrd := by unfold SetIs; decide
set_option maxRecDepth 40000 in
theorem set_l : SetIs ⟨#[97, 98, 99, 100, 101, 102, 103, 104, 105, 106, 107, 108, 109, 110, 111, 112, 113, 114, 115, 116, 117, 118, 119, 120, 121, 122]⟩ EPure.let' := by unfold SetIs; decide
theorem name_c {w : World} {R : Nat} {s : ByteArray} {a r : Nat} {t : Tk} (h : Er w R s a r t) (hal : a < s.size) (hl : UBase.let' (at' s a) = true) :
  Calls Tryz.prog 101 #[ptr R] w fun e w' => Kr R w w' ∧ Er w' R s (skp wrd s a) r t ∧ if skp wrd s a - a ≤ 32 then e = .returned (.string (cut s a (skp wrd s a))) else e = .panicked (pk (1000, a)) := by
 have hsz := h.sz
 have hcw := cut_word hal hl
 have cS := skip_c set_w h
 obtain ⟨k0, k1, -⟩ := h.cells
 obtain ⟨X, hX⟩ : ∃ X, cut s a (skp wrd s a) = X := ⟨_, rfl⟩
 have hXs : X.size ≤ 9223372036854775807 := by rw [← hX]; unfold cut; rw [ByteArray.size_extract]; omega
 have cN := fun W => Name_c X hXs W
 rw [hX] at cS hcw ⊢
 rw [hcw] at cN
 obtain ⟨j, hj⟩ : ∃ j, skp wrd s a = j := ⟨_, rfl⟩
 rw [hj] at cS cN ⊢
 unfold ptr at cS ⊢
 clear h hX hj hcw
 by_cases h0 : j - a ≤ 32
 ·simp only [if_pos h0]
  rw [decide_eq_true h0] at cN
  clear h0
  go_enter Tryz.func101, Tryz.ntmps101
  go_wp2_with fail
  refine cS.mono ?_
  rintro e w2 ⟨rfl, hE2, hK2⟩
  clear cS k0 k1
  go_wp2_with (first | (go_at_call 42; refine (cN _).mono ?_; rintro e w' ⟨rfl, rfl⟩))
  go_ret
  exact ⟨hK2, hE2, rfl⟩
 ·simp only [if_neg h0]
  rw [decide_eq_false h0] at cN
  clear h0
  go_enter Tryz.func101, Tryz.ntmps101
  go_wp2_with fail
  refine cS.mono ?_
  rintro e w2 ⟨rfl, hE2, hK2⟩
  clear cS k0 k1
  go_wp2_with (first | (go_at_call 42; refine (cN _).mono ?_; rintro e w' ⟨rfl, rfl⟩))
  exact ⟨rfl, hK2, hE2, rfl⟩
end Go.Proofs.YtghnhkagkngjcaaGreatDoor.EName
namespace Go.Proofs.YtghnhkagkngjcaaGreatDoor.EEsc
open Go.RowKit Base UBase EPure ERd ESk ETk
theorem idx_none : ∀ c, c < 256 → esc c = none → Lib.indexByte [39, 92, 125, 110] c.toUInt8 = -1 := by
 set_option maxRecDepth 40000 in decide
theorem esc_39 {w : World} {R : Nat} {s : ByteArray} {a r : Nat} {t : Tk} (h : Er w R s a r t) (ha : at' s a = 39) :
  Calls Tryz.prog 154 #[ptr R] w fun e w' => e = .returned (.int .i32 39) ∧ Er w' R s (a + 1) r t ∧ Kr R w w' := by
 have hal : a < s.size := at_in (by omega)
 have hsz := h.sz
 have cN := next_c h hal
 rw [ha] at cN
 have cI := fun W => Tryz.strings_IndexByte ⟨#[39, 92, 125, 110]⟩ (39 : Int) W
 have hi : (Lib.indexByte (⟨#[39, 92, 125, 110]⟩ : ByteArray).data.toList (39 : Int).toNat.toUInt8) = 0 := by decide
 rw [hi] at cI
 have HE : Hid (Er w R s a r t) := h
 unfold ptr at cN ⊢
 clear h hi
 go_enter Tryz.func154, Tryz.ntmps154
 go_wp2_with fail
 refine cN.mono ?_
 rintro e w1 ⟨rfl, k, rfl⟩
 have hE1 := HE.out.drewN k
 obtain ⟨k0, k1, -⟩ := hE1.cells
 have f1 := hE1.free 1
 have hE2 := hE1.go (a + 1) (by omega)
 rw [show ((a + 1 : Nat) : Int) = (a : Int) + 1 from by omega] at hE2
 have hK := ((Kr.refl R w).drewN k).set 1 (.int .i64 ((a : Int) + 1))
 have HE2 : Hid (Er ((w.drewN k).setCell ⟨R, 1, none⟩ (.int .i64 ((a : Int) + 1))) R s (a + 1) r t) := hE2
 clear cN hE1 hE2
 go_wp2_with (first | (go_at_call 95; refine (cI _).mono ?_; rintro e w' ⟨rfl, rfl⟩))
 go_ret
 exact ⟨by kernel_rfl, HE2.out, hK⟩
theorem esc_92 {w : World} {R : Nat} {s : ByteArray} {a r : Nat} {t : Tk} (h : Er w R s a r t) (ha : at' s a = 92) :
  Calls Tryz.prog 154 #[ptr R] w fun e w' => e = .returned (.int .i32 92) ∧ Er w' R s (a + 1) r t ∧ Kr R w w' := by
 have hal : a < s.size := at_in (by omega)
 have hsz := h.sz
 have cN := next_c h hal
 rw [ha] at cN
 have cI := fun W => Tryz.strings_IndexByte ⟨#[39, 92, 125, 110]⟩ (92 : Int) W
 have hi : (Lib.indexByte (⟨#[39, 92, 125, 110]⟩ : ByteArray).data.toList (92 : Int).toNat.toUInt8) = 1 := by decide
 rw [hi] at cI
 have HE : Hid (Er w R s a r t) := h
 unfold ptr at cN ⊢
 clear h hi
 go_enter Tryz.func154, Tryz.ntmps154
 go_wp2_with fail
 refine cN.mono ?_
 rintro e w1 ⟨rfl, k, rfl⟩
 have hE1 := HE.out.drewN k
 obtain ⟨k0, k1, -⟩ := hE1.cells
 have f1 := hE1.free 1
 have hE2 := hE1.go (a + 1) (by omega)
 rw [show ((a + 1 : Nat) : Int) = (a : Int) + 1 from by omega] at hE2
 have hK := ((Kr.refl R w).drewN k).set 1 (.int .i64 ((a : Int) + 1))
 have HE2 : Hid (Er ((w.drewN k).setCell ⟨R, 1, none⟩ (.int .i64 ((a : Int) + 1))) R s (a + 1) r t) := hE2
 clear cN hE1 hE2
 go_wp2_with (first | (go_at_call 95; refine (cI _).mono ?_; rintro e w' ⟨rfl, rfl⟩))
 go_ret
 exact ⟨by kernel_rfl, HE2.out, hK⟩
theorem esc_125 {w : World} {R : Nat} {s : ByteArray} {a r : Nat} {t : Tk} (h : Er w R s a r t) (ha : at' s a = 125) :
  Calls Tryz.prog 154 #[ptr R] w fun e w' => e = .returned (.int .i32 125) ∧ Er w' R s (a + 1) r t ∧ Kr R w w' := by
 have hal : a < s.size := at_in (by omega)
 have hsz := h.sz
 have cN := next_c h hal
 rw [ha] at cN
 have cI := fun W => Tryz.strings_IndexByte ⟨#[39, 92, 125, 110]⟩ (125 : Int) W
 have hi : (Lib.indexByte (⟨#[39, 92, 125, 110]⟩ : ByteArray).data.toList (125 : Int).toNat.toUInt8) = 2 := by decide
 rw [hi] at cI
 have HE : Hid (Er w R s a r t) := h
 unfold ptr at cN ⊢
 clear h hi
 go_enter Tryz.func154, Tryz.ntmps154
 go_wp2_with fail
 refine cN.mono ?_
 rintro e w1 ⟨rfl, k, rfl⟩
 have hE1 := HE.out.drewN k
 obtain ⟨k0, k1, -⟩ := hE1.cells
 have f1 := hE1.free 1
 have hE2 := hE1.go (a + 1) (by omega)
 rw [show ((a + 1 : Nat) : Int) = (a : Int) + 1 from by omega] at hE2
 have hK := ((Kr.refl R w).drewN k).set 1 (.int .i64 ((a : Int) + 1))
 have HE2 : Hid (Er ((w.drewN k).setCell ⟨R, 1, none⟩ (.int .i64 ((a : Int) + 1))) R s (a + 1) r t) := hE2
 clear cN hE1 hE2
 go_wp2_with (first | (go_at_call 95; refine (cI _).mono ?_; rintro e w' ⟨rfl, rfl⟩))
 go_ret
 exact ⟨by kernel_rfl, HE2.out, hK⟩
theorem esc_110 {w : World} {R : Nat} {s : ByteArray} {a r : Nat} {t : Tk} (h : Er w R s a r t) (ha : at' s a = 110) :
  Calls Tryz.prog 154 #[ptr R] w fun e w' => e = .returned (.int .i32 10) ∧ Er w' R s (a + 1) r t ∧ Kr R w w' := by
 have hal : a < s.size := at_in (by omega)
 have hsz := h.sz
 have cN := next_c h hal
 rw [ha] at cN
 have cI := fun W => Tryz.strings_IndexByte ⟨#[39, 92, 125, 110]⟩ (110 : Int) W
 have hi : (Lib.indexByte (⟨#[39, 92, 125, 110]⟩ : ByteArray).data.toList (110 : Int).toNat.toUInt8) = 3 := by decide
 rw [hi] at cI
 have HE : Hid (Er w R s a r t) := h
 unfold ptr at cN ⊢
 clear h hi
 go_enter Tryz.func154, Tryz.ntmps154
 go_wp2_with fail
 refine cN.mono ?_
 rintro e w1 ⟨rfl, k, rfl⟩
 have hE1 := HE.out.drewN k
 obtain ⟨k0, k1, -⟩ := hE1.cells
 have f1 := hE1.free 1
 have hE2 := hE1.go (a + 1) (by omega)
 rw [show ((a + 1 : Nat) : Int) = (a : Int) + 1 from by omega] at hE2
 have hK := ((Kr.refl R w).drewN k).set 1 (.int .i64 ((a : Int) + 1))
 have HE2 : Hid (Er ((w.drewN k).setCell ⟨R, 1, none⟩ (.int .i64 ((a : Int) + 1))) R s (a + 1) r t) := hE2
 clear cN hE1 hE2
 go_wp2_with (first | (go_at_call 95; refine (cI _).mono ?_; rintro e w' ⟨rfl, rfl⟩))
 go_ret
 exact ⟨by kernel_rfl, HE2.out, hK⟩
theorem esc_bad {w : World} {R : Nat} {s : ByteArray} {a r : Nat} {t : Tk} (h : Er w R s a r t) (hal : a < s.size) (ha : esc (at' s a) = none) :
  Calls Tryz.prog 154 #[ptr R] w fun e w' => e = .panicked (pk (1000, a)) ∧ Kr R w w' := by
 have hsz := h.sz
 have cN := next_c h hal
 have hi := idx_none (at' s a) (at_lt s a) ha
 obtain ⟨y, hy⟩ : ∃ y, at' s a = y := ⟨_, rfl⟩
 rw [hy] at cN hi
 have cI := fun W => Tryz.strings_IndexByte ⟨#[39, 92, 125, 110]⟩ (y : Int) W
 have hi2 : (Lib.indexByte (⟨#[39, 92, 125, 110]⟩ : ByteArray).data.toList (y : Int).toNat.toUInt8) = -1 := by rw [Int.toNat_natCast]; exact hi
 rw [hi2] at cI
 have cR := fun m => refuse_c (h.drewN m)
 unfold ptr at cN cR ⊢
 clear h hi hi2 ha hy
 go_enter Tryz.func154, Tryz.ntmps154
 go_wp2_with fail
 refine cN.mono ?_
 rintro e w1 ⟨rfl, k, rfl⟩
 clear cN
 go_wp2_with (first | (go_at_call 95; refine (cI _).mono ?_; rintro e w' ⟨rfl, rfl⟩))
 refine (cR k).mono ?_
 rintro e w' ⟨rfl, rfl⟩
 exact ⟨rfl, rfl, (Kr.refl R w).drewN k⟩
end Go.Proofs.YtghnhkagkngjcaaGreatDoor.EEsc
namespace Go.Proofs.YtghnhkagkngjcaaGreatDoor.ESg
open Go.RowKit Base UBase EPure ERd ESk ETk
theorem idx (W : World) : ∀ k : Nat, k < 27 → (Instr.index 144 (.agg #[.string ⟨#[124, 124]⟩, .string ⟨#[38, 38]⟩, .string ⟨#[61, 61]⟩, .string ⟨#[33, 61]⟩, .string ⟨#[60, 61]⟩, .string ⟨#[62, 61]⟩, .string ⟨#[60, 60]⟩, .string ⟨#[62, 62]⟩, .string ⟨#[63]⟩, .string ⟨#[58]⟩, .string ⟨#[60]⟩, .string ⟨#[62]⟩, .string ⟨#[124]⟩, .string ⟨#[94]⟩, .string ⟨#[38]⟩, .string ⟨#[126]⟩, .string ⟨#[43]⟩, .string ⟨#[45]⟩, .string ⟨#[42]⟩, .string ⟨#[47]⟩, .string ⟨#[37]⟩, .string ⟨#[33]⟩, .string ⟨#[46]⟩, .string ⟨#[91]⟩, .string ⟨#[93]⟩, .string ⟨#[40]⟩, .string ⟨#[41]⟩]) (.int .i64 (k : Int))).run Tryz.prog W = .ok (.string ⟨(signs.getD k []).toArray⟩) W
 | 0, _ => rfl
 | 1, _ => rfl
 | 2, _ => rfl
 | 3, _ => rfl
 | 4, _ => rfl
 | 5, _ => rfl
 | 6, _ => rfl
 | 7, _ => rfl
 | 8, _ => rfl
 | 9, _ => rfl
 | 10, _ => rfl
 | 11, _ => rfl
 | 12, _ => rfl
 | 13, _ => rfl
 | 14, _ => rfl
 | 15, _ => rfl
 | 16, _ => rfl
 | 17, _ => rfl
 | 18, _ => rfl
 | 19, _ => rfl
 | 20, _ => rfl
 | 21, _ => rfl
 | 22, _ => rfl
 | 23, _ => rfl
 | 24, _ => rfl
 | 25, _ => rfl
 | 26, _ => rfl
 | k + 27, h => absurd h (by omega)
theorem drop_get (k : Nat) (h : k < 27) : signs.drop k = signs.getD k [] :: signs.drop (k + 1) := by
 have hl : k < signs.length := h
 rw [List.drop_eq_getElem_cons hl]
 simp [List.getD, hl]
theorem pre_eq (s : ByteArray) (a : Nat) (ha : a ≤ s.size) (x : List UInt8) : Lib.hasPrefix (s.extract a s.size).data.toList (⟨x.toArray⟩ : ByteArray).data.toList = pre s a x := by
 have e1 : (s.extract a s.size).data.toList = s.data.toList.drop a := by
  rw [ByteArray.data_extract, Array.toList_extract, List.extract_eq_take_drop]
  refine List.take_of_length_le ?_
  simp
 have hz : s.data.toList.length = s.size := by simp
 rw [e1]
 unfold Lib.hasPrefix pre
 rw [Bool.eq_iff_iff]
 simp only [Bool.and_eq_true, decide_eq_true_eq, beq_iff_eq, List.isPrefixOf_iff_prefix]
 constructor
 ·rintro ⟨l, hl⟩
  have hlen := congrArg List.length hl
  simp only [List.length_append, List.length_drop, hz] at hlen
  exact ⟨by omega, by rw [← hl]; simp⟩
 ·rintro ⟨h1, h2⟩
  exact ⟨(s.data.toList.drop a).drop x.length, by rw [← h2, List.length_take_of_le (by simp; omega)]; exact List.take_append_drop _ _⟩
theorem pre_le {s : ByteArray} {a : Nat} {x : List UInt8} (h : pre s a x = true) : a + x.length ≤ s.size := by
 unfold pre at h
 simp only [Bool.and_eq_true, decide_eq_true_eq] at h
 exact h.1
def SgR (w w' : World) (R : Nat) (s : ByteArray) (r : Nat) (t : Tk) (e : Ending) : Except F (ByteArray × Nat) → Prop
 | .ok (x, j) => Kr R w w' ∧ e = .returned (.string x) ∧ Er w' R s j r t
 | .error f => Kr R w w' ∧ e = .panicked (pk f)
theorem sign_c {w : World} {R : Nat} {s : ByteArray} {a r : Nat} {t : Tk} (h : Er w R s a r t) (hal : a < s.size) :
  Calls Tryz.prog 102 #[ptr R] w fun e w' => SgR w w' R s r t e (sgn s a signs) := by
 have hsz := h.sz
 have HE : Hid (Er w R s a r t) := h
 obtain ⟨X, hX⟩ : ∃ X, sgn s a signs = X := ⟨_, rfl⟩
 rw [hX]
 have HX : Hid (sgn s a (signs.drop 0) = X) := hX
 unfold ptr
 clear h hX
 go_enter Tryz.func102, Tryz.ntmps102
 go_wp2_with fail
 go_loopw [4, 6] (fun v4 v6 wr => ∃ k m : Nat, v6 = .int .i64 k ∧ k ≤ 27 ∧ wr = w.drewN m ∧ sgn s a (signs.drop k) = X) (fun _ v6 _ => 27 - (intOf v6).toNat)
 case atStart => exact ⟨0, 0, rfl, by omega, rfl, HX.out⟩
 case round =>
  clear HX
  obtain ⟨k, m, rfl, hk, hwr, hX⟩ := hrel
  have HW : Hid (wr = w.drewN m) := hwr
  have hE : Er wr R s a r t := by rw [hwr]; exact HE.out.drewN m
  have hKw : Kr R w wr := by rw [hwr]; exact (Kr.refl R w).drewN m
  clear hwr
  obtain ⟨k0, k1, -⟩ := hE.cells
  by_cases hk27 : k < 27
  ·have d0 : decide ((k : Int) < 27) = true := decide_eq_true (by omega)
   have hidx := idx wr k hk27
   obtain ⟨x, hx⟩ : ∃ x, signs.getD k [] = x := ⟨_, rfl⟩
   rw [hx] at hidx
   have hE0 : Hid (∀ m', Er (wr.drewN m') R s a r t) := fun m' => hE.drewN m'
   have hdr : signs.drop k = x :: signs.drop (k + 1) := by
    rw [← hx]
    exact drop_get k hk27
   rw [hdr] at hX
   have cH := fun W => Tryz.strings_HasPrefix (s.extract a s.size) ⟨x.toArray⟩ W
   have hpp := pre_eq s a (by omega) x
   obtain ⟨hb, hhb⟩ : ∃ hb, Lib.hasPrefix (s.extract a s.size).data.toList (⟨x.toArray⟩ : ByteArray).data.toList = hb := ⟨_, rfl⟩
   rw [hhb] at cH hpp
   have b1 : (0 : Int) ≤ (a : Int) := by omega
   have b2 : (a : Int) ≤ (s.size : Int) := by omega
   cases hb with
   | true =>
    have HX2 : Hid (X = .ok (⟨x.toArray⟩, a + x.length)) := by
     show _ = _
     rw [← hX, sgn, if_pos hpp.symm]
    have hle : a + x.length ≤ s.size := pre_le hpp.symm
    clear hE hX hpp hdr hx hhb
    go_wp2_with fail
    go_quiet (first | (go_at_call 130; exact Calls.quiet_of_same (cH _)))
    have hE1 := hE0.out nq
    clear k0 k1
    obtain ⟨k0, k1, -⟩ := hE1.cells
    have f1 := hE1.free 1
    have hE2 := hE1.go (a + x.length) (by omega)
    rw [show ((a + x.length : Nat) : Int) = (a : Int) + (x.length : Int) from by omega] at hE2
    have hxs : (⟨x.toArray⟩ : ByteArray).size = x.length := by show x.toArray.size = _; simp
    have hwrap : IntKind.i64.wrap ((a : Int) + (x.length : Int)) = (a : Int) + (x.length : Int) := by rw [IntKind.wrap_i64]; omega
    have HE2 : Hid (Er ((wr.drewN nq).setCell ⟨R, 1, none⟩ (.int .i64 ((a : Int) + (x.length : Int)))) R s (a + x.length) r t) := hE2
    have hK2 := (hKw.drewN nq).set 1 (.int .i64 ((a : Int) + (x.length : Int)))
    clear hE1 hE2
    go_wp2_with fail
    go_ret
    rw [HX2.out]
    exact ⟨hK2, rfl, HE2.out⟩
   | false =>
    have HX2 : Hid (sgn s a (signs.drop (k + 1)) = X) := by
     show _ = _
     rw [← hX, sgn, if_neg (by rw [← hpp]; simp)]
    clear hE hX hpp hdr hx hhb
    go_wp2_with fail
    go_quiet (first | (go_at_call 130; exact Calls.quiet_of_same (cH _)))
    go_wp2_with fail
    go_roundw
    case rel => exact ⟨k + 1, _, by simp, by omega, by rw [HW.out]; exact World.drewN_drewN _ _ _, HX2.out⟩
    case measure =>
     have t1 : ((k : Int) + 1).toNat = k + 1 := by omega
     have t2 : ((k : Int)).toNat = k := by omega
     show 27 - ((k : Int) + 1).toNat < 27 - ((k : Int)).toNat
     rw [t1, t2]
     omega
  ·have hk0 : k = 27 := by omega
   subst hk0
   have HXe : Hid (X = .error (1000, a)) := by
    show _ = _
    rw [← hX]; rfl
   clear hE hX
   go_wp2_with fail
   refine ⟨rfl, ?_⟩
   rw [HXe.out]
   exact ⟨hKw, rfl⟩
end Go.Proofs.YtghnhkagkngjcaaGreatDoor.ESg
namespace Go.Proofs.YtghnhkagkngjcaaGreatDoor.EChr
open Go.RowKit Base UBase EPure ERd ESk ETk
def Tabs (w : World) : Prop := Lib.Utf8Tabs 2 3 w
theorem char_bad {w : World} {R : Nat} {s : ByteArray} {a r X L : Nat} {t : Tk} (h : Er w R s a r t) (hal : a < s.size) (ht : Tabs w.drew) (hX : (Lib.decodeGo (s.extract a s.size)).1 = X) (hL : (Lib.decodeGo (s.extract a s.size)).2 = L)
  (d1 : decide ((X : Int) < 32) = true ∨ (decide ((X : Int) < 32) = false ∧ ((X : Int) == 65533) = true ∧ ((L : Int) == 1) = true)) (hb1 : X ≤ 1114111) :
  Calls Tryz.prog 128 #[ptr R] w fun e w' => e = .panicked (pk (1000, a)) ∧ Kr R w w' := by
 have hsz := h.sz
 have hRlt := h.lt
 obtain ⟨k0, k1, -⟩ := h.cells
 have c71 := Tryz.utf8_DecodeRuneInString (s.extract a s.size) w.drew ht
 rw [hX, hL] at c71
 have HE : Hid (Er w.drew R s a r t) := h.keep rfl
 have b1 : (0 : Int) ≤ (a : Int) := by omega
 have b2 : (a : Int) ≤ (s.size : Int) := by omega
 unfold ptr
 clear h hX hL ht
 go_enter Tryz.func128, Tryz.ntmps128
 go_wp2_with fail
 go_region_with (go_at_call 153; refine c71.mono ?_; rintro e w1 ⟨rfl, b1⟩)
 all_goals
  have hE1 : Er w1 R s a r t := HE.out.keep (b1.block R hRlt)
  have hK1 : Kr R w w1 := ⟨(show Below R w w.drew from (Below.refl _ w).drew).trans (b1.mono (Nat.le_of_lt hRlt)), fun k _ hk => b1.block k hk⟩
  have cR := refuse_c hE1
  unfold ptr at cR
  clear c71 k0 k1 hE1
  rcases d1 with d1 | ⟨d1, d2, d3⟩
  ·go_wp2_with fail
   refine cR.mono ?_
   rintro e w2 ⟨rfl, rfl⟩
   exact ⟨rfl, rfl, hK1⟩
  ·go_wp2_with fail
   refine cR.mono ?_
   rintro e w2 ⟨rfl, rfl⟩
   exact ⟨rfl, rfl, hK1⟩
theorem char_raw {w : World} {R : Nat} {s : ByteArray} {a r X L : Nat} {t : Tk} (h : Er w R s a r t) (hal : a < s.size) (ht : Tabs w.drew) (hX : (Lib.decodeGo (s.extract a s.size)).1 = X) (hL : (Lib.decodeGo (s.extract a s.size)).2 = L)
  (d1 : decide ((X : Int) < 32) = false) (d2 : ((X : Int) == 65533) = false ∨ (((X : Int) == 65533) = true ∧ ((L : Int) == 1) = false)) (hb1 : X ≤ 1114111) (hb2 : a + L ≤ s.size) (e92 : ((X : Int) == 92) = false) :
  Calls Tryz.prog 128 #[ptr R] w fun e w' => e = .returned (.int .i32 (X : Nat)) ∧ Er w' R s (a + L) r t ∧ Kr R w w' := by
 have hsz := h.sz
 have hRlt := h.lt
 obtain ⟨k0, k1, -⟩ := h.cells
 have c71 := Tryz.utf8_DecodeRuneInString (s.extract a s.size) w.drew ht
 rw [hX, hL] at c71
 have HE : Hid (Er w.drew R s a r t) := h.keep rfl
 have b1 : (0 : Int) ≤ (a : Int) := by omega
 have b2 : (a : Int) ≤ (s.size : Int) := by omega
 unfold ptr
 clear h hX hL ht
 go_enter Tryz.func128, Tryz.ntmps128
 go_wp2_with fail
 go_region_with (go_at_call 153; refine c71.mono ?_; rintro e w1 ⟨rfl, b1⟩)
 all_goals
  have hE1 : Er w1 R s a r t := HE.out.keep (b1.block R hRlt)
  have hK1 : Kr R w w1 := ⟨(show Below R w w.drew from (Below.refl _ w).drew).trans (b1.mono (Nat.le_of_lt hRlt)), fun k _ hk => b1.block k hk⟩
  have hE2 := hE1.go (a + L) (by omega)
  rw [show ((a + L : Nat) : Int) = (a : Int) + (L : Int) from by omega] at hE2
  have hwrap : IntKind.i64.wrap ((a : Int) + (L : Int)) = (a : Int) + (L : Int) := by rw [IntKind.wrap_i64]; omega
  have HE2 : Hid (Er (w1.setCell ⟨R, 1, none⟩ (.int .i64 ((a : Int) + (L : Int)))) R s (a + L) r t) := hE2
  have hK2 := hK1.set 1 (.int .i64 ((a : Int) + (L : Int)))
  clear c71 k0 k1
  obtain ⟨k0, k1, -⟩ := hE1.cells
  have f1 := hE1.free 1
  clear hE1 hE2
  rcases d2 with d2 | ⟨d2, d3⟩
  ·go_wp2_with fail
   go_ret
   exact ⟨rfl, HE2.out, hK2⟩
  ·go_wp2_with fail
   go_ret
   exact ⟨rfl, HE2.out, hK2⟩
theorem char_esc {w : World} {R : Nat} {s : ByteArray} {a r X L : Nat} {t : Tk} (h : Er w R s a r t) (hal : a < s.size) (ht : Tabs w.drew) (hX : (Lib.decodeGo (s.extract a s.size)).1 = X) (hL : (Lib.decodeGo (s.extract a s.size)).2 = L)
  (d1 : decide ((X : Int) < 32) = false) (d2 : ((X : Int) == 65533) = false ∨ (((X : Int) == 65533) = true ∧ ((L : Int) == 1) = false)) (hb1 : X ≤ 1114111) (hb2 : a + L ≤ s.size) (e92 : ((X : Int) == 92) = true) {Q : Ending → World → Prop} (hQ : ∀ W, Kr R w W → Er W R s (a + L) r t → Calls Tryz.prog 154 #[ptr R] W fun e w' => ((∃ u : Int, e = .returned (.int .i32 u)) ∨ (∃ u, e = .panicked u)) ∧ Q e w') :
  Calls Tryz.prog 128 #[ptr R] w fun e w' => Q e w' := by
 have hsz := h.sz
 have hRlt := h.lt
 obtain ⟨k0, k1, -⟩ := h.cells
 have c71 := Tryz.utf8_DecodeRuneInString (s.extract a s.size) w.drew ht
 rw [hX, hL] at c71
 have HE : Hid (Er w.drew R s a r t) := h.keep rfl
 have b1 : (0 : Int) ≤ (a : Int) := by omega
 have b2 : (a : Int) ≤ (s.size : Int) := by omega
 unfold ptr
 clear h hX hL ht
 go_enter Tryz.func128, Tryz.ntmps128
 go_wp2_with fail
 go_region_with (go_at_call 153; refine c71.mono ?_; rintro e w1 ⟨rfl, b1⟩)
 all_goals
  have hE1 : Er w1 R s a r t := HE.out.keep (b1.block R hRlt)
  have hK1 : Kr R w w1 := ⟨(show Below R w w.drew from (Below.refl _ w).drew).trans (b1.mono (Nat.le_of_lt hRlt)), fun k _ hk => b1.block k hk⟩
  have hE2 := hE1.go (a + L) (by omega)
  rw [show ((a + L : Nat) : Int) = (a : Int) + (L : Int) from by omega] at hE2
  have hwrap : IntKind.i64.wrap ((a : Int) + (L : Int)) = (a : Int) + (L : Int) := by rw [IntKind.wrap_i64]; omega
  have HE2 : Hid (Er (w1.setCell ⟨R, 1, none⟩ (.int .i64 ((a : Int) + (L : Int)))) R s (a + L) r t) := hE2
  have hK2 := hK1.set 1 (.int .i64 ((a : Int) + (L : Int)))
  clear c71 k0 k1
  obtain ⟨k0, k1, -⟩ := hE1.cells
  have f1 := hE1.free 1
  have cQ := hQ _ hK2 hE2
  unfold ptr at cQ
  clear hE1 hE2
  rcases d2 with d2 | ⟨d2, d3⟩
  ·go_wp2_with fail
   refine cQ.mono ?_
   rintro e w3 ⟨⟨u, rfl⟩ | ⟨u, rfl⟩, hq⟩
   ·go_wp2_with fail
    exact hq
   ·exact ⟨rfl, hq⟩
  ·go_wp2_with fail
   refine cQ.mono ?_
   rintro e w3 ⟨⟨u, rfl⟩ | ⟨u, rfl⟩, hq⟩
   ·go_wp2_with fail
    exact hq
   ·exact ⟨rfl, hq⟩
end Go.Proofs.YtghnhkagkngjcaaGreatDoor.EChr
