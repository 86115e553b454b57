import Derived.Deep.RegionWith
import Derived.Laws.BytesArg
import Derived.Test.YthkpbhgbmagaeaaGreatDoorP09
import Derived.Test.YthkpbhgbmagaeaaGreatDoorP13
import Derived.Test.YthkpbhgbmagaeaaGreatDoorP14
import Derived.Test.YthkpbhgbmagaeaaGreatDoorP30
namespace Go.Proofs.YthkpbhgbmagaeaaGreatDoor.Num
open Go.RowKit Go.Proofs.YthkpbhgbmagaeaaGreatDoor.Base Go.Proofs.YthkpbhgbmagaeaaGreatDoor.UBase Go.Proofs.YthkpbhgbmagaeaaGreatDoor.Spec Go.Proofs.YthkpbhgbmagaeaaGreatDoor.Rdr Go.Proofs.YthkpbhgbmagaeaaGreatDoor.Take Go.Proofs.YthkpbhgbmagaeaaGreatDoor.Skip Go.Proofs.YthkpbhgbmagaeaaGreatDoor.Sums Go.Proofs.YthkpbhgbmagaeaaGreatDoor.Nums
set_option linter.unusedVariables false
theorem rd_conv {w : World} {R g o cap : Nat} {s : ByteArray} {p b i j : Nat} (h : Rd w R (.slice (some ⟨g, o, none⟩) s.size cap) s p b) (hij : i ≤ j) (hj : j ≤ s.size) :
  (convert 22 9 (.slice (some ⟨g, o + i, none⟩) (j - i) (cap - i))).run Tryz.prog w = .ok (.string (s.extract i j)) w := by
 have hl : (bs (s.extract i j)).length = j - i := by rw [bs_length]; simp; omega
 have e1 : (⟨(bs (s.extract i j)).toArray⟩ : ByteArray) = s.extract i j := by apply ByteArray.ext; unfold bs; exact Array.toArray_toList ..
 rw [← hl, ← e1]
 refine run_convert_bytes_back (P := Tryz.prog) w 22 9 5 ⟨g, o + i, none⟩ (cap - i) (bs (s.extract i j)) Tryz.underlying22 Tryz.underlying5 Tryz.underlying9 fun q hq => ?_
 rw [hl] at hq
 obtain ⟨a, cap', e, -, -, -, h5⟩ := h.byt
 cases e
 rcases h5 with h5 | ⟨g', o', e, -, hc⟩
 ·omega
 ·cases e
  have := hc (i + q) (by omega)
  rw [← Nat.add_assoc] at this
  have e2 : (s.extract i j)[q]'(by simp; omega) = s[i + q]'(by omega) := ByteArray.getElem_extract ..
  rw [add_none, this, at_get s (i + q) (by omega), ← bs_get (s.extract i j) q (by simp; omega), e2]
theorem zero_of {s : ByteArray} {i : Nat} (hi : i < s.size) (hz : at' s i = 48) : bs (s.extract i (i + 1)) = [48] := by
 have hl : (bs (s.extract i (i + 1))).length = 1 := by rw [bs_length]; simp; omega
 have e2 : (s.extract i (i + 1))[0]'(by simp; omega) = s[i + 0]'(by omega) := ByteArray.getElem_extract ..
 have e3 := bs_get (s.extract i (i + 1)) 0 (by simp; omega)
 rw [e2] at e3
 have h8 : s[i] = 48 := UInt8.toNat_inj.1 (by rw [← at_get s i hi, hz]; rfl)
 match hb : bs (s.extract i (i + 1)), hl with
 | [x], _ =>
  have : x = 48 := by
   have e4 : (bs (s.extract i (i + 1)))[0]'(by rw [hb]; simp) = x := by simp [hb]
   rw [← e4, ← e3]
   exact h8
  rw [this]
set_option maxRecDepth 20000 in
set_option maxHeartbeats 1600000 in
theorem num_m_end {w : World} {R g o cap : Nat} {s : ByteArray} {i b : Nat} (h : Rd w R (.slice (some ⟨g, o, none⟩) s.size cap) s i b) (hi : i < s.size) (hm : at' s i = 45) (he : ¬ i + 1 < s.size) :
  Calls Tryz.prog 42 #[ptr R] w fun e w' => Kr R w w' ∧ e = .panicked (pk (600, i + 1)) := by
 have c58 := next_c h hi
 have hsz := h.sz
 have hc : s.size ≤ cap := by obtain ⟨_, _, e, h2, _⟩ := h.byt; cases e; exact h2
 have hcm : cap ≤ 9223372036854775807 := by obtain ⟨_, _, e, _, h3, _⟩ := h.byt; cases e; exact h3
 have h2 := h.drew.drew
 obtain ⟨k0, k1, k2, f1, f2⟩ := h.cells
 obtain ⟨l0, l1, l2, g1, g2⟩ := h2.cells
 have h3 : Rd ((w.setCell ⟨R, 1, none⟩ (.int .i64 ((i : Int) + 1))).drew.drew) R (.slice (some ⟨g, o, none⟩) s.size cap) s (i + 1) b := (h.go (i + 1) (by omega)).drew.drew
 have k3 := ((Kr.refl R w).set 1 (.int .i64 ((i : Int) + 1))).drew.drew
 have c58b := next_end h3 he
 rw [hm] at c58
 unfold ptr at c58 c58b ⊢
 clear h h2 h3
 go_enter Tryz.func42, Tryz.ntmps42
 go_wp2_with (first | (go_at_call 37; refine c58.mono ?_; rintro e w' ⟨rfl, rfl⟩) | (go_at_call 37; refine c58b.mono ?_; rintro e w' ⟨rfl, rfl⟩))
 exact ⟨rfl, k3.drew, rfl⟩
set_option maxRecDepth 20000 in
set_option maxHeartbeats 1600000 in
theorem num_m_bad {w : World} {R g o cap : Nat} {s : ByteArray} {i b : Nat} (h : Rd w R (.slice (some ⟨g, o, none⟩) s.size cap) s i b) (hi : i < s.size) (hm : at' s i = 45) (he : i + 1 < s.size) (hd : at' s (i + 1) < 49 ∨ 57 < at' s (i + 1)) :
  Calls Tryz.prog 42 #[ptr R] w fun e w' => Kr R w w' ∧ e = .panicked (pk (600, i + 1)) := by
 have c58 := next_c h hi
 have hsz := h.sz
 have hc : s.size ≤ cap := by obtain ⟨_, _, e, h2, _⟩ := h.byt; cases e; exact h2
 have hcm : cap ≤ 9223372036854775807 := by obtain ⟨_, _, e, _, h3, _⟩ := h.byt; cases e; exact h3
 have h2 := h.drew.drew
 obtain ⟨k0, k1, k2, f1, f2⟩ := h.cells
 obtain ⟨l0, l1, l2, g1, g2⟩ := h2.cells
 have h3 : Rd ((w.setCell ⟨R, 1, none⟩ (.int .i64 ((i : Int) + 1))).drew.drew) R (.slice (some ⟨g, o, none⟩) s.size cap) s (i + 1) b := (h.go (i + 1) (by omega)).drew.drew
 have k3 := ((Kr.refl R w).set 1 (.int .i64 ((i : Int) + 1))).drew.drew
 have c58b := next_c h3 he
 have c41 := refuse_c h3.drew.drew
 have hb := at_lt s (i + 1)
 rw [hm] at c58
 unfold ptr at c58 c58b c41 ⊢
 clear h h2 h3
 generalize at' s (i + 1) = x at *
 rcases hd with hd | hd
 ·have d1 : decide ((x : Int) < 49) = true := by simp; omega
  go_enter Tryz.func42, Tryz.ntmps42
  go_wp2_with (first | (go_at_call 37; refine c58.mono ?_; rintro e w' ⟨rfl, rfl⟩) | (go_at_call 37; refine c58b.mono ?_; rintro e w' ⟨rfl, rfl⟩) | (go_at_call 26; refine c41.mono ?_; rintro e w' ⟨rfl, rfl⟩))
  exact ⟨rfl, k3.drew.drew, rfl⟩
 ·have d1 : decide ((x : Int) < 49) = false := by simp; omega
  have d2 : decide ((57 : Int) < (x : Int)) = true := by simp; omega
  go_enter Tryz.func42, Tryz.ntmps42
  go_wp2_with (first | (go_at_call 37; refine c58.mono ?_; rintro e w' ⟨rfl, rfl⟩) | (go_at_call 37; refine c58b.mono ?_; rintro e w' ⟨rfl, rfl⟩) | (go_at_call 26; refine c41.mono ?_; rintro e w' ⟨rfl, rfl⟩))
  exact ⟨rfl, k3.drew.drew, rfl⟩
set_option maxRecDepth 20000 in
set_option maxHeartbeats 1600000 in
theorem num_m_ok {w : World} {R g o cap : Nat} {s : ByteArray} {i b : Nat} (h : Rd w R (.slice (some ⟨g, o, none⟩) s.size cap) s i b) (hi : i < s.size) (hm : at' s i = 45) (he : i + 1 < s.size) (hd1 : 49 ≤ at' s (i + 1)) (hd2 : at' s (i + 1) ≤ 57) (hp : perr (bs (s.extract i (dgs s (i + 1)))) = 0) :
  Calls Tryz.prog 42 #[ptr R] w fun e w' => Kr R w w' ∧ e = .returned (.int .i64 (pnum (bs (s.extract i (dgs s (i + 1)))))) ∧ Rd w' R (.slice (some ⟨g, o, none⟩) s.size cap) s (dgs s (i + 1)) b := by
 have c58 := next_c h hi
 have hsz := h.sz
 have hc : s.size ≤ cap := by obtain ⟨_, _, e, h2, _⟩ := h.byt; cases e; exact h2
 have hcm : cap ≤ 9223372036854775807 := by obtain ⟨_, _, e, _, h3, _⟩ := h.byt; cases e; exact h3
 have h2 := h.drew.drew
 obtain ⟨k0, k1, k2, f1, f2⟩ := h.cells
 obtain ⟨l0, l1, l2, g1, g2⟩ := h2.cells
 have h3 : Rd ((w.setCell ⟨R, 1, none⟩ (.int .i64 ((i : Int) + 1))).drew.drew) R (.slice (some ⟨g, o, none⟩) s.size cap) s (i + 1) b := (h.go (i + 1) (by omega)).drew.drew
 have kbase := ((Kr.refl R w).set 1 (.int .i64 ((i : Int) + 1))).drew.drew.drew.drew.drew.drew
 have c58b := next_c h3 he
 have c58c := next_c h3.drew.drew he
 have c64 := digits_c h3.drew.drew.drew.drew
 have hJ1 := dgs_ge s (i + 1)
 have hb := at_lt s (i + 1)
 have d1 : decide (((at' s (i + 1) : Nat) : Int) < 49) = false := by simp; omega
 have d2 : decide ((57 : Int) < ((at' s (i + 1) : Nat) : Int)) = false := by simp; omega
 have d3 : (((at' s (i + 1) : Nat) : Int) == 48) = false := by simp; omega
 rw [hm] at c58
 unfold ptr at c58 c58b c58c c64 ⊢
 unfold digits at c64
 clear h h2 h3
 generalize at' s (i + 1) = x at *
 go_enter Tryz.func42, Tryz.ntmps42
 go_wp2_with (first | (go_at_call 37; refine c58.mono ?_; rintro e w' ⟨rfl, rfl⟩) | (go_at_call 37; refine c58b.mono ?_; rintro e w' ⟨rfl, rfl⟩) | (go_at_call 37; refine c58c.mono ?_; rintro e w' ⟨rfl, rfl⟩) | (go_at_call 43; refine c64.mono ?_; rintro e w5 ⟨⟨r5, rfl⟩, h5, k5⟩))
 have hj0 : (dgs s (i + 1)) ≤ s.size := h5.le
 have hcap : ¬ cap = i := by omega
 have hcv : (convert 22 9 (.slice (some ⟨g, o + i, none⟩) ((dgs s (i + 1)) - i) (cap - i))).run Tryz.prog w5.drew = .ok (.string (s.extract i (dgs s (i + 1)))) w5.drew := rd_conv h5.drew (by omega) (by omega)
 have c84 := Reads.parse (s.extract i (dgs s (i + 1))) (by simp; omega) w5.drew
 obtain ⟨k0, k1, k2, f1, f2⟩ := h5.cells
 have i1 : (0 : Int) ≤ (i : Int) := by omega
 have i2 : (i : Int) ≤ ((dgs s (i + 1)) : Int) := by omega
 have i3 : ((dgs s (i + 1)) : Int) ≤ (cap : Int) := by omega
 have i4 : ((dgs s (i + 1)) : Int) ≤ (s.size : Int) := by omega
 have kk := kbase.trans k5
 rw [hp] at c84
 have H5 : Hid (Rd w5 R (.slice (some ⟨g, o, none⟩) s.size cap) s (dgs s (i + 1)) b) := h5
 clear h5 k5 c64 c58 c58b c58c
 obtain ⟨T, hT⟩ : ∃ T, s.extract i (dgs s (i + 1)) = T := ⟨_, rfl⟩
 have HT : Hid (s.extract i (dgs s (i + 1)) = T) := hT
 rw [hT] at hcv c84
 obtain ⟨JJ, hJJ⟩ : ∃ JJ, (dgs s (i + 1)) = JJ := ⟨_, rfl⟩
 have HJ : Hid ((dgs s (i + 1)) = JJ) := hJJ
 rw [hJJ] at k1 hcv i2 i3 i4 hj0
 clear hT hJJ hp
 go_region_with (first | (go_at_call 60; refine c84.mono ?_; rintro e w' ⟨rfl, hw⟩; have hw := hw.symm; subst hw))
 all_goals (
  go_wp2_with fail
  go_ret
  exact ⟨kk.drew, by rw [HT.out]; rfl, H5.out.drew⟩)
set_option maxRecDepth 20000 in
set_option maxHeartbeats 1600000 in
theorem num_m_out {w : World} {R g o cap : Nat} {s : ByteArray} {i b : Nat} (h : Rd w R (.slice (some ⟨g, o, none⟩) s.size cap) s i b) (hi : i < s.size) (hm : at' s i = 45) (he : i + 1 < s.size) (hd1 : 49 ≤ at' s (i + 1)) (hd2 : at' s (i + 1) ≤ 57) (hp : perr (bs (s.extract i (dgs s (i + 1)))) ≠ 0) :
  Calls Tryz.prog 42 #[ptr R] w fun e w' => Kr R w w' ∧ e = .panicked (pk (601, i)) := by
 have c58 := next_c h hi
 have hsz := h.sz
 have hc : s.size ≤ cap := by obtain ⟨_, _, e, h2, _⟩ := h.byt; cases e; exact h2
 have hcm : cap ≤ 9223372036854775807 := by obtain ⟨_, _, e, _, h3, _⟩ := h.byt; cases e; exact h3
 have h2 := h.drew.drew
 obtain ⟨k0, k1, k2, f1, f2⟩ := h.cells
 obtain ⟨l0, l1, l2, g1, g2⟩ := h2.cells
 have h3 : Rd ((w.setCell ⟨R, 1, none⟩ (.int .i64 ((i : Int) + 1))).drew.drew) R (.slice (some ⟨g, o, none⟩) s.size cap) s (i + 1) b := (h.go (i + 1) (by omega)).drew.drew
 have kbase := ((Kr.refl R w).set 1 (.int .i64 ((i : Int) + 1))).drew.drew.drew.drew.drew.drew
 have c58b := next_c h3 he
 have c58c := next_c h3.drew.drew he
 have c64 := digits_c h3.drew.drew.drew.drew
 have hJ1 := dgs_ge s (i + 1)
 have hb := at_lt s (i + 1)
 have d1 : decide (((at' s (i + 1) : Nat) : Int) < 49) = false := by simp; omega
 have d2 : decide ((57 : Int) < ((at' s (i + 1) : Nat) : Int)) = false := by simp; omega
 have d3 : (((at' s (i + 1) : Nat) : Int) == 48) = false := by simp; omega
 rw [hm] at c58
 unfold ptr at c58 c58b c58c c64 ⊢
 unfold digits at c64
 clear h h2 h3
 generalize at' s (i + 1) = x at *
 go_enter Tryz.func42, Tryz.ntmps42
 go_wp2_with (first | (go_at_call 37; refine c58.mono ?_; rintro e w' ⟨rfl, rfl⟩) | (go_at_call 37; refine c58b.mono ?_; rintro e w' ⟨rfl, rfl⟩) | (go_at_call 37; refine c58c.mono ?_; rintro e w' ⟨rfl, rfl⟩) | (go_at_call 43; refine c64.mono ?_; rintro e w5 ⟨⟨r5, rfl⟩, h5, k5⟩))
 have hj0 : (dgs s (i + 1)) ≤ s.size := h5.le
 have hcap : ¬ cap = i := by omega
 have hcv : (convert 22 9 (.slice (some ⟨g, o + i, none⟩) ((dgs s (i + 1)) - i) (cap - i))).run Tryz.prog w5.drew = .ok (.string (s.extract i (dgs s (i + 1)))) w5.drew := rd_conv h5.drew (by omega) (by omega)
 have c84 := Reads.parse (s.extract i (dgs s (i + 1))) (by simp; omega) w5.drew
 obtain ⟨k0, k1, k2, f1, f2⟩ := h5.cells
 have i1 : (0 : Int) ≤ (i : Int) := by omega
 have i2 : (i : Int) ≤ ((dgs s (i + 1)) : Int) := by omega
 have i3 : ((dgs s (i + 1)) : Int) ≤ (cap : Int) := by omega
 have i4 : ((dgs s (i + 1)) : Int) ≤ (s.size : Int) := by omega
 have kk := kbase.trans k5
 have hne : (perr (bs (s.extract i (dgs s (i + 1)))) != 0) = true := by simpa using hp
 have H5 : Hid (Rd w5 R (.slice (some ⟨g, o, none⟩) s.size cap) s (dgs s (i + 1)) b) := h5
 clear h5 k5 c64 c58 c58b c58c
 obtain ⟨T, hT⟩ : ∃ T, s.extract i (dgs s (i + 1)) = T := ⟨_, rfl⟩
 have HT : Hid (s.extract i (dgs s (i + 1)) = T) := hT
 rw [hT] at hcv c84
 obtain ⟨JJ, hJJ⟩ : ∃ JJ, (dgs s (i + 1)) = JJ := ⟨_, rfl⟩
 have HJ : Hid ((dgs s (i + 1)) = JJ) := hJJ
 rw [hJJ] at k1 hcv i2 i3 i4 hj0
 rw [hT] at hne
 clear hT hJJ hp
 go_region_with (first | (go_at_call 60; refine c84.mono ?_; rintro e w' ⟨rfl, hw⟩; have hw := hw.symm; subst hw))
 all_goals (
  go_wp2_with fail
  exact ⟨rfl, kk.drew, rfl⟩)
set_option maxRecDepth 20000 in
set_option maxHeartbeats 1600000 in
theorem num_d_ok {w : World} {R g o cap : Nat} {s : ByteArray} {i b : Nat} (h : Rd w R (.slice (some ⟨g, o, none⟩) s.size cap) s i b) (hi : i < s.size) (hd1 : 49 ≤ at' s i) (hd2 : at' s i ≤ 57) (hp : perr (bs (s.extract i (dgs s i))) = 0) :
  Calls Tryz.prog 42 #[ptr R] w fun e w' => Kr R w w' ∧ e = .returned (.int .i64 (pnum (bs (s.extract i (dgs s i))))) ∧ Rd w' R (.slice (some ⟨g, o, none⟩) s.size cap) s (dgs s i) b := by
 have c58 := next_c h hi
 have hsz := h.sz
 have hc : s.size ≤ cap := by obtain ⟨_, _, e, h2, _⟩ := h.byt; cases e; exact h2
 have hcm : cap ≤ 9223372036854775807 := by obtain ⟨_, _, e, _, h3, _⟩ := h.byt; cases e; exact h3
 have h2 := h.drew.drew
 obtain ⟨k0, k1, k2, f1, f2⟩ := h.cells
 obtain ⟨l0, l1, l2, g1, g2⟩ := h2.cells
 have kbase := ((Kr.refl R w)).drew.drew.drew.drew
 have c58b := next_c h2 hi
 have c64 := digits_c h2.drew.drew
 have hJ1 := dgs_ge s i
 have hb := at_lt s i
 have d1 : (((at' s i : Nat) : Int) == 45) = false := by simp; omega
 have d3 : (((at' s i : Nat) : Int) == 48) = false := by simp; omega
 unfold ptr at c58 c58b c64 ⊢
 unfold digits at c64
 clear h h2
 generalize at' s i = x at *
 go_enter Tryz.func42, Tryz.ntmps42
 go_wp2_with (first | (go_at_call 37; refine c58.mono ?_; rintro e w' ⟨rfl, rfl⟩) | (go_at_call 37; refine c58b.mono ?_; rintro e w' ⟨rfl, rfl⟩) | (go_at_call 43; refine c64.mono ?_; rintro e w5 ⟨⟨r5, rfl⟩, h5, k5⟩))
 have hj0 : (dgs s i) ≤ s.size := h5.le
 have hcap : ¬ cap = i := by omega
 have hcv : (convert 22 9 (.slice (some ⟨g, o + i, none⟩) ((dgs s i) - i) (cap - i))).run Tryz.prog w5.drew = .ok (.string (s.extract i (dgs s i))) w5.drew := rd_conv h5.drew (by omega) (by omega)
 have c84 := Reads.parse (s.extract i (dgs s i)) (by simp; omega) w5.drew
 obtain ⟨k0, k1, k2, f1, f2⟩ := h5.cells
 have i1 : (0 : Int) ≤ (i : Int) := by omega
 have i2 : (i : Int) ≤ ((dgs s i) : Int) := by omega
 have i3 : ((dgs s i) : Int) ≤ (cap : Int) := by omega
 have i4 : ((dgs s i) : Int) ≤ (s.size : Int) := by omega
 have kk := kbase.trans k5
 rw [hp] at c84
 have H5 : Hid (Rd w5 R (.slice (some ⟨g, o, none⟩) s.size cap) s (dgs s i) b) := h5
 clear h5 k5 c64 c58 c58b
 obtain ⟨T, hT⟩ : ∃ T, s.extract i (dgs s i) = T := ⟨_, rfl⟩
 have HT : Hid (s.extract i (dgs s i) = T) := hT
 rw [hT] at hcv c84
 obtain ⟨JJ, hJJ⟩ : ∃ JJ, (dgs s i) = JJ := ⟨_, rfl⟩
 have HJ : Hid ((dgs s i) = JJ) := hJJ
 rw [hJJ] at k1 hcv i2 i3 i4 hj0
 clear hT hJJ hp
 go_region_with (first | (go_at_call 60; refine c84.mono ?_; rintro e w' ⟨rfl, hw⟩; have hw := hw.symm; subst hw))
 all_goals (
  go_wp2_with fail
  go_ret
  exact ⟨kk.drew, by rw [HT.out]; rfl, H5.out.drew⟩)
set_option maxRecDepth 20000 in
set_option maxHeartbeats 1600000 in
theorem num_d_out {w : World} {R g o cap : Nat} {s : ByteArray} {i b : Nat} (h : Rd w R (.slice (some ⟨g, o, none⟩) s.size cap) s i b) (hi : i < s.size) (hd1 : 49 ≤ at' s i) (hd2 : at' s i ≤ 57) (hp : perr (bs (s.extract i (dgs s i))) ≠ 0) :
  Calls Tryz.prog 42 #[ptr R] w fun e w' => Kr R w w' ∧ e = .panicked (pk (601, i)) := by
 have c58 := next_c h hi
 have hsz := h.sz
 have hc : s.size ≤ cap := by obtain ⟨_, _, e, h2, _⟩ := h.byt; cases e; exact h2
 have hcm : cap ≤ 9223372036854775807 := by obtain ⟨_, _, e, _, h3, _⟩ := h.byt; cases e; exact h3
 have h2 := h.drew.drew
 obtain ⟨k0, k1, k2, f1, f2⟩ := h.cells
 obtain ⟨l0, l1, l2, g1, g2⟩ := h2.cells
 have kbase := ((Kr.refl R w)).drew.drew.drew.drew
 have c58b := next_c h2 hi
 have c64 := digits_c h2.drew.drew
 have hJ1 := dgs_ge s i
 have hb := at_lt s i
 have d1 : (((at' s i : Nat) : Int) == 45) = false := by simp; omega
 have d3 : (((at' s i : Nat) : Int) == 48) = false := by simp; omega
 unfold ptr at c58 c58b c64 ⊢
 unfold digits at c64
 clear h h2
 generalize at' s i = x at *
 go_enter Tryz.func42, Tryz.ntmps42
 go_wp2_with (first | (go_at_call 37; refine c58.mono ?_; rintro e w' ⟨rfl, rfl⟩) | (go_at_call 37; refine c58b.mono ?_; rintro e w' ⟨rfl, rfl⟩) | (go_at_call 43; refine c64.mono ?_; rintro e w5 ⟨⟨r5, rfl⟩, h5, k5⟩))
 have hj0 : (dgs s i) ≤ s.size := h5.le
 have hcap : ¬ cap = i := by omega
 have hcv : (convert 22 9 (.slice (some ⟨g, o + i, none⟩) ((dgs s i) - i) (cap - i))).run Tryz.prog w5.drew = .ok (.string (s.extract i (dgs s i))) w5.drew := rd_conv h5.drew (by omega) (by omega)
 have c84 := Reads.parse (s.extract i (dgs s i)) (by simp; omega) w5.drew
 obtain ⟨k0, k1, k2, f1, f2⟩ := h5.cells
 have i1 : (0 : Int) ≤ (i : Int) := by omega
 have i2 : (i : Int) ≤ ((dgs s i) : Int) := by omega
 have i3 : ((dgs s i) : Int) ≤ (cap : Int) := by omega
 have i4 : ((dgs s i) : Int) ≤ (s.size : Int) := by omega
 have kk := kbase.trans k5
 have hne : (perr (bs (s.extract i (dgs s i))) != 0) = true := by simpa using hp
 have H5 : Hid (Rd w5 R (.slice (some ⟨g, o, none⟩) s.size cap) s (dgs s i) b) := h5
 clear h5 k5 c64 c58 c58b
 obtain ⟨T, hT⟩ : ∃ T, s.extract i (dgs s i) = T := ⟨_, rfl⟩
 have HT : Hid (s.extract i (dgs s i) = T) := hT
 rw [hT] at hcv c84
 obtain ⟨JJ, hJJ⟩ : ∃ JJ, (dgs s i) = JJ := ⟨_, rfl⟩
 have HJ : Hid ((dgs s i) = JJ) := hJJ
 rw [hJJ] at k1 hcv i2 i3 i4 hj0
 rw [hT] at hne
 clear hT hJJ hp
 go_region_with (first | (go_at_call 60; refine c84.mono ?_; rintro e w' ⟨rfl, hw⟩; have hw := hw.symm; subst hw))
 all_goals (
  go_wp2_with fail
  exact ⟨rfl, kk.drew, rfl⟩)
set_option maxRecDepth 20000 in
set_option maxHeartbeats 1600000 in
theorem num_z_bad {w : World} {R g o cap : Nat} {s : ByteArray} {i b : Nat} (h : Rd w R (.slice (some ⟨g, o, none⟩) s.size cap) s i b) (hi : i < s.size) (hz : at' s i = 48) (hd : dig (at' s (i + 1)) = true) :
  Calls Tryz.prog 42 #[ptr R] w fun e w' => Kr R w w' ∧ e = .panicked (pk (600, i + 1)) := by
 have c58 := next_c h hi
 have hsz := h.sz
 have hc : s.size ≤ cap := by obtain ⟨_, _, e, h2, _⟩ := h.byt; cases e; exact h2
 have hcm : cap ≤ 9223372036854775807 := by obtain ⟨_, _, e, _, h3, _⟩ := h.byt; cases e; exact h3
 have h2 := h.drew.drew
 obtain ⟨k0, k1, k2, f1, f2⟩ := h.cells
 obtain ⟨l0, l1, l2, g1, g2⟩ := h2.cells
 have h4 : Rd ((w.setCell ⟨R, 1, none⟩ (.int .i64 ((i : Int) + 1))).drew.drew.drew.drew) R (.slice (some ⟨g, o, none⟩) s.size cap) s (i + 1) b := (h.go (i + 1) (by omega)).drew.drew.drew.drew
 have kbase0 := ((Kr.refl R w).set 1 (.int .i64 ((i : Int) + 1))).drew.drew.drew.drew
 have c58b := next_c h2 hi
 obtain ⟨q0, q1, q2, t1, t2⟩ := h2.drew.drew.cells
 rw [hz] at c58 c58b
 have he : i + 1 < s.size := at_in (fun e => by rw [e] at hd; exact absurd hd (by decide))
 have c58c := next_c h4.drew he
 have c76 := isof_c digits (at' s (i + 1)) ((w.setCell ⟨R, 1, none⟩ (.int .i64 ((i : Int) + 1))).drew.drew.drew.drew.drew.drew.drew)
 rw [isin_digits _ (at_lt s _), hd] at c76
 have c41 := refuse_c h4.drew.drew.drew
 have hlt : decide ((i : Int) + 1 < (s.size : Int)) = true := by simp; omega
 unfold ptr at c58 c58b c58c c41 ⊢
 unfold digits at c76
 clear h h2 h4 hd
 generalize at' s (i + 1) = x at *
 go_enter Tryz.func42, Tryz.ntmps42
 go_wp2_with (first | (go_at_call 37; refine c58.mono ?_; rintro e w' ⟨rfl, rfl⟩) | (go_at_call 37; refine c58b.mono ?_; rintro e w' ⟨rfl, rfl⟩))
 go_region_with (first | (go_at_call 37; refine c58c.mono ?_; rintro e w' ⟨rfl, rfl⟩) | (go_at_call 52; refine c76.mono ?_; rintro e w' ⟨rfl, rfl⟩))
 all_goals go_wp2_with (go_at_call 26; refine c41.mono ?_; rintro e w' ⟨rfl, rfl⟩)
 all_goals exact ⟨rfl, kbase0.drew.drew.drew, rfl⟩
set_option maxRecDepth 20000 in
set_option maxHeartbeats 1600000 in
theorem num_z_ok {w : World} {R g o cap : Nat} {s : ByteArray} {i b : Nat} (h : Rd w R (.slice (some ⟨g, o, none⟩) s.size cap) s i b) (hi : i < s.size) (hz : at' s i = 48) (he : i + 1 < s.size) (hd : dig (at' s (i + 1)) = false) :
  Calls Tryz.prog 42 #[ptr R] w fun e w' => Kr R w w' ∧ e = .returned (.int .i64 0) ∧ Rd w' R (.slice (some ⟨g, o, none⟩) s.size cap) s (i + 1) b := by
 have c58 := next_c h hi
 have hsz := h.sz
 have hc : s.size ≤ cap := by obtain ⟨_, _, e, h2, _⟩ := h.byt; cases e; exact h2
 have hcm : cap ≤ 9223372036854775807 := by obtain ⟨_, _, e, _, h3, _⟩ := h.byt; cases e; exact h3
 have h2 := h.drew.drew
 obtain ⟨k0, k1, k2, f1, f2⟩ := h.cells
 obtain ⟨l0, l1, l2, g1, g2⟩ := h2.cells
 have h4 : Rd ((w.setCell ⟨R, 1, none⟩ (.int .i64 ((i : Int) + 1))).drew.drew.drew.drew) R (.slice (some ⟨g, o, none⟩) s.size cap) s (i + 1) b := (h.go (i + 1) (by omega)).drew.drew.drew.drew
 have kbase0 := ((Kr.refl R w).set 1 (.int .i64 ((i : Int) + 1))).drew.drew.drew.drew
 have c58b := next_c h2 hi
 obtain ⟨q0, q1, q2, t1, t2⟩ := h2.drew.drew.cells
 rw [hz] at c58 c58b
 have hlt : decide ((i : Int) + 1 < (s.size : Int)) = true := by simp; omega
 have c58c := next_c h4.drew he
 have c76 := isof_c digits (at' s (i + 1)) ((w.setCell ⟨R, 1, none⟩ (.int .i64 ((i : Int) + 1))).drew.drew.drew.drew.drew.drew.drew)
 rw [isin_digits _ (at_lt s _), hd] at c76
 have c64 := digits_c h4.drew.drew.drew
 have kbase := kbase0.drew.drew.drew
 unfold ptr at c58c
 unfold digits at c76
 rw [dgs_stop (by first | assumption | (rw [at_out s _ he]; rfl))] at c64
 unfold ptr at c58 c58b c64 ⊢
 unfold digits at c64
 clear h h2 h4
 go_enter Tryz.func42, Tryz.ntmps42
 go_wp2_with (first | (go_at_call 37; refine c58.mono ?_; rintro e w' ⟨rfl, rfl⟩) | (go_at_call 37; refine c58b.mono ?_; rintro e w' ⟨rfl, rfl⟩))
 go_region_with (first | (go_at_call 37; refine c58c.mono ?_; rintro e w' ⟨rfl, rfl⟩) | (go_at_call 52; refine c76.mono ?_; rintro e w' ⟨rfl, rfl⟩))
 all_goals (
  go_wp2_with (go_at_call 43; refine c64.mono ?_; rintro e w5 ⟨⟨r5, rfl⟩, h5, k5⟩)
  have hj0 : (i + 1) ≤ s.size := h5.le
  have hcap : ¬ cap = i := by omega
  have hcv : (convert 22 9 (.slice (some ⟨g, o + i, none⟩) ((i + 1) - i) (cap - i))).run Tryz.prog w5.drew = .ok (.string (s.extract i (i + 1))) w5.drew := rd_conv h5.drew (by omega) (by omega)
  have c84 := Reads.parse (s.extract i (i + 1)) (by simp; omega) w5.drew
  obtain ⟨k0, k1, k2, f1, f2⟩ := h5.cells
  have i1 : (0 : Int) ≤ (i : Int) := by omega
  have i2 : (i : Int) ≤ ((i + 1) : Int) := by omega
  have i3 : ((i + 1) : Int) ≤ (cap : Int) := by omega
  have i4 : ((i + 1) : Int) ≤ (s.size : Int) := by omega
  have kk := kbase.trans k5
  have hp0 : perr (bs (s.extract i (i + 1))) = 0 ∧ pnum (bs (s.extract i (i + 1))) = 0 := by rw [zero_of hi hz]; decide
  rw [hp0.1, hp0.2] at c84
  have H5 : Hid (Rd w5 R (.slice (some ⟨g, o, none⟩) s.size cap) s (i + 1) b) := h5
  have k1 : w5.cell? ⟨R, 1, none⟩ = some (.int .i64 ((i : Int) + 1)) := k1
  obtain ⟨T, hT⟩ : ∃ T, s.extract i (i + 1) = T := ⟨_, rfl⟩
  rw [hT] at hcv c84
  have i2 : (i : Int) ≤ (i : Int) + 1 := by omega
  have i3 : (i : Int) + 1 ≤ (cap : Int) := by omega
  have i4 : (i : Int) + 1 ≤ (s.size : Int) := by omega
  rw [show i + 1 - i = 1 by omega] at hcv
  clear h5 k5 c64 hT hp0
  go_region_with (first | (go_at_call 60; refine c84.mono ?_; rintro e w' ⟨rfl, hw⟩; have hw := hw.symm; subst hw))
  all_goals (
   go_wp2_with fail
   go_ret
   exact ⟨kk.drew, rfl, H5.out.drew⟩))
end Go.Proofs.YthkpbhgbmagaeaaGreatDoor.Num
namespace Go.Proofs.YthkpbhgbmagaeaaGreatDoor.NumC
open Go.RowKit Go.Proofs.YthkpbhgbmagaeaaGreatDoor.Base Go.Proofs.YthkpbhgbmagaeaaGreatDoor.UBase Go.Proofs.YthkpbhgbmagaeaaGreatDoor.Spec Go.Proofs.YthkpbhgbmagaeaaGreatDoor.Rdr Go.Proofs.YthkpbhgbmagaeaaGreatDoor.Take Go.Proofs.YthkpbhgbmagaeaaGreatDoor.Skip Go.Proofs.YthkpbhgbmagaeaaGreatDoor.Sums Go.Proofs.YthkpbhgbmagaeaaGreatDoor.Nums Go.Proofs.YthkpbhgbmagaeaaGreatDoor.Num
set_option linter.unusedVariables false
set_option maxRecDepth 20000 in
set_option maxHeartbeats 1600000 in
theorem num_z_end {w : World} {R g o cap : Nat} {s : ByteArray} {i b : Nat} (h : Rd w R (.slice (some ⟨g, o, none⟩) s.size cap) s i b) (hi : i < s.size) (hz : at' s i = 48) (he : ¬ i + 1 < s.size) :
  Calls Tryz.prog 42 #[ptr R] w fun e w' => Kr R w w' ∧ e = .returned (.int .i64 0) ∧ Rd w' R (.slice (some ⟨g, o, none⟩) s.size cap) s (i + 1) b := by
 have c58 := next_c h hi
 have hsz := h.sz
 have hc : s.size ≤ cap := by obtain ⟨_, _, e, h2, _⟩ := h.byt; cases e; exact h2
 have hcm : cap ≤ 9223372036854775807 := by obtain ⟨_, _, e, _, h3, _⟩ := h.byt; cases e; exact h3
 have h2 := h.drew.drew
 obtain ⟨k0, k1, k2, f1, f2⟩ := h.cells
 obtain ⟨l0, l1, l2, g1, g2⟩ := h2.cells
 have h4 : Rd ((w.setCell ⟨R, 1, none⟩ (.int .i64 ((i : Int) + 1))).drew.drew.drew.drew) R (.slice (some ⟨g, o, none⟩) s.size cap) s (i + 1) b := (h.go (i + 1) (by omega)).drew.drew.drew.drew
 have kbase0 := ((Kr.refl R w).set 1 (.int .i64 ((i : Int) + 1))).drew.drew.drew.drew
 have c58b := next_c h2 hi
 obtain ⟨q0, q1, q2, t1, t2⟩ := h2.drew.drew.cells
 rw [hz] at c58 c58b
 have hlt : decide ((i : Int) + 1 < (s.size : Int)) = false := by simp; omega
 have H4 : Hid (Rd (w.setCell ⟨R, 1, none⟩ (.int .i64 ((i : Int) + 1))) R (.slice (some ⟨g, o, none⟩) s.size cap) s (i + 1) b) := h.go (i + 1) (by omega)
 have HD : Hid (dgs s (i + 1) = i + 1) := dgs_stop (by rw [at_out s _ he]; rfl)
 unfold ptr at c58 c58b ⊢
 clear h h2 h4
 go_enter Tryz.func42, Tryz.ntmps42
 go_wp2_with (first | (go_at_call 37; refine c58.mono ?_; rintro e w' ⟨rfl, rfl⟩) | (go_at_call 37; refine c58b.mono ?_; rintro e w' ⟨rfl, rfl⟩))
 go_quiet (fail)
 all_goals (
  have c64 := digits_c (H4.out.drewN (1 + (1 + (1 + (1 + nq)))))
  have kbase := ((Kr.refl R w).set 1 (.int .i64 ((i : Int) + 1))).drewN (1 + (1 + (1 + (1 + nq))))
  rw [HD.out] at c64
  unfold ptr at c64
  unfold digits at c64
  go_wp2_with (go_at_call 43; refine c64.mono ?_; rintro e w5 ⟨⟨r5, rfl⟩, h5, k5⟩)
  have hj0 : (i + 1) ≤ s.size := h5.le
  have hcap : ¬ cap = i := by omega
  have hcv : (convert 22 9 (.slice (some ⟨g, o + i, none⟩) ((i + 1) - i) (cap - i))).run Tryz.prog w5.drew = .ok (.string (s.extract i (i + 1))) w5.drew := rd_conv h5.drew (by omega) (by omega)
  have c84 := Reads.parse (s.extract i (i + 1)) (by simp; omega) w5.drew
  obtain ⟨k0, k1, k2, f1, f2⟩ := h5.cells
  have i1 : (0 : Int) ≤ (i : Int) := by omega
  have i2 : (i : Int) ≤ ((i + 1) : Int) := by omega
  have i3 : ((i + 1) : Int) ≤ (cap : Int) := by omega
  have i4 : ((i + 1) : Int) ≤ (s.size : Int) := by omega
  have kk := kbase.trans k5
  have hp0 : perr (bs (s.extract i (i + 1))) = 0 ∧ pnum (bs (s.extract i (i + 1))) = 0 := by rw [zero_of hi hz]; decide
  rw [hp0.1, hp0.2] at c84
  have H5 : Hid (Rd w5 R (.slice (some ⟨g, o, none⟩) s.size cap) s (i + 1) b) := h5
  have k1 : w5.cell? ⟨R, 1, none⟩ = some (.int .i64 ((i : Int) + 1)) := k1
  obtain ⟨T, hT⟩ : ∃ T, s.extract i (i + 1) = T := ⟨_, rfl⟩
  rw [hT] at hcv c84
  have i2 : (i : Int) ≤ (i : Int) + 1 := by omega
  have i3 : (i : Int) + 1 ≤ (cap : Int) := by omega
  have i4 : (i : Int) + 1 ≤ (s.size : Int) := by omega
  rw [show i + 1 - i = 1 by omega] at hcv
  clear h5 k5 c64 hT hp0
  go_region_with (first | (go_at_call 60; refine c84.mono ?_; rintro e w' ⟨rfl, hw⟩; have hw := hw.symm; subst hw))
  all_goals (
   go_wp2_with fail
   go_ret
   exact ⟨kk.drew, rfl, H5.out.drew⟩))
theorem num_c {w : World} {R : Nat} {v : Value} {s : ByteArray} {i b : Nat} (h : Rd w R v s i b) (hs : at' s i = 45 ∨ dig (at' s i) = true) :
  Calls Tryz.prog 42 #[ptr R] w fun e w' => Kr R w w' ∧ match nm s i with
   | .ok (x, j) => e = .returned (.int .i64 x) ∧ Rd w' R v s j b
   | .error x => e = .panicked (pk x) := by
 have hi : i < s.size := at_in (by rcases hs with e | e <;> intro e0 <;> rw [e0] at e <;> exact absurd e (by decide))
 obtain ⟨g, o, cap, rfl, hc, -⟩ := h.byte hi
 by_cases hm : at' s i = 45
 ·have hsg : sgn s i = i + 1 := by unfold sgn; rw [if_pos hm]
  by_cases he : ¬ i + 1 < s.size
  ·have hU : nm s i = .error (600, i + 1) := by unfold nm; rw [hsg, at_out s _ he]; rfl
   rw [hU]
   exact num_m_end h hi hm he
  have he : i + 1 < s.size := Decidable.of_not_not he
  by_cases hd : at' s (i + 1) < 49 ∨ 57 < at' s (i + 1)
  ·have hU : nm s i = .error (600, i + 1) := by
    unfold nm
    rw [hsg]
    by_cases e : dig (at' s (i + 1)) = false
    ·rw [if_pos e]
    ·rw [if_neg e, if_pos (by simp [dig] at e; omega), if_pos (by omega)]
   rw [hU]
   exact num_m_bad h hi hm he hd
  have hdg : dig (at' s (i + 1)) = true := by simp [dig]; omega
  by_cases hp : perr (bs (s.extract i (dgs s (i + 1)))) = 0
  ·have hU : nm s i = .ok (pnum (bs (s.extract i (dgs s (i + 1)))), dgs s (i + 1)) := by
    unfold nm
    rw [hsg, if_neg (by rw [hdg]; simp), if_neg (by omega)]
    unfold rd
    rw [if_pos hp]
   rw [hU]
   exact num_m_ok h hi hm he (by omega) (by omega) hp
  ·have hU : nm s i = .error (601, i) := by
    unfold nm
    rw [hsg, if_neg (by rw [hdg]; simp), if_neg (by omega)]
    unfold rd
    rw [if_neg hp]
   rw [hU]
   exact num_m_out h hi hm he (by omega) (by omega) hp
 ·have hsg : sgn s i = i := by unfold sgn; rw [if_neg hm]
  have hdg : dig (at' s i) = true := by rcases hs with e | e; exact absurd e hm; exact e
  by_cases hz : at' s i = 48
  ·cases hd : dig (at' s (i + 1)) with
   | true =>
    have hU : nm s i = .error (600, i + 1) := by unfold nm; rw [hsg, if_neg (by rw [hdg]; simp), if_pos hz, if_neg (by omega), if_pos hd]
    rw [hU]
    exact num_z_bad h hi hz hd
   | false =>
    have hU : nm s i = .ok (0, i + 1) := by unfold nm; rw [hsg, if_neg (by rw [hdg]; simp), if_pos hz, if_neg (by omega), if_neg (by rw [hd]; simp)]
    rw [hU]
    by_cases he : i + 1 < s.size
    ·exact num_z_ok h hi hz he hd
    ·exact num_z_end h hi hz he
  ·have hr : 49 ≤ at' s i ∧ at' s i ≤ 57 := by simp [dig] at hdg; omega
   by_cases hp : perr (bs (s.extract i (dgs s i))) = 0
   ·have hU : nm s i = .ok (pnum (bs (s.extract i (dgs s i))), dgs s i) := by
     unfold nm
     rw [hsg, if_neg (by rw [hdg]; simp), if_neg hz]
     unfold rd
     rw [if_pos hp]
    rw [hU]
    exact num_d_ok h hi hr.1 hr.2 hp
   ·have hU : nm s i = .error (601, i) := by
     unfold nm
     rw [hsg, if_neg (by rw [hdg]; simp), if_neg hz]
     unfold rd
     rw [if_neg hp]
    rw [hU]
    exact num_d_out h hi hr.1 hr.2 hp
end Go.Proofs.YthkpbhgbmagaeaaGreatDoor.NumC
