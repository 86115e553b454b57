import Derived.Deep.RegionWith
import Derived.Test.YthkpbhgbmagaeaaGreatDoorP05
import Derived.Test.YthkpbhgbmagaeaaGreatDoorP14
import Derived.Test.YthkpbhgbmagaeaaGreatDoorP19
namespace Go.Proofs.YthkpbhgbmagaeaaGreatDoor.Char
open Go.RowKit Go.Proofs.YthkpbhgbmagaeaaGreatDoor.Base Go.Proofs.YthkpbhgbmagaeaaGreatDoor.UBase Go.Proofs.YthkpbhgbmagaeaaGreatDoor.Spec Go.Proofs.YthkpbhgbmagaeaaGreatDoor.Rdr Go.Proofs.YthkpbhgbmagaeaaGreatDoor.Take Go.Proofs.YthkpbhgbmagaeaaGreatDoor.Skip Go.Proofs.YthkpbhgbmagaeaaGreatDoor.Chr Go.Proofs.YthkpbhgbmagaeaaGreatDoor.Unit Go.Proofs.YthkpbhgbmagaeaaGreatDoor.Esc Go.Proofs.YthkpbhgbmagaeaaGreatDoor.Dec
set_option linter.unusedVariables false
theorem decode_c {w : World} {R g o cap : Nat} {s : ByteArray} {i b : Nat} (h : Rd w R (.slice (some ⟨g, o, none⟩) s.size cap) s i b) (hi : i < s.size) :
  Calls Tryz.prog 71 #[.slice (some ⟨g, o + i, none⟩) (s.size - i) (cap - i)] w fun e w' => e = .returned (.tuple #[.int .i32 (Utf8.decode s i).1, .int .i64 (Utf8.decode s i).2]) ∧ Below w.heap.size w w' := by
 have e1 : (s.extract i s.size).size = s.size - i := by simp
 have c := Tryz.utf8_DecodeRune (s.extract i s.size) g (o + i) (cap - i) w h.tab (fun j hj => by
  rw [e1] at hj
  obtain ⟨a, cap', e, -, -, -, h5⟩ := h.byt
  cases e
  rcases h5 with h5 | ⟨g', o', e, -, hc⟩
  ·omega
  ·cases e
   have := hc (i + j) (by omega)
   rw [← Nat.add_assoc] at this
   rw [this, ← at_extract s i j (Nat.le_of_lt hi)]
   rfl)
 rw [e1, dec_extract s i hi] at c
 exact c
set_option maxRecDepth 20000 in
set_option maxHeartbeats 1600000 in
theorem char_raw {w : World} {R g o cap : Nat} {s : ByteArray} {i b X L : Nat} (h : Rd w R (.slice (some ⟨g, o, none⟩) s.size cap) s i b) (hi : i < s.size) (h92 : at' s i ≠ 92) (hX : (Utf8.decode s i).1 = X) (hL : (Utf8.decode s i).2 = L)
  (d1 : decide ((X : Int) < 32) = false) (d2 : ((X : Int) == 65533) = false ∨ (((X : Int) == 65533) = true ∧ ((L : Int) == 1) = false)) (hb1 : X ≤ 1114111) (hb2 : i + L ≤ s.size) :
  Calls Tryz.prog 55 #[ptr R] w fun e w' => e = .returned (.int .i32 (X : Nat)) ∧ Rd w' R (.slice (some ⟨g, o, none⟩) s.size cap) s (i + L) b ∧ Kr R w w' := by
 have c58 := next_c h hi
 have hsz := h.sz
 have hcm : cap ≤ 9223372036854775807 := by obtain ⟨_, _, e, _, h3, _⟩ := h.byt; cases e; exact h3
 have hc : s.size ≤ cap := by obtain ⟨_, _, e, h2, _⟩ := h.byt; cases e; exact h2
 have h2 := h.drew.drew
 have H3 : Hid (Rd w.drew.drew.drew R (.slice (some ⟨g, o, none⟩) s.size cap) s i b) := h2.drew
 obtain ⟨k0, k1, k2, f1, f2⟩ := h2.cells
 have c100 := decode_c H3.out hi
 rw [hX, hL] at c100
 have hne : (((at' s i : Nat) : Int) == 92) = false := by simp; omega
 have hb := at_lt s i
 have hcap : ¬ cap = i := by omega
 unfold ptr at c58 ⊢
 clear h h2 hX hL h92
 generalize at' s i = x at *
 go_enter Tryz.func55, Tryz.ntmps55
 go_wp2_with (go_at_call 37; refine c58.mono ?_; rintro e w' ⟨rfl, rfl⟩)
 go_region_with (go_at_call 71; refine c100.mono ?_; rintro e w1 ⟨rfl, b1⟩)
 all_goals (
  have h7 := H3.out.below b1
  obtain ⟨m0, m1, m2, n1, n2⟩ := h7.cells
  have h8 : Rd (w1.setCell ⟨R, 1, none⟩ (.int .i64 ((i : Int) + (L : Int)))) R (.slice (some ⟨g, o, none⟩) s.size cap) s (i + L) b := h7.go (i + L) hb2
  have k8 := (((Kr.refl R w).drew.drew.drew).trans (.of_below b1 (by have := H3.out.lt; omega))).set 1 (.int .i64 ((i : Int) + (L : Int)))
  clear h7
  rcases d2 with d2 | ⟨d2, d3⟩
  ·go_wp2_with fail
   go_ret
   exact ⟨rfl, h8, k8⟩
  ·go_wp2_with fail
   go_ret
   exact ⟨rfl, h8, k8⟩)
set_option maxRecDepth 20000 in
set_option maxHeartbeats 1600000 in
theorem char_bad {w : World} {R g o cap : Nat} {s : ByteArray} {i b X L : Nat} (h : Rd w R (.slice (some ⟨g, o, none⟩) s.size cap) s i b) (hi : i < s.size) (h92 : at' s i ≠ 92) (hX : (Utf8.decode s i).1 = X) (hL : (Utf8.decode s i).2 = L)
  (d1 : decide ((X : Int) < 32) = true ∨ (decide ((X : Int) < 32) = false ∧ ((X : Int) == 65533) = true ∧ ((L : Int) == 1) = true)) (hb1 : X ≤ 1114111) :
  Calls Tryz.prog 55 #[ptr R] w fun e w' => e = .panicked (pk (600, i)) ∧ Kr R w w' := by
 have c58 := next_c h hi
 have hsz := h.sz
 have hcm : cap ≤ 9223372036854775807 := by obtain ⟨_, _, e, _, h3, _⟩ := h.byt; cases e; exact h3
 have hc : s.size ≤ cap := by obtain ⟨_, _, e, h2, _⟩ := h.byt; cases e; exact h2
 have h2 := h.drew.drew
 have H3 : Hid (Rd w.drew.drew.drew R (.slice (some ⟨g, o, none⟩) s.size cap) s i b) := h2.drew
 obtain ⟨k0, k1, k2, f1, f2⟩ := h2.cells
 have c100 := decode_c H3.out hi
 rw [hX, hL] at c100
 have hne : (((at' s i : Nat) : Int) == 92) = false := by simp; omega
 have hb := at_lt s i
 have hcap : ¬ cap = i := by omega
 unfold ptr at c58 ⊢
 clear h h2 hX hL h92
 generalize at' s i = x at *
 go_enter Tryz.func55, Tryz.ntmps55
 go_wp2_with (go_at_call 37; refine c58.mono ?_; rintro e w' ⟨rfl, rfl⟩)
 go_region_with (go_at_call 71; refine c100.mono ?_; rintro e w1 ⟨rfl, b1⟩)
 all_goals (
  have h7 := H3.out.below b1
  have c41 := refuse_c h7
  have k8 := ((Kr.refl R w).drew.drew.drew).trans (.of_below b1 (by have := H3.out.lt; omega))
  unfold ptr at c41
  clear h7
  rcases d1 with d1 | ⟨d1, d2, d3⟩
  ·go_wp2_with (go_at_call 26; refine c41.mono ?_; rintro e w' ⟨rfl, rfl⟩)
   exact ⟨rfl, rfl, k8⟩
  ·go_wp2_with (go_at_call 26; refine c41.mono ?_; rintro e w' ⟨rfl, rfl⟩)
   exact ⟨rfl, rfl, k8⟩)
theorem char_c {w : World} {R : Nat} {v : Value} {s : ByteArray} {i b : Nat} (h : Rd w R v s i b) (hi : i < s.size) :
  Calls Tryz.prog 55 #[ptr R] w fun e w' => Kr R w w' ∧ match chr s i with
   | .ok (x, j) => e = .returned (.int .i32 (x : Nat)) ∧ Rd w' R v s j b
   | .error x => e = .panicked (pk x) := by
 obtain ⟨g, o, cap, rfl, hc, -⟩ := h.byte hi
 by_cases h92 : at' s i = 92
 ·have hC : chr s i = esc s i := by unfold chr; rw [if_pos h92]
  rw [hC]
  have c58 := next_c h hi
  have c99 := escape_c h.drew.drew h92
  have hne : (((at' s i : Nat) : Int) == 92) = true := by simp; omega
  unfold ptr at c58 c99 ⊢
  clear h hC
  rw [h92] at c58
  obtain ⟨U, hU⟩ : ∃ U, esc s i = U := ⟨_, rfl⟩
  rw [hU] at c99 ⊢
  clear hU
  cases U with
  | error x =>
   go_enter Tryz.func55, Tryz.ntmps55
   go_wp2_with (first | (go_at_call 37; refine c58.mono ?_; rintro e w' ⟨rfl, rfl⟩) | (go_at_call 70; refine c99.mono ?_; rintro e w' ⟨k4, rfl⟩))
   exact ⟨rfl, ((Kr.refl R w).drew.drew).trans k4, rfl⟩
  | ok y =>
   obtain ⟨y, j⟩ := y
   go_enter Tryz.func55, Tryz.ntmps55
   go_wp2_with (first | (go_at_call 37; refine c58.mono ?_; rintro e w' ⟨rfl, rfl⟩) | (go_at_call 70; refine c99.mono ?_; rintro e w' ⟨k4, rfl, h5⟩))
   go_ret
   exact ⟨((Kr.refl R w).drew.drew).trans k4, rfl, h5⟩
 by_cases hb : at' s i < 32 ∨ len s i = 0
 ·have hC : chr s i = .error (600, i) := by unfold chr; rw [if_neg h92, if_pos hb]
  rw [hC]
  have hd : decide (((Utf8.decode s i).1 : Int) < 32) = true ∨ (decide (((Utf8.decode s i).1 : Int) < 32) = false ∧ (((Utf8.decode s i).1 : Int) == 65533) = true ∧ (((Utf8.decode s i).2 : Int) == 1) = true) := by
   by_cases h32 : at' s i < 32
   ·left; rw [dec_small (by omega)]; simp; omega
   ·right; rw [dec_bad (by omega)]; decide
  refine (char_bad h hi h92 rfl rfl hd (dec_le s i)).mono ?_
  rintro e w' ⟨h1, h2⟩
  exact ⟨h2, h1⟩
 ·have hC : chr s i = .ok ((Utf8.decode s i).1, i + len s i) := by unfold chr; rw [if_neg h92, if_neg hb]
  rw [hC]
  have hl : len s i ≠ 0 := fun e => hb (.inr e)
  have h32 : 32 ≤ at' s i := by omega
  have hL := (dec_len s i).2.1 hl
  have hd1 : decide (((Utf8.decode s i).1 : Int) < 32) = false := by
   by_cases h128 : at' s i < 128
   ·rw [dec_small h128]; simp; omega
   ·have := (dec_good hl (by omega)).2.2; simp; omega
  have hd2 : (((Utf8.decode s i).1 : Int) == 65533) = false ∨ ((((Utf8.decode s i).1 : Int) == 65533) = true ∧ (((Utf8.decode s i).2 : Int) == 1) = false) := by
   by_cases h128 : at' s i < 128
   ·left; rw [dec_small h128]; simp; omega
   ·have := dec_good hl (by omega)
    by_cases e : (Utf8.decode s i).1 = 65533
    ·right; refine ⟨by simp [e], ?_⟩; rw [this.1]; simp; omega
    ·left; simp; omega
  refine (char_raw h hi h92 rfl hL hd1 (by rw [hL] at hd2; exact hd2) (dec_le s i) (len_in hi)).mono ?_
  rintro e w' ⟨h1, h2, h3⟩
  exact ⟨h3, h1, h2⟩
end Go.Proofs.YthkpbhgbmagaeaaGreatDoor.Char
namespace Go.Proofs.YthkpbhgbmagaeaaGreatDoor.Text
open Go.RowKit Go.Proofs.YthkpbhgbmagaeaaGreatDoor.Base Go.Proofs.YthkpbhgbmagaeaaGreatDoor.UBase Go.Proofs.YthkpbhgbmagaeaaGreatDoor.Spec Go.Proofs.YthkpbhgbmagaeaaGreatDoor.Rdr Go.Proofs.YthkpbhgbmagaeaaGreatDoor.Take Go.Proofs.YthkpbhgbmagaeaaGreatDoor.Skip Go.Proofs.YthkpbhgbmagaeaaGreatDoor.Chr Go.Proofs.YthkpbhgbmagaeaaGreatDoor.Unit Go.Proofs.YthkpbhgbmagaeaaGreatDoor.Esc Go.Proofs.YthkpbhgbmagaeaaGreatDoor.Dec Go.Proofs.YthkpbhgbmagaeaaGreatDoor.Char Go.Proofs.YthkpbhgbmagaeaaGreatDoor.Byts
set_option linter.unusedVariables false
theorem unt_in {s : ByteArray} {i x j : Nat} (hi : i + 2 ≤ s.size) (h : unt s i = .ok (x, j)) : i < j ∧ j ≤ s.size ∧ x ≤ 1114111 := by
 unfold unt at h
 split at h
 ·cases h
 next h4 =>
 have hc := hcn_in s 4 (i + 2) hi
 have hle := hcn_le s 4 (i + 2)
 have hv : hvl s (i + 2) < 65536 := by rw [← hvn_four]; exact hvn_lt 4 fun j hj => hcn_all (by omega) j hj
 split at h
 ·have h' := Prod.mk.inj (Except.ok.inj h)
  exact ⟨by omega, by omega, by omega⟩
 ·split at h
  ·next hl =>
   have h1 := UnitH.low_in hl.2
   have h2 := UnitH.low_val hl.2
   have h' := Prod.mk.inj (Except.ok.inj h)
   rw [show i + 6 + 2 = i + 8 by omega] at h2
   generalize hvl s (i + 2) = A at *
   generalize hvl s (i + 8) = B at *
   exact ⟨by omega, by omega, by omega⟩
  ·cases h
theorem esc_in {s : ByteArray} {i x j : Nat} (hi : i < s.size) (h : esc s i = .ok (x, j)) : i < j ∧ j ≤ s.size ∧ x ≤ 1114111 := by
 unfold esc at h
 split at h
 ·next hu => exact unt_in (by have := at_in (s := s) (i := i + 1) (by omega); omega) h
 ·split at h
  ·next y hl =>
   cases h
   have hn : at' s (i + 1) ≠ 0 := fun e => by rw [e] at hl; cases hl
   have := at_in hn
   have : ∀ c : Fin 256, ∀ y, ltr c.1 = some y → y ≤ 1114111 := by
    intro c y hy
    unfold ltr at hy
    repeat' split at hy
    all_goals (simp at hy; try omega)
   exact ⟨by omega, by omega, this ⟨at' s (i + 1), at_lt ..⟩ _ hl⟩
  ·cases h
theorem chr_in {s : ByteArray} {i x j : Nat} (hi : i < s.size) (h : chr s i = .ok (x, j)) : i < j ∧ j ≤ s.size ∧ x ≤ 1114111 := by
 unfold chr at h
 split at h
 ·exact esc_in hi h
 ·split at h
  ·cases h
  ·next hb =>
   have := len_in hi
   cases h
   exact ⟨by omega, this, dec_le s i⟩
theorem enc_len (x : Int) : (Lib.encodeRune x).length ≤ 4 := by rw [← Lib.runeCells_length]; exact (Lib.runeCells_le x).2
/-- One character more, or the fault. -/
def txk (s : ByteArray) (f : Nat) (L : List UInt8) : Except F (Nat × Nat) → Except F (List UInt8 × Nat)
 | .error e => .error e
 | .ok (x, j) => txl s f j (L ++ Lib.encodeRune x)
theorem txl_step (s : ByteArray) (f q : Nat) (L : List UInt8) : txl s (f + 1) q L = if at' s q = 34 then .ok (L, q + 1) else txk s f L (chr s q) := by
 rw [txl]
 rfl
/-- What a text's characters make. -/
def txd (i : Nat) : Except F (List UInt8 × Nat) → Except F (ByteArray × Nat)
 | .error e => .error e
 | .ok (L, j) => if 4096 < L.length then .error (605, i) else .ok (⟨L.toArray⟩, j)
theorem txt_is {s : ByteArray} {i : Nat} (h : at' s i = 34) : txt s i = txd i (txl s (s.size + 1) (i + 1) []) := by
 unfold txt
 rw [if_pos h]
 rfl
set_option maxRecDepth 20000 in
set_option maxHeartbeats 1600000 in
/-- A text: its bytes and the place behind it, or the fault. -/
theorem text_c {w : World} {R : Nat} {v : Value} {s : ByteArray} {i b : Nat} (h : Rd w R v s i b) :
  Calls Tryz.prog 39 #[ptr R] w fun e w' => Kr R w w' ∧ match txt s i with
   | .ok (t, j) => e = .returned (.string t) ∧ Rd w' R v s j b
   | .error x => e = .panicked (pk x) := by
 have hRlt := h.lt
 have hsz := h.sz
 obtain ⟨k0, k1, k2, f1, f2⟩ := h.cells
 obtain ⟨U, hU⟩ : ∃ U, txt s i = U := ⟨_, rfl⟩
 rw [hU]
 by_cases hq : ¬ at' s i = 34
 ·have hU2 : U = .error (600, i) := by rw [← hU]; unfold txt; rw [if_neg hq]
  subst hU2
  have c77 := take_no h hq (by omega) (by omega)
  unfold ptr at c77 ⊢
  clear hU h hq
  go_enter Tryz.func39, Tryz.ntmps39
  go_wp2_with (go_at_call 53; refine c77.mono ?_; rintro e w' ⟨rfl, k⟩)
  exact ⟨rfl, k, rfl⟩
 have hq : at' s i = 34 := Decidable.of_not_not hq
 have c77 := take_c h hq (by omega) (by omega)
 have hi : i < s.size := at_in (by omega)
 have hUe : U = txd i (txl s (s.size + 1) (i + 1) []) := by rw [← hU, txt_is hq]
 have HU : Hid (U = txd i (txl s (s.size + 1) (i + 1) [])) := hUe
 unfold ptr at c77 ⊢
 clear hU hUe h hq
 go_enter Tryz.func39, Tryz.ntmps39
 go_wp2_with (go_at_call 53; refine c77.mono ?_; rintro e w1 ⟨rfl, h1, K1⟩)
 clear c77 k0 k1 k2 f1 f2
 have hs1 := K1.below.size
 go_loopw [4] (fun out wr => ∃ (q f : Nat) (L : List UInt8), q ≤ s.size ∧ L.length ≤ 4 * q ∧ Rd wr R v s q b ∧ Kr R w wr ∧ Own wr w.heap.size out L ∧ txl s f q L = txl s (s.size + 1) (i + 1) [] ∧ s.size < q + f) (fun out wr => s.size - plc R wr)
 case atStart => exact ⟨i + 1, s.size + 1, [], by omega, by simp, h1, K1, Own.nil _ _, rfl, by omega⟩
 case round =>
  obtain ⟨q, f, L, hq, hlen, hr, hk, hown, htx, hf⟩ := hrel
  have HTX : Hid (txl s f q L = txl s (s.size + 1) (i + 1) []) := htx
  have HP : Hid (plc R wr = q) := hr.plc
  obtain ⟨f, rfl⟩ : ∃ f', f = f' + 1 := ⟨f - 1, by omega⟩
  have HS : Hid (txl s (f + 1) q L = if at' s q = 34 then .ok (L, q + 1) else txk s f L (chr s q)) := txl_step s f q L
  clear htx
  by_cases hend : ¬ q < s.size
  ·have c58 := next_end hr hend
   have hU2 : U = .error (600, q) := by
    rw [HU.out, ← HTX.out, HS.out, at_out s q hend, if_neg (by omega)]
    have : chr s q = .error (600, q) := by unfold chr; rw [at_out s q hend]; rfl
    rw [this]
    rfl
   subst hU2
   unfold ptr at c58
   clear hr hown
   go_wp2_with (go_at_call 37; refine c58.mono ?_; rintro e w' ⟨rfl, rfl⟩)
   exact ⟨rfl, hk.drew, rfl⟩
  have hlt : q < s.size := Decidable.of_not_not hend
  clear hend
  have c58 := next_c hr hlt
  have hb := at_lt s q
  unfold ptr at c58
  by_cases h34 : at' s q = 34
  ·have hne : (((at' s q : Nat) : Int) != 34) = false := by simp; omega
   have h2 := hr.drew.drew
   have c77 := take_c h2 h34 (by omega) (by omega)
   have hown2 : Own wr.drew.drew w.heap.size u4 L := own_keep hown fun _ _ _ _ => rfl
   unfold ptr at c77
   obtain ⟨a, cap, rfl, hc1, hc2⟩ := hown.len
   have hUe : U = if 4096 < L.length then .error (605, i) else .ok (⟨L.toArray⟩, q + 1) := by
    rw [HU.out, ← HTX.out, HS.out, if_pos h34]
    rfl
   have HOWN : Hid (Own wr.drew.drew w.heap.size (.slice a L.length cap) L) := hown2
   clear hr hown h2 hown2
   rw [h34] at c58
   by_cases hlong : 4096 < L.length
   ·have hU2 : U = .error (605, i) := by rw [hUe, if_pos hlong]
    subst hU2
    have dl : decide ((4096 : Int) < (L.length : Int)) = true := by simp; omega
    have e605 : pk (605, i) = [{ v := .iface 41 (.agg #[.int .i64 605, .int .i64 (i : Nat)]), recovered := false }] := rfl
    clear hUe
    go_wp2_with (first | (go_at_call 37; refine c58.mono ?_; rintro e w' ⟨rfl, rfl⟩) | (go_at_call 53; refine c77.mono ?_; rintro e w' ⟨rfl, h3, k3⟩))
    exact ⟨rfl, hk.drew.drew.trans k3, rfl⟩
   ·have hU2 : U = .ok (⟨L.toArray⟩, q + 1) := by rw [hUe, if_neg hlong]
    subst hU2
    have dl : decide ((4096 : Int) < (L.length : Int)) = false := by simp; omega
    clear hUe
    go_wp2_with (first | (go_at_call 37; refine c58.mono ?_; rintro e w' ⟨rfl, rfl⟩) | (go_at_call 53; refine c77.mono ?_; rintro e w3 ⟨rfl, h3, k3⟩; have hcv := own_conv (own_kr HOWN.out k3 hRlt)))
    go_ret
    exact ⟨hk.drew.drew.trans k3, rfl, h3⟩
  ·have hne : (((at' s q : Nat) : Int) != 34) = true := by simp; omega
   have h2 := hr.drew.drew
   have c79 := char_c h2 hlt
   have hs2 : Hid (wr.drew.drew.heap.size = wr.heap.size) := rfl
   have HOWN : Hid (Own wr.drew.drew w.heap.size u4 L) := own_keep hown fun _ _ _ _ => rfl
   unfold ptr at c79
   obtain ⟨X, hX⟩ : ∃ X, chr s q = X := ⟨_, rfl⟩
   rw [hX] at c79
   have HS2 : Hid (txl s (f + 1) q L = txk s f L X) := by
    show _ = _
    rw [HS.out, if_neg h34, hX]
   have HX : Hid (chr s q = X) := hX
   clear hr h2 hown hX h34 HS
   generalize at' s q = z at *
   cases X with
   | error x =>
    have hU2 : U = .error x := by rw [HU.out, ← HTX.out, HS2.out]; rfl
    subst hU2
    go_wp2_with (first | (go_at_call 37; refine c58.mono ?_; rintro e w' ⟨rfl, rfl⟩) | (go_at_call 55; refine c79.mono ?_; rintro e w' ⟨k3, rfl⟩))
    exact ⟨rfl, hk.drew.drew.trans k3, rfl⟩
   | ok y =>
    obtain ⟨x, j⟩ := y
    have hin := chr_in hlt HX.out
    have hel := enc_len (x : Int)
    have C78 : Hid (∀ w3, Own w3 w.heap.size u4 L → w.heap.size ≤ w3.heap.size → Calls Tryz.prog 54 #[u4, .int .i32 (x : Nat)] w3 fun e w' => ∃ v', e = .returned v' ∧ w'.ownsRow w.heap.size 5 1 v' (L.length + (Lib.runeCells (x : Int)).length) (Lib.byteCells L ++ Lib.runeCells (x : Int)) ∧ ∃ o, (w3.alloc o).grownBy w' u4.ownBlock) := fun w3 ho hs => Tryz.utf8_AppendRune_plain w.heap.size u4 L.length (Lib.byteCells L) (x : Int) (by omega) (by omega) w3 ho (by omega) hs
    go_wp2_with (first | (go_at_call 37; refine c58.mono ?_; rintro e w' ⟨rfl, rfl⟩) | (go_at_call 55; refine c79.mono ?_; rintro e w3 ⟨k3, rfl, h3⟩; have hs3 := k3.below.size; have hown3 := own_kr HOWN.out k3 hRlt; have c78 := C78.out w3 hown3 (by have := hk.below.size; have := hs2.out; omega)) | (go_at_call 54; refine c78.mono ?_; rintro e w4 ⟨v4, rfl, ho4, o4, hg4⟩))
    have hlt4 := World.ownsRow.lt hown3
    have k4 : Kr R w w4 := kr_grown ((hk.drew.drew.trans k3).alloc (by have := h3.lt; omega) o4) rfl hRlt hg4 (fun k hk' => (hlt4 k hk').1)
    have h4 : Rd w4 R v s j b := rd_grown (h3.below ((Below.refl _ w3).alloc (Nat.le_refl _) o4)) hRlt hg4 (fun k hk' => (hlt4 k hk').1)
    have HO4 : Hid (Own w4 w.heap.size v4 (L ++ Lib.encodeRune (x : Int))) := own_rune ho4
    clear ho4 hg4 hown3 c78 c79 c58
    go_wp2_with fail
    go_roundw
    case rel => exact ⟨j, f, L ++ Lib.encodeRune (x : Int), hin.2.1, by rw [List.length_append]; omega, h4, k4, HO4.out, HS2.out.symm.trans HTX.out, by omega⟩
    case measure =>
     have e1 := HP.out
     have e2 := h4.plc
     show s.size - plc R w4 < s.size - plc R wr
     rw [e1, e2]
     omega
end Go.Proofs.YthkpbhgbmagaeaaGreatDoor.Text
namespace Go.Proofs.YthkpbhgbmagaeaaGreatDoor.SpecIn
open Go.RowKit Go.Proofs.YthkpbhgbmagaeaaGreatDoor.Base Go.Proofs.YthkpbhgbmagaeaaGreatDoor.UBase Go.Proofs.YthkpbhgbmagaeaaGreatDoor.Spec Go.Proofs.YthkpbhgbmagaeaaGreatDoor.Text
set_option linter.unusedVariables false
theorem wd_in {s : ByteArray} : ∀ (cs : List Nat) {i j : Nat}, (∀ c ∈ cs, c ≠ 0) → i ≤ s.size → wd s cs i = .ok j → j = i + cs.length ∧ j ≤ s.size
 | [], i, j, _, hi, h => by rw [wd] at h; cases h; exact ⟨rfl, hi⟩
 | c :: cs, i, j, hc, hi, h => by
  rw [wd] at h
  split at h
  ·next e =>
   have h0 := hc c (by simp)
   have := at_in (s := s) (i := i) (by omega)
   have := wd_in cs (fun x hx => hc x (by simp [hx])) (by omega) h
   simp only [List.length_cons]
   omega
  ·cases h
theorem txl_in {s : ByteArray} : ∀ (f : Nat) {i j : Nat} {A L : List UInt8}, i ≤ s.size → txl s f i A = .ok (L, j) → i < j ∧ j ≤ s.size
 | 0, i, j, A, L, _, h => by rw [txl] at h; cases h
 | f + 1, i, j, A, L, hi, h => by
  rw [txl_step] at h
  split at h
  ·next e =>
   have h' := Prod.mk.inj (Except.ok.inj h)
   have := at_in (s := s) (i := i) (by omega)
   omega
  ·cases hc : chr s i with
   | error x => rw [hc, txk] at h; cases h
   | ok y =>
    obtain ⟨x, k⟩ := y
    rw [hc, txk] at h
    have hlt : i < s.size := Decidable.of_not_not fun hn => by
     have : chr s i = .error (600, i) := by unfold chr; rw [at_out s i hn]; rfl
     rw [this] at hc; cases hc
    have := chr_in hlt hc
    have := txl_in f this.2.1 h
    omega
theorem txt_in {s : ByteArray} {i j : Nat} {t : ByteArray} (h : txt s i = .ok (t, j)) : i < j ∧ j ≤ s.size ∧ t.size ≤ 4096 ∧ i < s.size := by
 by_cases hq : at' s i = 34
 ·have hi := at_in (s := s) (i := i) (by omega)
  rw [txt_is hq] at h
  cases hl : txl s (s.size + 1) (i + 1) [] with
  | error x => rw [hl, txd] at h; cases h
  | ok y =>
   obtain ⟨L, k⟩ := y
   rw [hl, txd] at h
   have := txl_in _ (by omega) hl
   split at h
   ·cases h
   ·have h' := Prod.mk.inj (Except.ok.inj h)
    obtain ⟨h1, h2⟩ := h'
    subst h1
    refine ⟨by omega, by omega, ?_, hi⟩
    show L.toArray.size ≤ 4096
    simp
    omega
 ·unfold txt at h; rw [if_neg hq] at h; cases h
theorem nm_in {s : ByteArray} {i j : Nat} {x : Int} (h : nm s i = .ok (x, j)) : i < j ∧ j ≤ s.size ∧ -9223372036854775808 ≤ x ∧ x ≤ 9223372036854775807 := by
 unfold nm at h
 split at h
 ·cases h
 next hd =>
 have hd : dig (at' s (sgn s i)) = true := by simpa using hd
 have hlt := at_in (s := s) (i := sgn s i) (fun e => by rw [e] at hd; exact absurd hd (by decide))
 have hge : i ≤ sgn s i := by unfold sgn; split <;> omega
 split at h
 ·split at h
  ·cases h
  ·split at h
   ·cases h
   ·have h' := Prod.mk.inj (Except.ok.inj h)
    have e : sgn s i = i := by omega
    rw [e] at hlt
    omega
 ·unfold rd at h
  split at h
  ·have h' := Prod.mk.inj (Except.ok.inj h)
   have h1 := dgs_ge s (sgn s i + 1)
   have h2 := dgs_in (s := s) (i := sgn s i) (by omega)
   have h3 := dgs_step hlt hd
   have h4 := Nums.pnum_range (Sums.bs (s.extract i (dgs s (sgn s i))))
   rw [h'.1] at h4
   exact ⟨by omega, by omega, h4.1, h4.2⟩
  ·cases h
def VIn (v : V) (s : ByteArray) : Prop := ∀ i b c j b', i ≤ s.size → v i b = .ok (c, j, b') → i < j ∧ j ≤ s.size ∧ b < b' ∧ b' ≤ 16384
theorem lst_in {v : V} {s : ByteArray} (hv : VIn v s) : ∀ (f : Nat) {i b j b' : Nat} {A l : List C}, i ≤ s.size → b ≤ 16384 → lst v s f i b A = .ok (l, j, b') → i < j ∧ j ≤ s.size ∧ b ≤ b' ∧ b' ≤ 16384
 | 0, i, b, j, b', A, l, _, _, h => by rw [lst] at h; cases h
 | f + 1, i, b, j, b', A, l, hi, hb, h => by
  rw [lst] at h
  cases hc : v i b with
  | error x => rw [hc] at h; cases h
  | ok y =>
   obtain ⟨c, k, b2⟩ := y
   rw [hc] at h
   have h1 := hv i b c k b2 hi hc
   have h2 := blk_ge s k
   have h3 := blk_in h1.2.1
   dsimp only at h
   split at h
   ·next e =>
    have h' := Prod.mk.inj (Except.ok.inj h)
    have h'' := Prod.mk.inj h'.2
    have := at_in (s := s) (i := blk s k) (by omega)
    omega
   ·split at h
    ·next e =>
     have := at_in (s := s) (i := blk s k) (by omega)
     have h4 := blk_ge s (blk s k + 1)
     have h5 := blk_in (s := s) (i := blk s k + 1) (by omega)
     have := lst_in hv f h5 (by omega) h
     omega
    ·cases h
theorem rcd_in {v : V} {s : ByteArray} (hv : VIn v s) : ∀ (f : Nat) {i b j b' : Nat} {N N' : List ByteArray} {A l : List C}, i ≤ s.size → b ≤ 16384 → rcd v s f i b N A = .ok (N', l, j, b') → i < j ∧ j ≤ s.size ∧ b ≤ b' ∧ b' ≤ 16384
 | 0, i, b, j, b', N, N', A, l, _, _, h => by rw [rcd] at h; cases h
 | f + 1, i, b, j, b', N, N', A, l, hi, hb, h => by
  rw [rcd] at h
  cases ht : txt s i with
  | error x => rw [ht] at h; cases h
  | ok y =>
   obtain ⟨t, p⟩ := y
   rw [ht] at h
   have g1 := txt_in ht
   have g2 := blk_ge s p
   have g3 := blk_in g1.2.1
   dsimp only at h
   split at h
   ·cases h
   ·split at h
    ·next e58 =>
     have g4 := at_in (s := s) (i := blk s p) (by omega)
     cases hc : v (blk s p + 1) b with
     | error x => rw [hc] at h; cases h
     | ok y =>
      obtain ⟨c, k, b2⟩ := y
      rw [hc] at h
      have h1 := hv _ b c k b2 (by omega) hc
      have h2 := blk_ge s k
      have h3 := blk_in h1.2.1
      dsimp only at h
      split at h
      ·next e =>
       have h' := Prod.mk.inj (Prod.mk.inj (Prod.mk.inj (Except.ok.inj h)).2).2
       have := at_in (s := s) (i := blk s k) (by omega)
       omega
      ·split at h
       ·next e =>
        have := at_in (s := s) (i := blk s k) (by omega)
        have h4 := blk_ge s (blk s k + 1)
        have h5 := blk_in (s := s) (i := blk s k + 1) (by omega)
        have := rcd_in hv f h5 (by omega) h
        omega
       ·cases h
    ·cases h
theorem vl_in (s : ByteArray) : ∀ n, VIn (vl s n) s
 | 0 => by
  intro i b c j b' hi h
  rw [vl] at h
  split at h <;> cases h
 | n + 1 => by
  intro i b c j b' hi h
  have hv := vl_in s n
  rw [vl] at h
  split at h
  ·next hbeg =>
   split at h
   ·cases h
   next hb =>
   have g1 := blk_ge s i
   have g2 := blk_in hi
   have g3 := at_in (s := s) (i := blk s i) (fun e => by rw [e] at hbeg; exact absurd hbeg (by decide))
   unfold one at h
   generalize blk s i = p at *
   split at h
   ·cases hw : wd s [110, 117, 108, 108] p with
    | error x => rw [hw] at h; cases h
    | ok k =>
     rw [hw] at h
     have := wd_in _ (by decide) (by omega) hw
     have h' := Prod.mk.inj (Prod.mk.inj (Except.ok.inj h)).2
     simp at this
     omega
   split at h
   ·cases hw : wd s [116, 114, 117, 101] p with
    | error x => rw [hw] at h; cases h
    | ok k =>
     rw [hw] at h
     have := wd_in _ (by decide) (by omega) hw
     have h' := Prod.mk.inj (Prod.mk.inj (Except.ok.inj h)).2
     simp at this
     omega
   split at h
   ·cases hw : wd s [102, 97, 108, 115, 101] p with
    | error x => rw [hw] at h; cases h
    | ok k =>
     rw [hw] at h
     have := wd_in _ (by decide) (by omega) hw
     have h' := Prod.mk.inj (Prod.mk.inj (Except.ok.inj h)).2
     simp at this
     omega
   split at h
   ·cases hw : txt s p with
    | error x => rw [hw] at h; cases h
    | ok y =>
     obtain ⟨t, k⟩ := y
     rw [hw] at h
     have := txt_in hw
     have h' := Prod.mk.inj (Prod.mk.inj (Except.ok.inj h)).2
     omega
   split at h
   ·unfold lis at h
    have e1 := blk_ge s (p + 1)
    have e2 := blk_in (s := s) (i := p + 1) (by omega)
    split at h
    ·next e =>
     have := at_in (s := s) (i := blk s (p + 1)) (by omega)
     have h' := Prod.mk.inj (Prod.mk.inj (Except.ok.inj h)).2
     omega
    ·cases hw : lst (vl s n) s (s.size + 1) (blk s (p + 1)) (b + 1) [] with
     | error x => rw [hw] at h; cases h
     | ok y =>
      obtain ⟨l, k, b2⟩ := y
      rw [hw] at h
      have := lst_in hv _ e2 (by omega) hw
      have h' := Prod.mk.inj (Prod.mk.inj (Except.ok.inj h)).2
      omega
   split at h
   ·unfold rec at h
    have e1 := blk_ge s (p + 1)
    have e2 := blk_in (s := s) (i := p + 1) (by omega)
    split at h
    ·next e =>
     have := at_in (s := s) (i := blk s (p + 1)) (by omega)
     have h' := Prod.mk.inj (Prod.mk.inj (Except.ok.inj h)).2
     omega
    ·cases hw : rcd (vl s n) s (s.size + 1) (blk s (p + 1)) (b + 1) [] [] with
     | error x => rw [hw] at h; cases h
     | ok y =>
      obtain ⟨N, l, k, b2⟩ := y
      rw [hw] at h
      have := rcd_in hv _ e2 (by omega) hw
      have h' := Prod.mk.inj (Prod.mk.inj (Except.ok.inj h)).2
      omega
   ·cases hw : nm s p with
    | error x => rw [hw] at h; cases h
    | ok y =>
     obtain ⟨x, k⟩ := y
     rw [hw] at h
     have := nm_in hw
     have h' := Prod.mk.inj (Prod.mk.inj (Except.ok.inj h)).2
     omega
  ·cases h
end Go.Proofs.YthkpbhgbmagaeaaGreatDoor.SpecIn
