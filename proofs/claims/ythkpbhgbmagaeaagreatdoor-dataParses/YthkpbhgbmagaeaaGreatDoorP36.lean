import Derived.Laws.Cover4
import Derived.Test.YthkpbhgbmagaeaaGreatDoorP05
namespace Go.Proofs.YthkpbhgbmagaeaaGreatDoor.RHex
open Go.RowKit Go.Proofs.YthkpbhgbmagaeaaGreatDoor.Base Go.Proofs.YthkpbhgbmagaeaaGreatDoor.UBase Go.Proofs.YthkpbhgbmagaeaaGreatDoor.Spec Go.Proofs.YthkpbhgbmagaeaaGreatDoor.Rdr Go.Proofs.YthkpbhgbmagaeaaGreatDoor.RRd
set_option linter.unusedVariables false
def hvp (s : ByteArray) (a : Nat) : Nat → Nat
 | 0 => 0
 | t + 1 => 16 * hvp s a t + hxv (at' s (a + t))
theorem hvp_four (s : ByteArray) (a : Nat) : hvp s a 4 = hvl s a := by
 simp only [hvp, hvl, Nat.add_zero]
 omega
theorem hcn_all (s : ByteArray) : ∀ (n i : Nat), (∀ t, t < n → hxd (at' s (i + t)) = true) → hcn s n i = n
 | 0, i, _ => rfl
 | n + 1, i, h => by
  rw [hcn, if_pos (by have := h 0 (by omega); rwa [Nat.add_zero] at this), hcn_all s n (i + 1) (fun t ht => by have := h (t + 1) (by omega); rwa [show i + 1 + t = i + (t + 1) by omega])]
theorem hcn_lt (s : ByteArray) : ∀ (n i t : Nat), t < n → hxd (at' s (i + t)) = false → hcn s n i ≤ t
 | 0, i, t, h, _ => by omega
 | n + 1, i, 0, _, h => by rw [hcn, if_neg (by rw [Nat.add_zero] at h; rw [h]; decide)]; exact Nat.le_refl _
 | n + 1, i, t + 1, hl, h => by
  rw [hcn]
  split
  ·have := hcn_lt s n (i + 1) t (by omega) (by rwa [show i + 1 + t = i + (t + 1) by omega])
   omega
  ·omega
/-- Four hex digits at a place; -1: they are none. -/
def hx (s : ByteArray) (a : Nat) : Int := if hcn s 4 a = 4 then (hvl s a : Int) else -1
theorem hxv_le {c : Nat} (h : hxd c = true) : hxv c ≤ 15 := by
 unfold hxd dig at h
 simp only [Bool.or_eq_true, Bool.and_eq_true, decide_eq_true_eq] at h
 unfold hxv
 split
 ·omega
 ·split <;> omega
theorem hvp_le {s : ByteArray} {a : Nat} : ∀ t, t ≤ 4 → (∀ k, k < t → hxd (at' s (a + k)) = true) → hvp s a t ≤ 65535
 | 0, _, _ => by simp [hvp]
 | 1, _, h => by have h0 := hxv_le (h 0 (by omega)); simp only [hvp] at *; omega
 | 2, _, h => by have h0 := hxv_le (h 0 (by omega)); have h1 := hxv_le (h 1 (by omega)); simp only [hvp] at *; omega
 | 3, _, h => by have h0 := hxv_le (h 0 (by omega)); have h1 := hxv_le (h 1 (by omega)); have h2 := hxv_le (h 2 (by omega)); simp only [hvp] at *; omega
 | 4, _, h => by have h0 := hxv_le (h 0 (by omega)); have h1 := hxv_le (h 1 (by omega)); have h2 := hxv_le (h 2 (by omega)); have h3 := hxv_le (h 3 (by omega)); simp only [hvp] at *; omega
 | t + 5, h, _ => by omega
set_option maxRecDepth 20000 in
set_option maxHeartbeats 1600000 in
theorem hex_c {w : World} {R : Nat} {s : ByteArray} {i f p b : Nat} (h : Rr w R s i f p b) (a : Nat) (ha : a ≤ 100000) :
  Calls Tryz.prog 61 #[ptr R, .int .i64 (a : Int)] w fun e w' => e = .returned (.int .i64 (hx s a)) ∧ w' = w := by
 obtain ⟨k0, -, -, -, -⟩ := h.cells
 have hsz := h.sz
 clear h
 unfold ptr
 have d0 : decide ((a : Int) < 0) = false := decide_eq_false (by omega)
 by_cases hl : a + 4 ≤ s.size
 ·have d1 : decide ((s.size : Int) < (a : Int) + 4) = false := decide_eq_false (by omega)
  go_enter Tryz.func61, Tryz.ntmps61
  go_wp2_with fail
  go_loopw [5, 6] (fun xv iv wr => ∃ t : Nat, t ≤ 4 ∧ xv = .int .i64 (hvp s a t : Nat) ∧ iv = .int .i64 ((a : Int) + (t : Int)) ∧ (∀ k, k < t → hxd (at' s (a + k)) = true) ∧ wr = w) (fun _ iv _ => a + 4 - (intOf iv).toNat)
  case atStart => exact ⟨0, by omega, rfl, by simp, fun k hk => by omega, rfl⟩
  case round =>
   obtain ⟨t, ht, rfl, rfl, hall, rfl⟩ := hrel
   by_cases hlt : t < 4
   ·have hin : a + t < s.size := by omega
    obtain ⟨c, hc⟩ : ∃ c, (s[a + t]'hin).toNat = c := ⟨_, rfl⟩
    have hca : at' s (a + t) = c := by rw [← hc]; exact at_get s (a + t) hin
    have hle := hvp_le t (by omega) hall
    have HS : Hid (hvp s a (t + 1) = 16 * hvp s a t + hxv c) := by
     show _ = _
     rw [hvp, hca]
    have HA : Hid (∀ k, k < t → hxd (at' s (a + k)) = true) := hall
    have HN : Hid (hxd c = true → ∀ k, k < t + 1 → hxd (at' s (a + k)) = true) := fun hh k hk => by
     by_cases e : k = t
     ·subst e; rw [hca]; exact hh
     ·exact HA.out k (by omega)
    have HF : Hid (hxd c = false → hx s a = -1) := fun hh => by
     unfold hx
     rw [if_neg]
     have := hcn_lt s 4 a t hlt (by rw [hca]; exact hh)
     omega
    have hc256 : c < 256 := by rw [← hca]; exact at_lt s (a + t)
    have dlt : decide ((a : Int) + (t : Int) < (a : Int) + 4) = true := decide_eq_true (by omega)
    have hnat : ((a : Int) + (t : Int)).toNat = a + t := by omega
    clear hall hca HA
    generalize hvp s a t = V at *
    by_cases h1 : 48 ≤ c ∧ c ≤ 57
    ·have e1 : decide ((48 : Int) ≤ (c : Int)) = true := decide_eq_true (by omega)
     have e2 : decide ((c : Int) ≤ 57) = true := decide_eq_true (by omega)
     have hd : hxd c = true := by unfold hxd dig; simp; omega
     have hv : hxv c = c - 48 := by unfold hxv; rw [if_pos (by omega)]
     have HR : Hid (hvp s a (t + 1) = 16 * V + (c - 48)) := by rw [← hv]; exact HS.out
     have HN2 : Hid (∀ k, k < t + 1 → hxd (at' s (a + k)) = true) := HN.out hd
     clear hv HS HN HF hd
     go_wp2_with fail
     go_roundw
     case rel => exact ⟨t + 1, by omega, by rw [HR.out]; exact congrArg (Value.int .i64) (by omega), congrArg (Value.int .i64) (by omega), HN2.out, trivial⟩
     case measure => simp only [intOf]; omega
    ·have n1 : ¬ (48 ≤ c ∧ c ≤ 57) := h1
     have t1 : (decide ((48 : Int) ≤ (c : Int)) = false) ∨ (decide ((48 : Int) ≤ (c : Int)) = true ∧ decide ((c : Int) ≤ 57) = false) := by
      by_cases hh : 48 ≤ c
      ·exact .inr ⟨decide_eq_true (by omega), decide_eq_false (by omega)⟩
      ·exact .inl (decide_eq_false (by omega))
     by_cases h2 : 97 ≤ c ∧ c ≤ 102
     ·have e1 : decide ((48 : Int) ≤ (c : Int)) = true := decide_eq_true (by omega)
      have e2 : decide ((c : Int) ≤ 57) = false := decide_eq_false (by omega)
      have e3 : decide ((97 : Int) ≤ (c : Int)) = true := decide_eq_true (by omega)
      have e4 : decide ((c : Int) ≤ 102) = true := decide_eq_true (by omega)
      have hd : hxd c = true := by unfold hxd dig; simp; omega
      have hv : hxv c = c - 87 := by unfold hxv; rw [if_neg (by omega), if_pos (by omega)]
      have HR : Hid (hvp s a (t + 1) = 16 * V + (c - 87)) := by rw [← hv]; exact HS.out
      have HN2 : Hid (∀ k, k < t + 1 → hxd (at' s (a + k)) = true) := HN.out hd
      clear hv HS HN HF hd t1 n1
      go_wp2_with fail
      go_roundw
      case rel => exact ⟨t + 1, by omega, by rw [HR.out]; exact congrArg (Value.int .i64) (by omega), congrArg (Value.int .i64) (by omega), HN2.out, trivial⟩
      case measure => simp only [intOf]; omega
     ·by_cases h3 : 65 ≤ c ∧ c ≤ 70
      ·have e1 : decide ((48 : Int) ≤ (c : Int)) = true := decide_eq_true (by omega)
       have e2 : decide ((c : Int) ≤ 57) = false := decide_eq_false (by omega)
       have e3 : decide ((97 : Int) ≤ (c : Int)) = false := decide_eq_false (by omega)
       have e5 : decide ((65 : Int) ≤ (c : Int)) = true := decide_eq_true (by omega)
       have e6 : decide ((c : Int) ≤ 70) = true := decide_eq_true (by omega)
       have hd : hxd c = true := by unfold hxd dig; simp; omega
       have hv : hxv c = c - 55 := by unfold hxv; rw [if_neg (by omega), if_neg (by omega)]
       have HR : Hid (hvp s a (t + 1) = 16 * V + (c - 55)) := by rw [← hv]; exact HS.out
       have HN2 : Hid (∀ k, k < t + 1 → hxd (at' s (a + k)) = true) := HN.out hd
       clear hv HS HN HF hd t1 n1
       go_wp2_with fail
       go_roundw
       case rel => exact ⟨t + 1, by omega, by rw [HR.out]; exact congrArg (Value.int .i64) (by omega), congrArg (Value.int .i64) (by omega), HN2.out, trivial⟩
       case measure => simp only [intOf]; omega
      ·have hd : hxd c = false := by
        cases hh : hxd c with
        | false => rfl
        | true =>
         unfold hxd dig at hh
         simp only [Bool.or_eq_true, Bool.and_eq_true, decide_eq_true_eq] at hh
         omega
       have HX : Hid (hx s a = -1) := HF.out hd
       have t2 : (decide ((97 : Int) ≤ (c : Int)) = false) ∨ (decide ((97 : Int) ≤ (c : Int)) = true ∧ decide ((c : Int) ≤ 102) = false) := by
        by_cases hh : 97 ≤ c
        ·exact .inr ⟨decide_eq_true (by omega), decide_eq_false (by omega)⟩
        ·exact .inl (decide_eq_false (by omega))
       have t3 : (decide ((65 : Int) ≤ (c : Int)) = false) ∨ (decide ((65 : Int) ≤ (c : Int)) = true ∧ decide ((c : Int) ≤ 70) = false) := by
        by_cases hh : 65 ≤ c
        ·exact .inr ⟨decide_eq_true (by omega), decide_eq_false (by omega)⟩
        ·exact .inl (decide_eq_false (by omega))
       clear HS HN HF hd h1 h2 h3 n1
       rcases t1 with e1 | ⟨e1, e2⟩ <;> rcases t2 with e3 | ⟨e3, e4⟩ <;> rcases t3 with e5 | ⟨e5, e6⟩
       all_goals go_wp2_with fail
       all_goals go_ret
       all_goals exact ⟨by rw [HX.out]; rfl, rfl⟩
   ·obtain rfl : t = 4 := by omega
    have dlt : decide ((a : Int) + ((4 : Nat) : Int) < (a : Int) + 4) = false := decide_eq_false (by omega)
    have HX : Hid (hx s a = (hvp s a 4 : Nat)) := by
     show _ = _
     unfold hx
     rw [if_pos (hcn_all s 4 a hall), hvp_four]
    clear hall
    generalize hvp s a 4 = V at *
    go_wp2_with fail
    go_ret
    exact ⟨by rw [HX.out]; rfl, rfl⟩
 ·have d1 : decide ((s.size : Int) < (a : Int) + 4) = true := decide_eq_true (by omega)
  have HX : Hid (hx s a = -1) := by
   show _ = _
   unfold hx
   rw [if_neg]
   have := hcn_lt s 4 a 3 (by omega) (by rw [at_out s (a + 3) (by omega)]; decide)
   omega
  go_enter Tryz.func61, Tryz.ntmps61
  go_wp2_with fail
  go_ret
  exact ⟨by rw [HX.out]; rfl, rfl⟩
end Go.Proofs.YthkpbhgbmagaeaaGreatDoor.RHex
namespace Go.Proofs.YthkpbhgbmagaeaaGreatDoor.REsc
open Go.RowKit Go.Proofs.YthkpbhgbmagaeaaGreatDoor.Base Go.Proofs.YthkpbhgbmagaeaaGreatDoor.UBase Go.Proofs.YthkpbhgbmagaeaaGreatDoor.Spec Go.Proofs.YthkpbhgbmagaeaaGreatDoor.Rdr Go.Proofs.YthkpbhgbmagaeaaGreatDoor.RRd Go.Proofs.YthkpbhgbmagaeaaGreatDoor.RWd Go.Proofs.YthkpbhgbmagaeaaGreatDoor.RHex
set_option linter.unusedVariables false
/-- The text of one rune. -/
def rt (x : Nat) : ByteArray := ⟨(Lib.encodeRune (x : Int)).toArray⟩
theorem rt_of {x : Nat} (h : x ≤ 1114111) (hs : x < 55296 ∨ 57343 < x) : Utf8.encode (x : Int) = rt x := by
 have hv : Utf8.valid (x : Int) = true := by
  unfold Utf8.valid
  simp
  omega
 unfold Utf8.encode rt Lib.encodeRune
 simp only [hv, if_true, Int.toNat_natCast]
 by_cases h1 : x < 128
 ·rw [if_pos h1, Lib.encodeRuneZ_one (by omega) (by omega)]
  simp
 ·rw [if_neg h1]
  by_cases h2 : x < 2048
  ·rw [if_pos h2, Lib.encodeRuneZ_two (by omega) (by omega)]
   simp only [List.map_cons, List.map_nil]
   have e2 : (192 + (x : Int) / 64).toNat = 192 + x / 64 := by omega
   have e3 : (128 + (x : Int) % 64).toNat = 128 + x % 64 := by omega
   rw [e2, e3]
  ·rw [if_neg h2]
   by_cases h3 : x < 65536
   ·rw [if_pos h3, Lib.encodeRuneZ_three (by omega)]
    simp only [List.map_cons, List.map_nil]
    have e1 : (224 + (x : Int) / 4096).toNat = 224 + x / 4096 := by omega
    have e2 : (128 + (x : Int) / 64 % 64).toNat = 128 + x / 64 % 64 := by omega
    have e3 : (128 + (x : Int) % 64).toNat = 128 + x % 64 := by omega
    rw [e1, e2, e3]
   ·rw [if_neg h3, Lib.encodeRuneZ_four (by omega) (by omega)]
    simp only [List.map_cons, List.map_nil]
    have e0 : (240 + (x : Int) / 262144).toNat = 240 + x / 262144 := by omega
    have e1 : (128 + (x : Int) / 4096 % 64).toNat = 128 + x / 4096 % 64 := by omega
    have e2 : (128 + (x : Int) / 64 % 64).toNat = 128 + x / 64 % 64 := by omega
    have e3 : (128 + (x : Int) % 64).toNat = 128 + x % 64 := by omega
    rw [e0, e1, e2, e3]
theorem empty_append (a : ByteArray) : ByteArray.empty ++ a = a := by
 apply ByteArray.ext
 simp
/-- A row of one rune, as a text. -/
theorem conv_rune {x : Nat} (h : x ≤ 1114111) (hs : x < 55296 ∨ 57343 < x) (w : World) : (convert 85 9 (.slice (some ⟨w.heap.size, 0, none⟩) 1 1)).run Tryz.prog (w.alloc (.cells #[.int .i32 (x : Int)] 21)) = .ok (.string (rt x)) (w.alloc (.cells #[.int .i32 (x : Int)] 21)) := by
 have := run_convert_runes (P := Tryz.prog) (w.alloc (.cells #[.int .i32 (x : Int)] 21)) 85 9 21 ⟨w.heap.size, 0, none⟩ 1 1 [(x : Int)] (by simp) Tryz.underlying85 Tryz.underlying21 Tryz.underlying9 (fun j hj => by
  simp at hj
  subst hj
  have hh : (w.alloc (.cells #[.int .i32 (x : Int)] 21)).heap[w.heap.size]? = some (.cells #[.int .i32 (x : Int)] 21) := heap_alloc_new w _
  unfold World.cell?
  rw [show ((⟨w.heap.size, 0, none⟩ : Addr).add 0).block = w.heap.size from rfl, hh]
  rfl)
 rw [this]
 simp only [List.take_succ_cons, List.take_zero, runesBytes, List.foldl_cons, List.foldl_nil]
 rw [empty_append, rt_of h hs]
def EsR (w : World) (R : Nat) (s : ByteArray) (b : Nat) (e : Ending) : Except F (Nat × Nat) → Prop
 | .ok (x, j) => e = .returned (.string (rt x)) ∧ Rr w R s j 0 0 b
 | .error x => e = .returned (.string ⟨#[]⟩) ∧ Flt w R s x
/-- The letters of short escapes, and what they stand for. -/
def l8 : ByteArray := ⟨#[34, 92, 47, 98, 102, 110, 114, 116]⟩
def m8 : ByteArray := ⟨#[34, 92, 47, 8, 12, 10, 13, 9]⟩
theorem l8_at : ∀ q, q < 8 → ltr (at' l8 q) = some (at' m8 q) ∧ m8.extract q (q + 1) = rt (at' m8 q) ∧ at' l8 q ≠ 117 ∧ at' l8 q ≠ 0 := by
 intro q hq
 match q, hq with
 | 0, _ | 1, _ | 2, _ | 3, _ | 4, _ | 5, _ | 6, _ | 7, _ => exact ⟨by decide, by decide, by decide, by decide⟩
theorem l8_no {c : Nat} (h : ∀ q, q < 8 → c ≠ at' l8 q) : ltr c = none := by
 have h0 : c ≠ 34 := h 0 (by omega)
 have h1 : c ≠ 92 := h 1 (by omega)
 have h2 : c ≠ 47 := h 2 (by omega)
 have h3 : c ≠ 98 := h 3 (by omega)
 have h4 : c ≠ 102 := h 4 (by omega)
 have h5 : c ≠ 110 := h 5 (by omega)
 have h6 : c ≠ 114 := h 6 (by omega)
 have h7 : c ≠ 116 := h 7 (by omega)
 unfold ltr
 rw [if_neg h0, if_neg h1, if_neg h2, if_neg h3, if_neg h4, if_neg h5, if_neg h6, if_neg h7]
end Go.Proofs.YthkpbhgbmagaeaaGreatDoor.REsc
namespace Go.Proofs.YthkpbhgbmagaeaaGreatDoor.REs2
open Go.RowKit Go.Proofs.YthkpbhgbmagaeaaGreatDoor.Base Go.Proofs.YthkpbhgbmagaeaaGreatDoor.UBase Go.Proofs.YthkpbhgbmagaeaaGreatDoor.Spec Go.Proofs.YthkpbhgbmagaeaaGreatDoor.Rdr Go.Proofs.YthkpbhgbmagaeaaGreatDoor.RRd Go.Proofs.YthkpbhgbmagaeaaGreatDoor.RWd Go.Proofs.YthkpbhgbmagaeaaGreatDoor.RHex Go.Proofs.YthkpbhgbmagaeaaGreatDoor.REsc
set_option linter.unusedVariables false
theorem hcn_ge (s : ByteArray) : ∀ (n i t : Nat), t ≤ n → (∀ k, k < t → hxd (at' s (i + k)) = true) → t ≤ hcn s n i
 | n, i, 0, _, _ => Nat.zero_le _
 | 0, i, t + 1, h, _ => by omega
 | n + 1, i, t + 1, h, hh => by
  rw [hcn, if_pos (by have := hh 0 (by omega); rwa [Nat.add_zero] at this)]
  have := hcn_ge s n (i + 1) t (by omega) (fun k hk => by have := hh (k + 1) (by omega); rwa [show i + 1 + k = i + (k + 1) by omega])
  omega
set_option maxRecDepth 40000 in
set_option maxHeartbeats 12800000 in
theorem escape_c {w : World} {R : Nat} {s : ByteArray} {i b : Nat} (hi : i < s.size) (h : Rr w R s i 0 0 b) :
  Calls Tryz.prog 44 #[ptr R] w fun e w' => EsR w' R s b e (esc s i) ∧ Kr R w w' := by
 obtain ⟨X, hX⟩ : ∃ X, esc s i = X := ⟨_, rfl⟩
 rw [hX]
 have hsz := h.sz
 obtain ⟨k0, k1, -, -, -⟩ := h.cells
 have f1 := h.free 1
 have h1 := h.go (i + 1) (by omega)
 rw [show ((i + 1 : Nat) : Int) = (i : Int) + 1 from by omega] at h1
 have hk1 := (Kr.refl R w).set 1 (.int .i64 ((i : Int) + 1))
 have HX : Hid (esc s i = X) := hX
 clear hX h
 unfold ptr
 go_enter Tryz.func44, Tryz.ntmps44
 go_wp2_with fail
 generalize w.setCell ⟨R, 1, none⟩ (.int .i64 ((i : Int) + 1)) = W0 at *
 have cP := peek_c h1
 unfold ptr at cP
 refine cP.mono ?_
 rintro e w1 ⟨rfl, n1, rfl⟩
 have h2 := h1.drewN n1
 have hk2 := hk1.drewN n1
 clear cP k0 k1 f1 h1 hk1
 generalize W0.drewN n1 = W1 at *
 go_wp2_with fail
 obtain ⟨A8, hA8⟩ : ∃ A, (⟨#[34, 92, 47, 98, 102, 110, 114, 116]⟩ : ByteArray) = A := ⟨_, rfl⟩
 obtain ⟨M8, hM8⟩ : ∃ A, (⟨#[34, 92, 47, 8, 12, 10, 13, 9]⟩ : ByteArray) = A := ⟨_, rfl⟩
 rw [hA8, hM8]
 have HA8 : Hid (A8 = l8) := hA8.symm
 have HM8 : Hid (M8 = m8) := hM8.symm
 have s8 : A8.size = 8 := by rw [← hA8]; rfl
 have sm8 : M8.size = 8 := by rw [← hM8]; rfl
 clear hA8 hM8
 obtain ⟨c, hc⟩ : ∃ c, at' s (i + 1) = c := ⟨_, rfl⟩
 rw [hc]
 have HC : Hid (at' s (i + 1) = c) := hc
 clear hc
 go_loopw [7] (fun ii wr => ∃ q : Nat, ii = .int .i64 (q : Nat) ∧ q ≤ 8 ∧ (∀ t, t < q → c ≠ at' A8 t) ∧ Rr wr R s (i + 1) 0 0 b ∧ Kr R w wr) (fun ii _ => 8 - (intOf ii).toNat)
 case atStart => exact ⟨0, rfl, by omega, fun t ht => by omega, h2, hk2⟩
 case round =>
  clear h2 hk2
  obtain ⟨q, rfl, hq, hall, h2, hk2⟩ := hrel
  have HL : Hid (∀ t, t < q → c ≠ at' A8 t) := hall
  clear hall
  obtain ⟨p0, p1, -, -, -⟩ := h2.cells
  have pf := h2.free 1
  rw [show ((i + 1 : Nat) : Int) = (i : Int) + 1 from by omega] at p1
  have HR2 : Hid (∀ m, Rr (wr.drewN m) R s (i + 1) 0 0 b) := fun m => h2.drewN m
  by_cases hlt : q < 8
  ·have hq8 : q < A8.size := by omega
   obtain ⟨y, hy⟩ : ∃ y, (A8[q]'hq8).toNat = y := ⟨_, rfl⟩
   have hya : at' A8 q = y := by rw [← hy]; exact at_get A8 q hq8
   have hl8 := l8_at q hlt
   rw [← HA8.out, ← HM8.out, hya] at hl8
   by_cases hcy : c = y
   ·have hin : i + 1 < s.size := by
     apply at_in
     rw [HC.out, hcy]
     exact hl8.2.2.2
    have d : decide ((i : Int) + 1 < (s.size : Int)) = true := decide_eq_true (by omega)
    have e1 : ((c : Int) == (y : Int)) = true := by simp [hcy]
    have HX2 : Hid (X = .ok (at' M8 q, i + 2)) := by
     show _ = _
     rw [← HX.out]
     unfold esc
     rw [HC.out, hcy, if_neg hl8.2.2.1, hl8.1]
    have HT : Hid (M8.extract q (q + 1) = rt (at' M8 q)) := hl8.2.1
    have HS : Hid (∀ m, Rr ((wr.drewN m).setCell ⟨R, 1, none⟩ (.int .i64 ((i : Int) + 1 + 1))) R s (i + 2) 0 0 b) := fun m => by
     have := (HR2.out m).go (i + 2) (by omega)
     rwa [show ((i + 2 : Nat) : Int) = (i : Int) + 1 + 1 from by omega] at this
    have hsl : ∀ wx, (Instr.slice 9 (.string M8) (some (.int .i64 (q : Int))) (some (.int .i64 ((q : Int) + 1))) none).run Tryz.prog wx = .ok (.string (M8.extract q (q + 1))) wx := fun wx => by
     have := run_slice_string (P := Tryz.prog) wx 9 M8 .i64 .i64 (q : Int) ((q : Int) + 1) Tryz.underlying9 (by omega) (by omega) (by omega)
     rw [this]
     congr 3
    rw [HT.out] at hsl
    clear hl8 hya hcy HX HL h2 sm8
    generalize at' M8 q = xx at *
    go_wp2_with fail
    go_quiet (fail)
    go_wp2_with fail
    go_ret
    rw [HX2.out]
    exact ⟨⟨rfl, HS.out nq⟩, (hk2.drewN nq).set 1 _⟩
   ·have HL2 : Hid (∀ t, t < q + 1 → c ≠ at' A8 t) := fun t ht => by
     by_cases e : t = q
     ·subst e; rw [hya]; exact hcy
     ·exact HL.out t (by omega)
    have e1 : ((c : Int) == (y : Int)) = false := by simp; omega
    clear hl8 hya hcy HX HL h2 sm8
    by_cases hin : i + 1 < s.size
    ·have d : decide ((i : Int) + 1 < (s.size : Int)) = true := decide_eq_true (by omega)
     go_wp2_with fail
     go_quiet (fail)
     go_wp2_with fail
     go_roundw
     case rel => exact ⟨q + 1, by go_num, by omega, HL2.out, HR2.out nq, hk2.drewN nq⟩
     case measure => simp only [intOf]; omega
    ·have d : decide ((i : Int) + 1 < (s.size : Int)) = false := decide_eq_false (by omega)
     go_wp2_with fail
     go_quiet (fail)
     go_wp2_with fail
     go_roundw
     case rel => exact ⟨q + 1, by go_num, by omega, HL2.out, HR2.out nq, hk2.drewN nq⟩
     case measure => simp only [intOf]; omega
  ·have hno : ltr c = none := l8_no fun t ht => by rw [← HA8.out]; exact HL.out t (by omega)
   have d8 : decide ((q : Int) < 8) = false := decide_eq_false (by omega)
   clear hq
   have hX := HX.out
   unfold esc at hX
   rw [HC.out] at hX
   by_cases hu : c = 117
   ·rw [if_pos hu] at hX
    have HX2 : Hid (unt s i = X) := hX
    have hin : i + 1 < s.size := by
     apply at_in
     rw [HC.out, hu]
     decide
    have eu : ((c : Int) != 117) = false := by simp; omega
    have dl : decide ((s.size : Int) ≤ (i : Int) + 1) = false := decide_eq_false (by omega)
    clear hX HX HL hno HA8 HM8 hu h2 sm8
    go_wp2_with fail
    go_quiet (fail)
    go_wp2_with fail
    go_loopw [4, 8] (fun cv iv wr => ∃ t c2 : Nat, t ≤ 4 ∧ cv = .int .u8 (c2 : Nat) ∧ iv = .int .i64 ((t : Int) + 1) ∧ (∀ k, k < t → hxd (at' s (i + 2 + k)) = true) ∧ Rr wr R s (i + 1 + t) 0 0 b ∧ Kr R w wr) (fun _ iv _ => 5 - (intOf iv).toNat)
    case atStart => exact ⟨0, c, by omega, rfl, rfl, fun k hk => by omega, HR2.out nq, hk2.drewN nq⟩
    case round =>
     clear HR2 hk2 p0 p1 pf
     obtain ⟨t, c2, ht, rfl, rfl, hall, h3, hk3⟩ := hrel
     obtain ⟨p0, p1, -, -, -⟩ := h3.cells
     have pf := h3.free 1
     rw [show ((i + 1 + t : Nat) : Int) = (i : Int) + 1 + (t : Int) from by omega] at p1
     have HA : Hid (∀ k, k < t → hxd (at' s (i + 2 + k)) = true) := hall
     clear hall
     by_cases hlt : t < 4
     ·obtain ⟨A, hA⟩ : ∃ A, i + 2 + t = A := ⟨_, rfl⟩
      have h4' := h3.go A (by omega)
      rw [show ((A : Nat) : Int) = (i : Int) + 1 + (t : Int) + 1 from by omega] at h4'
      have hk4' := hk3.set 1 (.int .i64 ((i : Int) + 1 + (t : Int) + 1))
      have dt : decide ((t : Int) + 1 ≤ 4) = true := decide_eq_true (by omega)
      clear h3 hk3
      go_wp2_with fail
      generalize wr.setCell ⟨R, 1, none⟩ (.int .i64 ((i : Int) + 1 + (t : Int) + 1)) = W3 at *
      have cP := peek_c h4'
      unfold ptr at cP
      refine cP.mono ?_
      rintro e w4 ⟨rfl, n4, rfl⟩
      have h4 := h4'.drewN n4
      have hk4 := hk4'.drewN n4
      clear cP h4' hk4' p0 p1 pf
      generalize W3.drewN n4 = W4 at *
      obtain ⟨p0, p1, -, -, -⟩ := h4.cells
      have HR4 : Hid (∀ m, Rr (W4.drewN m) R s A 0 0 b) := fun m => h4.drewN m
      have cF := fun m => fail_first (HR4.out m) 600 A (by omega) (by omega)
      unfold ptr at cF
      have cD := digit_c (at' s A) (at_lt s A)
      obtain ⟨d, hd⟩ : ∃ d, at' s A = d := ⟨_, rfl⟩
      have hd256 : d < 256 := by rw [← hd]; exact at_lt s A
      have HE : Hid (hxd d = false → X = .error (600, A)) := fun hh => by
       have h5 := hcn_lt s 4 (i + 2) t hlt (by rw [hA, hd]; exact hh)
       have h6 := hcn_ge s 4 (i + 2) t (by omega) HA.out
       rw [← HX2.out]
       unfold unt
       rw [if_pos (by omega), show i + 2 + hcn s 4 (i + 2) = A by omega]
      have HNX0 : Hid (hxd d = true → ∀ k, k < t + 1 → hxd (at' s (i + 2 + k)) = true) := fun hh k hk => by
       by_cases e : k = t
       ·subst e; rw [hA, hd]; exact hh
       ·exact HA.out k (by omega)
      have HIN : Hid (d ≠ 0 → A < s.size) := fun hh => by
       apply at_in
       rw [hd]
       exact hh
      rw [hd] at cD ⊢
      have HZ : Hid (¬ A < s.size → d = 0) := fun hh => by rw [← hd]; exact at_out s A hh
      clear h4 hd HA
      by_cases hz : A < s.size
      ·have dA : decide (s.size ≤ A) = false := decide_eq_false (by omega)
       by_cases h48 : 48 ≤ d ∧ d ≤ 57
       ·have hdig : dig d = true := by unfold dig; simp; omega
        have hh : hxd d = true := by unfold hxd; rw [hdig]; rfl
        have HNX : Hid (∀ k, k < t + 1 → hxd (at' s (i + 2 + k)) = true) := HNX0.out hh
        rw [hdig] at cD
        clear hh hdig HNX0 HIN HZ HE
        go_wp2_with fail
        go_quiet (first | (go_at_call 28; exact Calls.quiet_of_same (cD _)))
        go_wp2_with fail
        go_roundw
        case rel => exact ⟨t + 1, d, by omega, rfl, congrArg (Value.int .i64) (by omega), HNX.out, by rw [show i + 1 + (t + 1) = A by omega]; exact HR4.out nq, hk4.drewN nq⟩
        case measure => simp only [intOf]; omega
       ·have hdig : dig d = false := by
         cases hh : dig d with
         | false => rfl
         | true =>
          unfold dig at hh
          simp only [Bool.and_eq_true, decide_eq_true_eq] at hh
          omega
        rw [hdig] at cD
        by_cases h97 : 97 ≤ d ∧ d ≤ 102
        ·have hh : hxd d = true := by unfold hxd; simp; omega
         have HNX : Hid (∀ k, k < t + 1 → hxd (at' s (i + 2 + k)) = true) := HNX0.out hh
         have e1 : decide ((d : Int) < 97) = false := decide_eq_false (by omega)
         have e2 : decide ((102 : Int) < (d : Int)) = false := decide_eq_false (by omega)
         clear hh hdig
         clear HNX0 HIN HZ HE cF
         go_wp2_with fail
         go_quiet (first | (go_at_call 28; exact Calls.quiet_of_same (cD _)))
         go_wp2_with fail
         go_roundw
         case rel => exact ⟨t + 1, d, by omega, rfl, congrArg (Value.int .i64) (by omega), HNX.out, by rw [show i + 1 + (t + 1) = A by omega]; exact HR4.out nq, hk4.drewN nq⟩
         case measure => simp only [intOf]; omega
        ·by_cases h65 : 65 ≤ d ∧ d ≤ 70
         ·have hh : hxd d = true := by unfold hxd; simp; omega
          have HNX : Hid (∀ k, k < t + 1 → hxd (at' s (i + 2 + k)) = true) := HNX0.out hh
          have e1 : decide ((d : Int) < 97) = true := decide_eq_true (by omega)
          have e3 : decide ((d : Int) < 65) = false := decide_eq_false (by omega)
          have e4 : decide ((70 : Int) < (d : Int)) = false := decide_eq_false (by omega)
          clear hh hdig
          clear HNX0 HIN HZ HE cF
          go_wp2_with fail
          go_quiet (first | (go_at_call 28; exact Calls.quiet_of_same (cD _)))
          go_wp2_with fail
          go_roundw
          case rel => exact ⟨t + 1, d, by omega, rfl, congrArg (Value.int .i64) (by omega), HNX.out, by rw [show i + 1 + (t + 1) = A by omega]; exact HR4.out nq, hk4.drewN nq⟩
          case measure => simp only [intOf]; omega
         ·have hh : hxd d = false := by
           cases hh : hxd d with
           | false => rfl
           | true =>
            unfold hxd at hh
            rw [hdig] at hh
            simp only [Bool.or_eq_true, Bool.and_eq_true, decide_eq_true_eq, Bool.false_eq_true, false_or] at hh
            omega
          have HE2 : Hid (X = .error (600, A)) := HE.out hh
          clear hh hdig
          by_cases g1 : d < 65
          ·have e1 : decide ((d : Int) < 97) = true := decide_eq_true (by omega)
           have e3 : decide ((d : Int) < 65) = true := decide_eq_true (by omega)
           clear HNX0 HIN HZ HE
           go_wp2_with fail
           go_quiet (first | (go_at_call 28; exact Calls.quiet_of_same (cD _)))
           go_wp2_with (first | (go_at_call 16; refine (cF nq).mono ?_; rintro e w' ⟨rfl, hF, hkF⟩))
           go_ret
           rw [HE2.out]
           exact ⟨⟨rfl, by simp, _, _, hF⟩, (hk4.drewN nq).trans hkF⟩
          ·by_cases g2 : d < 97
           ·have e1 : decide ((d : Int) < 97) = true := decide_eq_true (by omega)
            have e3 : decide ((d : Int) < 65) = false := decide_eq_false (by omega)
            have e4 : decide ((70 : Int) < (d : Int)) = true := decide_eq_true (by omega)
            clear HNX0 HIN HZ HE
            go_wp2_with fail
            go_quiet (first | (go_at_call 28; exact Calls.quiet_of_same (cD _)))
            go_wp2_with (first | (go_at_call 16; refine (cF nq).mono ?_; rintro e w' ⟨rfl, hF, hkF⟩))
            go_ret
            rw [HE2.out]
            exact ⟨⟨rfl, by simp, _, _, hF⟩, (hk4.drewN nq).trans hkF⟩
           ·have e1 : decide ((d : Int) < 97) = false := decide_eq_false (by omega)
            have e2 : decide ((102 : Int) < (d : Int)) = true := decide_eq_true (by omega)
            have e3 : decide ((d : Int) < 65) = false := decide_eq_false (by omega)
            have e4 : decide ((70 : Int) < (d : Int)) = true := decide_eq_true (by omega)
            clear HNX0 HIN HZ HE
            go_wp2_with fail
            go_quiet (first | (go_at_call 28; exact Calls.quiet_of_same (cD _)))
            go_wp2_with (first | (go_at_call 16; refine (cF nq).mono ?_; rintro e w' ⟨rfl, hF, hkF⟩))
            go_ret
            rw [HE2.out]
            exact ⟨⟨rfl, by simp, _, _, hF⟩, (hk4.drewN nq).trans hkF⟩
      ·have dA : decide (s.size ≤ A) = true := decide_eq_true (by omega)
       have hd0 := HZ.out hz
       have HE2 : Hid (X = .error (600, A)) := HE.out (by rw [hd0]; decide)
       clear hd0 cD
       clear HNX0 HIN HZ HE
       go_wp2_with fail
       go_quiet (fail)
       go_wp2_with (first | (go_at_call 16; refine (cF nq).mono ?_; rintro e w' ⟨rfl, hF, hkF⟩))
       go_ret
       rw [HE2.out]
       exact ⟨⟨rfl, by simp, _, _, hF⟩, (hk4.drewN nq).trans hkF⟩
     ·have ht4 : Hid (t = 4) := by
       show _ = _
       omega
      have dt : decide ((t : Int) + 1 ≤ 4) = false := decide_eq_false (by omega)
      have h4' := h3.go (i + 6) (by omega)
      rw [show ((i + 6 : Nat) : Int) = (i : Int) + 1 + (t : Int) + 1 from by omega] at h4'
      have hk4' := hk3.set 1 (.int .i64 ((i : Int) + 1 + (t : Int) + 1))
      have hc4 : hcn s 4 (i + 2) = 4 := hcn_all s 4 (i + 2) fun k hk => HA.out k (by omega)
      have hX := HX2.out
      unfold unt at hX
      rw [if_neg (by omega)] at hX
      have hvle : hvl s (i + 2) ≤ 65535 := by
       rw [← hvp_four]
       exact hvp_le 4 (by omega) fun k hk => HA.out k (by omega)
      have hin6 : i + 6 ≤ s.size := by
       have hh := HA.out 3 (by omega)
       have : i + 2 + 3 < s.size := by
        apply at_in
        intro h0
        rw [h0] at hh
        exact absurd hh (by decide)
       omega
      have hhx : hx s (i + 2) = (hvl s (i + 2) : Int) := by unfold hx; rw [if_pos hc4]
      obtain ⟨x, hx0⟩ : ∃ x, hvl s (i + 2) = x := ⟨_, rfl⟩
      rw [hx0] at hX hvle hhx
      have HX3 : Hid (_ = X) := hX
      clear h3 hk3 hX HX2 hc4 HA
      go_wp2_with fail
      generalize wr.setCell ⟨R, 1, none⟩ (.int .i64 ((i : Int) + 1 + (t : Int) + 1)) = W3 at *
      clear p0 p1 pf
      obtain ⟨J, hJ⟩ : ∃ J, i + 6 = J := ⟨_, rfl⟩
      have h5 : Rr W3 R s J 0 0 b := by rw [← hJ]; exact h4'
      have cH := hex_c h5 (i + 2) (by omega)
      rw [hhx, show ((i + 2 : Nat) : Int) = (i : Int) + 1 + (t : Int) + 1 - 4 from by have := ht4.out; omega] at cH
      obtain ⟨p0, p1, -, -, -⟩ := h5.cells
      have pf := h5.free 1
      unfold ptr at cH
      rw [show i + 8 = J + 2 by omega, show i + 12 = J + 6 by omega, hJ] at HX3
      clear hhx hx0 h4'
      go_wp2_with fail
      refine cH.mono ?_
      rintro e w5 ⟨rfl, hw5⟩
      subst hw5
      clear cH
      by_cases hg1 : x < 55296 ∨ 57343 < x
      ·rw [if_pos hg1] at HX3
       have hcv := fun w => conv_rune (x := x) (by omega) hg1 w
       have HR5 : Hid (Rr (w5.alloc (.cells #[.int .i32 (x : Int)] 21)) R s J 0 0 b) := h5.below ((Below.refl _ w5).alloc (Nat.le_refl _) _)
       have HK5 : Hid (Kr R w (w5.alloc (.cells #[.int .i32 (x : Int)] 21))) := hk4'.alloc (Nat.le_of_lt h5.lt) _
       rcases Nat.lt_or_ge x 55296 with g | g
       ·have e1 : decide ((x : Int) < 55296) = true := decide_eq_true (by omega)
        clear hg1
        go_wp2_with fail
        go_ret
        rw [← HX3.out]
        exact ⟨⟨rfl, HR5.out⟩, HK5.out⟩
       ·have e1 : decide ((x : Int) < 55296) = false := decide_eq_false (by omega)
        have e2 : decide ((57343 : Int) < (x : Int)) = true := decide_eq_true (by omega)
        clear hg1
        go_wp2_with fail
        go_ret
        rw [← HX3.out]
        exact ⟨⟨rfl, HR5.out⟩, HK5.out⟩
      ·rw [if_neg hg1] at HX3
       have e1 : decide ((x : Int) < 55296) = false := decide_eq_false (by omega)
       have e2 : decide ((57343 : Int) < (x : Int)) = false := decide_eq_false (by omega)
       have HRd : Hid (∀ m, Rr (w5.drewN m) R s J 0 0 b) := fun m => h5.drewN m
       have cF := fun m => fail_first (HRd.out m) 600 i (by omega) (by omega)
       unfold ptr at cF
       by_cases hlo : x < 56320
       ·have e3 : decide ((x : Int) < 56320) = true := decide_eq_true (by omega)
        by_cases h12 : J + 6 ≤ s.size
        ·have e4 : decide ((J : Int) + 6 ≤ (s.size : Int)) = true := decide_eq_true (by omega)
         have hJ0 : J < s.size := by omega
         obtain ⟨y, hy⟩ : ∃ y, (s[J]'hJ0).toNat = y := ⟨_, rfl⟩
         have hya : at' s J = y := by rw [← hy]; exact at_get s J hJ0
         by_cases hy92 : y = 92
         ·have e5 : ((y : Int) == 92) = true := by simp [hy92]
          have hJ1 : J + 1 < s.size := by omega
          obtain ⟨z, hz⟩ : ∃ z, (s[J + 1]'hJ1).toNat = z := ⟨_, rfl⟩
          have hza : at' s (J + 1) = z := by rw [← hz]; exact at_get s (J + 1) hJ1
          have hnat : ((J : Int) + 1).toNat = J + 1 := by omega
          by_cases hz117 : z = 117
          ·have e6 : ((z : Int) == 117) = true := by simp [hz117]
           have cL := fun m => hex_c (HRd.out m) (J + 2) (by omega)
           rw [show ((J + 2 : Nat) : Int) = (J : Int) + 2 from by omega] at cL
           unfold ptr at cL
           obtain ⟨l, hl⟩ : ∃ l, hx s (J + 2) = l := ⟨_, rfl⟩
           rw [hl] at cL
           by_cases hin : 56320 ≤ l ∧ l ≤ 57343
           ·have e7 : decide (l < 56320) = false := decide_eq_false (by omega)
            have e8 : decide ((57343 : Int) < l) = false := decide_eq_false (by omega)
            have hc4 : hcn s 4 (J + 2) = 4 := by
             by_cases hh : hcn s 4 (J + 2) = 4
             ·exact hh
             ·unfold hx at hl
              rw [if_neg hh] at hl
              omega
            have hl2 : (hvl s (J + 2) : Int) = l := by rw [← hl]; unfold hx; rw [if_pos hc4]
            obtain ⟨v, hv⟩ : ∃ v, hvl s (J + 2) = v := ⟨_, rfl⟩
            rw [hv] at hl2
            subst hl2
            have hlow : low s J = true := by
             unfold low
             rw [hya, hza, hc4, hv, hy92, hz117]
             simp
             omega
            rw [if_pos ⟨hlo, hlow⟩, hv] at HX3
            have HX4 : Hid (X = .ok (65536 + (x - 55296) * 1024 + (v - 56320), J + 6)) := HX3.out.symm
            obtain ⟨xx, hxx⟩ : ∃ xx, 65536 + (x - 55296) * 1024 + (v - 56320) = xx := ⟨_, rfl⟩
            rw [hxx] at HX4
            have hxi : (xx : Int) = 65536 + ((x : Int) - 55296) * 1024 + (v : Int) - 56320 := by omega
            have hcv : ∀ m, (convert 85 9 (.slice (some ⟨w5.heap.size, 0, none⟩) 1 1)).run Tryz.prog (((w5.drewN m).setCell ⟨R, 1, none⟩ (.int .i64 ((J : Int) + 6))).alloc (.cells #[.int .i32 (65536 + ((x : Int) - 55296) * 1024 + (v : Int) - 56320)] 21)) = .ok (.string (rt xx)) (((w5.drewN m).setCell ⟨R, 1, none⟩ (.int .i64 ((J : Int) + 6))).alloc (.cells #[.int .i32 (65536 + ((x : Int) - 55296) * 1024 + (v : Int) - 56320)] 21)) := fun m => by
             have hh := conv_rune (x := xx) (by omega) (by omega) ((w5.drewN m).setCell ⟨R, 1, none⟩ (.int .i64 ((J : Int) + 6)))
             rw [hxi] at hh
             have hs : ((w5.drewN m).setCell ⟨R, 1, none⟩ (.int .i64 ((J : Int) + 6))).heap.size = w5.heap.size := by simp
             rw [hs] at hh
             exact hh
            have HRs : Hid (∀ m, Rr ((w5.drewN m).setCell ⟨R, 1, none⟩ (.int .i64 ((J : Int) + 6))) R s (J + 6) 0 0 b) := fun m => by
             have := (HRd.out m).go (J + 6) (by omega)
             rwa [show ((J + 6 : Nat) : Int) = (J : Int) + 6 from by omega] at this
            have HKs : Hid (∀ m, Kr R w ((w5.drewN m).setCell ⟨R, 1, none⟩ (.int .i64 ((J : Int) + 6)))) := fun m => (hk4'.drewN m).set 1 _
            clear hya hza hlow HX3 hv hc4 hxx hxi cF
            go_wp2_with fail
            go_quiet (fail)
            go_wp2_with (first | (go_at_call 61; refine (cL nq).mono ?_; rintro e w' ⟨rfl, hw6⟩; subst hw6))
            go_ret
            rw [HX4.out]
            exact ⟨⟨rfl, (HRs.out nq).below ((Below.refl _ _).alloc (Nat.le_refl _) _)⟩, (HKs.out nq).alloc (Nat.le_of_lt (HRs.out nq).lt) _⟩
           ·rw [if_neg (by
             rintro ⟨_, hh⟩
             unfold low at hh
             simp only [Bool.and_eq_true, decide_eq_true_eq] at hh
             obtain ⟨_, _, hc, h1, h2⟩ := hh
             unfold hx at hl
             rw [if_pos hc] at hl
             omega)] at HX3
            clear hya hza hl
            by_cases g1 : l < 56320
            ·have e7 : decide (l < 56320) = true := decide_eq_true g1
             clear hin hlo
             go_wp2_with fail
             go_quiet (fail)
             go_wp2_with (first | (go_at_call 61; refine (cL nq).mono ?_; rintro e w' ⟨rfl, hw6⟩; subst hw6) | (go_at_call 16; refine (cF nq).mono ?_; rintro e w' ⟨rfl, hF, hkF⟩))
             go_ret
             rw [← HX3.out]
             exact ⟨⟨rfl, by simp, _, _, hF⟩, (hk4'.drewN nq).trans hkF⟩
            ·have e7 : decide (l < 56320) = false := decide_eq_false g1
             have e8 : decide ((57343 : Int) < l) = true := decide_eq_true (by omega)
             clear hin hlo
             go_wp2_with fail
             go_quiet (fail)
             go_wp2_with (first | (go_at_call 61; refine (cL nq).mono ?_; rintro e w' ⟨rfl, hw6⟩; subst hw6) | (go_at_call 16; refine (cF nq).mono ?_; rintro e w' ⟨rfl, hF, hkF⟩))
             go_ret
             rw [← HX3.out]
             exact ⟨⟨rfl, by simp, _, _, hF⟩, (hk4'.drewN nq).trans hkF⟩
          ·have e6 : ((z : Int) == 117) = false := by simp; omega
           rw [if_neg (by
            rintro ⟨_, hh⟩
            unfold low at hh
            rw [hza] at hh
            simp [hz117] at hh)] at HX3
           clear hya hza hlo
           go_wp2_with fail
           go_quiet (fail)
           go_wp2_with (first | (go_at_call 16; refine (cF nq).mono ?_; rintro e w' ⟨rfl, hF, hkF⟩))
           go_ret
           rw [← HX3.out]
           exact ⟨⟨rfl, by simp, _, _, hF⟩, (hk4'.drewN nq).trans hkF⟩
         ·have e5 : ((y : Int) == 92) = false := by simp; omega
          rw [if_neg (by
           rintro ⟨_, hh⟩
           unfold low at hh
           rw [hya] at hh
           simp [hy92] at hh)] at HX3
          clear hya hlo
          go_wp2_with fail
          go_quiet (fail)
          go_wp2_with (first | (go_at_call 16; refine (cF nq).mono ?_; rintro e w' ⟨rfl, hF, hkF⟩))
          go_ret
          rw [← HX3.out]
          exact ⟨⟨rfl, by simp, _, _, hF⟩, (hk4'.drewN nq).trans hkF⟩
        ·have e4 : decide ((J : Int) + 6 ≤ (s.size : Int)) = false := decide_eq_false (by omega)
         rw [if_neg (by
          rintro ⟨_, hh⟩
          have := hcn_lt s 4 (J + 2) 3 (by omega) (by rw [at_out s (J + 2 + 3) (by omega)]; decide)
          unfold low at hh
          simp only [Bool.and_eq_true, decide_eq_true_eq] at hh
          omega)] at HX3
         clear hlo
         go_wp2_with fail
         go_quiet (fail)
         go_wp2_with (first | (go_at_call 16; refine (cF nq).mono ?_; rintro e w' ⟨rfl, hF, hkF⟩))
         go_ret
         rw [← HX3.out]
         exact ⟨⟨rfl, by simp, _, _, hF⟩, (hk4'.drewN nq).trans hkF⟩
       ·have e3 : decide ((x : Int) < 56320) = false := decide_eq_false (by omega)
        rw [if_neg (by rintro ⟨hh, _⟩; exact hlo hh)] at HX3
        clear hlo
        go_wp2_with fail
        go_quiet (fail)
        go_wp2_with (first | (go_at_call 16; refine (cF nq).mono ?_; rintro e w' ⟨rfl, hF, hkF⟩))
        go_ret
        rw [← HX3.out]
        exact ⟨⟨rfl, by simp, _, _, hF⟩, (hk4'.drewN nq).trans hkF⟩
   ·rw [if_neg hu, hno] at hX
    have HX2 : Hid (X = .error (600, i + 1)) := hX.symm
    have eu : ((c : Int) != 117) = true := by simp; omega
    have cF := fun m => fail_first (HR2.out m) 600 (i + 1) (by omega) (by omega)
    unfold ptr at cF
    rw [show ((i + 1 : Nat) : Int) = (i : Int) + 1 from by omega] at cF
    clear hX HX HL hno hu h2 sm8
    go_wp2_with fail
    go_quiet (fail)
    go_wp2_with (first | (go_at_call 16; refine (cF nq).mono ?_; rintro e w' ⟨rfl, hF, hkF⟩))
    go_ret
    rw [HX2.out]
    exact ⟨⟨rfl, by simp, _, _, hF⟩, (hk2.drewN nq).trans hkF⟩
end Go.Proofs.YthkpbhgbmagaeaaGreatDoor.REs2
