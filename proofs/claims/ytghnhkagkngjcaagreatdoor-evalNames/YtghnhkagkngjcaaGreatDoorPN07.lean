import Derived.BigQuiet
import Derived.Test.YtghnhkagkngjcaaGreatDoorPN06
set_option linter.unusedVariables false
set_option maxRecDepth 20000
set_option maxHeartbeats 3200000
namespace Go.Proofs.YtghnhkagkngjcaaGreatDoor.ESk
open Go.RowKit Base UBase EPure ERd
theorem skp_step {p : Nat → Bool} {s : ByteArray} {i : Nat} (h : i < s.size) (hp : p (at' s i) = true) : skp p s i = skp p s (i + 1) := by
 unfold skp
 obtain ⟨f, hf⟩ : ∃ f, s.size - i = f + 1 := ⟨s.size - i - 1, by omega⟩
 rw [hf, sk, if_pos ⟨h, hp⟩, show s.size - (i + 1) = f by omega]
theorem skp_stop {p : Nat → Bool} {s : ByteArray} {i : Nat} (h : ¬ (i < s.size ∧ p (at' s i) = true)) : skp p s i = i := by
 unfold skp
 cases s.size - i with
 | zero => rfl
 | succ f => rw [sk, if_neg h]
theorem sk_le (p : Nat → Bool) (s : ByteArray) : ∀ f i, i ≤ sk p s f i ∧ (i ≤ s.size → sk p s f i ≤ s.size)
 | 0, i => ⟨Nat.le_refl _, id⟩
 | f + 1, i => by
  rw [sk]
  by_cases h : i < s.size ∧ p (at' s i) = true
  ·rw [if_pos h]
   have := sk_le p s f (i + 1)
   exact ⟨by omega, fun _ => this.2 (by omega)⟩
  ·rw [if_neg h]
   exact ⟨Nat.le_refl _, id⟩
theorem skp_ge (p : Nat → Bool) (s : ByteArray) (i : Nat) : i ≤ skp p s i := (sk_le p s _ i).1
theorem skp_in {p : Nat → Bool} {s : ByteArray} {i : Nat} (h : i ≤ s.size) : skp p s i ≤ s.size := (sk_le p s _ i).2 h
def SetIs (those : ByteArray) (p : Nat → Bool) : Prop := ∀ c, c < 256 → decide ((0 : Int) ≤ Lib.indexByte those.data.toList c.toUInt8) = p c
set_option maxRecDepth 40000 in
theorem set_b : SetIs ⟨#[32, 9, 10, 13]⟩ isb := by unfold SetIs; decide
set_option maxRecDepth 40000 in
theorem set_d : SetIs ⟨#[48, 49, 50, 51, 52, 53, 54, 55, 56, 57]⟩ EPure.dig := by unfold SetIs; decide
def plc (R : Nat) (w : World) : Nat := match w.cell? ⟨R, 1, none⟩ with
 | some (.int _ i) => i.toNat
 | _ => 0
theorem plc_of {w : World} {R : Nat} {s : ByteArray} {a r : Nat} {t : Tk} (h : Er w R s a r t) : plc R w = a := by
 unfold plc
 rw [h.cells.2.1]
 simp
theorem skip_c {w : World} {R : Nat} {s those : ByteArray} {a r : Nat} {t : Tk} {p : Nat → Bool} (hp : SetIs those p) (h : Er w R s a r t) :
  Calls Tryz.prog 76 #[ptr R, .string those] w fun e w' => e = .returned (.string (cut s a (skp p s a))) ∧ Er w' R s (skp p s a) r t ∧ Kr R w w' := by
 have hRlt := h.lt
 have hsz := h.sz
 have hla := h.la
 have HP : Hid (SetIs those p) := hp
 obtain ⟨X, hX⟩ : ∃ X, skp p s a = X := ⟨_, rfl⟩
 rw [hX]
 have hXa : a ≤ X := by rw [← hX]; exact skp_ge p s a
 have hXs : X ≤ s.size := by rw [← hX]; exact skp_in hla
 obtain ⟨k0, k1, -⟩ := h.cells
 have HX : Hid (skp p s a = X) := hX
 have HE : Hid (Er w R s a r t) := h
 unfold ptr
 clear hX h hp
 go_enter Tryz.func76, Tryz.ntmps76
 go_wp2_with fail
 go_loopw [] (fun wr => ∃ j : Nat, a ≤ j ∧ skp p s j = X ∧ Er wr R s j r t ∧ Kr R w wr) (fun wr => s.size - plc R wr)
 case atStart => exact ⟨a, Nat.le_refl _, HX.out, HE.out, Kr.refl _ _⟩
 case round =>
  clear HX HE k0 k1
  obtain ⟨j, haj, hj, hE, hK⟩ := hrel
  obtain ⟨k0, k1, -⟩ := hE.cells
  have f1 := hE.free 1
  have hlj := hE.la
  have HM : Hid (plc R wr = j) := plc_of hE
  by_cases hjl : j < s.size
  ·have d0 : decide (j < s.size) = true := decide_eq_true hjl
   obtain ⟨y, hy⟩ : ∃ y, (s[j]'hjl).toNat = y := ⟨_, rfl⟩
   have hya : at' s j = y := by rw [← hy]; exact at_get s j hjl
   have hy256 : y < 256 := by rw [← hya]; exact at_lt s j
   have hset := HP.out y hy256
   have cI := fun W => isOf_c those y W
   rw [hset] at cI
   by_cases hpy : p y = true
   ·have hJ2 : Hid (∀ m, Er ((wr.drewN m).setCell ⟨R, 1, none⟩ (.int .i64 ((j : Int) + 1))) R s (j + 1) r t) := fun m => by
     have := (hE.drewN m).go (j + 1) (by omega)
     rwa [show ((j + 1 : Nat) : Int) = (j : Int) + 1 from by omega] at this
    have HS : Hid (skp p s (j + 1) = X) := by
     show _ = _
     rw [← hj, skp_step hjl (by rw [hya]; exact hpy)]
    rw [hpy] at cI
    clear hE hj hset hya
    go_wp2_with fail
    go_quiet (first | (go_at_call 97; exact Calls.quiet_of_same (cI _)))
    go_wp2_with fail
    go_roundw
    case rel => exact ⟨j + 1, by omega, HS.out, hJ2.out nq, (hK.drewN nq).set 1 _⟩
    case measure =>
     show s.size - plc R _ < s.size - plc R wr
     rw [plc_of (hJ2.out nq), HM.out]
     omega
   ·have hpf : p y = false := by simpa using hpy
    have hjX : j = X := by rw [← hj, skp_stop (by rw [hya]; simp [hpf])]
    subst hjX
    have HE2 : Hid (∀ m, Er (wr.drewN m) R s j r t) := fun m => hE.drewN m
    rw [hpf] at cI
    clear hE hj hset hya hpy
    go_wp2_with fail
    go_quiet (first | (go_at_call 97; exact Calls.quiet_of_same (cI _)))
    go_wp2_with fail
    have hE3 := HE2.out nq
    obtain ⟨k0, k1, -⟩ := hE3.cells
    have b1 : (0 : Int) ≤ (a : Int) := by omega
    have b2 : (a : Int) ≤ (j : Int) := by omega
    have b3 : (j : Int) ≤ (s.size : Int) := by omega
    have b4 : (0 : Int) ≤ (j : Int) := by omega
    clear hE3
    go_quiet (fail)
    go_wp2_with fail
    go_ret
    exact ⟨rfl, (HE2.out _).drewN _, (hK.drewN _).drewN _⟩
  ·have d0 : decide (j < s.size) = false := decide_eq_false hjl
   have hjX : j = X := by rw [← hj, skp_stop (by simp [hjl])]
   subst hjX
   have HE2 : Hid (∀ m, Er (wr.drewN m) R s j r t) := fun m => hE.drewN m
   have cI := fun W => isOf_c those 0 W
   have HB : Hid (a ≤ j ∧ j ≤ s.size) := ⟨hXa, hXs⟩
   clear hE hj hjl hlj hXa hXs hla haj
   go_wp2_with fail
   go_quiet (first | (go_at_call 97; exact Calls.quiet_of_same (cI _)))
   go_wp2_with fail
   have hE3 := HE2.out nq
   obtain ⟨k0, k1, -⟩ := hE3.cells
   obtain ⟨hXa, hXs⟩ := HB.out
   have b1 : (0 : Int) ≤ (a : Int) := by omega
   have b2 : (a : Int) ≤ (j : Int) := by omega
   have b3 : (j : Int) ≤ (s.size : Int) := by omega
   have b4 : (0 : Int) ≤ (j : Int) := by omega
   clear hE3
   go_quiet (fail)
   go_wp2_with fail
   go_ret
   exact ⟨rfl, (HE2.out _).drewN _, (hK.drewN _).drewN _⟩
end Go.Proofs.YtghnhkagkngjcaaGreatDoor.ESk
namespace Go.Proofs.YtghnhkagkngjcaaGreatDoor.ETk
open Go.RowKit Base UBase EPure ERd
def pk (e : F) : List PanicEntry := [{ v := .iface 63 (.agg #[.int .i64 (e.1 : Nat), .int .i64 (e.2 : Nat)]), recovered := false }]
theorem refuse_c {w : World} {R : Nat} {s : ByteArray} {a r : Nat} {t : Tk} (h : Er w R s a r t) :
  Calls Tryz.prog 126 #[ptr R] w fun e w' => e = .panicked (pk (1000, a)) ∧ w' = w := by
 obtain ⟨k0, k1, -, -, -, -, -⟩ := h.cells
 unfold ptr pk
 clear h
 go_enter Tryz.func126, Tryz.ntmps126
 go_wp2
 exact ⟨rfl, rfl, rfl⟩
theorem next_end {w : World} {R : Nat} {s : ByteArray} {r : Nat} {t : Tk} (h : Er w R s s.size r t) :
  Calls Tryz.prog 98 #[ptr R] w fun e w' => e = .panicked (pk (1000, s.size)) ∧ ∃ k, w' = w.drewN k := by
 obtain ⟨k0, k1, -, -, -, -, -⟩ := h.cells
 have hsz := h.sz
 have cR := fun m => refuse_c (h.drewN m)
 have e1 : ((s.size : Int) == (s.size : Int)) = true := by simp
 unfold ptr at cR ⊢
 clear h
 go_enter Tryz.func98, Tryz.ntmps98
 go_wp2_with fail
 go_quiet (fail)
 go_wp2_with fail
 refine (cR nq).mono ?_
 rintro e w' ⟨rfl, rfl⟩
 exact ⟨rfl, rfl, _, rfl⟩
theorem is_c (t : Tk) (x : ByteArray) (w : World) :
  Calls Tryz.prog 79 #[.agg #[.int .i64 t.k, .string t.t, .int .i64 t.n, .int .i64 t.a], .string x] w fun e w' => e = .returned (.bool ((t.k == 4) && (t.t.toList == x.toList))) ∧ Below w.heap.size w w' := by
 obtain ⟨k, tt, n, a⟩ := t
 by_cases hk : k = 4
 ·have e4 : ((k : Int) == 4) = true := by simp [hk]
  have e5 : (k == 4) = true := by simp [hk]
  rw [e5]
  clear hk e5
  go_enter Tryz.func79, Tryz.ntmps79
  go_wp2_with fail
  go_ret
  exact ⟨by rw [Bool.true_and]; rfl, (Below.refl _ w).alloc (Nat.le_refl _) _⟩
 ·have e4 : ((k : Int) == 4) = false := by simp; omega
  have e5 : (k == 4) = false := by simp; omega
  rw [e5]
  clear hk e5
  go_enter Tryz.func79, Tryz.ntmps79
  go_wp2_with fail
  go_ret
  exact ⟨by rw [Bool.false_and]; rfl, (Below.refl _ w).alloc (Nat.le_refl _) _⟩
theorem misplaced_c (t : Tk) (w : World) :
  Calls Tryz.prog 58 #[.agg #[.int .i64 t.k, .string t.t, .int .i64 t.n, .int .i64 t.a]] w fun e w' => e = .returned (.agg #[.int .i64 1000, .int .i64 t.a]) ∧ Below w.heap.size w w' := by
 obtain ⟨k, tt, n, a⟩ := t
 go_enter Tryz.func58, Tryz.ntmps58
 go_wp2_with fail
 refine bodyPost_ret (v := .agg #[.int .i64 1000, .int .i64 a]) (by simp [results, Tryz.results58, go_sem]) rfl ?_
 exact ⟨rfl, ((Below.refl _ w).alloc (Nat.le_refl _) _).alloc (by simp) _⟩
end Go.Proofs.YtghnhkagkngjcaaGreatDoor.ETk
