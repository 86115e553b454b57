import Derived.BigQuiet
import Derived.Deep.AppendLies
import Derived.Deep.RegionWith
import Derived.LoopN
import Derived.LoopTactic
import Derived.Maps.AppendAt
import Derived.Test.YtghnhkagkngjcaaGreatDoorPN09
import Derived.Test.YtghnhkagkngjcaaGreatDoorPN13
import Derived.Test.YtghnhkagkngjcaaGreatDoorPN14
import Derived.Test.YtghnhkagkngjcaaGreatDoorPN17
import Derived.Test.YtghnhkagkngjcaaGreatDoorPN19
set_option linter.unusedVariables false
set_option maxRecDepth 20000
set_option maxHeartbeats 3200000
namespace Go.Proofs.YtghnhkagkngjcaaGreatDoor.PFit
open Go.RowKit Base UBase UValid UOwn EPure ENd
open XBase (four_box two_box frozen_box Rg)
def tg (s : ByteArray) : Bool := decide (s.size ≤ 4096) && (verr s == 0)
theorem iter_below (w : World) (s : ByteArray) (p : Nat) : Below w.heap.size w (w.iter s p) := (Below.refl _ w).alloc (Nat.le_refl _) _
theorem verr_cases (s : ByteArray) : verr s = 0 ∨ verr s = 300 := by
 cases h : bad s 0 with
 | none => exact .inl (verr_none h).2
 | some i => exact .inr (verr_some h).2
theorem tmb_c (s : ByteArray) (hs : s.size ≤ 140737488351232) (w : World) :
  Calls Tryz.prog 68 #[.string s] w fun r w' => r = .returned (.bool (tg s)) ∧ Below w.heap.size w w' := by
 have c71 := valid_c s (by omega) w
 by_cases h : s.size ≤ 4096
 ·have e : tg s = (verr s == 0) := by simp [tg, h]
  rw [e]
  have hv := verr_cases s
  generalize verr s = x at *
  generalize vat s = y at *
  have h' : decide ((4096 : Int) < (s.size : Int)) = false := decide_eq_false (by omega)
  clear e
  rcases hv with rfl | rfl
  ·go_enter Tryz.func68, Tryz.ntmps68
   go_wp2_with (first | (go_at_call 93; refine c71.mono ?_; rintro e w' ⟨rfl, p, rfl⟩))
   go_ret
   exact ⟨rfl, iter_below _ _ _⟩
  ·go_enter Tryz.func68, Tryz.ntmps68
   go_wp2_with (first | (go_at_call 93; refine c71.mono ?_; rintro e w' ⟨rfl, p, rfl⟩))
   go_ret
   exact ⟨rfl, iter_below _ _ _⟩
 ·have e : tg s = false := by simp [tg, h]
  rw [e]
  have h' : decide ((4096 : Int) < (s.size : Int)) = true := decide_eq_true (by omega)
  clear c71 e
  go_enter Tryz.func68, Tryz.ntmps68
  go_wp2_with fail
  go_ret
  exact ⟨rfl, Below.refl _ _⟩
def wrt (s : ByteArray) : Bool := decide (∀ i, i < s.size → 32 ≤ at' s i ∨ at' s i = 10)
def tx (s : ByteArray) : Bool := tg s && wrt s
theorem isText_c (s : ByteArray) (hs : s.size ≤ 140737488351232) (w : World) : Calls Tryz.prog 44 #[.string s] w fun e w' => e = .returned (.bool (tx s)) ∧ Below w.heap.size w w' := by
 have cT := tmb_c s hs w
 unfold tx
 cases hg : tg s with
 | false =>
  rw [hg] at cT
  rw [Bool.false_and]
  clear hg
  go_enter Tryz.func44, Tryz.ntmps44
  go_wp2_with fail
  refine cT.mono ?_
  rintro e W1 ⟨rfl, b1⟩
  go_wp2_with fail
  go_ret
  exact ⟨rfl, b1⟩
 | true =>
  rw [hg] at cT
  rw [Bool.true_and]
  obtain ⟨T, hT⟩ : ∃ T, wrt s = T := ⟨_, rfl⟩
  rw [hT]
  have HT : Hid (wrt s = T) := hT
  clear hg hT
  go_enter Tryz.func44, Tryz.ntmps44
  go_wp2_with fail
  refine cT.mono ?_
  rintro e W1 ⟨rfl, b1⟩
  clear cT
  go_wp2_with fail
  go_loopw [9] (fun v wr => ∃ i : Nat, v = .int .i64 i ∧ i ≤ s.size ∧ wr = W1 ∧ ∀ j, j < i → 32 ≤ at' s j ∨ at' s j = 10) (fun v _ => s.size - (intOf v).toNat)
  case atStart => exact ⟨0, rfl, by omega, rfl, fun j h => by omega⟩
  case round =>
   obtain ⟨i, rfl, hi, hwr, hall⟩ := hrel
   subst hwr
   have HA : Hid (∀ j, j < i → 32 ≤ at' s j ∨ at' s j = 10) := hall
   clear hall
   by_cases hlt : i < s.size
   ·have d0 : decide ((i : Int) < (s.size : Int)) = true := by simp; omega
    have hb := at_get s i hlt
    have HAT : Hid (at' s i = (s[i]'hlt).toNat) := hb
    obtain ⟨y, hy⟩ : ∃ y, (s[i]'hlt).toNat = y := ⟨_, rfl⟩
    have HY : Hid ((s[i]'hlt).toNat = y) := hy
    clear hb
    by_cases h32 : y < 32
    ·have d1 : decide ((y : Int) < 32) = true := by simp; omega
     by_cases h10 : y = 10
     ·have e10 : ((y : Int) != 10) = false := by simp; omega
      have HA2 : Hid (∀ j, j < i + 1 → 32 ≤ at' s j ∨ at' s j = 10) := by
       intro j hj
       by_cases e : j = i
       ·subst e; right; rw [HAT.out, HY.out]; exact h10
       ·exact HA.out j (by omega)
      clear h10
      go_wp2_with fail
      go_roundw
      case rel => exact ⟨i + 1, by go_num, by omega, by first | rfl | trivial, HA2.out⟩
      case measure => simp only [intOf]; omega
     ·have e10 : ((y : Int) != 10) = true := by simp; omega
      have hT : T = false := by
       rw [← HT.out]
       unfold wrt
       refine decide_eq_false fun h => ?_
       have := h i hlt
       rw [HAT.out, HY.out] at this
       omega
      subst hT
      go_wp2_with fail
      go_ret
      exact ⟨rfl, b1⟩
    ·have d1 : decide ((y : Int) < 32) = false := by simp; omega
     have HA2 : Hid (∀ j, j < i + 1 → 32 ≤ at' s j ∨ at' s j = 10) := by
      intro j hj
      by_cases e : j = i
      ·subst e; left; rw [HAT.out, HY.out]; omega
      ·exact HA.out j (by omega)
     go_wp2_with fail
     go_roundw
     case rel => exact ⟨i + 1, by go_num, by omega, by first | rfl | trivial, HA2.out⟩
     case measure => simp only [intOf]; omega
   ·have d0 : decide ((i : Int) < (s.size : Int)) = false := by simp; omega
    have hT : T = true := by
     rw [← HT.out]
     exact decide_eq_true fun j hj => HA.out j (by omega)
    subst hT
    go_wp2_with fail
    go_ret
    exact ⟨rfl, b1⟩
def ft (o i : Int) (t : ByteArray) : Bool :=
 if o = 4 then decide (0 ≤ i) && (t.size == 0)
 else if o = 5 then (i == 0) && tx t
 else if o = 6 then (i == 0) && (UBase.word t 95 && !(Lib.containsS wdl t))
 else if o = 7 then (i == 0) && UBase.word t 95
 else if o = 9 then (decide (1 ≤ i) && decide (i ≤ 8)) && (t.size == 0)
 else (i == 0) && (t.size == 0)
theorem can_text {i : Int} {t : ByteArray} {a : Option Addr} {n c : Nat} (ht : t.size ≤ 140737488351232) (w : World) :
  Calls Tryz.prog 29 #[.agg #[.int .i64 5, .int .i64 i, .string t, .slice a n c]] w fun e w' => e = .returned (.bool (ft 5 i t)) ∧ Below w.heap.size w w' := by
 have b0 : Below w.heap.size w (w.alloc (.cells #[.int .i64 5, .int .i64 i, .string t, .slice a n c] 24)) := (Below.refl _ w).alloc (Nat.le_refl _) _
 have e : ft 5 i t = ((i == 0) && tx t) := rfl
 rw [e]
 have cT := fun W => isText_c t ht W
 obtain ⟨z, hz⟩ : ∃ z, tx t = z := ⟨_, rfl⟩
 rw [hz] at cT ⊢
 clear e hz
 cases hi : (i == 0) with
 | true =>
  rw [Bool.true_and]
  go_enter Tryz.func29, Tryz.ntmps29
  go_wp2_with fail
  refine (cT _).mono ?_
  rintro e W1 ⟨rfl, b1⟩
  go_wp2_with fail
  go_ret
  exact ⟨rfl, nx b0 b1⟩
 | false =>
  rw [Bool.false_and]
  go_enter Tryz.func29, Tryz.ntmps29
  go_wp2_with fail
  go_ret
  exact ⟨rfl, b0⟩
theorem can_var {i : Int} {t : ByteArray} {a : Option Addr} {n c : Nat} (ht : t.size ≤ 140737488351232) (w : World) :
  Calls Tryz.prog 29 #[.agg #[.int .i64 6, .int .i64 i, .string t, .slice a n c]] w fun e w' => e = .returned (.bool (ft 6 i t)) ∧ Below w.heap.size w w' := by
 obtain ⟨W0, hW0⟩ : ∃ W0, w.alloc (.cells #[.int .i64 6, .int .i64 i, .string t, .slice a n c] 24) = W0 := ⟨_, rfl⟩
 have b0 : Below w.heap.size w W0 := by rw [← hW0]; exact (Below.refl _ w).alloc (Nat.le_refl _) _
 have q0 : W0.heap[w.heap.size]? = some (.cells #[.int .i64 6, .int .i64 i, .string t, .slice a n c] 24 (0, 0)) := by rw [← hW0]; exact heap_alloc_new w _
 obtain ⟨v0, v1, v2, v3⟩ := four_box q0
 have e : ft 6 i t = ((i == 0) && (UBase.word t 95 && !(Lib.containsS wdl t))) := rfl
 rw [e]
 have cT := fun W => EName.Name_c t (by omega) W
 obtain ⟨z, hz⟩ : ∃ z, UBase.word t 95 = z := ⟨_, rfl⟩
 rw [hz] at cT ⊢
 obtain ⟨u, hu⟩ : ∃ u, Lib.containsS wdl t = u := ⟨_, rfl⟩
 rw [hu]
 have HU : Hid (Lib.containsS wdl t = u) := hu
 have HQ0 : Hid (W0.heap[w.heap.size]? = some (.cells #[.int .i64 6, .int .i64 i, .string t, .slice a n c] 24 (0, 0))) := q0
 have HB0 : Hid (Below w.heap.size w W0) := b0
 clear e hz hu q0 b0
 cases hi : (i == 0) with
 | false =>
  rw [Bool.false_and]
  go_enter Tryz.func29, Tryz.ntmps29
  go_wp2_with fail
  clear hW0
  go_quiet (first | (go_at_call 42; exact Calls.quiet_of_same (cT _)))
  go_wp2_with fail
  go_ret
  exact ⟨rfl, HB0.out.trans ⟨rfl, rfl, rfl, by simp, fun _ _ => by simp⟩⟩
 | true =>
  rw [Bool.true_and]
  cases z with
  | false =>
   rw [Bool.false_and]
   go_enter Tryz.func29, Tryz.ntmps29
   go_wp2_with fail
   clear hW0
   go_quiet (first | (go_at_call 42; exact Calls.quiet_of_same (cT _)))
   go_wp2_with fail
   go_ret
   exact ⟨rfl, HB0.out.trans ⟨rfl, rfl, rfl, by simp, fun _ _ => by simp⟩⟩
  | true =>
   rw [Bool.true_and]
   go_enter Tryz.func29, Tryz.ntmps29
   go_wp2_with fail
   clear hW0
   go_region_with (first | (go_at_call 42; refine (cT _).mono ?_; rintro e W1 ⟨rfl, rfl⟩) | (go_at_call 43; refine (words_c _).mono ?_; rintro e W2 ⟨rfl, b2, hc2⟩; have q2 := (b2.block w.heap.size (show w.heap.size < W0.heap.size from (Array.getElem?_eq_some_iff.1 HQ0.out).1)).trans HQ0.out; obtain ⟨s0, s1, s2, s3⟩ := four_box q2; have cC := Tryz.slices_Contains_string _ 0 4 4 wdl t W2 (by decide) (by omega) hc2; rw [show wdl.take 4 = wdl from rfl, HU.out] at cC; have HB2 : Hid (Below w.heap.size w W2) := (HB0.out.trans (Below.refl _ W0).drew).trans (b2.mono HB0.out.size); clear hc2 b2 q2) | (go_at_call 22; refine cC.mono ?_; rintro e W3 ⟨rfl, rfl⟩))
   all_goals
    go_wp2_with fail
    go_ret
    exact ⟨rfl, HB2.out⟩
def cbr (o i : Int) (t : ByteArray) : Bool := if o = 6 then (i == 0) && (UBase.word t 95 && !(Lib.containsS wdl t)) else (i == 0) && tx t
theorem cbr_c : SFit.Lf 29 cbr := by
 refine ⟨fun args w => by go_simp, ?_⟩
 intro o i t a n c w h ht
 rcases h with rfl | rfl
 ·exact can_text ht w
 ·exact can_var ht w
theorem ft_eq (o i : Int) (t : ByteArray) : SFit.ft cbr o i t = ft o i t := by
 unfold SFit.ft ft cbr
 by_cases h5 : o = 5
 ·subst h5; simp
 by_cases h6 : o = 6
 ·subst h6; simp
 rw [if_neg (by omega), if_neg h5, if_neg h6]
end Go.Proofs.YtghnhkagkngjcaaGreatDoor.PFit
namespace Go.Proofs.YtghnhkagkngjcaaGreatDoor.PMay
open Go.RowKit Base UBase EPure ERd ESc PPl PFit
open XBase (four_box two_box frozen_box Rg Four)
def mayL : List Ex → Nat → Bool × Nat
 | [], r => (true, r)
 | .mk o i s l :: t, r => if r = 0 ∨ (l.length : Int) ≠ kd o ∨ ft o i s = false then (false, r) else
   match mayL l (r - 1) with
   | (false, r') => (false, r')
   | (true, r') => mayL t r'
theorem mayL_nil (r : Nat) : mayL [] r = (true, r) := by rw [mayL]
theorem mayL_one {o i : Int} {s : ByteArray} {l : List Ex} {r : Nat} (h : ¬ (r = 0 ∨ (l.length : Int) ≠ kd o ∨ ft o i s = false)) : mayL [.mk o i s l] r = mayL l (r - 1) := by
 rw [mayL, if_neg h]
 cases e : mayL l (r - 1) with
 | mk b r' =>
  cases b with
  | false => rfl
  | true => exact mayL_nil r'
theorem mayL_no {o i : Int} {s : ByteArray} {l t : List Ex} {r : Nat} (h : r = 0 ∨ (l.length : Int) ≠ kd o ∨ ft o i s = false) : mayL (.mk o i s l :: t) r = (false, r) := by
 rw [mayL, if_pos h]
theorem mayL_cons (x : Ex) (t : List Ex) (r : Nat) : mayL (x :: t) r = if (mayL [x] r).1 = true then mayL t (mayL [x] r).2 else mayL [x] r := by
 obtain ⟨o, i, s, l⟩ := x
 by_cases h : r = 0 ∨ (l.length : Int) ≠ kd o ∨ ft o i s = false
 ·rw [mayL_no h, mayL_no h]; simp
 ·rw [mayL_one h, mayL, if_neg h]
  cases e : mayL l (r - 1) with
  | mk b r' => cases b <;> simp
theorem mayL_le : ∀ (n : Nat) (l : List Ex) (r : Nat), SizeOf.sizeOf l ≤ n → (mayL l r).2 ≤ r := by
 intro n
 induction n with
 | zero =>
  intro l r h
  cases l with
  | nil => rw [mayL_nil]; exact Nat.le_refl _
  | cons x t => exact absurd h (by simp)
 | succ n ih =>
  intro l r h
  cases l with
  | nil => rw [mayL_nil]; exact Nat.le_refl _
  | cons x t =>
   obtain ⟨o, i, s, k⟩ := x
   rw [mayL]
   by_cases hc : r = 0 ∨ (k.length : Int) ≠ kd o ∨ ft o i s = false
   ·rw [if_pos hc]; exact Nat.le_refl _
   ·rw [if_neg hc]
    have h1 := ih k (r - 1) (by simp at h; omega)
    cases e : mayL k (r - 1) with
    | mk b r' =>
     rw [e] at h1
     simp only at h1
     cases b with
     | false => simp only; omega
     | true =>
      have h2 := ih t r' (by simp at h; omega)
      simp only; omega
theorem bh_neg (lf : Int → Int → ByteArray → Bool) : ∀ l : List Ex, SBe.bhL lf l (-1) = -1
 | [] => SBe.bhL_nil lf _
 | .mk o i s l :: t => by rw [SBe.bhL, if_pos (.inl (by omega))]; exact bh_neg lf t
theorem bh_may : ∀ (n : Nat) (l : List Ex) (r : Nat), SizeOf.sizeOf l ≤ n → SBe.bhL cbr l r = if (mayL l r).1 = true then ((mayL l r).2 : Int) else -1 := by
 intro n
 induction n with
 | zero =>
  intro l r h
  cases l with
  | nil => rw [SBe.bhL_nil, mayL_nil]; rfl
  | cons x t => exact absurd h (by simp)
 | succ n ih =>
  intro l r h
  cases l with
  | nil => rw [SBe.bhL_nil, mayL_nil]; rfl
  | cons x t =>
   obtain ⟨o, i, s, k⟩ := x
   rw [SBe.bhL, mayL, ft_eq]
   by_cases hc : r = 0 ∨ (k.length : Int) ≠ kd o ∨ ft o i s = false
   ·have hc' : (r : Int) ≤ 0 ∨ (k.length : Int) ≠ SFit.kd o ∨ ft o i s = false := hc.imp (fun h => by omega) id
    rw [if_pos hc, if_pos hc', bh_neg]
    rfl
   ·have hc' : ¬ ((r : Int) ≤ 0 ∨ (k.length : Int) ≠ SFit.kd o ∨ ft o i s = false) := fun h => hc (h.imp (fun h => by omega) id)
    rw [if_neg hc, if_neg hc']
    have h0 : r ≠ 0 := fun h => hc (.inl h)
    have h1 := ih k (r - 1) (by simp at h; omega)
    rw [show ((r - 1 : Nat) : Int) = (r : Int) - 1 from by omega] at h1
    rw [h1]
    cases e : mayL k (r - 1) with
    | mk b r' =>
     cases b with
     | false => simp only [Bool.false_eq_true, if_false]; exact bh_neg _ _
     | true => simp only [if_true]; exact ih t r' (by simp at h; omega)
theorem may_c {m : Nat} {w : World} {v : Value} {x : Ex} (hin : XBase.In false (fun _ => True) w m v x) :
  Calls Tryz.prog 28 #[v, .int .i64 512, SFit.lfv 29] w fun e w' => e = .returned (.bool (mayL [x] 512).1) ∧ Below w.heap.size w w' := by
 have h := SBe.tree_c cbr_c hin (r := 512) (by omega) (by omega)
 have e := bh_may _ [x] 512 (Nat.le_refl _)
 have e2 : decide (0 ≤ SBe.bhL cbr [x] 512) = (mayL [x] 512).1 := by
  rw [show (512 : Int) = ((512 : Nat) : Int) from rfl, e]
  cases (mayL [x] 512).1 <;> simp
 rw [e2] at h
 exact h
end Go.Proofs.YtghnhkagkngjcaaGreatDoor.PMay
namespace Go.Proofs.YtghnhkagkngjcaaGreatDoor.PPk
open Go.RowKit Base ETx
theorem info5 : (Tryz.prog.info? 5).map (fun i => (i.zero, i.size, i.bytes)) = some (some (.int .u8 0), 1, 1) := by kernel_rfl
theorem own_below {w w' : World} {B : Nat} {e : TypeId} {s n : Nat} {v : Value} {xs : List Value} (h : w.ownsRow B e s v n xs) (hb : Below w.heap.size w w') : w'.ownsRow B e s v n xs := by
 refine ⟨h.1, ?_⟩
 rcases h.2 with h2 | ⟨g, cap, cur, hv, hg, hh, r⟩
 ·exact .inl h2
 ·exact .inr ⟨g, cap, cur, hv, hg, (hb.block g (Array.getElem?_eq_some_iff.1 hh).1).trans hh, r⟩
theorem size_list (s : ByteArray) : s.data.toList.length = s.size := by rw [Array.length_toList]; rfl
structure Pk (B : Nat) (w0 W : World) (v : Value) (L : List UInt8) (lits : List (Nat × List UInt8)) : Prop where
 own : Own W B v L
 bel : Below B w0 W
 ty : ∀ (k : Nat) (cs : Array Value) (t : TypeId) (fz : Nat × Nat), w0.heap[k]? = some (Obj.cells cs t fz) → t ≠ 5 → W.heap[k]? = some (Obj.cells cs t fz)
 le : B ≤ W.heap.size
 lit : ∀ p ∈ lits, v.ownBlock ≠ some p.1 ∧ p.1 < W.heap.size ∧ ∀ j u, (Lib.byteCells p.2)[j]? = some u → W.cell? ⟨p.1, j, none⟩ = some u
 nil : v = .slice none 0 0 ↔ L = []
theorem Pk.start {B : Nat} {W : World} {v : Value} {L : List UInt8} (h : Own W B v L) (hB : B ≤ W.heap.size) (hn : v = .slice none 0 0 ↔ L = []) : Pk B W W v L [] :=
 ⟨h, Below.refl _ _, fun _ _ _ _ h _ => h, hB, (fun p hp => by cases hp), hn⟩
theorem Pk.below {B : Nat} {w0 W W' : World} {v : Value} {L : List UInt8} {lits : List (Nat × List UInt8)} (h : Pk B w0 W v L lits) (hb : Below W.heap.size W W') : Pk B w0 W' v L lits :=
 ⟨own_below h.own hb, h.bel.trans (hb.mono h.le), fun k cs t fz hk ht => (hb.block k (Array.getElem?_eq_some_iff.1 (h.ty k cs t fz hk ht)).1).trans (h.ty k cs t fz hk ht), by have := hb.size; have := h.le; omega,
  (fun p hp => ⟨(h.lit p hp).1, by have := (h.lit p hp).2.1; have := hb.size; omega, fun j u hu => (World.cell?_of_block (w := W) (hb.block p.1 (h.lit p hp).2.1)).trans ((h.lit p hp).2.2 j u hu)⟩), h.nil⟩
theorem Pk.drew {B : Nat} {w0 W : World} {v : Value} {L : List UInt8} {lits : List (Nat × List UInt8)} (h : Pk B w0 W v L lits) : Pk B w0 W.drew v L lits := h.below (Below.refl _ _).drew
theorem Pk.put {B : Nat} {w0 W : World} {v : Value} {L : List UInt8} {lits : List (Nat × List UInt8)} (h : Pk B w0 W v L lits) (x : List UInt8) : Pk B w0 (W.alloc (.cells (Lib.byteCells x).toArray 5)) v L ((W.heap.size, x) :: lits) := by
 have k := h.below ((Below.refl _ _).alloc (Nat.le_refl _) (.cells (Lib.byteCells x).toArray 5))
 refine ⟨k.own, k.bel, k.ty, k.le, fun p hp => ?_, h.nil⟩
 rcases List.mem_cons.1 hp with rfl | hp
 ·refine ⟨fun e => by have := (World.ownsRow.lt h.own _ e).2; omega, by simp, fun j u hu => ?_⟩
  have h2 := Base.heap_alloc_new W (.cells (Lib.byteCells x).toArray 5)
  unfold World.cell?
  rw [h2]
  simpa using hu
 ·exact k.lit p hp
theorem Pk.more {B : Nat} {w0 W W' : World} {v v' : Value} {L : List UInt8} {lits : List (Nat × List UInt8)} {n : Nat} {x : List UInt8} (h : Pk B w0 W v L lits) (hown : W'.ownsRow B 5 1 v' (L.length + n) (Lib.byteCells L ++ Lib.byteCells x)) (hn : n = x.length)
  (hgrow : W.grownBy W' v.ownBlock) (hnil : v' = .slice none 0 0 ↔ v = .slice none 0 0 ∧ n = 0) (hat : v'.ownBlock = v.ownBlock ∨ v'.ownBlock = some W.heap.size) : Pk B w0 W' v' (L ++ x) lits := by
 subst hn
 refine ⟨?_, h.bel.grown hgrow h.le (fun k hk => (World.ownsRow.lt h.own k hk).1), fun k cs t fz hk ht => ?_, by have := hgrow.size; have := h.le; omega, fun p hp => ?_, ?_⟩
 ·unfold Own
  rw [Lib.byteCells_append, List.length_append]
  exact hown
 ·have hk1 := h.ty k cs t fz hk ht
  have hne := Lib.ownBlock_ne h.own hk1 ht
  rw [hgrow.block k (Array.getElem?_eq_some_iff.1 hk1).1 (fun e => hne e.symm)]
  exact hk1
 ·obtain ⟨h1, hlt, h2⟩ := h.lit p hp
  refine ⟨?_, by have := hgrow.size; omega, fun j u hu => (World.cell?_of_block (w := W) (hgrow.block p.1 hlt (fun e => h1 e.symm))).trans (h2 j u hu)⟩
  rcases hat with e | e
  ·rw [e]; exact h1
  ·rw [e]
   intro e2
   have := Option.some.inj e2
   omega
 ·rw [hnil, h.nil, List.length_eq_zero_iff, List.append_eq_nil_iff]
theorem Pk.shape {B : Nat} {w0 W : World} {v : Value} {L : List UInt8} {lits : List (Nat × List UInt8)} (h : Pk B w0 W v L lits) : ∃ ao n c, v = .slice ao n c := by
 rcases h.own.2 with ⟨hv, _⟩ | ⟨g, cap, cur, hv, _⟩
 ·exact ⟨_, _, _, hv⟩
 ·exact ⟨_, _, _, hv⟩
theorem bytes_one (x : List UInt8) : ∀ u ∈ Lib.byteCells x, u.oneCell' = true := by
 intro u hu
 obtain ⟨b, _, rfl⟩ := List.mem_map.1 hu
 rfl
theorem Pk.lay {B : Nat} {w0 W : World} {v : Value} {L : List UInt8} {lits : List (Nat × List UInt8)} (h : Pk B w0 W v L lits) (x : List UInt8) (cs : Array Value) (hx : (Lib.byteCells x).toArray = cs) : Pk B w0 (W.alloc (.cells cs 5)) v L ((W.heap.size, x) :: lits) := by
 subst hx
 exact h.put x
theorem Pk.trans {B : Nat} {w0 W1 W : World} {v v' : Value} {L L' : List UInt8} {l1 lits : List (Nat × List UInt8)} (h : Pk B w0 W1 v L l1) (k : Pk B W1 W v' L' lits) : Pk B w0 W v' L' [] :=
 ⟨k.own, h.bel.trans k.bel, fun n cs t fz hn ht => k.ty n cs t fz (h.ty n cs t fz hn ht) ht, k.le, (fun p hp => by cases hp), k.nil⟩
theorem Pk.bare {B : Nat} {w0 W : World} {v : Value} {L : List UInt8} {lits : List (Nat × List UInt8)} (h : Pk B w0 W v L lits) : Pk B w0 W v L [] :=
 ⟨h.own, h.bel, h.ty, h.le, (fun p hp => by cases hp), h.nil⟩
theorem run_text (ty : TypeId) {B : Nat} {w0 W : World} {v : Value} {L : List UInt8} {lits : List (Nat × List UInt8)} (h : Pk B w0 W v L lits) (y : ByteArray) (hlen : L.length + y.size ≤ 140737488355328) :
  ∃ v' W', (Builtin.append_ #[59, 9] ty #[v, .string y]).run Tryz.prog W = .ok v' W' ∧ Pk B w0 W' v' (L ++ y.data.toList) lits := by
 obtain ⟨i0, hi, hz0, hz1, hz2⟩ := info_parts info5
 obtain ⟨v', W', hr, h2, h3, h4⟩ := Lib.run_append_own_string (P := Tryz.prog) W B 59 9 ty 5 i0 Tryz.underlying59 Tryz.underlying9 hi hz0 hz1 hz2 v L.length (Lib.byteCells L) h.own y (by unfold maxLen; omega) hlen h.le
 refine ⟨v', W', hr, h.more h2 (size_list y).symm h3 h4 ?_⟩
 rcases h.own.2 with ⟨rfl, h0⟩ | ⟨g, cap, cur, rfl, _, hh, hn, hm, hcs, _⟩
 ·by_cases hy : y.size = 0
  ·left
   rw [h4.2 ⟨rfl, hy⟩]
  ·right
   have hr2 := run_append_nil_string (P := Tryz.prog) W 59 9 ty 5 i0 (.int .u8 0) Tryz.underlying59 Tryz.underlying9 hi hz0 y (by omega) (by omega) (by rw [hz2]; omega)
   have e := hr.symm.trans hr2
   injection e with e1 e2
   rw [e1]
   rfl
 ·by_cases hroom : L.length + y.size ≤ cap
  ·left
   have hcs' : cur.size = cap := by simpa using hcs
   have hr2 := Lib.run_append_room_string (P := Tryz.prog) W 59 9 ty 5 i0 Tryz.underlying59 Tryz.underlying9 hi hz1 g L.length cap cur hh y hroom (by omega)
   have e := hr.symm.trans hr2
   injection e with e1 e2
   rw [e1]
   rfl
  ·right
   have hr2 := Lib.run_append_grow_string (P := Tryz.prog) W 59 9 ty 5 i0 (.int .u8 0) Tryz.underlying59 Tryz.underlying9 hi hz0 ⟨g, 0, none⟩ L.length cap (Lib.byteCells L) (by rw [hz1, Lib.byteCells_length]; omega) (World.ownsRow.cells (g := g) h.own rfl) y (by omega) (by omega) (by rw [hz2]; exact growslice_fits (by omega) (by omega))
   have e := hr.symm.trans hr2
   injection e with e1 e2
   rw [e1]
   rfl
theorem run_bytes (ty : TypeId) {B : Nat} {w0 W : World} {v : Value} {L : List UInt8} {lits : List (Nat × List UInt8)} (h : Pk B w0 W v L lits) (g c : Nat) (x : List UInt8) (hx : ∀ j u, (Lib.byteCells x)[j]? = some u → W.cell? ((⟨g, 0, none⟩ : Addr).add j) = some u) (hlen : L.length + x.length ≤ 140737488355328) :
  ∃ v' W', (Builtin.append_ #[59, 59] ty #[v, .slice (some ⟨g, 0, none⟩) x.length c]).run Tryz.prog W = .ok v' W' ∧ Pk B w0 W' v' (L ++ x) lits := by
 obtain ⟨i0, hi, hz0, hz1, hz2⟩ := info_parts info5
 obtain ⟨v', W', hr, h2, h3, h4, h5⟩ := run_append_own_at (P := Tryz.prog) W B 59 ty 5 i0 (.int .u8 0) 1 1 Tryz.underlying59 hi hz0 hz1 hz2 rfl (by decide) v L.length (Lib.byteCells L) h.own ⟨g, 0, none⟩ x.length c (Lib.byteCells x) (by rw [Lib.byteCells_length]; omega) hx (bytes_one x) (by unfold maxLen; omega) (by omega) h.le
 exact ⟨v', W', hr, h.more h2 rfl h3 h4 h5⟩
theorem lit_cells {B : Nat} {w0 W : World} {v : Value} {L : List UInt8} {lits : List (Nat × List UInt8)} (h : Pk B w0 W v L lits) {g : Nat} {x : List UInt8} (hm : (g, x) ∈ lits) : ∀ j u, (Lib.byteCells x)[j]? = some u → W.cell? ((⟨g, 0, none⟩ : Addr).add j) = some u := by
 intro j u hu
 rw [add_none, Nat.zero_add]
 exact (h.lit _ hm).2.2 j u hu
section
variable {ops : Array Oper} {o : Oper} {a : Act} {K : Act → World → Prop} {Q : Exit → Act → World → Prop} {E : Prop} {B : Nat} {w0 W : World} {v : Value} {L : List UInt8} {lits : List (Nat × List UInt8)}
theorem wp_text (s x : Operand) (ho : o.op = .call { callee := .builtin .append, args := #[s, x], argTypes := #[59, 9] }) (h : Pk B w0 W v L lits) (hs : a.eval s = v) (y : ByteArray) (hx : a.eval x = .string y) (hlen : L.length + y.size ≤ 140737488355328)
  (hk : ∀ v' W', Pk B w0 W' v' (L ++ y.data.toList) lits → K (a.put o.dst v') W') : o.wp Tryz.prog a W K Q := by
 obtain ⟨v', W', hr, h2⟩ := run_text o.type h y hlen
 unfold Oper.wp execOp
 simp only [ho, resolve, invoke, builtin, Sem.run_bind, Sem.run_pure, Result.andThen_ok, List.map_toArray, List.map_cons, List.map_nil, hs, hx, hr]
 exact hk v' W' h2
theorem wp_bytes (s x : Operand) (ho : o.op = .call { callee := .builtin .append, args := #[s, x], argTypes := #[59, 59] }) (h : Pk B w0 W v L lits) (hs : a.eval s = v) (g c : Nat) (y : List UInt8) (hx : a.eval x = .slice (some ⟨g, 0, none⟩) y.length c)
  (hy : ∀ j u, (Lib.byteCells y)[j]? = some u → W.cell? ((⟨g, 0, none⟩ : Addr).add j) = some u) (hlen : L.length + y.length ≤ 140737488355328)
  (hk : ∀ v' W', Pk B w0 W' v' (L ++ y) lits → K (a.put o.dst v') W') : o.wp Tryz.prog a W K Q := by
 obtain ⟨v', W', hr, h2⟩ := run_bytes o.type h g c y hy hlen
 unfold Oper.wp execOp
 simp only [ho, resolve, invoke, builtin, Sem.run_bind, Sem.run_pure, Result.andThen_ok, List.map_toArray, List.map_cons, List.map_nil, hs, hx, hr]
 exact hk v' W' h2
theorem step_text (hgd : o.guard = none) (s x : Operand) (ho : o.op = .call { callee := .builtin .append, args := #[s, x], argTypes := #[59, 9] }) (h : Pk B w0 W v L lits) (hs : a.eval s = v) (y : ByteArray) (hx : a.eval x = .string y) (hlen : L.length + y.size ≤ 140737488355328)
  (hk : ∀ v' W', Pk B w0 W' v' (L ++ y.data.toList) lits → K (a.put o.dst v') W') : if Region.wanted o (yielded ops a.tmps) = true then Oper.wp Tryz.prog o a W K Q else E := by
 have hw : Region.wanted o (yielded ops a.tmps) = true := by simp [Region.wanted, hgd]
 rw [if_pos hw]
 exact wp_text s x ho h hs y hx hlen hk
theorem step_bytes (hgd : o.guard = none) (s x : Operand) (ho : o.op = .call { callee := .builtin .append, args := #[s, x], argTypes := #[59, 59] }) (h : Pk B w0 W v L lits) (hs : a.eval s = v) (g c : Nat) (y : List UInt8) (hx : a.eval x = .slice (some ⟨g, 0, none⟩) y.length c)
  (hm : (g, y) ∈ lits) (hlen : L.length + y.length ≤ 140737488355328)
  (hk : ∀ v' W', Pk B w0 W' v' (L ++ y) lits → K (a.put o.dst v') W') : if Region.wanted o (yielded ops a.tmps) = true then Oper.wp Tryz.prog o a W K Q else E := by
 have hw : Region.wanted o (yielded ops a.tmps) = true := by simp [Region.wanted, hgd]
 rw [if_pos hw]
 exact wp_bytes s x ho h hs g c y hx (lit_cells h hm) hlen hk
theorem list_text {rest : List Oper} (hgd : o.guard = none) (s x : Operand) (ho : o.op = .call { callee := .builtin .append, args := #[s, x], argTypes := #[59, 9] }) (h : Pk B w0 W v L lits) (hs : a.eval s = v) (y : ByteArray) (hx : a.eval x = .string y) (hlen : L.length + y.size ≤ 140737488355328)
  (hk : ∀ v' W', Pk B w0 W' v' (L ++ y.data.toList) lits → wpList Tryz.prog ops Q rest (a.put o.dst v') W') : wpList Tryz.prog ops Q (o :: rest) a W :=
 wpList_plain hgd fun _ hK => wp_text s x ho h hs y hx hlen fun v' W' h2 => hK _ _ (hk v' W' h2)
theorem list_bytes {rest : List Oper} (hgd : o.guard = none) (s x : Operand) (ho : o.op = .call { callee := .builtin .append, args := #[s, x], argTypes := #[59, 59] }) (h : Pk B w0 W v L lits) (hs : a.eval s = v) (g c : Nat) (y : List UInt8) (hx : a.eval x = .slice (some ⟨g, 0, none⟩) y.length c)
  (hm : (g, y) ∈ lits) (hlen : L.length + y.length ≤ 140737488355328)
  (hk : ∀ v' W', Pk B w0 W' v' (L ++ y) lits → wpList Tryz.prog ops Q rest (a.put o.dst v') W') : wpList Tryz.prog ops Q (o :: rest) a W :=
 wpList_plain hgd fun _ hK => wp_bytes s x ho h hs g c y hx (lit_cells h hm) hlen fun v' W' h2 => hK _ _ (hk v' W' h2)
end
end Go.Proofs.YtghnhkagkngjcaaGreatDoor.PPk
namespace Go.Proofs.YtghnhkagkngjcaaGreatDoor.PTx
open Go.RowKit Base UBase EPure ETx PPk
def qb (c : UInt8) : List UInt8 := if c = 39 then [92, 39] else if c = 92 then [92, 92] else if c = 125 then [92, 125] else if c = 10 then [92, 110] else [c]
def qt (s : ByteArray) : List UInt8 := 39 :: (s.data.toList.flatMap qb ++ [39])
theorem qb_len (c : UInt8) : (qb c).length ≤ 2 := by
 unfold qb
 repeat' split
 all_goals simp
theorem fm_len (l : List UInt8) : (l.flatMap qb).length ≤ 2 * l.length := by
 induction l with
 | nil => simp
 | cons c l ih =>
  have := qb_len c
  simp only [List.flatMap_cons, List.length_append, List.length_cons]
  omega
theorem idx_no : ∀ c : Fin 256, c.1 ≠ 39 → c.1 ≠ 92 → c.1 ≠ 125 → c.1 ≠ 10 → Lib.indexByte [39, 92, 125, 10] c.1.toUInt8 = -1 := by
 set_option maxRecDepth 40000 in decide
theorem text_c {B : Nat} {w0 W : World} {v : Value} {L : List UInt8} {s : ByteArray} (h : Pk B w0 W v L []) (hl : L.length ≤ 100000000000) (hs : s.size ≤ 1000000000) :
  Calls Tryz.prog 71 #[v, .string s] W fun e W' => ∃ v', e = .returned v' ∧ Pk B w0 W' v' (L ++ qt s) [] := by
 have hp1 := h.lay [39] #[.int .u8 39] rfl
 obtain ⟨ao, no, co, rfl⟩ := h.shape
 clear h
 go_enter Tryz.func71, Tryz.ntmps71
 go_wp2_with (first | (at_builtin; refine list_bytes rfl _ _ rfl hp1 rfl _ _ [39] rfl (by simp) (by simp only [List.length_cons, List.length_nil]; omega) ?_))
 intro v1 W1 hp2
 have HP : Hid (Pk B w0 W1 v1 (L ++ [39]) []) := hp2.bare
 obtain ⟨a1, n1, c1, rfl⟩ := hp2.shape
 clear hp1 hp2
 go_wp2_with fail
 go_loopw [0, 12] (fun out ii wr => ∃ q : Nat, q ≤ s.size ∧ ii = .int .i64 q ∧ Pk B w0 wr out (L ++ 39 :: (s.data.toList.take q).flatMap qb) []) (fun _ ii _ => s.size - (intOf ii).toNat)
 case atStart => exact ⟨0, by omega, rfl, by simpa using HP.out⟩
 case round =>
  obtain ⟨q, hq, rfl, hp⟩ := hrel
  have hfl := fm_len (s.data.toList.take q)
  have hfl2 : (s.data.toList.take q).length ≤ q := by rw [List.length_take]; omega
  have hlenq : (L ++ 39 :: (s.data.toList.take q).flatMap qb).length ≤ 110000000000 := by simp only [List.length_append, List.length_cons]; omega
  by_cases hlt : q < s.size
  ·have e1 : s.data.toList.take (q + 1) = s.data.toList.take q ++ [s[q]] := by
    rw [List.take_succ_eq_append_getElem (by simpa using hlt)]
    rfl
   have HE : Hid (∀ x, qb s[q] = x → ∀ w2 v2, Pk B w0 w2 v2 ((L ++ 39 :: (s.data.toList.take q).flatMap qb) ++ x) [] → Pk B w0 w2 v2 (L ++ 39 :: (s.data.toList.take (q + 1)).flatMap qb) []) := by
    intro x hx w2 v2 hp2
    rw [e1, List.flatMap_append]
    rw [← hx] at hp2
    simpa [List.append_assoc] using hp2
   obtain ⟨M, hM⟩ : ∃ M, L ++ 39 :: (s.data.toList.take q).flatMap qb = M := ⟨_, rfl⟩
   rw [hM] at hp hlenq HE
   obtain ⟨cc, hcc⟩ : ∃ cc : UInt8, s[q] = cc := ⟨_, rfl⟩
   have HC : Hid (s[q] = cc) := hcc
   obtain ⟨y, hy⟩ : ∃ y, cc.toNat = y := ⟨_, rfl⟩
   have hy256 : y < 256 := by rw [← hy]; exact UInt8.toNat_lt cc
   have HYC : Hid (cc.toNat = y) := hy
   have HCE : ∀ n : Nat, n < 256 → y = n → cc = UInt8.ofNat n := fun n hn e => by apply UInt8.toNat_inj.1; rw [UInt8.toNat_ofNat', hy]; omega
   have cI := fun W => Tryz.strings_IndexByte ⟨#[39, 92, 125, 10]⟩ (y : Int) W
   rw [Int.toNat_natCast] at cI
   clear hM e1 hfl hfl2
   by_cases h39 : y = 39
   ·have hx : qb s[q] = [92, 39] := by rw [HC.out, HCE 39 (by omega) h39]; rfl
    have hi : Lib.indexByte (⟨#[39, 92, 125, 10]⟩ : ByteArray).data.toList y.toUInt8 = 0 := by rw [h39]; decide
    have cI2 := cI wr
    rw [hi] at cI2
    obtain ⟨ap, np, cp, rfl⟩ := hp.shape
    have hp3 := hp.lay [92, 39] #[.int .u8 92, .int .u8 39] rfl
    have HX : Hid (qb s[q] = [92, 39]) := hx
    clear cI hx hi HCE h39 hp
    go_wp2_with fail
    refine cI2.mono ?_
    rintro e w1 ⟨rfl, rfl⟩
    go_wp2_with (first | (at_builtin; refine list_bytes rfl _ _ rfl hp3 rfl _ _ [92, 39] rfl (by simp) (by simp only [List.length_cons, List.length_nil]; omega) ?_))
    intro v2 W2 hp4
    have HP4 := HE.out _ HX.out W2 v2 hp4.bare
    have HP5 : Hid (Pk B w0 W2 v2 (L ++ 39 :: (s.data.toList.take (q + 1)).flatMap qb) []) := HP4
    obtain ⟨a2, n2, c2, rfl⟩ := hp4.shape
    clear hp4 hp3 cI2 HP4
    go_wp2_with fail
    go_roundw
    case rel => exact ⟨q + 1, by omega, by go_num, HP5.out⟩
    case measure => simp only [intOf]; omega
   by_cases h92 : y = 92
   ·have hx : qb s[q] = [92, 92] := by rw [HC.out, HCE 92 (by omega) h92]; rfl
    have hi : Lib.indexByte (⟨#[39, 92, 125, 10]⟩ : ByteArray).data.toList y.toUInt8 = 1 := by rw [h92]; decide
    have cI2 := cI wr
    rw [hi] at cI2
    obtain ⟨ap, np, cp, rfl⟩ := hp.shape
    have hp3 := hp.lay [92, 92] #[.int .u8 92, .int .u8 92] rfl
    have HX : Hid (qb s[q] = [92, 92]) := hx
    clear cI hx hi HCE h92 hp
    go_wp2_with fail
    refine cI2.mono ?_
    rintro e w1 ⟨rfl, rfl⟩
    go_wp2_with (first | (at_builtin; refine list_bytes rfl _ _ rfl hp3 rfl _ _ [92, 92] rfl (by simp) (by simp only [List.length_cons, List.length_nil]; omega) ?_))
    intro v2 W2 hp4
    have HP4 := HE.out _ HX.out W2 v2 hp4.bare
    have HP5 : Hid (Pk B w0 W2 v2 (L ++ 39 :: (s.data.toList.take (q + 1)).flatMap qb) []) := HP4
    obtain ⟨a2, n2, c2, rfl⟩ := hp4.shape
    clear hp4 hp3 cI2 HP4
    go_wp2_with fail
    go_roundw
    case rel => exact ⟨q + 1, by omega, by go_num, HP5.out⟩
    case measure => simp only [intOf]; omega
   by_cases h125 : y = 125
   ·have hx : qb s[q] = [92, 125] := by rw [HC.out, HCE 125 (by omega) h125]; rfl
    have hi : Lib.indexByte (⟨#[39, 92, 125, 10]⟩ : ByteArray).data.toList y.toUInt8 = 2 := by rw [h125]; decide
    have cI2 := cI wr
    rw [hi] at cI2
    obtain ⟨ap, np, cp, rfl⟩ := hp.shape
    have hp3 := hp.lay [92, 125] #[.int .u8 92, .int .u8 125] rfl
    have HX : Hid (qb s[q] = [92, 125]) := hx
    clear cI hx hi HCE h125 hp
    go_wp2_with fail
    refine cI2.mono ?_
    rintro e w1 ⟨rfl, rfl⟩
    go_wp2_with (first | (at_builtin; refine list_bytes rfl _ _ rfl hp3 rfl _ _ [92, 125] rfl (by simp) (by simp only [List.length_cons, List.length_nil]; omega) ?_))
    intro v2 W2 hp4
    have HP4 := HE.out _ HX.out W2 v2 hp4.bare
    have HP5 : Hid (Pk B w0 W2 v2 (L ++ 39 :: (s.data.toList.take (q + 1)).flatMap qb) []) := HP4
    obtain ⟨a2, n2, c2, rfl⟩ := hp4.shape
    clear hp4 hp3 cI2 HP4
    go_wp2_with fail
    go_roundw
    case rel => exact ⟨q + 1, by omega, by go_num, HP5.out⟩
    case measure => simp only [intOf]; omega
   by_cases h10 : y = 10
   ·have hx : qb s[q] = [92, 110] := by rw [HC.out, HCE 10 (by omega) h10]; rfl
    have hi : Lib.indexByte (⟨#[39, 92, 125, 10]⟩ : ByteArray).data.toList y.toUInt8 = 3 := by rw [h10]; decide
    have cI2 := cI wr
    rw [hi] at cI2
    obtain ⟨ap, np, cp, rfl⟩ := hp.shape
    have hp3 := hp.lay [92, 110] #[.int .u8 92, .int .u8 110] rfl
    have HX : Hid (qb s[q] = [92, 110]) := hx
    clear cI hx hi HCE h10 hp
    go_wp2_with fail
    refine cI2.mono ?_
    rintro e w1 ⟨rfl, rfl⟩
    go_wp2_with (first | (at_builtin; refine list_bytes rfl _ _ rfl hp3 rfl _ _ [92, 110] rfl (by simp) (by simp only [List.length_cons, List.length_nil]; omega) ?_))
    intro v2 W2 hp4
    have HP4 := HE.out _ HX.out W2 v2 hp4.bare
    have HP5 : Hid (Pk B w0 W2 v2 (L ++ 39 :: (s.data.toList.take (q + 1)).flatMap qb) []) := HP4
    obtain ⟨a2, n2, c2, rfl⟩ := hp4.shape
    clear hp4 hp3 cI2 HP4
    go_wp2_with fail
    go_roundw
    case rel => exact ⟨q + 1, by omega, by go_num, HP5.out⟩
    case measure => simp only [intOf]; omega
   have hx : qb s[q] = [cc] := by
    rw [HC.out]
    have k1 : cc ≠ 39 := fun e => h39 (by rw [← hy, e]; rfl)
    have k2 : cc ≠ 92 := fun e => h92 (by rw [← hy, e]; rfl)
    have k3 : cc ≠ 125 := fun e => h125 (by rw [← hy, e]; rfl)
    have k4 : cc ≠ 10 := fun e => h10 (by rw [← hy, e]; rfl)
    unfold qb
    rw [if_neg k1, if_neg k2, if_neg k3, if_neg k4]
   have hi : Lib.indexByte (⟨#[39, 92, 125, 10]⟩ : ByteArray).data.toList y.toUInt8 = -1 := idx_no ⟨y, hy256⟩ h39 h92 h125 h10
   have cI2 := cI wr
   rw [hi] at cI2
   obtain ⟨ap, np, cp, rfl⟩ := hp.shape
   have hp3 := hp.lay [cc] #[.int .u8 (y : Int)] (by rw [← hy]; rfl)
   have HX : Hid (qb s[q] = [cc]) := hx
   clear cI hx hi HCE h39 h92 h125 h10 hp
   go_wp2_with fail
   refine cI2.mono ?_
   rintro e w1 ⟨rfl, rfl⟩
   go_wp2_with (first | (at_builtin; refine list_bytes rfl _ _ rfl hp3 rfl _ _ [cc] rfl (by simp) (by simp only [List.length_cons, List.length_nil]; omega) ?_))
   intro v2 W2 hp4
   have HP4 := HE.out _ HX.out W2 v2 hp4.bare
   have HP5 : Hid (Pk B w0 W2 v2 (L ++ 39 :: (s.data.toList.take (q + 1)).flatMap qb) []) := HP4
   obtain ⟨a2, n2, c2, rfl⟩ := hp4.shape
   clear hp4 hp3 cI2 HP4
   go_wp2_with fail
   go_roundw
   case rel => exact ⟨q + 1, by omega, by go_num, HP5.out⟩
   case measure => simp only [intOf]; omega
  ·obtain rfl : q = s.size := by omega
   have e1 : s.data.toList.take s.size = s.data.toList := List.take_of_length_le (show s.data.toList.length ≤ s.data.size from Nat.le_of_eq Array.length_toList)
   rw [e1] at hp hlenq
   have hp3 := hp.lay [39] #[.int .u8 39] rfl
   have HEQ : Hid ((L ++ 39 :: s.data.toList.flatMap qb) ++ [39] = L ++ qt s) := by show _ = _; unfold qt; simp
   obtain ⟨M, hM⟩ : ∃ M, L ++ 39 :: s.data.toList.flatMap qb = M := ⟨_, rfl⟩
   rw [hM] at hp3 hlenq HEQ hp
   obtain ⟨ap, np, cp, rfl⟩ := hp.shape
   clear hp hfl hfl2 e1 hM
   go_wp2_with (first | (at_builtin; refine list_bytes rfl _ _ rfl hp3 rfl _ _ [39] rfl (by simp) (by simp only [List.length_cons, List.length_nil]; omega) ?_))
   intro v2 W2 hp4
   have HP4 : Hid (Pk B w0 W2 v2 (L ++ qt s) []) := by show Pk B w0 W2 v2 _ []; rw [← HEQ.out]; exact hp4.bare
   obtain ⟨a2, n2, c2, rfl⟩ := hp4.shape
   clear hp4 hp3
   go_wp2_with fail
   go_ret
   exact ⟨_, rfl, HP4.out⟩
end Go.Proofs.YtghnhkagkngjcaaGreatDoor.PTx
