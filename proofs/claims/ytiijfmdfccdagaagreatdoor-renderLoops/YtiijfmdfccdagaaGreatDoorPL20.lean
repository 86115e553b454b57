import Derived.BigQuiet
import Derived.Deep.RegionHeld3
import Derived.Test.YtiijfmdfccdagaaGreatDoorPL00
import Derived.Test.YtiijfmdfccdagaaGreatDoorPL06
import Derived.Test.YtiijfmdfccdagaaGreatDoorPL16
import Derived.Test.YtiijfmdfccdagaaGreatDoorPL19
open Go.Proofs.Tryz
set_option linter.unusedVariables false
set_option maxRecDepth 20000
set_option maxHeartbeats 3200000
namespace Go.Proofs.YtiijfmdfccdagaaGreatDoor.GRe
open Go.RowKit Base GBu GBe GNs
open VPure hiding evL
open TBase (T)
open KBase (Pt Fld Co RP RF)
def TR (Bb : Nat) (w : World) (A : Except Nat (List T)) (e : Ending) (w' : World) : Prop := match A with
 | .ok F => e = .returned (.int .i64 0) /\ Below Bb w w' /\ F.length <= 65536 /\ ∃ lo X tv, Bt lo w' Bb X tv F
 | .error q => q ≠ 0 /\ e = .returned (.int .i64 q) /\ Below Bb w w'
def RR (w : World) (A : Except Nat (List T)) (e : Ending) (w' : World) : Prop := Below w.heap.size w w' /\ match A with
 | .ok F => ∃ m tv, e = .returned (.tuple #[tv, .int .i64 0]) /\ TBase.InL false (fun _ => True) w' m tv F
 | .error q => e = .returned (.tuple #[.slice none 0 0, .int .i64 q])
theorem render_of {w W0 : World} {cv nv lv : Value} {k i : Int} {b : Bool} {s : ByteArray} {A : Except Nat (List T)} (hW0 : (w.alloc (.cells #[.int .i64 k, .bool b, .int .i64 i, .string s, nv, lv] 26)).alloc (.cells #[.slice none 0 0] 68) = W0)
  (hT : Calls prog 27 #[cv, .agg #[.int .i64 k, .bool b, .int .i64 i, .string s, nv, lv], mkr (w.heap.size + 1)] W0 fun e w' => TR (w.heap.size + 1) W0 A e w') : Calls prog 9 #[cv, .agg #[.int .i64 k, .bool b, .int .i64 i, .string s, nv, lv]] w fun e w' => RR w A e w' := by
 have b0 : Below w.heap.size w W0 := by rw [<- hW0]; exact ((Below.refl _ w).alloc (Nat.le_refl _) _).alloc (by simp) _
 have g1 : (w.alloc (.cells #[.int .i64 k, .bool b, .int .i64 i, .string s, nv, lv] 26)).heap[w.heap.size]? = some (.cells #[.int .i64 k, .bool b, .int .i64 i, .string s, nv, lv] 26 (0, 0)) := heap_alloc_new w _
 have g2 : W0.heap[w.heap.size]? = some (.cells #[.int .i64 k, .bool b, .int .i64 i, .string s, nv, lv] 26 (0, 0)) := by rw [<- hW0, Below.heap_alloc _ _ _ (by simp), g1]
 obtain ⟨c0, c1, c2, c3, c4, c5⟩ := six_box g2
 have HB := hid b0
 clear g1 g2 b0
 cases A with
 | error q =>
  have hne : ((q : Int) != 0) = true := by
   obtain ⟨_, _, _, h, _⟩ := hT []
   have := h.1
   simp; omega
  go_enter func9, ntmps9
  go_wp2_with (first
   | (go_at_call 27; refine hT.mono ?_; rintro e w' ⟨hq, rfl, hb⟩))
  go_ret2
  exact ⟨HB.out.trans (hb.mono (by omega)), rfl⟩
 | ok F =>
  go_enter func9, ntmps9
  go_wp2_with (first
   | (go_at_call 27; refine hT.mono ?_; rintro e w' ⟨rfl, hb, hF, lo, X, tv, hbt⟩; have kk : w'.cell? ⟨w.heap.size + 1, 0, none⟩ = some tv := by simp [World.cell?, hbt.box]))
  go_ret2
  obtain ⟨m, hL⟩ := bt_inL (lo := lo) (tv := .slice none 0 0) hbt (Nat.le_refl _) (fun g e => by cases e) hF
  exact ⟨HB.out.trans (hb.mono (by omega)), m, tv, rfl, hL.weak (fun _ _ => trivial) false id m (Nat.le_refl _)⟩
end Go.Proofs.YtiijfmdfccdagaaGreatDoor.GRe
namespace Go.Proofs.YtiijfmdfccdagaaGreatDoor.SBe
open Go.RowKit Base EPure SFit
open XBase (four_box frozen_box Four)
def bhL (lf : Int -> Int -> ByteArray -> Bool) : List Ex -> Int -> Int
 | [], r => r
 | .mk o i s l :: t, r => bhL lf t (if r <= 0 \/ (l.length : Int) ≠ kd o \/ ft lf o i s = false then -1 else bhL lf l (r - 1))
theorem bhL_nil (lf : Int -> Int -> ByteArray -> Bool) (r : Int) : bhL lf [] r = r := by rw [bhL]
theorem bhL_no {lf : Int -> Int -> ByteArray -> Bool} {o i : Int} {s : ByteArray} {l : List Ex} {r : Int} (h : r <= 0 \/ (l.length : Int) ≠ kd o \/ ft lf o i s = false) : bhL lf [.mk o i s l] r = -1 := by
 rw [bhL, if_pos h, bhL_nil]
theorem bhL_one {lf : Int -> Int -> ByteArray -> Bool} {o i : Int} {s : ByteArray} {l : List Ex} {r : Int} (h : ¬ (r <= 0 \/ (l.length : Int) ≠ kd o \/ ft lf o i s = false)) : bhL lf [.mk o i s l] r = bhL lf l (r - 1) := by
 rw [bhL, if_neg h, bhL_nil]
theorem bhL_cons (lf : Int -> Int -> ByteArray -> Bool) (x : Ex) (t : List Ex) (r : Int) : bhL lf (x :: t) r = bhL lf t (bhL lf [x] r) := by
 obtain ⟨o, i, s, l⟩ := x
 rw [bhL, bhL, bhL_nil]
theorem bhL_le (lf : Int -> Int -> ByteArray -> Bool) : ∀ (n : Nat) (l : List Ex) (r : Int), SizeOf.sizeOf l <= n -> -1 <= r -> -1 <= bhL lf l r /\ bhL lf l r <= r := by
 intro n
 induction n with
 | zero =>
  intro l r h hr
  cases l with
  | nil => rw [bhL_nil]; omega
  | cons x t => exact absurd h (by simp)
 | succ n ih =>
  intro l r h hr
  cases l with
  | nil => rw [bhL_nil]; omega
  | cons x t =>
   obtain ⟨o, i, s, k⟩ := x
   rw [bhL]
   by_cases hc : r <= 0 \/ (k.length : Int) ≠ kd o \/ ft lf o i s = false
   ·rw [if_pos hc]
    have := ih t (-1) (by simp at h; omega) (by omega)
    omega
   ·rw [if_neg hc]
    have h1 := ih k (r - 1) (by simp at h; omega) (by omega)
    have h2 := ih t (bhL lf k (r - 1)) (by simp at h; omega) h1.1
    omega
def BI (k : Nat) (lf : Int -> Int -> ByteArray -> Bool) (m : Nat) : Prop := ∀ (w : World) (v : Value) (x : Ex) (r : Int), XBase.In false (fun _ => True) w m v x -> -1 <= r -> r <= 65536 ->
  Calls prog 86 #[.int .i64 r, v, lfv k] w fun e w' => e = .returned (.int .i64 (bhL lf [x] r)) /\ Below w.heap.size w w'
theorem be_full {k : Nat} {lf : Int -> Int -> ByteArray -> Bool} {w : World} {o i : Int} {s : ByteArray} {l : List Ex} {a : Option Addr} {cap : Nat} {r : Int} (ho : -9223372036854775808 <= o /\ o <= 9223372036854775807) (hl : l.length <= 140737488351232) (hcap : l.length <= cap /\ cap <= 9223372036854775807) (hs : s.size <= 140737488351232) (hr1 : -1 <= r) (hr5 : r <= 65536) (h0 : r <= 0) :
  Calls prog 86 #[.int .i64 r, .agg #[.int .i64 o, .int .i64 i, .string s, .slice a l.length cap], lfv k] w fun e w' => e = .returned (.int .i64 (-1)) /\ Below w.heap.size w w' := by
 obtain ⟨W0, hW0⟩ : ∃ W0, w.alloc (.cells #[.int .i64 o, .int .i64 i, .string s, .slice a l.length cap] 47) = W0 := ⟨_, rfl⟩
 have b0 := alB hW0
 have q0 := alG hW0
 obtain ⟨v0, v1, v2, v3⟩ := four_box q0
 have HB0 := hid b0
 have HQ0 := hid q0
 have cK := fun W => kidsOf_c o ho.1 ho.2 W
 have e0 : decide (r <= 0) = true := decide_eq_true h0
 clear q0 b0 h0
 go_enter func86, ntmps86
 go_wp2_with fail
 clear hW0
 go_quiet (first | (go_at_call 115; exact Calls.quiet_of_same (cK _)))
 go_wp2_with fail
 go_ret
 exact ⟨rfl, HB0.out.trans ⟨rfl, rfl, rfl, by simp, fun _ _ => by simp⟩⟩
theorem be_kids {k : Nat} {lf : Int -> Int -> ByteArray -> Bool} {w : World} {o i : Int} {s : ByteArray} {l : List Ex} {a : Option Addr} {cap : Nat} {r : Int} (ho : -9223372036854775808 <= o /\ o <= 9223372036854775807) (hl : l.length <= 140737488351232) (hcap : l.length <= cap /\ cap <= 9223372036854775807) (hs : s.size <= 140737488351232) (hr1 : -1 <= r) (hr5 : r <= 65536) (h0 : ¬ r <= 0) (hk : (l.length : Int) ≠ kd o) :
  Calls prog 86 #[.int .i64 r, .agg #[.int .i64 o, .int .i64 i, .string s, .slice a l.length cap], lfv k] w fun e w' => e = .returned (.int .i64 (-1)) /\ Below w.heap.size w w' := by
 obtain ⟨W0, hW0⟩ : ∃ W0, w.alloc (.cells #[.int .i64 o, .int .i64 i, .string s, .slice a l.length cap] 47) = W0 := ⟨_, rfl⟩
 have b0 := alB hW0
 have q0 := alG hW0
 obtain ⟨v0, v1, v2, v3⟩ := four_box q0
 have HB0 := hid b0
 have HQ0 := hid q0
 have cK := fun W => kidsOf_c o ho.1 ho.2 W
 have e0 : decide (r <= 0) = false := decide_eq_false h0
 obtain ⟨K, hK⟩ : ∃ K, kd o = K := ⟨_, rfl⟩
 rw [hK] at cK hk
 have e1 : ((l.length : Int) != K) = true := by simpa using hk
 clear q0 b0 h0 hk hK
 go_enter func86, ntmps86
 go_wp2_with fail
 clear hW0
 go_quiet (first | (go_at_call 115; exact Calls.quiet_of_same (cK _)))
 go_wp2_with fail
 go_ret
 exact ⟨rfl, HB0.out.trans ⟨rfl, rfl, rfl, by simp, fun _ _ => by simp⟩⟩
theorem be_unfit {k : Nat} {lf : Int -> Int -> ByteArray -> Bool} {w : World} {o i : Int} {s : ByteArray} {l : List Ex} {a : Option Addr} {cap : Nat} {r : Int} (ho : -9223372036854775808 <= o /\ o <= 9223372036854775807) (hl : l.length <= 140737488351232) (hcap : l.length <= cap /\ cap <= 9223372036854775807) (hs : s.size <= 140737488351232) (hr1 : -1 <= r) (hr5 : r <= 65536) (hL : Lf k lf) (h0 : ¬ r <= 0) (hk : (l.length : Int) = kd o) (hf : ft lf o i s = false) :
  Calls prog 86 #[.int .i64 r, .agg #[.int .i64 o, .int .i64 i, .string s, .slice a l.length cap], lfv k] w fun e w' => e = .returned (.int .i64 (-1)) /\ Below w.heap.size w w' := by
 obtain ⟨W0, hW0⟩ : ∃ W0, w.alloc (.cells #[.int .i64 o, .int .i64 i, .string s, .slice a l.length cap] 47) = W0 := ⟨_, rfl⟩
 have b0 := alB hW0
 have q0 := alG hW0
 obtain ⟨v0, v1, v2, v3⟩ := four_box q0
 have HB0 := hid b0
 have HQ0 := hid q0
 have cK := fun W => kidsOf_c o ho.1 ho.2 W
 have e0 : decide (r <= 0) = false := decide_eq_false h0
 obtain ⟨K, hK⟩ : ∃ K, kd o = K := ⟨_, rfl⟩
 rw [hK] at cK hk
 have e1 : ((l.length : Int) != K) = false := by simpa using hk
 have cF := fun W => fits_c hL (o := o) (i := i) (a := a) (n := l.length) (c := cap) hs W
 rw [hf] at cF
 have hz0 : W0.heap.size = w.heap.size + 1 := by rw [<- hW0]; simp
 clear q0 b0 h0 hk hK hf
 go_enter func86, ntmps86
 go_wp2_with fail
 clear hW0
 go_region_held3 (fun w' => w'.cell? ⟨w.heap.size, 0, none⟩ = some (.int .i64 o) /\ w'.cell? ⟨w.heap.size, 1, none⟩ = some (.int .i64 i) /\ w'.cell? ⟨w.heap.size, 2, none⟩ = some (.string s) /\ w'.cell? ⟨w.heap.size, 3, none⟩ = some (.slice a l.length cap)) (go_keep) (first | (go_at_call 115; refine (cK _).mono ?_; rintro e W1 ⟨rfl, rfl⟩) | (go_at_call 116; refine (cF _).mono ?_; rintro e W2 ⟨rfl, b2⟩; have Q2 := (b2.block w.heap.size (show w.heap.size < W0.heap.size by omega)).trans HQ0.out; obtain ⟨u0, u1, u2, u3⟩ := four_box Q2) | fail)
 all_goals
  rename_i hHeld
  clear hHeld
  have B2 : Below w.heap.size w W2 := (HB0.out.trans (Below.refl _ W0).drew).trans (b2.mono HB0.out.size)
  clear u0 u1 u2 u3 Q2
  have HB2 := hid B2
  clear B2 b2
  go_wp2_with fail
  go_ret
  exact ⟨rfl, HB2.out⟩
theorem be_go {k : Nat} {lf : Int -> Int -> ByteArray -> Bool} {w : World} {o i : Int} {s : ByteArray} {l : List Ex} {a : Option Addr} {cap : Nat} {r : Int} (ho : -9223372036854775808 <= o /\ o <= 9223372036854775807) (hl : l.length <= 140737488351232) (hcap : l.length <= cap /\ cap <= 9223372036854775807) (hs : s.size <= 140737488351232) (hr1 : -1 <= r) (hr5 : r <= 65536) (hL : Lf k lf) {m : Nat} (ih : BI k lf m) (hin : XBase.InL false (fun _ => True) w m (.slice a l.length cap) l) (h0 : ¬ r <= 0) (hk : (l.length : Int) = kd o) (hf : ft lf o i s = true) :
  Calls prog 86 #[.int .i64 r, .agg #[.int .i64 o, .int .i64 i, .string s, .slice a l.length cap], lfv k] w fun e w' => e = .returned (.int .i64 (bhL lf l (r - 1))) /\ Below w.heap.size w w' := by
 obtain ⟨W0, hW0⟩ : ∃ W0, w.alloc (.cells #[.int .i64 o, .int .i64 i, .string s, .slice a l.length cap] 47) = W0 := ⟨_, rfl⟩
 have b0 := alB hW0
 have q0 := alG hW0
 obtain ⟨v0, v1, v2, v3⟩ := four_box q0
 have HB0 := hid b0
 have HQ0 := hid q0
 have cK := fun W => kidsOf_c o ho.1 ho.2 W
 have e0 : decide (r <= 0) = false := decide_eq_false h0
 obtain ⟨K, hK⟩ : ∃ K, kd o = K := ⟨_, rfl⟩
 rw [hK] at cK hk
 have e1 : ((l.length : Int) != K) = false := by simpa using hk
 have cF := fun W => fits_c hL (o := o) (i := i) (a := a) (n := l.length) (c := cap) hs W
 rw [hf] at cF
 have hz0 : W0.heap.size = w.heap.size + 1 := by rw [<- hW0]; simp
 have HIN := hid hin
 obtain ⟨T, hT⟩ : ∃ T, bhL lf l (r - 1) = T := ⟨_, rfl⟩
 rw [hT]
 have HT := hid hT
 have hwr : IntKind.i64.wrap (r - 1) = r - 1 := by rw [IntKind.wrap_i64]; omega
 clear q0 b0 hk hK hf hin hT
 go_enter func86, ntmps86
 go_wp2_with fail
 clear hW0
 go_region_held3 (fun w' => w'.cell? ⟨w.heap.size, 0, none⟩ = some (.int .i64 o) /\ w'.cell? ⟨w.heap.size, 1, none⟩ = some (.int .i64 i) /\ w'.cell? ⟨w.heap.size, 2, none⟩ = some (.string s) /\ w'.cell? ⟨w.heap.size, 3, none⟩ = some (.slice a l.length cap)) (go_keep) (first | (go_at_call 115; refine (cK _).mono ?_; rintro e W1 ⟨rfl, rfl⟩) | (go_at_call 116; refine (cF _).mono ?_; rintro e W2 ⟨rfl, b2⟩; have Q2 := (b2.block w.heap.size (show w.heap.size < W0.heap.size by omega)).trans HQ0.out; obtain ⟨u0, u1, u2, u3⟩ := four_box Q2) | fail)
 all_goals
  rename_i hHeld
  clear hHeld
  have B2 : Below w.heap.size w W2 := (HB0.out.trans (Below.refl _ W0).drew).trans (b2.mono HB0.out.size)
  have HB2 := hid B2
  clear B2 b2 Q2 cF cK HB0 HQ0 v0 v1 v2 v3
  go_wp2_with fail
  clear u0 u1 u2 u3
  go_loopw [31, 0] (fun v1 v2 wr => ∃ (q : Nat) (r' : Int), v1 = .int .i64 q /\ v2 = .int .i64 r' /\ q <= l.length /\ -1 <= r' /\ r' <= 65536 /\ Below w.heap.size w wr /\ bhL lf (l.drop q) r' = T) (fun v1 _ _ => l.length - (intOf v1).toNat)
  case atStart => exact ⟨0, r - 1, rfl, rfl, by omega, by omega, by omega, HB2.out, HT.out⟩
  case round =>
   clear HB2 HT
   obtain ⟨q, r', rfl, rfl, hq, hr1, hr2, hB, hM⟩ := hrel
   have HM := hid hM
   have HBR := hid hB
   have hsz := hB.size
   clear hM hB
   by_cases hlt : q < l.length
   ·have d0 : decide ((q : Int) < (l.length : Int)) = true := by simp; omega
    have hinl := HIN.out.keep (w' := wr) (fun b _ hlt => HBR.out.block b hlt)
    obtain ⟨aa, cc, hsl, -, -, -, -, hLA⟩ := hinl
    cases hsl
    obtain ⟨g, of, u, ha, hSg, hFour, hInq⟩ := XBase.elem_at hLA hlt
    subst ha
    obtain ⟨c0, c1, c2, c3, rfl, d1, d2, d3, d4⟩ := hFour
    obtain ⟨m', a2, cp2, -, rfl, rfl, rfl, rfl, hob, hib, hsb, -⟩ := hInq.kinds
    obtain ⟨y, hy⟩ : ∃ y, l[q] = y := ⟨_, rfl⟩
    rw [hy] at hInq d1 d2 d3 d4
    obtain ⟨W4, hW4⟩ : ∃ W4, wr.alloc (.cells #[.int .i64 y.o, .int .i64 y.i, .string y.s, .slice a2 y.l.length cp2] 47) = W4 := ⟨_, rfl⟩
    have b4 := alB hW4
    have q4 := alG hW4
    obtain ⟨e0', e1', e2', e3'⟩ := four_box q4
    have cM := ih W4 _ y r' (hInq.below b4) hr1 hr2
    have hstep := bhL_cons lf y (l.drop (q + 1)) r'
    have hdrop : l.drop q = y :: l.drop (q + 1) := by rw [<- hy]; exact List.drop_eq_getElem_cons hlt
    have HST : Hid (bhL lf (l.drop (q + 1)) (bhL lf [y] r') = T) := by
     show _ = _
     rw [<- hstep, <- hdrop]
     exact HM.out
    have hle := bhL_le lf _ [y] r' (Nat.le_refl _) hr1
    obtain ⟨Z, hZ⟩ : ∃ Z, bhL lf [y] r' = Z := ⟨_, rfl⟩
    have HST2 : Hid (bhL lf (l.drop (q + 1)) Z = T) := by rw [<- hZ]; exact HST.out
    rw [hZ] at cM hle
    have hcapq := hcap.1
    clear hstep hdrop HST hZ hInq q4 hLA HM hob hib hsb
    go_wp2_with fail
    refine cM.mono ?_
    rintro e W5 ⟨rfl, B5⟩
    have HKK := hid (nx (nx HBR.out b4) B5)
    clear cM B5 b4 hW4 d1 d2 d3 d4 e0' e1' e2' e3' HBR
    go_wp2_with fail
    go_roundw
    case rel => exact ⟨q + 1, Z, by go_num, rfl, by omega, by omega, by omega, HKK.out, HST2.out⟩
    case measure => simp only [intOf]; omega
   ·have d0 : decide ((q : Int) < (l.length : Int)) = false := by simp; omega
    have hT : r' = T := by
     have := HM.out
     rw [List.drop_eq_nil_of_le (by omega), bhL_nil] at this
     exact this
    subst hT
    go_wp2_with fail
    go_ret
    exact ⟨rfl, HBR.out⟩
theorem be_all {k : Nat} {lf : Int -> Int -> ByteArray -> Bool} (hL : Lf k lf) : ∀ m, BI k lf m
 | 0 => by
  intro w v x r h
  rw [XBase.In] at h
  exact h.elim
 | m + 1 => by
  intro w v x r h hr1 hr2
  obtain ⟨o, i, s, l⟩ := x
  rw [XBase.in_iff] at h
  obtain ⟨lv, rfl, ho, hi, hs, hl⟩ := h
  have hl0 := hl
  obtain ⟨a, cap, rfl, h1, h2, h3, -, -⟩ := hl
  by_cases h0 : r <= 0
  ·rw [bhL_no (.inl h0)]
   exact be_full (lf := lf) ho (by omega) ⟨h1, h2⟩ hs hr1 hr2 h0
  ·by_cases hk : (l.length : Int) = kd o
   ·cases hf : ft lf o i s with
    | false =>
     rw [bhL_no (.inr (.inr hf))]
     exact be_unfit ho (by omega) ⟨h1, h2⟩ hs hr1 hr2 hL h0 hk hf
    | true =>
     rw [bhL_one (fun h => h.elim h0 (fun h => h.elim (fun h => h hk) (fun h => by rw [hf] at h; cases h)))]
     exact be_go ho (by omega) ⟨h1, h2⟩ hs hr1 hr2 hL (be_all hL m) hl0 h0 hk hf
   ·rw [bhL_no (.inr (.inl hk))]
    exact be_kids (lf := lf) ho (by omega) ⟨h1, h2⟩ hs hr1 hr2 h0 hk
theorem tree_c {k : Nat} {lf : Int -> Int -> ByteArray -> Bool} (hL : Lf k lf) {m : Nat} {w : World} {v : Value} {x : Ex} {r : Int} (hin : XBase.In false (fun _ => True) w m v x) (h1 : 0 <= r) (h2 : r <= 65536) :
  Calls prog 61 #[v, .int .i64 r, lfv k] w fun e w' => e = .returned (.bool (decide (0 <= bhL lf [x] r))) /\ Below w.heap.size w w' := by
 obtain ⟨m', lv, rfl, rfl, -⟩ := hin.shape
 have b0 : Below w.heap.size w (w.alloc (.cells #[.int .i64 x.o, .int .i64 x.i, .string x.s, lv] 47)) := (Below.refl _ w).alloc (Nat.le_refl _) _
 have cB := be_all hL (m' + 1) (w.alloc (.cells #[.int .i64 x.o, .int .i64 x.i, .string x.s, lv] 47)) _ x r (hin.below b0) (by omega) h2
 obtain ⟨Z, hZ⟩ : ∃ Z, bhL lf [x] r = Z := ⟨_, rfl⟩
 rw [hZ] at cB ⊢
 clear hZ hL
 go_enter func61, ntmps61
 go_wp2_with fail
 refine cB.mono ?_
 rintro e W1 ⟨rfl, b1⟩
 go_wp2_with fail
 go_ret
 exact ⟨rfl, nx b0 b1⟩
end Go.Proofs.YtiijfmdfccdagaaGreatDoor.SBe
namespace Go.Proofs.YtiijfmdfccdagaaGreatDoor.STx
open Go.RowKit Base UBase UValid UOwn
def tg (s : ByteArray) : Bool := decide (s.size <= 4096) && (verr s == 0)
theorem iter_below (w : World) (s : ByteArray) (p : Nat) : Below w.heap.size w (w.iter s p) := (Below.refl _ w).alloc (Nat.le_refl _) _
theorem verr_cases (s : ByteArray) : verr s = 0 \/ verr s = 300 := by
 cases h : bad s 0 with
 | none => exact .inl (verr_none h).2
 | some i => exact .inr (verr_some h).2
theorem tmb_c (s : ByteArray) (hs : s.size <= 140737488351232) (w : World) :
  Calls prog 63 #[.string s] w fun r w' => r = .returned (.bool (tg s)) /\ Below w.heap.size w w' := by
 have c71 := valid_c s (by omega) w
 by_cases h : s.size <= 4096
 ·have e : tg s = (verr s == 0) := by simp [tg, h]
  rw [e]
  have hv := verr_cases s
  generalize verr s = x at *
  generalize vat s = y at *
  have h' : decide ((4096 : Int) < (s.size : Int)) = false := decide_eq_false (by omega)
  clear e
  rcases hv with rfl | rfl
  ·go_enter func63, ntmps63
   go_wp2_with (first | (go_at_call 87; refine c71.mono ?_; rintro e w' ⟨rfl, p, rfl⟩))
   go_ret
   exact ⟨rfl, iter_below _ _ _⟩
  ·go_enter func63, ntmps63
   go_wp2_with (first | (go_at_call 87; refine c71.mono ?_; rintro e w' ⟨rfl, p, rfl⟩))
   go_ret
   exact ⟨rfl, iter_below _ _ _⟩
 ·have e : tg s = false := by simp [tg, h]
  rw [e]
  have h' : decide ((4096 : Int) < (s.size : Int)) = true := decide_eq_true (by omega)
  clear c71 e
  go_enter func63, ntmps63
  go_wp2_with fail
  go_ret
  exact ⟨rfl, Below.refl _ _⟩
end Go.Proofs.YtiijfmdfccdagaaGreatDoor.STx
namespace Go.Proofs.YtiijfmdfccdagaaGreatDoor.KSh
open Go.RowKit Base EPure KBase
open XBase (four_box frozen_box Four)
open SFit (ne ret_bool Lf lfv)
open STx (tg tmb_c)
def rlf (o i : Int) (t : ByteArray) : Bool := if o = 6 then t.size == 0 else (i == 0) && tg t
def rsv (x : Ex) : Bool := decide (0 <= SBe.bhL rlf [x] 1024)
theorem leaf_c : Lf 62 rlf := by
 refine ⟨fun args w => by go_simp, ?_⟩
 intro o i t a n c w ho ht
 have b0 : Below w.heap.size w (w.alloc (.cells #[.int .i64 o, .int .i64 i, .string t, .slice a n c] 47)) := (Below.refl _ w).alloc (Nat.le_refl _) _
 have hne := ne t
 by_cases h6 : o = 6
 ·have e : rlf o i t = (t.size == 0) := by unfold rlf; rw [if_pos h6]
  rw [e]
  obtain ⟨z, hz⟩ : ∃ z, (t.size == 0) = z := ⟨_, rfl⟩
  rw [hz] at hne ⊢
  subst h6
  clear e hz ho
  go_enter func62, ntmps62
  go_wp2_with fail
  go_ret
  exact ⟨ret_bool rfl, b0⟩
 ·obtain rfl : o = 5 := by omega
  have e : rlf 5 i t = ((i == 0) && tg t) := rfl
  rw [e]
  have cT := tmb_c t ht (w.alloc (.cells #[.int .i64 5, .int .i64 i, .string t, .slice a n c] 47))
  obtain ⟨z, hz⟩ : ∃ z, tg t = z := ⟨_, rfl⟩
  rw [hz] at cT ⊢
  clear e hz ho h6
  cases hi : (i == 0) with
  | true =>
   rw [Bool.true_and]
   go_enter func62, ntmps62
   go_wp2_with fail
   refine cT.mono ?_
   rintro e W1 ⟨rfl, b1⟩
   go_wp2_with fail
   go_ret
   exact ⟨rfl, nx b0 b1⟩
  | false =>
   rw [Bool.false_and]
   go_enter func62, ntmps62
   go_wp2_with fail
   go_ret
   exact ⟨rfl, b0⟩
theorem resolved_c {m : Nat} {w : World} {v : Value} {x : Ex} (hin : XBase.In false (fun _ => True) w m v x) :
  Calls prog 40 #[v] w fun e w' => e = .returned (.bool (rsv x)) /\ Below w.heap.size w w' := by
 obtain ⟨m', lv, rfl, rfl, -⟩ := hin.shape
 have b0 : Below w.heap.size w (w.alloc (.cells #[.int .i64 x.o, .int .i64 x.i, .string x.s, lv] 47)) := (Below.refl _ w).alloc (Nat.le_refl _) _
 have cB := SBe.tree_c leaf_c (r := 1024) (hin.below b0) (by omega) (by omega)
 obtain ⟨Z, hZ⟩ : ∃ Z, rsv x = Z := ⟨_, rfl⟩
 have hZ' : decide (0 <= SBe.bhL rlf [x] 1024) = Z := hZ
 rw [hZ'] at cB
 rw [hZ]
 clear hZ hZ'
 go_enter func40, ntmps40
 go_wp2_with fail
 refine cB.mono ?_
 rintro e W1 ⟨rfl, b1⟩
 go_wp2_with fail
 go_ret
 exact ⟨rfl, nx b0 b1⟩
def nn (x : Ex) : Bool := (x.o == 0) && ((x.i == 0) && ((x.s.size == 0) && ((x.l.length : Int) == 0)))
theorem none_c {w : World} {x : Ex} {a : Option Addr} {cap : Nat} (hl : x.l.length <= 140737488351232) :
  Calls prog 186 #[.agg #[.int .i64 x.o, .int .i64 x.i, .string x.s, .slice a x.l.length cap]] w fun e w' => e = .returned (.bool (nn x)) /\ Below w.heap.size w w' := by
 have b0 : Below w.heap.size w (w.alloc (.cells #[.int .i64 x.o, .int .i64 x.i, .string x.s, .slice a x.l.length cap] 47)) := (Below.refl _ w).alloc (Nat.le_refl _) _
 unfold nn
 have hne := ne x.s
 obtain ⟨o, ho⟩ : ∃ o, x.o = o := ⟨_, rfl⟩
 obtain ⟨i, hi⟩ : ∃ i, x.i = i := ⟨_, rfl⟩
 obtain ⟨s, hs⟩ : ∃ s, x.s = s := ⟨_, rfl⟩
 obtain ⟨n, hn⟩ : ∃ n, x.l.length = n := ⟨_, rfl⟩
 rw [ho, hi, hs, hn] at b0
 rw [hn] at hl
 rw [hs] at hne
 rw [ho, hi, hs, hn]
 clear ho hi hs hn
 suffices H : ∀ (x0 x1 x2 x3 : Bool), (o == 0) = x0 -> (i == 0) = x1 -> s.toList.isEmpty = x2 -> ((n : Int) == 0) = x3 -> Calls prog 186 #[.agg #[.int .i64 o, .int .i64 i, .string s, .slice a n cap]] w fun e w' => e = .returned (.bool (x0 && (x1 && (x2 && x3)))) /\ Below w.heap.size w w' by
  have := H _ _ _ _ rfl rfl rfl rfl
  rw [hne] at this
  exact this
 clear hne
 intro x0 x1 x2 x3 h0 h1 h2 h3
 cases x0
 all_goals try cases x1
 all_goals try cases x2
 all_goals
  go_enter func186, ntmps186
  go_wp2_with fail
  go_ret
  exact ⟨ret_bool rfl, b0⟩
def vOk (c : Pt) : Bool := if c.b = true then c.p.size == 0 else tg c.p && nn c.e
theorem six_new {w : World} (v0 v1 v2 v3 v4 v5 : Value) (t : TypeId) : ∃ W, w.alloc (.cells #[v0, v1, v2, v3, v4, v5] t) = W /\ Below w.heap.size w W /\ W.heap.size = w.heap.size + 1 /\ W.heap[w.heap.size]? = some (.cells #[v0, v1, v2, v3, v4, v5] t (0, 0)) :=
 ⟨_, rfl, (Below.refl _ w).alloc (Nat.le_refl _) _, by simp, heap_alloc_new w _⟩
theorem value_c {w : World} {u : Value} {c : Pt} {S : Nat -> Prop} {r : Bool} (hin : InP r S w u c) :
  Calls prog 173 #[u] w fun e w' => e = .returned (.bool (vOk c)) /\ Below w.heap.size w w' := by
 obtain ⟨m, e0, e1, e2, e3, rfl, hp, hx⟩ := hin
 obtain ⟨m', a, cap, rfl, rfl, rfl, rfl, rfl, -, -, -, hl⟩ := hx.kinds
 obtain ⟨aa, cc, hsl, -, -, hl, -, -⟩ := hl
 cases hsl
 obtain ⟨p, b, x⟩ := c
 dsimp only at hp hx hl ⊢
 obtain ⟨W0, hW0, b0, hs0, q0⟩ := six_new (w := w) (.string p) (.bool b) (.int .i64 x.o) (.int .i64 x.i) (.string x.s) (.slice a x.l.length cap) 89
 obtain ⟨k0, k1, k2, k3, k4, k5⟩ := six_box q0
 have HB0 := hid b0
 have HQ0 := hid q0
 have hne := ne p
 clear b0 q0 hx
 cases b with
 | true =>
  have e : vOk ⟨p, true, x⟩ = (p.size == 0) := rfl
  rw [e]
  obtain ⟨z, hz⟩ : ∃ z, (p.size == 0) = z := ⟨_, rfl⟩
  rw [hz] at hne ⊢
  clear e hz
  go_enter func173, ntmps173
  go_wp2_with fail
  try rw [hW0]
  go_ret
  exact ⟨ret_bool rfl, HB0.out⟩
 | false =>
  have e : vOk ⟨p, false, x⟩ = (tg p && nn x) := rfl
  rw [e]
  have cT := tmb_c p hp W0
  have cN := fun W => none_c (w := W) (x := x) (a := a) (cap := cap) (by omega)
  obtain ⟨y, hy⟩ : ∃ y, nn x = y := ⟨_, rfl⟩
  rw [hy] at cN ⊢
  clear e hy
  cases hz : tg p with
  | true =>
   rw [hz] at cT
   rw [Bool.true_and]
   go_enter func173, ntmps173
   go_wp2_with fail
   try rw [hW0]
   refine cT.mono ?_
   rintro e W1 ⟨rfl, b1⟩
   obtain ⟨j0, j1, j2, j3, j4, j5⟩ := six_box ((b1.block w.heap.size (by omega)).trans HQ0.out)
   have HB1 := hid (nx HB0.out b1)
   clear b1 cT
   go_wp2_with fail
   refine (cN _).mono ?_
   rintro e W2 ⟨rfl, b2⟩
   have HB2 := hid (nx HB1.out b2)
   clear b2
   go_wp2_with fail
   go_ret
   exact ⟨rfl, HB2.out⟩
  | false =>
   rw [hz] at cT
   rw [Bool.false_and]
   go_enter func173, ntmps173
   go_wp2_with fail
   try rw [hW0]
   refine cT.mono ?_
   rintro e W1 ⟨rfl, b1⟩
   have HB1 := hid (nx HB0.out b1)
   clear b1 cT
   go_wp2_with fail
   go_ret
   exact ⟨rfl, HB1.out⟩
end Go.Proofs.YtiijfmdfccdagaaGreatDoor.KSh
namespace Go.Proofs.YtiijfmdfccdagaaGreatDoor.KRo
open Go.RowKit Base KBase KSh
open SFit (ne ret_bool)
def rw1 : Bool -> List Pt -> Bool
 | _, [] => true
 | z, c :: t => (c.b || ((!(c.p.size == 0)) && z)) && rw1 c.b t
def pv (l : List Pt) : Nat -> Bool
 | 0 => true
 | q + 1 => match l[q]? with
  | some c => c.b
  | none => true
def rowOk (l : List Pt) : Bool := rw1 true l && decide (0 < (l.length : Int))
theorem pv_succ (l : List Pt) (q : Nat) (h : q < l.length) : pv l (q + 1) = l[q].b := by
 simp only [pv, List.getElem?_eq_getElem h]
theorem row_c {w : World} {v : Value} {l : List Pt} {S : Nat -> Prop} {r : Bool} (hin : RP r S w v l) :
  Calls prog 174 #[v] w fun e w' => e = .returned (.bool (rowOk l)) /\ Below w.heap.size w w' := by
 obtain ⟨a, cap, rfl, hlc, hcm, hlen, hnil, hL⟩ := hin
 have HL := hid hL
 obtain ⟨T, hT⟩ : ∃ T, rw1 true l = T := ⟨_, rfl⟩
 have HT := hid hT
 have e : rowOk l = (T && decide (0 < (l.length : Int))) := by unfold rowOk; rw [hT]
 rw [e]
 clear e hT hL
 go_enter func174, ntmps174
 go_wp2_with fail
 go_loopw [7] (fun i wr => ∃ q : Nat, q <= l.length /\ i = .int .i64 q /\ rw1 (pv l q) (l.drop q) = T /\ Below w.heap.size w wr) (fun i _ => l.length - (intOf i).toNat)
 case atStart => exact ⟨0, by omega, rfl, HT.out, Below.refl _ _⟩
 case round =>
  clear HT
  obtain ⟨q, hq, rfl, hM, hb⟩ := hrel
  by_cases hlt : q < l.length
  ·have d0 : decide ((q : Int) < (l.length : Int)) = true := by simp; omega
   obtain ⟨g, o, u, ha, hSg, hu, hi⟩ := HL.out.elem hlt
   subst ha
   obtain ⟨v0, v1, e0, e1, e2, e3, rfl, c0, c1, c2, c3, c4, c5⟩ := hu
   obtain ⟨ea, ec, rfl, rfl, rfl, rfl, rfl, rfl, hp, -⟩ := hi.six
   have c0 := below_cell c0 hb
   have c1 := below_cell c1 hb
   have c2 := below_cell c2 hb
   have c3 := below_cell c3 hb
   have c4 := below_cell c4 hb
   have c5 := below_cell c5 hb
   have hdrop := List.drop_eq_getElem_cons hlt
   have hnext := pv_succ l q hlt
   rw [hdrop, rw1] at hM
   obtain ⟨p, hp'⟩ : ∃ p, l[q].p = p := ⟨_, rfl⟩
   obtain ⟨b, hb'⟩ : ∃ b, l[q].b = b := ⟨_, rfl⟩
   obtain ⟨x, hx'⟩ : ∃ x, l[q].e = x := ⟨_, rfl⟩
   rw [hx'] at c2 c3 c4 c5
   rw [hp'] at c0 hp
   rw [hb'] at c1
   rw [hp', <- hnext] at hM
   rw [hnext.trans hb'] at hM
   have hne := ne p
   have HNX := hid (hnext.trans hb')
   have hM2 : rw1 b (l.drop (q + 1)) = rw1 (pv l (q + 1)) (l.drop (q + 1)) := by rw [HNX.out]
   rw [hM2] at hM
   have HB0 : Hid (Below w.heap.size w (wr.alloc (.cells #[.string p, .bool b, .int .i64 x.o, .int .i64 x.i, .string x.s, .slice ea x.l.length ec] 89))) := hb.alloc hb.size _
   have Hb := hid hb
   clear hi hdrop hnext hp' hb' hx' hb hM2
   cases b with
   | true =>
    rw [Bool.true_or, Bool.true_and] at hM
    have HM := hid hM
    clear hM
    go_wp2_with fail
    go_roundw
    case rel => exact ⟨q + 1, by omega, by go_num, HM.out, HB0.out⟩
    case measure => simp only [intOf]; omega
   | false =>
    rw [Bool.false_or] at hM
    cases hz : (p.size == 0) with
    | true =>
     rw [hz] at hne hM
     have hT : false = T := by rw [<- hM]; rfl
     subst hT
     clear hM
     go_wp2_with fail
     go_ret
     exact ⟨rfl, HB0.out⟩
    | false =>
     rw [hz] at hne hM
     rw [Bool.not_false, Bool.true_and] at hM
     cases q with
     | zero =>
      have e1 : pv l 0 = true := rfl
      rw [e1, Bool.true_and] at hM
      have HM := hid hM
      clear hM e1
      rw [Nat.zero_mul, Nat.add_zero] at c0 c1 c2 c3 c4 c5
      go_wp2_with fail
      go_roundw
      case rel => exact ⟨1, by omega, by go_num, HM.out, HB0.out⟩
      case measure => simp only [intOf]; omega
     | succ j =>
      have hj : j < l.length := by omega
      obtain ⟨g', o', u', E, -, hu', hi'⟩ := HL.out.elem hj
      obtain ⟨rfl, rfl⟩ : g = g' /\ o = o' := by cases E; exact ⟨rfl, rfl⟩
      obtain ⟨v0', v1', e0', e1', e2', e3', rfl, -, c1', -, -, -, -⟩ := hu'
      obtain ⟨-, rfl, -, -⟩ := hi'.kinds
      have c1' := below_cell (below_cell c1' Hb.out) ((Below.refl _ wr).alloc (Nat.le_refl _) (.cells #[.string p, .bool false, .int .i64 x.o, .int .i64 x.i, .string x.s, .slice ea x.l.length ec] 89))
      obtain ⟨z, hz'⟩ : ∃ z, l[j].b = z := ⟨_, rfl⟩
      rw [hz'] at c1'
      rw [pv_succ l j hj, hz'] at hM
      have hj1 : ((j + 1 : Nat) : Int) - 1 = (j : Int) := by omega
      have hj2 : (0 : Int) <= (j : Int) := by omega
      have hj3 : (j : Int) < (l.length : Int) := by omega
      have hj4 : decide ((0 : Int) < ((j + 1 : Nat) : Int)) = true := decide_eq_true (by omega)
      clear hi' E hz'
      cases z with
      | true =>
       rw [Bool.true_and] at hM
       have HM := hid hM
       clear hM
       go_wp2_with fail
       go_roundw
       case rel => exact ⟨j + 1 + 1, by omega, by go_num, HM.out, HB0.out⟩
       case measure => simp only [intOf]; omega
      | false =>
       have hT : false = T := by rw [<- hM]; rfl
       subst hT
       clear hM
       go_wp2_with fail
       go_ret
       exact ⟨rfl, HB0.out⟩
  ·have d0 : decide ((q : Int) < (l.length : Int)) = false := by simp; omega
   have hT : true = T := by
    rw [List.drop_eq_nil_of_le (by omega), rw1] at hM
    exact hM
   subst hT
   clear hM
   go_wp2_with fail
   go_ret
   exact ⟨ret_bool (by simp), hb⟩
def prOk (l : List Pt) : Bool := l.all vOk && rowOk l
theorem parts_c {w : World} {v : Value} {l : List Pt} {S : Nat -> Prop} {r : Bool} (hin : RP r S w v l) :
  Calls prog 147 #[v] w fun e w' => e = .returned (.bool (prOk l)) /\ Below w.heap.size w w' := by
 have HR := hid hin
 obtain ⟨a, cap, rfl, hlc, hcm, hlen, hnil, hL⟩ := hin
 have HL := hid hL
 obtain ⟨T, hT⟩ : ∃ T, l.all vOk = T := ⟨_, rfl⟩
 have HT := hid hT
 have e : prOk l = (T && rowOk l) := by unfold prOk; rw [hT]
 rw [e]
 clear e hT hL
 go_enter func147, ntmps147
 go_wp2_with fail
 go_loopw [7] (fun i wr => ∃ q : Nat, q <= l.length /\ i = .int .i64 q /\ (l.drop q).all vOk = T /\ Below w.heap.size w wr) (fun i _ => l.length - (intOf i).toNat)
 case atStart => exact ⟨0, by omega, rfl, HT.out, Below.refl _ _⟩
 case round =>
  clear HT
  obtain ⟨q, hq, rfl, hM, hb⟩ := hrel
  have Hb := hid hb
  by_cases hlt : q < l.length
  ·have d0 : decide ((q : Int) < (l.length : Int)) = true := by simp; omega
   obtain ⟨g, o, u, ha, hSg, hu, hi⟩ := HL.out.elem hlt
   subst ha
   have hi2 := hi.keep (Keep.of_below hb)
   obtain ⟨v0, v1, e0, e1, e2, e3, rfl, c0, c1, c2, c3, c4, c5⟩ := hu
   obtain ⟨ea, ec, rfl, rfl, rfl, rfl, rfl, rfl, hp, -⟩ := hi.six
   have c0 := below_cell c0 hb
   have c1 := below_cell c1 hb
   have c2 := below_cell c2 hb
   have c3 := below_cell c3 hb
   have c4 := below_cell c4 hb
   have c5 := below_cell c5 hb
   have hdrop := List.drop_eq_getElem_cons hlt
   rw [hdrop, List.all_cons] at hM
   obtain ⟨p, hp'⟩ : ∃ p, l[q].p = p := ⟨_, rfl⟩
   obtain ⟨b, hb'⟩ : ∃ b, l[q].b = b := ⟨_, rfl⟩
   obtain ⟨x, hx'⟩ : ∃ x, l[q].e = x := ⟨_, rfl⟩
   rw [hx'] at c2 c3 c4 c5
   obtain ⟨W0, hW0, b0, hs0, q0⟩ := six_new (w := wr) (.string p) (.bool b) (.int .i64 x.o) (.int .i64 x.i) (.string x.s) (.slice ea x.l.length ec) 89
   have cV := value_c (hi2.keep (Keep.of_below b0))
   rw [hp', hb', hx'] at cV
   rw [hp'] at c0 hp
   rw [hb'] at c1
   obtain ⟨z, hz⟩ : ∃ z, vOk l[q] = z := ⟨_, rfl⟩
   rw [hz] at cV hM
   obtain ⟨k0, k1, k2, k3, k4, k5⟩ := six_box q0
   have HB0 := hid (nx hb b0)
   have HM := hid hM
   clear hi hi2 hdrop hp' hb' hx' hb hz q0 b0 hM
   go_wp2_with fail
   try rw [hW0]
   refine cV.mono ?_
   rintro e W1 ⟨rfl, b1⟩
   have HB1 := hid (nx HB0.out b1)
   clear cV b1 hW0
   cases z with
   | true =>
    go_wp2_with fail
    go_roundw
    case rel => exact ⟨q + 1, by omega, by go_num, by have := HM.out; rw [Bool.true_and] at this; exact this, HB1.out⟩
    case measure => simp only [intOf]; omega
   | false =>
    have hT : false = T := by have := HM.out; rw [Bool.false_and] at this; exact this
    subst hT
    go_wp2_with fail
    go_ret
    exact ⟨rfl, HB1.out⟩
  ·have d0 : decide ((q : Int) < (l.length : Int)) = false := by simp; omega
   have hT : true = T := by
    rw [List.drop_eq_nil_of_le (by omega)] at hM
    exact hM
   subst hT
   have cR := row_c (RP.keep (Keep.of_below hb) HR.out)
   clear hM hb
   go_wp2_with fail
   refine cR.mono ?_
   rintro e W1 ⟨rfl, b1⟩
   go_wp2_with fail
   go_ret
   exact ⟨ret_bool (by simp), nx Hb.out b1⟩
end Go.Proofs.YtiijfmdfccdagaaGreatDoor.KRo
