import Derived.Deep.RegionHeld3
import Derived.Maps.AppendAt
import Derived.Test.YthjbknncbhkinaaGreatDoorPS10
import Derived.Test.YthjbknncbhkinaaGreatDoorPS11
import Derived.Test.YthjbknncbhkinaaGreatDoorPS12
import Derived.Test.YthjbknncbhkinaaGreatDoorPS22
import Derived.Test.YthjbknncbhkinaaGreatDoorPS23
open Go.Proofs.Tryz
set_option linter.unusedVariables false
set_option maxRecDepth 20000
set_option maxHeartbeats 3200000
namespace Go.Proofs.YthjbknncbhkinaaGreatDoor.SBe
open Go.RowKit Base EPure SFit
open XBase (four_box frozen_box Rg Four)
def bhL (lf : Int -> Int -> ByteArray -> Bool) : List Ex -> Int -> Int
 | [], r => r
 | .mk o i s l :: t, r => bhL lf t (if r <= 0 \/ (l.length : Int) ≠ kd o \/ ft lf o i s = false then -1 else bhL lf l (r - 1))
theorem bhL_nil (lf : Int -> Int -> ByteArray -> Bool) (r : Int) : bhL lf [] r = r := by rw [bhL]
theorem bhL_no {lf : Int -> Int -> ByteArray -> Bool} {o i : Int} {s : ByteArray} {l : List Ex} {r : Int} (h : r <= 0 \/ (l.length : Int) ≠ kd o \/ ft lf o i s = false) : bhL lf [.mk o i s l] r = -1 := by
 rw [bhL, if_pos h, bhL_nil]
theorem bhL_one {lf : Int -> Int -> ByteArray -> Bool} {o i : Int} {s : ByteArray} {l : List Ex} {r : Int} (h : ¬ (r <= 0 \/ (l.length : Int) ≠ kd o \/ ft lf o i s = false)) : bhL lf [.mk o i s l] r = bhL lf l (r - 1) := by
 rw [bhL, if_neg h, bhL_nil]
theorem bhL_cons (lf : Int -> Int -> ByteArray -> Bool) (x : Ex) (t : List Ex) (r : Int) : bhL lf (x :: t) r = bhL lf t (bhL lf [x] r) := by
 obtain ⟨o, i, s, l⟩ := x
 rw [bhL, bhL, bhL_nil]
theorem bhL_le (lf : Int -> Int -> ByteArray -> Bool) : ∀ (n : Nat) (l : List Ex) (r : Int), SizeOf.sizeOf l <= n -> -1 <= r -> -1 <= bhL lf l r /\ bhL lf l r <= r := by
 intro n
 induction n with
 | zero =>
  intro l r h hr
  cases l with
  | nil => rw [bhL_nil]; omega
  | cons x t => exact absurd h (by simp)
 | succ n ih =>
  intro l r h hr
  cases l with
  | nil => rw [bhL_nil]; omega
  | cons x t =>
   obtain ⟨o, i, s, k⟩ := x
   rw [bhL]
   by_cases hc : r <= 0 \/ (k.length : Int) ≠ kd o \/ ft lf o i s = false
   ·rw [if_pos hc]
    have := ih t (-1) (by simp at h; omega) (by omega)
    omega
   ·rw [if_neg hc]
    have h1 := ih k (r - 1) (by simp at h; omega) (by omega)
    have h2 := ih t (bhL lf k (r - 1)) (by simp at h; omega) h1.1
    omega
def BI (k : Nat) (lf : Int -> Int -> ByteArray -> Bool) (m : Nat) : Prop := ∀ (w : World) (v : Value) (x : Ex) (r : Int), XBase.In false (fun _ => True) w m v x -> -1 <= r -> r <= 65536 ->
  Calls prog 71 #[.int .i64 r, v, lfv k] w fun e w' => e = .returned (.int .i64 (bhL lf [x] r)) /\ Below w.heap.size w w'
theorem be_full {k : Nat} {lf : Int -> Int -> ByteArray -> Bool} {w : World} {o i : Int} {s : ByteArray} {l : List Ex} {a : Option Addr} {cap : Nat} {r : Int} (ho : -9223372036854775808 <= o /\ o <= 9223372036854775807) (hl : l.length <= 140737488351232) (hcap : l.length <= cap /\ cap <= 9223372036854775807) (hs : s.size <= 140737488351232) (hr1 : -1 <= r) (hr5 : r <= 65536) (h0 : r <= 0) :
  Calls prog 71 #[.int .i64 r, .agg #[.int .i64 o, .int .i64 i, .string s, .slice a l.length cap], lfv k] w fun e w' => e = .returned (.int .i64 (-1)) /\ Below w.heap.size w w' := by
 obtain ⟨W0, hW0⟩ : ∃ W0, w.alloc (.cells #[.int .i64 o, .int .i64 i, .string s, .slice a l.length cap] 24) = W0 := ⟨_, rfl⟩
 have b0 : Below w.heap.size w W0 := by rw [<- hW0]; exact (Below.refl _ w).alloc (Nat.le_refl _) _
 have q0 : W0.heap[w.heap.size]? = some (.cells #[.int .i64 o, .int .i64 i, .string s, .slice a l.length cap] 24 (0, 0)) := by rw [<- hW0]; exact heap_alloc_new w _
 obtain ⟨v0, v1, v2, v3⟩ := four_box q0
 have HB0 : Hid (Below w.heap.size w W0) := b0
 have HQ0 : Hid (W0.heap[w.heap.size]? = some (.cells #[.int .i64 o, .int .i64 i, .string s, .slice a l.length cap] 24 (0, 0))) := q0
 have cK := fun W => kidsOf_c o ho.1 ho.2 W
 have e0 : decide (r <= 0) = true := decide_eq_true h0
 clear q0 b0 h0
 go_enter func71, ntmps71
 go_wp2_with fail
 clear hW0
 go_quiet (first | (go_at_call 92; exact Calls.quiet_of_same (cK _)))
 go_wp2_with fail
 go_ret
 exact ⟨rfl, HB0.out.trans ⟨rfl, rfl, rfl, by simp, fun _ _ => by simp⟩⟩
theorem be_kids {k : Nat} {lf : Int -> Int -> ByteArray -> Bool} {w : World} {o i : Int} {s : ByteArray} {l : List Ex} {a : Option Addr} {cap : Nat} {r : Int} (ho : -9223372036854775808 <= o /\ o <= 9223372036854775807) (hl : l.length <= 140737488351232) (hcap : l.length <= cap /\ cap <= 9223372036854775807) (hs : s.size <= 140737488351232) (hr1 : -1 <= r) (hr5 : r <= 65536) (h0 : ¬ r <= 0) (hk : (l.length : Int) ≠ kd o) :
  Calls prog 71 #[.int .i64 r, .agg #[.int .i64 o, .int .i64 i, .string s, .slice a l.length cap], lfv k] w fun e w' => e = .returned (.int .i64 (-1)) /\ Below w.heap.size w w' := by
 obtain ⟨W0, hW0⟩ : ∃ W0, w.alloc (.cells #[.int .i64 o, .int .i64 i, .string s, .slice a l.length cap] 24) = W0 := ⟨_, rfl⟩
 have b0 : Below w.heap.size w W0 := by rw [<- hW0]; exact (Below.refl _ w).alloc (Nat.le_refl _) _
 have q0 : W0.heap[w.heap.size]? = some (.cells #[.int .i64 o, .int .i64 i, .string s, .slice a l.length cap] 24 (0, 0)) := by rw [<- hW0]; exact heap_alloc_new w _
 obtain ⟨v0, v1, v2, v3⟩ := four_box q0
 have HB0 : Hid (Below w.heap.size w W0) := b0
 have HQ0 : Hid (W0.heap[w.heap.size]? = some (.cells #[.int .i64 o, .int .i64 i, .string s, .slice a l.length cap] 24 (0, 0))) := q0
 have cK := fun W => kidsOf_c o ho.1 ho.2 W
 have e0 : decide (r <= 0) = false := decide_eq_false h0
 obtain ⟨K, hK⟩ : ∃ K, kd o = K := ⟨_, rfl⟩
 rw [hK] at cK hk
 have e1 : ((l.length : Int) != K) = true := by simpa using hk
 clear q0 b0 h0 hk hK
 go_enter func71, ntmps71
 go_wp2_with fail
 clear hW0
 go_quiet (first | (go_at_call 92; exact Calls.quiet_of_same (cK _)))
 go_wp2_with fail
 go_ret
 exact ⟨rfl, HB0.out.trans ⟨rfl, rfl, rfl, by simp, fun _ _ => by simp⟩⟩
theorem be_unfit {k : Nat} {lf : Int -> Int -> ByteArray -> Bool} {w : World} {o i : Int} {s : ByteArray} {l : List Ex} {a : Option Addr} {cap : Nat} {r : Int} (ho : -9223372036854775808 <= o /\ o <= 9223372036854775807) (hl : l.length <= 140737488351232) (hcap : l.length <= cap /\ cap <= 9223372036854775807) (hs : s.size <= 140737488351232) (hr1 : -1 <= r) (hr5 : r <= 65536) (hL : Lf k lf) (h0 : ¬ r <= 0) (hk : (l.length : Int) = kd o) (hf : ft lf o i s = false) :
  Calls prog 71 #[.int .i64 r, .agg #[.int .i64 o, .int .i64 i, .string s, .slice a l.length cap], lfv k] w fun e w' => e = .returned (.int .i64 (-1)) /\ Below w.heap.size w w' := by
 obtain ⟨W0, hW0⟩ : ∃ W0, w.alloc (.cells #[.int .i64 o, .int .i64 i, .string s, .slice a l.length cap] 24) = W0 := ⟨_, rfl⟩
 have b0 : Below w.heap.size w W0 := by rw [<- hW0]; exact (Below.refl _ w).alloc (Nat.le_refl _) _
 have q0 : W0.heap[w.heap.size]? = some (.cells #[.int .i64 o, .int .i64 i, .string s, .slice a l.length cap] 24 (0, 0)) := by rw [<- hW0]; exact heap_alloc_new w _
 obtain ⟨v0, v1, v2, v3⟩ := four_box q0
 have HB0 : Hid (Below w.heap.size w W0) := b0
 have HQ0 : Hid (W0.heap[w.heap.size]? = some (.cells #[.int .i64 o, .int .i64 i, .string s, .slice a l.length cap] 24 (0, 0))) := q0
 have cK := fun W => kidsOf_c o ho.1 ho.2 W
 have e0 : decide (r <= 0) = false := decide_eq_false h0
 obtain ⟨K, hK⟩ : ∃ K, kd o = K := ⟨_, rfl⟩
 rw [hK] at cK hk
 have e1 : ((l.length : Int) != K) = false := by simpa using hk
 have cF := fun W => fits_c hL (o := o) (i := i) (a := a) (n := l.length) (c := cap) hs W
 rw [hf] at cF
 have hz0 : W0.heap.size = w.heap.size + 1 := by rw [<- hW0]; simp
 clear q0 b0 h0 hk hK hf
 go_enter func71, ntmps71
 go_wp2_with fail
 clear hW0
 go_region_held3 (fun w' => w'.cell? ⟨w.heap.size, 0, none⟩ = some (.int .i64 o) /\ w'.cell? ⟨w.heap.size, 1, none⟩ = some (.int .i64 i) /\ w'.cell? ⟨w.heap.size, 2, none⟩ = some (.string s) /\ w'.cell? ⟨w.heap.size, 3, none⟩ = some (.slice a l.length cap)) (go_keep) (first | (go_at_call 92; refine (cK _).mono ?_; rintro e W1 ⟨rfl, rfl⟩) | (go_at_call 93; refine (cF _).mono ?_; rintro e W2 ⟨rfl, b2⟩; have Q2 := (b2.block w.heap.size (show w.heap.size < W0.heap.size by omega)).trans HQ0.out; obtain ⟨u0, u1, u2, u3⟩ := four_box Q2) | fail)
 all_goals
  rename_i hHeld
  clear hHeld
  have B2 : Below w.heap.size w W2 := (HB0.out.trans (Below.refl _ W0).drew).trans (b2.mono HB0.out.size)
  clear u0 u1 u2 u3 Q2
  have HB2 : Hid (Below w.heap.size w W2) := B2
  clear B2 b2
  go_wp2_with fail
  go_ret
  exact ⟨rfl, HB2.out⟩
theorem be_go {k : Nat} {lf : Int -> Int -> ByteArray -> Bool} {w : World} {o i : Int} {s : ByteArray} {l : List Ex} {a : Option Addr} {cap : Nat} {r : Int} (ho : -9223372036854775808 <= o /\ o <= 9223372036854775807) (hl : l.length <= 140737488351232) (hcap : l.length <= cap /\ cap <= 9223372036854775807) (hs : s.size <= 140737488351232) (hr1 : -1 <= r) (hr5 : r <= 65536) (hL : Lf k lf) {m : Nat} (ih : BI k lf m) (hin : XBase.InL false (fun _ => True) w m (.slice a l.length cap) l) (h0 : ¬ r <= 0) (hk : (l.length : Int) = kd o) (hf : ft lf o i s = true) :
  Calls prog 71 #[.int .i64 r, .agg #[.int .i64 o, .int .i64 i, .string s, .slice a l.length cap], lfv k] w fun e w' => e = .returned (.int .i64 (bhL lf l (r - 1))) /\ Below w.heap.size w w' := by
 obtain ⟨W0, hW0⟩ : ∃ W0, w.alloc (.cells #[.int .i64 o, .int .i64 i, .string s, .slice a l.length cap] 24) = W0 := ⟨_, rfl⟩
 have b0 : Below w.heap.size w W0 := by rw [<- hW0]; exact (Below.refl _ w).alloc (Nat.le_refl _) _
 have q0 : W0.heap[w.heap.size]? = some (.cells #[.int .i64 o, .int .i64 i, .string s, .slice a l.length cap] 24 (0, 0)) := by rw [<- hW0]; exact heap_alloc_new w _
 obtain ⟨v0, v1, v2, v3⟩ := four_box q0
 have HB0 : Hid (Below w.heap.size w W0) := b0
 have HQ0 : Hid (W0.heap[w.heap.size]? = some (.cells #[.int .i64 o, .int .i64 i, .string s, .slice a l.length cap] 24 (0, 0))) := q0
 have cK := fun W => kidsOf_c o ho.1 ho.2 W
 have e0 : decide (r <= 0) = false := decide_eq_false h0
 obtain ⟨K, hK⟩ : ∃ K, kd o = K := ⟨_, rfl⟩
 rw [hK] at cK hk
 have e1 : ((l.length : Int) != K) = false := by simpa using hk
 have cF := fun W => fits_c hL (o := o) (i := i) (a := a) (n := l.length) (c := cap) hs W
 rw [hf] at cF
 have hz0 : W0.heap.size = w.heap.size + 1 := by rw [<- hW0]; simp
 have HIN : Hid (XBase.InL false (fun _ => True) w m (.slice a l.length cap) l) := hin
 obtain ⟨T, hT⟩ : ∃ T, bhL lf l (r - 1) = T := ⟨_, rfl⟩
 rw [hT]
 have HT : Hid (bhL lf l (r - 1) = T) := hT
 have hwr : IntKind.i64.wrap (r - 1) = r - 1 := by rw [IntKind.wrap_i64]; omega
 clear q0 b0 hk hK hf hin hT
 go_enter func71, ntmps71
 go_wp2_with fail
 clear hW0
 go_region_held3 (fun w' => w'.cell? ⟨w.heap.size, 0, none⟩ = some (.int .i64 o) /\ w'.cell? ⟨w.heap.size, 1, none⟩ = some (.int .i64 i) /\ w'.cell? ⟨w.heap.size, 2, none⟩ = some (.string s) /\ w'.cell? ⟨w.heap.size, 3, none⟩ = some (.slice a l.length cap)) (go_keep) (first | (go_at_call 92; refine (cK _).mono ?_; rintro e W1 ⟨rfl, rfl⟩) | (go_at_call 93; refine (cF _).mono ?_; rintro e W2 ⟨rfl, b2⟩; have Q2 := (b2.block w.heap.size (show w.heap.size < W0.heap.size by omega)).trans HQ0.out; obtain ⟨u0, u1, u2, u3⟩ := four_box Q2) | fail)
 all_goals
  rename_i hHeld
  clear hHeld
  have B2 : Below w.heap.size w W2 := (HB0.out.trans (Below.refl _ W0).drew).trans (b2.mono HB0.out.size)
  have HB2 : Hid (Below w.heap.size w W2) := B2
  clear B2 b2 Q2 cF cK HB0 HQ0 v0 v1 v2 v3
  go_wp2_with fail
  clear u0 u1 u2 u3
  go_loopw [31, 0] (fun v1 v2 wr => ∃ (q : Nat) (r' : Int), v1 = .int .i64 q /\ v2 = .int .i64 r' /\ q <= l.length /\ -1 <= r' /\ r' <= 65536 /\ Below w.heap.size w wr /\ bhL lf (l.drop q) r' = T) (fun v1 _ _ => l.length - (intOf v1).toNat)
  case atStart => exact ⟨0, r - 1, rfl, rfl, by omega, by omega, by omega, HB2.out, HT.out⟩
  case round =>
   clear HB2 HT
   obtain ⟨q, r', rfl, rfl, hq, hr1, hr2, hB, hM⟩ := hrel
   have HM : Hid (bhL lf (l.drop q) r' = T) := hM
   have HBR : Hid (Below w.heap.size w wr) := hB
   have hsz := hB.size
   clear hM hB
   by_cases hlt : q < l.length
   ·have d0 : decide ((q : Int) < (l.length : Int)) = true := by simp; omega
    have hinl := HIN.out.keep (w' := wr) (fun b _ hlt => HBR.out.block b hlt)
    obtain ⟨aa, cc, hsl, -, -, -, -, hLA⟩ := hinl
    cases hsl
    obtain ⟨g, of, u, ha, hSg, hFour, hInq⟩ := XBase.elem_at hLA hlt
    subst ha
    obtain ⟨c0, c1, c2, c3, rfl, d1, d2, d3, d4⟩ := hFour
    obtain ⟨m', a2, cp2, -, rfl, rfl, rfl, rfl, hob, hib, hsb, -⟩ := hInq.kinds
    obtain ⟨y, hy⟩ : ∃ y, l[q] = y := ⟨_, rfl⟩
    rw [hy] at hInq d1 d2 d3 d4
    obtain ⟨W4, hW4⟩ : ∃ W4, wr.alloc (.cells #[.int .i64 y.o, .int .i64 y.i, .string y.s, .slice a2 y.l.length cp2] 24) = W4 := ⟨_, rfl⟩
    have b4 : Below wr.heap.size wr W4 := by rw [<- hW4]; exact (Below.refl _ wr).alloc (Nat.le_refl _) _
    have q4 : W4.heap[wr.heap.size]? = some (.cells #[.int .i64 y.o, .int .i64 y.i, .string y.s, .slice a2 y.l.length cp2] 24 (0, 0)) := by rw [<- hW4]; exact heap_alloc_new wr _
    obtain ⟨e0', e1', e2', e3'⟩ := four_box q4
    have cM := ih W4 _ y r' (hInq.below b4) hr1 hr2
    have hstep := bhL_cons lf y (l.drop (q + 1)) r'
    have hdrop : l.drop q = y :: l.drop (q + 1) := by rw [<- hy]; exact List.drop_eq_getElem_cons hlt
    have HST : Hid (bhL lf (l.drop (q + 1)) (bhL lf [y] r') = T) := by
     show _ = _
     rw [<- hstep, <- hdrop]
     exact HM.out
    have hle := bhL_le lf _ [y] r' (Nat.le_refl _) hr1
    obtain ⟨Z, hZ⟩ : ∃ Z, bhL lf [y] r' = Z := ⟨_, rfl⟩
    have HST2 : Hid (bhL lf (l.drop (q + 1)) Z = T) := by rw [<- hZ]; exact HST.out
    rw [hZ] at cM hle
    have hcapq : l.length <= cap := hcap.1
    clear hstep hdrop HST hZ hInq q4 hLA HM hob hib hsb
    go_wp2_with fail
    refine cM.mono ?_
    rintro e W5 ⟨rfl, B5⟩
    have HKK : Hid (Below w.heap.size w W5) := nx (nx HBR.out b4) B5
    clear cM B5 b4 hW4 d1 d2 d3 d4 e0' e1' e2' e3' HBR
    go_wp2_with fail
    go_roundw
    case rel => exact ⟨q + 1, Z, by go_num, rfl, by omega, by omega, by omega, HKK.out, HST2.out⟩
    case measure => simp only [intOf]; omega
   ·have d0 : decide ((q : Int) < (l.length : Int)) = false := by simp; omega
    have hT : r' = T := by
     have := HM.out
     rw [List.drop_eq_nil_of_le (by omega), bhL_nil] at this
     exact this
    subst hT
    go_wp2_with fail
    go_ret
    exact ⟨rfl, HBR.out⟩
theorem be_all {k : Nat} {lf : Int -> Int -> ByteArray -> Bool} (hL : Lf k lf) : ∀ m, BI k lf m
 | 0 => by
  intro w v x r h
  rw [XBase.In] at h
  exact h.elim
 | m + 1 => by
  intro w v x r h hr1 hr2
  obtain ⟨o, i, s, l⟩ := x
  rw [XBase.in_iff] at h
  obtain ⟨lv, rfl, ho, hi, hs, hl⟩ := h
  have hl0 := hl
  obtain ⟨a, cap, rfl, h1, h2, h3, -, -⟩ := hl
  by_cases h0 : r <= 0
  ·rw [bhL_no (.inl h0)]
   exact be_full (lf := lf) ho (by omega) ⟨h1, h2⟩ hs hr1 hr2 h0
  ·by_cases hk : (l.length : Int) = kd o
   ·cases hf : ft lf o i s with
    | false =>
     rw [bhL_no (.inr (.inr hf))]
     exact be_unfit ho (by omega) ⟨h1, h2⟩ hs hr1 hr2 hL h0 hk hf
    | true =>
     rw [bhL_one (fun h => h.elim h0 (fun h => h.elim (fun h => h hk) (fun h => by rw [hf] at h; cases h)))]
     exact be_go ho (by omega) ⟨h1, h2⟩ hs hr1 hr2 hL (be_all hL m) hl0 h0 hk hf
   ·rw [bhL_no (.inr (.inl hk))]
    exact be_kids (lf := lf) ho (by omega) ⟨h1, h2⟩ hs hr1 hr2 h0 hk
theorem tree_c {k : Nat} {lf : Int -> Int -> ByteArray -> Bool} (hL : Lf k lf) {m : Nat} {w : World} {v : Value} {x : Ex} {r : Int} (hin : XBase.In false (fun _ => True) w m v x) (h1 : 0 <= r) (h2 : r <= 65536) :
  Calls prog 48 #[v, .int .i64 r, lfv k] w fun e w' => e = .returned (.bool (decide (0 <= bhL lf [x] r))) /\ Below w.heap.size w w' := by
 obtain ⟨m', lv, rfl, rfl, -⟩ := hin.shape
 have b0 : Below w.heap.size w (w.alloc (.cells #[.int .i64 x.o, .int .i64 x.i, .string x.s, lv] 24)) := (Below.refl _ w).alloc (Nat.le_refl _) _
 have cB := be_all hL (m' + 1) (w.alloc (.cells #[.int .i64 x.o, .int .i64 x.i, .string x.s, lv] 24)) _ x r (hin.below b0) (by omega) h2
 obtain ⟨Z, hZ⟩ : ∃ Z, bhL lf [x] r = Z := ⟨_, rfl⟩
 rw [hZ] at cB ⊢
 clear hZ hL
 go_enter func48, ntmps48
 go_wp2_with fail
 refine cB.mono ?_
 rintro e W1 ⟨rfl, b1⟩
 go_wp2_with fail
 go_ret
 exact ⟨rfl, nx b0 b1⟩
end Go.Proofs.YthjbknncbhkinaaGreatDoor.SBe
namespace Go.Proofs.YthjbknncbhkinaaGreatDoor.NGe
open EPure CPu
open SFit (kd ft)
abbrev Cd := List Ins × List ByteArray
abbrev Gn := Ex -> Nat -> Nat -> Cd
def row (g : Gn) : List Ex -> Nat -> Nat -> Cd
 | [], _, _ => ([], [])
 | x :: r, c, t => ((g x c t).1 ++ (row g r (c + (g x c t).1.length) (t + (g x c t).2.length)).1, (g x c t).2 ++ (row g r (c + (g x c t).1.length) (t + (g x c t).2.length)).2)
def zx : Ex := .mk 0 0 ⟨#[]⟩ []
def kid (l : List Ex) (j : Nat) : Ex := l.getD j zx
def both2 (j : Int) (c : Nat) (A B : Cd) : Cd := (A.1 ++ (j, ((c + A.1.length + 1 + B.1.length + 1 : Nat) : Int)) :: (B.1 ++ [(29, 0)]), A.2 ++ B.2)
def logic (g : Gn) (j : Int) (a b : Ex) (c t : Nat) : Cd := both2 j c (g a c t) (g b (c + (g a c t).1.length + 1) (t + (g a c t).2.length))
def three (c : Nat) (A B D : Cd) : Cd := (A.1 ++ (32, ((c + A.1.length + 1 + B.1.length + 1 : Nat) : Int)) :: (B.1 ++ (33, ((c + A.1.length + 1 + B.1.length + 1 + D.1.length : Nat) : Int)) :: D.1), A.2 ++ B.2 ++ D.2)
def choice2 (g : Gn) (d : Ex) (c t : Nat) (A B : Cd) : Cd := three c A B (g d (c + A.1.length + 1 + B.1.length + 1) (t + A.2.length + B.2.length))
def choice (g : Gn) (a b d : Ex) (c t : Nat) : Cd := choice2 g d c t (g a c t) (g b (c + (g a c t).1.length + 1) (t + (g a c t).2.length))
def isT (o : Int) : Bool := o == 5 || o == 7
def opd (o i : Int) (t : Nat) : Int := if isT o = true then t else i
def tx (o : Int) (s : ByteArray) : List ByteArray := if isT o = true then [s] else []
def leaf (o i : Int) (s : ByteArray) (t : Nat) (K : Cd) : Cd := (K.1 ++ [(o, opd o i (t + K.2.length))], K.2 ++ tx o s)
def gen : Nat -> Gn
 | 0, _, _, _ => ([], [])
 | m + 1, .mk o i s l, c, t =>
  if o = 29 \/ o = 30 then logic (gen m) (o + 1) (kid l 0) (kid l 1) c t
  else if o = 31 then choice (gen m) (kid l 0) (kid l 1) (kid l 2) c t
  else leaf o i s t (row (gen m) l c t)
theorem row_snoc (g : Gn) (x : Ex) : ∀ (r : List Ex) (c t : Nat), row g (r ++ [x]) c t = ((row g r c t).1 ++ (g x (c + (row g r c t).1.length) (t + (row g r c t).2.length)).1, (row g r c t).2 ++ (g x (c + (row g r c t).1.length) (t + (row g r c t).2.length)).2) := by
 intro r
 induction r with
 | nil => intro c t; simp [row]
 | cons y r ih =>
  intro c t
  simp only [List.cons_append, row, ih, List.length_append, Nat.add_assoc, List.append_assoc]
def sz : Nat -> Ex -> Nat
 | 0, _ => 0
 | m + 1, .mk o i s l => 1 + (l.map (sz m)).sum
def Dp : Nat -> Ex -> Prop
 | 0, _ => False
 | m + 1, .mk o i s l => ∀ y ∈ l, Dp m y
def Ok (lf : Int -> Int -> ByteArray -> Bool) : Nat -> Ex -> Prop
 | 0, _ => False
 | m + 1, .mk o i s l => (l.length : Int) = kd o /\ ft lf o i s = true /\ ∀ y ∈ l, Ok lf m y
def Pl (d : Int) : Nat -> Ex -> Prop
 | 0, _ => True
 | m + 1, .mk o i s l => (o = 6 -> 0 <= i /\ i < d) /\ ∀ y ∈ l, Pl d m y
theorem bh_ok (lf : Int -> Int -> ByteArray -> Bool) : ∀ (m : Nat) (x : Ex) (r : Int), Dp m x -> 0 <= SBe.bhL lf [x] r -> Ok lf m x /\ SBe.bhL lf [x] r + sz m x <= r := by
 intro m
 induction m with
 | zero => intro x r h; exact h.elim
 | succ m ih =>
  have hl : ∀ (l : List Ex) (r : Int), (∀ y ∈ l, Dp m y) -> -1 <= r -> 0 <= SBe.bhL lf l r -> (∀ y ∈ l, Ok lf m y) /\ SBe.bhL lf l r + (l.map (sz m)).sum <= r := by
   intro l
   induction l with
   | nil => intro r _ hr h; rw [SBe.bhL_nil] at h ⊢; simp
   | cons x t iht =>
    intro r hd hr h
    rw [SBe.bhL_cons] at h ⊢
    have h1 := SBe.bhL_le lf _ [x] r (Nat.le_refl _) hr
    have h2 := SBe.bhL_le lf _ t (SBe.bhL lf [x] r) (Nat.le_refl _) h1.1
    have hx := ih x r (hd x (by simp)) (by omega)
    have ht := iht _ (fun y hy => hd y (by simp [hy])) h1.1 h
    refine ⟨fun y hy => ?_, ?_⟩
    ·rcases List.mem_cons.1 hy with rfl | hy
     ·exact hx.1
     ·exact ht.1 y hy
    ·simp only [List.map_cons, List.sum_cons]
     omega
  rintro ⟨o, i, s, l⟩ r hd h
  by_cases hc : r <= 0 \/ (l.length : Int) ≠ kd o \/ ft lf o i s = false
  ·rw [SBe.bhL_no hc] at h; omega
  ·rw [SBe.bhL_one hc] at h ⊢
   have := hl l (r - 1) hd (by omega) h
   have h2 : ¬ (l.length : Int) ≠ kd o := fun e => hc (.inr (.inl e))
   have h3 : ¬ ft lf o i s = false := fun e => hc (.inr (.inr e))
   refine ⟨⟨by omega, by simpa using h3, this.1⟩, ?_⟩
   have e : sz (m + 1) (.mk o i s l) = 1 + (l.map (sz m)).sum := rfl
   rw [e]
   omega
theorem hs_pl (d : Int) : ∀ (m : Nat) (x : Ex), KHs.hs d [x] = true -> Pl d m x := by
 intro m
 induction m with
 | zero => intro x _; trivial
 | succ m ih =>
  have hl : ∀ (l : List Ex), KHs.hs d l = true -> ∀ y ∈ l, Pl d m y := by
   intro l
   induction l with
   | nil => intro _ y hy; simp at hy
   | cons x t iht =>
    intro h y hy
    rw [KHs.hs_cons, Bool.and_eq_true] at h
    rcases List.mem_cons.1 hy with rfl | hy
    ·exact ih _ h.1
    ·exact iht h.2 y hy
  rintro ⟨o, i, s, l⟩ h
  rw [KHs.hs_one, Bool.and_eq_true] at h
  refine ⟨fun e => ?_, hl l h.2⟩
  subst e
  have h1 := h.1
  simp at h1
  exact h1
theorem kid_mem {l : List Ex} {j : Nat} (h : j < l.length) : kid l j ∈ l := by
 unfold kid
 rw [List.getD_eq_getElem?_getD, List.getElem?_eq_getElem h]
 exact List.getElem_mem h
theorem kid_at {l : List Ex} {j : Nat} (h : j < l.length) : kid l j = l[j] := by
 unfold kid
 rw [List.getD_eq_getElem?_getD, List.getElem?_eq_getElem h]
 rfl
theorem kd_two {o : Int} (h : o = 29 \/ o = 30) : kd o = 2 := by rcases h with rfl | rfl <;> rfl
theorem kd_three : kd 31 = 3 := rfl
theorem two_of {l : List Ex} (h : l.length = 2) : l = [kid l 0, kid l 1] := by
 match l, h with
 | [a, b], _ => rfl
theorem three_of {l : List Ex} (h : l.length = 3) : l = [kid l 0, kid l 1, kid l 2] := by
 match l, h with
 | [a, b, d], _ => rfl
theorem gen_len (lf : Int -> Int -> ByteArray -> Bool) : ∀ (m : Nat) (x : Ex) (c t : Nat), Ok lf m x -> 1 <= (gen m x c t).1.length /\ (gen m x c t).1.length <= 2 * sz m x /\ (gen m x c t).2.length <= sz m x := by
 intro m
 induction m with
 | zero => intro x c t h; exact h.elim
 | succ m ih =>
  rintro ⟨o, i, s, l⟩ c t ⟨h1, h2, h3⟩
  have e : sz (m + 1) (.mk o i s l) = 1 + (l.map (sz m)).sum := rfl
  by_cases ho : o = 29 \/ o = 30
  ·have hk : l.length = 2 := by rw [kd_two ho] at h1; omega
   have ha := ih (kid l 0) c t (h3 _ (kid_mem (by omega)))
   have hb := ih (kid l 1) (c + (gen m (kid l 0) c t).1.length + 1) (t + (gen m (kid l 0) c t).2.length) (h3 _ (kid_mem (by omega)))
   have eg : gen (m + 1) (.mk o i s l) c t = logic (gen m) (o + 1) (kid l 0) (kid l 1) c t := by rw [gen, if_pos ho]
   rw [eg, e]
   rw [two_of hk]
   simp only [logic, both2, List.length_append, List.length_cons, List.length_nil, List.map_cons, List.map_nil, List.sum_cons, List.sum_nil, kid, List.getD_cons_zero, List.getD_cons_succ] at ha hb ⊢
   omega
  by_cases ho3 : o = 31
  ·have hk : l.length = 3 := by subst ho3; rw [kd_three] at h1; omega
   have ha := ih (kid l 0) c t (h3 _ (kid_mem (by omega)))
   have hb := ih (kid l 1) (c + (gen m (kid l 0) c t).1.length + 1) (t + (gen m (kid l 0) c t).2.length) (h3 _ (kid_mem (by omega)))
   have hd := ih (kid l 2) (c + (gen m (kid l 0) c t).1.length + 1 + (gen m (kid l 1) (c + (gen m (kid l 0) c t).1.length + 1) (t + (gen m (kid l 0) c t).2.length)).1.length + 1) (t + (gen m (kid l 0) c t).2.length + (gen m (kid l 1) (c + (gen m (kid l 0) c t).1.length + 1) (t + (gen m (kid l 0) c t).2.length)).2.length) (h3 _ (kid_mem (by omega)))
   have eg : gen (m + 1) (.mk o i s l) c t = choice (gen m) (kid l 0) (kid l 1) (kid l 2) c t := by rw [gen, if_neg ho, if_pos ho3]
   rw [eg, e]
   rw [three_of hk]
   simp only [choice, choice2, three, List.length_append, List.length_cons, List.map_cons, List.map_nil, List.sum_cons, List.sum_nil, kid, List.getD_cons_zero, List.getD_cons_succ] at ha hb hd ⊢
   omega
  have hr : ∀ (l : List Ex) (c t : Nat), (∀ y ∈ l, Ok lf m y) -> (row (gen m) l c t).1.length <= 2 * (l.map (sz m)).sum /\ (row (gen m) l c t).2.length <= (l.map (sz m)).sum := by
   intro l
   induction l with
   | nil => intro c t _; simp [row]
   | cons x r ihr =>
    intro c t h
    have hx := ih x c t (h x (by simp))
    have := ihr (c + (gen m x c t).1.length) (t + (gen m x c t).2.length) (fun y hy => h y (by simp [hy]))
    simp only [row, List.length_append, List.map_cons, List.sum_cons]
    omega
  have := hr l c t h3
  have eg : gen (m + 1) (.mk o i s l) c t = leaf o i s t (row (gen m) l c t) := by rw [gen, if_neg ho, if_neg ho3]
  have ht : (tx o s).length <= 1 := by unfold tx; split <;> simp
  rw [eg, e]
  simp only [leaf, List.length_append, List.length_cons, List.length_nil]
  omega
end Go.Proofs.YthjbknncbhkinaaGreatDoor.NGe
namespace Go.Proofs.YthjbknncbhkinaaGreatDoor.NWr
open Go.RowKit CPu CIn
open IBase (add_none)
abbrev ptr (W : Nat) : Value := .pointer (some ⟨W, 0, none⟩)
def Ot (w : World) (B : Nat) (v : Value) (T : List ByteArray) : Prop := w.ownsRow B 9 1 v T.length (T.map Value.string)
structure Wb (w : World) (W : Nat) (cv tv : Value) (C : List Ins) (T : List ByteArray) : Prop where
 box : w.heap[W]? = some (.cells #[cv, tv] 54 (0, 0))
 own : Oc w (W + 1) cv C
 tex : Ot w (W + 1) tv T
 ne : ∀ g, cv.ownBlock = some g -> tv.ownBlock ≠ some g
structure Kw (W : Nat) (cv tv cv' tv' : Value) (w w' : World) : Prop where
 below : Below W w w'
 other : ∀ b, b < w.heap.size -> b ≠ W -> cv.ownBlock ≠ some b -> tv.ownBlock ≠ some b -> w'.heap[b]? = w.heap[b]?
 c : cv'.ownBlock = cv.ownBlock \/ ∃ g, cv'.ownBlock = some g /\ w.heap.size <= g
 t : tv'.ownBlock = tv.ownBlock \/ ∃ g, tv'.ownBlock = some g /\ w.heap.size <= g
theorem Kw.refl {W : Nat} {cv tv : Value} {w w' : World} (h : Below w.heap.size w w') (hW : W <= w.heap.size) : Kw W cv tv cv tv w w' := ⟨h.mono hW, fun b hb _ _ _ => h.block b hb, .inl rfl, .inl rfl⟩
theorem Kw.trans {W : Nat} {cv tv cv1 tv1 cv2 tv2 : Value} {w w1 w2 : World} (h : Kw W cv tv cv1 tv1 w w1) (k : Kw W cv1 tv1 cv2 tv2 w1 w2) : Kw W cv tv cv2 tv2 w w2 := by
 have hs := h.below.size
 have aux : ∀ (v v1 : Value) (b : Nat), b < w.heap.size -> v.ownBlock ≠ some b -> (v1.ownBlock = v.ownBlock \/ ∃ g, v1.ownBlock = some g /\ w.heap.size <= g) -> v1.ownBlock ≠ some b := by
  intro v v1 b hb hn hv e
  rcases hv with e1 | ⟨g, e1, hg⟩
  ·exact hn (e1 ▸ e)
  ·rw [e1] at e
   cases e
   omega
 have aux2 : ∀ (v v1 v2 : Value), (v1.ownBlock = v.ownBlock \/ ∃ g, v1.ownBlock = some g /\ w.heap.size <= g) -> (v2.ownBlock = v1.ownBlock \/ ∃ g, v2.ownBlock = some g /\ w1.heap.size <= g) -> (v2.ownBlock = v.ownBlock \/ ∃ g, v2.ownBlock = some g /\ w.heap.size <= g) := by
  intro v v1 v2 a b
  rcases b with b | ⟨g, b, hg⟩
  ·rw [b]; exact a
  ·exact .inr ⟨g, b, by omega⟩
 refine ⟨h.below.trans k.below, fun b hb h1 h2 h3 => ?_, aux2 _ _ _ h.c k.c, aux2 _ _ _ h.t k.t⟩
 rw [k.other b (by omega) h1 (aux _ _ _ hb h2 h.c) (aux _ _ _ hb h3 h.t), h.other b hb h1 h2 h3]
theorem own_keep {w w' : World} {B : Nat} {e : TypeId} {s n : Nat} {v : Value} {xs : List Value} (h : w.ownsRow B e s v n xs) (hk : ∀ g, v.ownBlock = some g -> w'.heap[g]? = w.heap[g]?) : w'.ownsRow B e s v n xs := by
 refine ⟨h.1, ?_⟩
 rcases h.2 with h2 | ⟨g, cap, cur, rfl, hg, hh, r⟩
 ·exact .inl h2
 ·exact .inr ⟨g, cap, cur, rfl, hg, (hk g rfl).trans hh, r⟩
theorem Wb.lt {w : World} {W : Nat} {cv tv : Value} {C : List Ins} {T : List ByteArray} (h : Wb w W cv tv C T) : W < w.heap.size := (Array.getElem?_eq_some_iff.1 h.box).1
theorem Wb.c_lt {w : World} {W : Nat} {cv tv : Value} {C : List Ins} {T : List ByteArray} (h : Wb w W cv tv C T) {g : Nat} (hg : cv.ownBlock = some g) : W < g /\ g < w.heap.size := by
 have := World.ownsRow.lt h.own g hg
 omega
theorem Wb.t_lt {w : World} {W : Nat} {cv tv : Value} {C : List Ins} {T : List ByteArray} (h : Wb w W cv tv C T) {g : Nat} (hg : tv.ownBlock = some g) : W < g /\ g < w.heap.size := by
 have := World.ownsRow.lt h.tex g hg
 omega
theorem Wb.keep {w w' : World} {W : Nat} {cv tv : Value} {C : List Ins} {T : List ByteArray} (h : Wb w W cv tv C T) (hb : ∀ b, b < w.heap.size -> w'.heap[b]? = w.heap[b]?) : Wb w' W cv tv C T :=
 ⟨(hb W h.lt).trans h.box, own_keep h.own fun g hg => hb g (h.c_lt hg).2, own_keep h.tex fun g hg => hb g (h.t_lt hg).2, h.ne⟩
theorem Wb.below {w w' : World} {W : Nat} {cv tv : Value} {C : List Ins} {T : List ByteArray} (h : Wb w W cv tv C T) (hb : Below w.heap.size w w') : Wb w' W cv tv C T := h.keep hb.block
theorem Wb.cells {w : World} {W : Nat} {cv tv : Value} {C : List Ins} {T : List ByteArray} (h : Wb w W cv tv C T) : w.cell? ⟨W, 0, none⟩ = some cv /\ w.cell? ⟨W, 1, none⟩ = some tv /\ w.frozen? ⟨W, 0, none⟩ = false /\ w.frozen? ⟨W, 1, none⟩ = false := by
 refine ⟨?_, ?_, ?_, ?_⟩ <;> simp [World.cell?, World.frozen?, h.box]
theorem block_set {w : World} {B j : Nat} {cs : Array Value} {t : TypeId} {fz : Nat × Nat} (h : w.heap[B]? = some (.cells cs t fz)) (u : Value) : (w.setCell ⟨B, j, none⟩ u).heap[B]? = some (.cells (cs.setIfInBounds j u) t fz) := by
 simp [World.setCell, Array.getElem?_modify, h]
theorem cell_of {W : World} {B : Nat} {cs : Array Value} {t : TypeId} (h : W.heap[B]? = some (.cells cs t (0, 0))) (i : Nat) (v : Value) (hv : cs[i]? = some v) : W.cell? ⟨B, i, none⟩ = some v := by simp [World.cell?, h, hv]
theorem infoS : (prog.info? 9).map (fun i => (i.zero, i.size, i.bytes)) = some (some (.string ⟨#[]⟩), 1, 16) := by kernel_rfl
theorem succ_sh {w : World} {B : Nat} {e : TypeId} {s n : Nat} {v : Value} {xs : List Value} (h : w.ownsRow B e s v (n + 1) xs) : ∃ g cap, v = .slice (some ⟨g, 0, none⟩) (n + 1) cap /\ n + 1 <= cap /\ cap <= 9223372036854775807 := by
 rcases h.2 with ⟨_, e⟩ | ⟨g, cap, cur, e, _, _, h1, h2, _⟩
 ·omega
 ·exact ⟨g, cap, e, h1, by unfold maxLen at h2; omega⟩
theorem own_sh {w : World} {B : Nat} {e : TypeId} {s n : Nat} {v : Value} {xs : List Value} (h : w.ownsRow B e s v n xs) : ∃ a cap, v = .slice a n cap /\ n <= cap /\ cap <= 9223372036854775807 /\ (a = none -> cap = 0) := by
 rcases h.2 with ⟨rfl, e⟩ | ⟨g, cap, cur, e, _, _, h1, h2, _⟩
 ·exact ⟨none, 0, by rw [e], by omega, by omega, fun _ => rfl⟩
 ·exact ⟨_, cap, e, h1, by unfold maxLen at h2; omega, fun h => by cases h⟩
theorem grown_lt {w W0 : World} {o : Obj} {v v' : Value} (hs : W0 = w.alloc o) (hat : v'.ownBlock = v.ownBlock \/ v'.ownBlock = some W0.heap.size) : v'.ownBlock = v.ownBlock \/ ∃ g, v'.ownBlock = some g /\ w.heap.size <= g := by
 rcases hat with e | e
 ·exact .inl e
 ·exact .inr ⟨_, e, by subst hs; simp⟩
structure Ai (w W' : World) (W : Nat) (cv tv : Value) (C : List Ins) (T : List ByteArray) (x : Ins) (v : Value) : Prop where
 sh : ∃ g cap, v = .slice (some ⟨g, 0, none⟩) (C.length + 1) cap /\ C.length + 1 <= cap /\ cap <= 9223372036854775807
 c : W'.cell? ⟨W, 0, none⟩ = some cv
 f : W'.frozen? ⟨W, 0, none⟩ = false
 wb : Wb (W'.setCell ⟨W, 0, none⟩ v) W v tv (C ++ [x]) T
 kw : Kw W cv tv v tv w (W'.setCell ⟨W, 0, none⟩ v)
structure At (w W' : World) (W : Nat) (cv tv : Value) (C : List Ins) (T : List ByteArray) (x : ByteArray) (v : Value) : Prop where
 sh : ∃ g cap, v = .slice (some ⟨g, 0, none⟩) (T.length + 1) cap /\ T.length + 1 <= cap /\ cap <= 9223372036854775807
 c : W'.cell? ⟨W, 1, none⟩ = some tv
 f : W'.frozen? ⟨W, 1, none⟩ = false
 wb : Wb (W'.setCell ⟨W, 1, none⟩ v) W cv v C (T ++ [x])
 kw : Kw W cv tv cv v w (W'.setCell ⟨W, 1, none⟩ v)
theorem run_i {w : World} {W : Nat} {cv tv : Value} {C : List Ins} {T : List ByteArray} (h : Wb w W cv tv C T) (hl : C.length <= 65536) (ty : TypeId) (x : Ins) :
  ∃ v W', (Builtin.append_ #[27, 27] ty #[cv, .slice (some ⟨w.heap.size, 0, none⟩) 1 1]).run prog (w.alloc (.cells #[.int .i64 x.1, .int .i64 x.2] 57)) = .ok v W' /\ Ai w W' W cv tv C T x v := by
 have hlt := h.lt
 obtain ⟨ix, hi, hz0, hz1, hz2⟩ := info_parts infoN
 have hnews : ∀ j u, (flat [x])[j]? = some u -> (w.alloc (.cells #[.int .i64 x.1, .int .i64 x.2] 57)).cell? ((⟨w.heap.size, 0, none⟩ : Addr).add j) = some u := by
  intro j u hu
  have hx := heap_alloc_new w (.cells #[.int .i64 x.1, .int .i64 x.2] 57)
  rw [add_none, Nat.zero_add]
  exact cell_of hx j u (by simpa [flat] using hu)
 obtain ⟨v, W', hrun, hown, hgrow, -, hat⟩ := run_append_own_at (P := prog) (w.alloc (.cells #[.int .i64 x.1, .int .i64 x.2] 57)) (W + 1) 27 ty 57 ix (.agg #[.int .i64 0, .int .i64 0]) 2 16 underlying27 hi hz0 hz1 hz2 rfl (by decide) _ _ _ (World.ownsRow.alloc h.own _) ⟨w.heap.size, 0, none⟩ 1 1 (flat [x]) rfl hnews (one_ins _) (by unfold maxLen; omega) (by omega) (by simp; omega)
 refine ⟨v, W', hrun, ?_⟩
 have hs := hgrow.size
 have hbk : ∀ b, b < w.heap.size -> cv.ownBlock ≠ some b -> W'.heap[b]? = w.heap[b]? := fun b hb hn => (hgrow.block b (by simp; omega) (fun e => hn e.symm)).trans (Below.heap_alloc _ _ _ hb)
 have hWc : cv.ownBlock ≠ some W := fun e => by have := h.c_lt e; omega
 have hbx : W'.heap[W]? = some (.cells #[cv, tv] 54 (0, 0)) := (hbk W hlt hWc).trans h.box
 have hvW : v.ownBlock ≠ some W := fun e => by have := World.ownsRow.lt hown W e; omega
 have hst : ∀ b, b ≠ W -> (W'.setCell ⟨W, 0, none⟩ v).heap[b]? = W'.heap[b]? := fun b hb => Below.heap_setCell _ _ _ _ hb
 have hat2 := grown_lt (w := w) rfl hat
 refine ⟨succ_sh hown, by simp [World.cell?, hbx], by simp [World.frozen?, hbx], ⟨?_, ?_, ?_, ?_⟩, ⟨?_, ?_, hat2, .inl rfl⟩⟩
 ·exact block_set (j := 0) hbx v
 ·unfold Oc
  rw [flat_append, List.length_append]
  exact own_keep hown fun g hg => hst g (fun e => hvW (e ▸ hg))
 ·exact own_keep h.tex fun g hg => (hst g (by have := h.t_lt hg; omega)).trans (hbk g (h.t_lt hg).2 (fun e => h.ne g e hg))
 ·intro g hg e
  rcases hat2 with e2 | ⟨g2, e2, hg2⟩
  ·exact h.ne g (e2 ▸ hg) e
  ·rw [e2] at hg
   cases hg
   have := h.t_lt e
   omega
 ·have b0 : Below W w (w.alloc (.cells #[.int .i64 x.1, .int .i64 x.2] 57)) := (Below.refl _ w).alloc (by omega) _
  exact (b0.grown hgrow (by simp; omega) (fun k hk => by have := h.c_lt hk; omega)).setCell (by simp) _
 ·intro b hb h1 h2 h3
  exact (hst b h1).trans (hbk b hb h2)
theorem run_t {w : World} {W : Nat} {cv tv : Value} {C : List Ins} {T : List ByteArray} (h : Wb w W cv tv C T) (hl : T.length <= 65536) (ty : TypeId) (x : ByteArray) :
  ∃ v W', (Builtin.append_ #[28, 28] ty #[tv, .slice (some ⟨w.heap.size, 0, none⟩) 1 1]).run prog (w.alloc (.cells #[.string x] 9)) = .ok v W' /\ At w W' W cv tv C T x v := by
 have hlt := h.lt
 obtain ⟨ix, hi, hz0, hz1, hz2⟩ := info_parts infoS
 have hnews : ∀ j u, [Value.string x][j]? = some u -> (w.alloc (.cells #[.string x] 9)).cell? ((⟨w.heap.size, 0, none⟩ : Addr).add j) = some u := by
  intro j u hu
  have hx := heap_alloc_new w (.cells #[.string x] 9)
  rw [add_none, Nat.zero_add]
  exact cell_of hx j u (by simpa using hu)
 obtain ⟨v, W', hrun, hown, hgrow, -, hat⟩ := run_append_own_at (P := prog) (w.alloc (.cells #[.string x] 9)) (W + 1) 28 ty 9 ix (.string ⟨#[]⟩) 1 16 underlying28 hi hz0 hz1 hz2 rfl (by decide) _ _ _ (World.ownsRow.alloc h.tex _) ⟨w.heap.size, 0, none⟩ 1 1 [.string x] rfl hnews (by simp [Value.oneCell']) (by unfold maxLen; omega) (by omega) (by simp; omega)
 refine ⟨v, W', hrun, ?_⟩
 have hs := hgrow.size
 have hbk : ∀ b, b < w.heap.size -> tv.ownBlock ≠ some b -> W'.heap[b]? = w.heap[b]? := fun b hb hn => (hgrow.block b (by simp; omega) (fun e => hn e.symm)).trans (Below.heap_alloc _ _ _ hb)
 have hWt : tv.ownBlock ≠ some W := fun e => by have := h.t_lt e; omega
 have hbx : W'.heap[W]? = some (.cells #[cv, tv] 54 (0, 0)) := (hbk W hlt hWt).trans h.box
 have hvW : v.ownBlock ≠ some W := fun e => by have := World.ownsRow.lt hown W e; omega
 have hst : ∀ b, b ≠ W -> (W'.setCell ⟨W, 1, none⟩ v).heap[b]? = W'.heap[b]? := fun b hb => Below.heap_setCell _ _ _ _ hb
 have hat2 := grown_lt (w := w) rfl hat
 refine ⟨succ_sh hown, by simp [World.cell?, hbx], by simp [World.frozen?, hbx], ⟨?_, ?_, ?_, ?_⟩, ⟨?_, ?_, .inl rfl, hat2⟩⟩
 ·exact block_set (j := 1) hbx v
 ·exact own_keep h.own fun g hg => (hst g (by have := h.c_lt hg; omega)).trans (hbk g (h.c_lt hg).2 (fun e => h.ne g hg e))
 ·unfold Ot
  rw [List.map_append, List.length_append]
  exact own_keep hown fun g hg => hst g (fun e => hvW (e ▸ hg))
 ·intro g hg e
  rcases hat2 with e2 | ⟨g2, e2, hg2⟩
  ·exact h.ne g hg (e2 ▸ e)
  ·rw [e2] at e
   cases e
   have := h.c_lt hg
   omega
 ·have b0 : Below W w (w.alloc (.cells #[.string x] 9)) := (Below.refl _ w).alloc (by omega) _
  exact (b0.grown hgrow (by simp; omega) (fun k hk => by have := h.t_lt hk; omega)).setCell (by simp) _
 ·intro b hb h1 h2 h3
  exact (hst b h1).trans (hbk b hb h3)
section
variable {ops : Array Oper} {o : Oper} {y : Act} {K : Act -> World -> Prop} {Q : Exit -> Act -> World -> Prop} {E : Prop} {w W0 : World} {W : Nat} {cv tv : Value} {C : List Ins} {T : List ByteArray}
theorem wp_i (x z : Operand) (ho : o.op = .call { callee := .builtin .append, args := #[x, z], argTypes := #[27, 27] }) (h : Wb w W cv tv C T) (hl : C.length <= 65536) (i : Ins)
  (hW : W0 = w.alloc (.cells #[.int .i64 i.1, .int .i64 i.2] 57)) (hx : y.eval x = cv) (hz : y.eval z = .slice (some ⟨w.heap.size, 0, none⟩) 1 1) (hk : ∀ v W', Ai w W' W cv tv C T i v -> K (y.put o.dst v) W') : o.wp prog y W0 K Q := by
 obtain ⟨v, W', hrun, h2⟩ := run_i h hl o.type i
 subst hW
 unfold Oper.wp execOp
 simp only [ho, resolve, invoke, builtin, Sem.run_bind, Sem.run_pure, Result.andThen_ok, List.map_toArray, List.map_cons, List.map_nil, hx, hz, hrun]
 exact hk v W' h2
theorem list_i {rest : List Oper} (hgd : o.guard = none) (x z : Operand) (ho : o.op = .call { callee := .builtin .append, args := #[x, z], argTypes := #[27, 27] }) (h : Wb w W cv tv C T) (hl : C.length <= 65536) (i : Ins)
  (hW : W0 = w.alloc (.cells #[.int .i64 i.1, .int .i64 i.2] 57)) (hx : y.eval x = cv) (hz : y.eval z = .slice (some ⟨w.heap.size, 0, none⟩) 1 1) (hk : ∀ v W', Ai w W' W cv tv C T i v -> wpList prog ops Q rest (y.put o.dst v) W') : wpList prog ops Q (o :: rest) y W0 :=
 wpList_plain hgd fun _ hK => wp_i x z ho h hl i hW hx hz fun v W' h2 => hK _ _ (hk v W' h2)
theorem wp_t (x z : Operand) (ho : o.op = .call { callee := .builtin .append, args := #[x, z], argTypes := #[28, 28] }) (h : Wb w W cv tv C T) (hl : T.length <= 65536) (i : ByteArray)
  (hW : W0 = w.alloc (.cells #[.string i] 9)) (hx : y.eval x = tv) (hz : y.eval z = .slice (some ⟨w.heap.size, 0, none⟩) 1 1) (hk : ∀ v W', At w W' W cv tv C T i v -> K (y.put o.dst v) W') : o.wp prog y W0 K Q := by
 obtain ⟨v, W', hrun, h2⟩ := run_t h hl o.type i
 subst hW
 unfold Oper.wp execOp
 simp only [ho, resolve, invoke, builtin, Sem.run_bind, Sem.run_pure, Result.andThen_ok, List.map_toArray, List.map_cons, List.map_nil, hx, hz, hrun]
 exact hk v W' h2
theorem step_t (hgd : o.guard = none) (x z : Operand) (ho : o.op = .call { callee := .builtin .append, args := #[x, z], argTypes := #[28, 28] }) (h : Wb w W cv tv C T) (hl : T.length <= 65536) (i : ByteArray)
  (hW : W0 = w.alloc (.cells #[.string i] 9)) (hx : y.eval x = tv) (hz : y.eval z = .slice (some ⟨w.heap.size, 0, none⟩) 1 1) (hk : ∀ v W', At w W' W cv tv C T i v -> K (y.put o.dst v) W') : if Region.wanted o (yielded ops y.tmps) = true then Oper.wp prog o y W0 K Q else E := by
 have hw : Region.wanted o (yielded ops y.tmps) = true := by simp [Region.wanted, hgd]
 rw [if_pos hw]
 exact wp_t x z ho h hl i hW hx hz hk
end
theorem put_c {w : World} {W : Nat} {cv tv : Value} {C : List Ins} {T : List ByteArray} (h : Wb w W cv tv C T) (hl : C.length <= 65536) (o a : Int) :
  Calls prog 53 #[ptr W, .int .i64 o, .int .i64 a] w fun e w' => e = .returned (.int .i64 C.length) /\ ∃ cv', Wb w' W cv' tv (C ++ [(o, a)]) T /\ Kw W cv tv cv' tv w w' := by
 obtain ⟨k0, -, f0, -⟩ := h.cells
 have HH : Hid _ := h
 clear h
 go_enter func53, ntmps53
 go_wp2_with (first
  | (at_builtin; refine list_i (by rfl) _ _ (by rfl) HH.out hl (o, a) (by rfl) (by rfl) (by rfl) ?_))
 rintro v W' ⟨⟨g, cap, rfl, hc1, hc2⟩, c0, f1, wb, kw⟩
 go_wp2_with fail
 go_ret
 exact ⟨rfl, _, wb, kw⟩
end Go.Proofs.YthjbknncbhkinaaGreatDoor.NWr
