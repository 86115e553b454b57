/- Expressions that may be: the nodes of a tree, and how much room they leave (package shape). -/
import Derived.Test.YthjbknncbhkinaaGreatDoorSFit
import Derived.Deep.RegionHeld3
namespace Go.Proofs.YthjbknncbhkinaaGreatDoor.SBe
open Go.RowKit Go.Proofs.YthjbknncbhkinaaGreatDoor.Base Go.Proofs.YthjbknncbhkinaaGreatDoor.UBase Go.Proofs.YthjbknncbhkinaaGreatDoor.EPure Go.Proofs.YthjbknncbhkinaaGreatDoor.SFit
open Go.Proofs.YthjbknncbhkinaaGreatDoor.XBase (four_box two_box frozen_box Rg Four)
set_option linter.unusedVariables false

/-- How much room is left behind trees that may be; below 0, if one may not, or there is not enough. -/
def bhL (lf : Int → Int → ByteArray → Bool) : List Ex → Int → Int
  | [], r => r
  | .mk o i s l :: t, r => bhL lf t (if r ≤ 0 ∨ (l.length : Int) ≠ kd o ∨ ft lf o i s = false then -1 else bhL lf l (r - 1))
theorem bhL_nil (lf : Int → Int → ByteArray → Bool) (r : Int) : bhL lf [] r = r := by rw [bhL]
theorem bhL_no {lf : Int → Int → ByteArray → Bool} {o i : Int} {s : ByteArray} {l : List Ex} {r : Int} (h : r ≤ 0 ∨ (l.length : Int) ≠ kd o ∨ ft lf o i s = false) : bhL lf [.mk o i s l] r = -1 := by
  rw [bhL, if_pos h, bhL_nil]
theorem bhL_one {lf : Int → Int → ByteArray → Bool} {o i : Int} {s : ByteArray} {l : List Ex} {r : Int} (h : ¬ (r ≤ 0 ∨ (l.length : Int) ≠ kd o ∨ ft lf o i s = false)) : bhL lf [.mk o i s l] r = bhL lf l (r - 1) := by
  rw [bhL, if_neg h, bhL_nil]
theorem bhL_cons (lf : Int → Int → ByteArray → Bool) (x : Ex) (t : List Ex) (r : Int) : bhL lf (x :: t) r = bhL lf t (bhL lf [x] r) := by
  obtain ⟨o, i, s, l⟩ := x
  rw [bhL, bhL, bhL_nil]
theorem bhL_le (lf : Int → Int → ByteArray → Bool) : ∀ (n : Nat) (l : List Ex) (r : Int), SizeOf.sizeOf l ≤ n → -1 ≤ r → -1 ≤ bhL lf l r ∧ bhL lf l r ≤ r := by
  intro n
  induction n with
  | zero =>
    intro l r h hr
    cases l with
    | nil => rw [bhL_nil]; omega
    | cons x t => exact absurd h (by simp)
  | succ n ih =>
    intro l r h hr
    cases l with
    | nil => rw [bhL_nil]; omega
    | cons x t =>
      obtain ⟨o, i, s, k⟩ := x
      rw [bhL]
      by_cases hc : r ≤ 0 ∨ (k.length : Int) ≠ kd o ∨ ft lf o i s = false
      · rw [if_pos hc]
        have := ih t (-1) (by simp at h; omega) (by omega)
        omega
      · rw [if_neg hc]
        have h1 := ih k (r - 1) (by simp at h; omega) (by omega)
        have h2 := ih t (bhL lf k (r - 1)) (by simp at h; omega) h1.1
        omega
/-- What behind does, at trees nested less than m deep. -/
def BI (k : Nat) (lf : Int → Int → ByteArray → Bool) (m : Nat) : Prop := ∀ (w : World) (v : Value) (x : Ex) (r : Int), XBase.In false (fun _ => True) w m v x → -1 ≤ r → r ≤ 65536 →
    Calls Tryz.prog 71 #[.int .i64 r, v, lfv k] w fun e w' => e = .returned (.int .i64 (bhL lf [x] r)) ∧ Below w.heap.size w w'
set_option maxRecDepth 20000 in
set_option maxHeartbeats 1600000 in
theorem be_full {k : Nat} {lf : Int → Int → ByteArray → Bool} {w : World} {o i : Int} {s : ByteArray} {l : List Ex} {a : Option Addr} {cap : Nat} {r : Int} (ho : -9223372036854775808 ≤ o ∧ o ≤ 9223372036854775807) (hl : l.length ≤ 140737488351232) (hcap : l.length ≤ cap ∧ cap ≤ 9223372036854775807) (hs : s.size ≤ 140737488351232) (hr1 : -1 ≤ r) (hr5 : r ≤ 65536) (h0 : r ≤ 0) :
    Calls Tryz.prog 71 #[.int .i64 r, .agg #[.int .i64 o, .int .i64 i, .string s, .slice a l.length cap], lfv k] w fun e w' => e = .returned (.int .i64 (-1)) ∧ Below w.heap.size w w' := by
  obtain ⟨W0, hW0⟩ : ∃ W0, w.alloc (.cells #[.int .i64 o, .int .i64 i, .string s, .slice a l.length cap] 24) = W0 := ⟨_, rfl⟩
  have b0 : Below w.heap.size w W0 := by rw [← hW0]; exact (Below.refl _ w).alloc (Nat.le_refl _) _
  have q0 : W0.heap[w.heap.size]? = some (.cells #[.int .i64 o, .int .i64 i, .string s, .slice a l.length cap] 24 (0, 0)) := by rw [← hW0]; exact heap_alloc_new w _
  obtain ⟨v0, v1, v2, v3⟩ := four_box q0
  have HB0 : Hid (Below w.heap.size w W0) := b0
  have HQ0 : Hid (W0.heap[w.heap.size]? = some (.cells #[.int .i64 o, .int .i64 i, .string s, .slice a l.length cap] 24 (0, 0))) := q0
  have cK := fun W => kidsOf_c o ho.1 ho.2 W
  have e0 : decide (r ≤ 0) = true := decide_eq_true h0
  clear q0 b0 h0
  go_enter Tryz.func71, Tryz.ntmps71
  go_wp2_with fail
  clear hW0
  go_quiet (first | (go_at_call 92; exact Calls.quiet_of_same (cK _)))
  go_wp2_with fail
  go_ret
  exact ⟨rfl, HB0.out.trans ⟨rfl, rfl, rfl, by simp, fun _ _ => by simp⟩⟩
set_option maxRecDepth 20000 in
set_option maxHeartbeats 1600000 in
theorem be_kids {k : Nat} {lf : Int → Int → ByteArray → Bool} {w : World} {o i : Int} {s : ByteArray} {l : List Ex} {a : Option Addr} {cap : Nat} {r : Int} (ho : -9223372036854775808 ≤ o ∧ o ≤ 9223372036854775807) (hl : l.length ≤ 140737488351232) (hcap : l.length ≤ cap ∧ cap ≤ 9223372036854775807) (hs : s.size ≤ 140737488351232) (hr1 : -1 ≤ r) (hr5 : r ≤ 65536) (h0 : ¬ r ≤ 0) (hk : (l.length : Int) ≠ kd o) :
    Calls Tryz.prog 71 #[.int .i64 r, .agg #[.int .i64 o, .int .i64 i, .string s, .slice a l.length cap], lfv k] w fun e w' => e = .returned (.int .i64 (-1)) ∧ Below w.heap.size w w' := by
  obtain ⟨W0, hW0⟩ : ∃ W0, w.alloc (.cells #[.int .i64 o, .int .i64 i, .string s, .slice a l.length cap] 24) = W0 := ⟨_, rfl⟩
  have b0 : Below w.heap.size w W0 := by rw [← hW0]; exact (Below.refl _ w).alloc (Nat.le_refl _) _
  have q0 : W0.heap[w.heap.size]? = some (.cells #[.int .i64 o, .int .i64 i, .string s, .slice a l.length cap] 24 (0, 0)) := by rw [← hW0]; exact heap_alloc_new w _
  obtain ⟨v0, v1, v2, v3⟩ := four_box q0
  have HB0 : Hid (Below w.heap.size w W0) := b0
  have HQ0 : Hid (W0.heap[w.heap.size]? = some (.cells #[.int .i64 o, .int .i64 i, .string s, .slice a l.length cap] 24 (0, 0))) := q0
  have cK := fun W => kidsOf_c o ho.1 ho.2 W
  have e0 : decide (r ≤ 0) = false := decide_eq_false h0
  obtain ⟨K, hK⟩ : ∃ K, kd o = K := ⟨_, rfl⟩
  rw [hK] at cK hk
  have e1 : ((l.length : Int) != K) = true := by simpa using hk
  clear q0 b0 h0 hk hK
  go_enter Tryz.func71, Tryz.ntmps71
  go_wp2_with fail
  clear hW0
  go_quiet (first | (go_at_call 92; exact Calls.quiet_of_same (cK _)))
  go_wp2_with fail
  go_ret
  exact ⟨rfl, HB0.out.trans ⟨rfl, rfl, rfl, by simp, fun _ _ => by simp⟩⟩
set_option maxRecDepth 20000 in
set_option maxHeartbeats 1600000 in
theorem be_unfit {k : Nat} {lf : Int → Int → ByteArray → Bool} {w : World} {o i : Int} {s : ByteArray} {l : List Ex} {a : Option Addr} {cap : Nat} {r : Int} (ho : -9223372036854775808 ≤ o ∧ o ≤ 9223372036854775807) (hl : l.length ≤ 140737488351232) (hcap : l.length ≤ cap ∧ cap ≤ 9223372036854775807) (hs : s.size ≤ 140737488351232) (hr1 : -1 ≤ r) (hr5 : r ≤ 65536) (hL : Lf k lf) (h0 : ¬ r ≤ 0) (hk : (l.length : Int) = kd o) (hf : ft lf o i s = false) :
    Calls Tryz.prog 71 #[.int .i64 r, .agg #[.int .i64 o, .int .i64 i, .string s, .slice a l.length cap], lfv k] w fun e w' => e = .returned (.int .i64 (-1)) ∧ Below w.heap.size w w' := by
  obtain ⟨W0, hW0⟩ : ∃ W0, w.alloc (.cells #[.int .i64 o, .int .i64 i, .string s, .slice a l.length cap] 24) = W0 := ⟨_, rfl⟩
  have b0 : Below w.heap.size w W0 := by rw [← hW0]; exact (Below.refl _ w).alloc (Nat.le_refl _) _
  have q0 : W0.heap[w.heap.size]? = some (.cells #[.int .i64 o, .int .i64 i, .string s, .slice a l.length cap] 24 (0, 0)) := by rw [← hW0]; exact heap_alloc_new w _
  obtain ⟨v0, v1, v2, v3⟩ := four_box q0
  have HB0 : Hid (Below w.heap.size w W0) := b0
  have HQ0 : Hid (W0.heap[w.heap.size]? = some (.cells #[.int .i64 o, .int .i64 i, .string s, .slice a l.length cap] 24 (0, 0))) := q0
  have cK := fun W => kidsOf_c o ho.1 ho.2 W
  have e0 : decide (r ≤ 0) = false := decide_eq_false h0
  obtain ⟨K, hK⟩ : ∃ K, kd o = K := ⟨_, rfl⟩
  rw [hK] at cK hk
  have e1 : ((l.length : Int) != K) = false := by simpa using hk
  have cF := fun W => fits_c hL (o := o) (i := i) (a := a) (n := l.length) (c := cap) hs W
  rw [hf] at cF
  have hz0 : W0.heap.size = w.heap.size + 1 := by rw [← hW0]; simp
  clear q0 b0 h0 hk hK hf
  go_enter Tryz.func71, Tryz.ntmps71
  go_wp2_with fail
  clear hW0
  go_region_held3 (fun w' => w'.cell? ⟨w.heap.size, 0, none⟩ = some (.int .i64 o) ∧ w'.cell? ⟨w.heap.size, 1, none⟩ = some (.int .i64 i) ∧ w'.cell? ⟨w.heap.size, 2, none⟩ = some (.string s) ∧ w'.cell? ⟨w.heap.size, 3, none⟩ = some (.slice a l.length cap)) (go_keep) (first | (go_at_call 92; refine (cK _).mono ?_; rintro e W1 ⟨rfl, rfl⟩) | (go_at_call 93; refine (cF _).mono ?_; rintro e W2 ⟨rfl, b2⟩; have Q2 := (b2.block w.heap.size (show w.heap.size < W0.heap.size by omega)).trans HQ0.out; obtain ⟨u0, u1, u2, u3⟩ := four_box Q2) | fail)
  all_goals
    rename_i hHeld
    clear hHeld
    have B2 : Below w.heap.size w W2 := (HB0.out.trans (Below.refl _ W0).drew).trans (b2.mono HB0.out.size)
    clear u0 u1 u2 u3 Q2
    have HB2 : Hid (Below w.heap.size w W2) := B2
    clear B2 b2
    go_wp2_with fail
    go_ret
    exact ⟨rfl, HB2.out⟩
set_option maxRecDepth 20000 in
set_option maxHeartbeats 1600000 in
theorem be_go {k : Nat} {lf : Int → Int → ByteArray → Bool} {w : World} {o i : Int} {s : ByteArray} {l : List Ex} {a : Option Addr} {cap : Nat} {r : Int} (ho : -9223372036854775808 ≤ o ∧ o ≤ 9223372036854775807) (hl : l.length ≤ 140737488351232) (hcap : l.length ≤ cap ∧ cap ≤ 9223372036854775807) (hs : s.size ≤ 140737488351232) (hr1 : -1 ≤ r) (hr5 : r ≤ 65536) (hL : Lf k lf) {m : Nat} (ih : BI k lf m) (hin : XBase.InL false (fun _ => True) w m (.slice a l.length cap) l) (h0 : ¬ r ≤ 0) (hk : (l.length : Int) = kd o) (hf : ft lf o i s = true) :
    Calls Tryz.prog 71 #[.int .i64 r, .agg #[.int .i64 o, .int .i64 i, .string s, .slice a l.length cap], lfv k] w fun e w' => e = .returned (.int .i64 (bhL lf l (r - 1))) ∧ Below w.heap.size w w' := by
  obtain ⟨W0, hW0⟩ : ∃ W0, w.alloc (.cells #[.int .i64 o, .int .i64 i, .string s, .slice a l.length cap] 24) = W0 := ⟨_, rfl⟩
  have b0 : Below w.heap.size w W0 := by rw [← hW0]; exact (Below.refl _ w).alloc (Nat.le_refl _) _
  have q0 : W0.heap[w.heap.size]? = some (.cells #[.int .i64 o, .int .i64 i, .string s, .slice a l.length cap] 24 (0, 0)) := by rw [← hW0]; exact heap_alloc_new w _
  obtain ⟨v0, v1, v2, v3⟩ := four_box q0
  have HB0 : Hid (Below w.heap.size w W0) := b0
  have HQ0 : Hid (W0.heap[w.heap.size]? = some (.cells #[.int .i64 o, .int .i64 i, .string s, .slice a l.length cap] 24 (0, 0))) := q0
  have cK := fun W => kidsOf_c o ho.1 ho.2 W
  have e0 : decide (r ≤ 0) = false := decide_eq_false h0
  obtain ⟨K, hK⟩ : ∃ K, kd o = K := ⟨_, rfl⟩
  rw [hK] at cK hk
  have e1 : ((l.length : Int) != K) = false := by simpa using hk
  have cF := fun W => fits_c hL (o := o) (i := i) (a := a) (n := l.length) (c := cap) hs W
  rw [hf] at cF
  have hz0 : W0.heap.size = w.heap.size + 1 := by rw [← hW0]; simp
  have HIN : Hid (XBase.InL false (fun _ => True) w m (.slice a l.length cap) l) := hin
  obtain ⟨T, hT⟩ : ∃ T, bhL lf l (r - 1) = T := ⟨_, rfl⟩
  rw [hT]
  have HT : Hid (bhL lf l (r - 1) = T) := hT
  have hwr : IntKind.i64.wrap (r - 1) = r - 1 := by rw [IntKind.wrap_i64]; omega
  clear q0 b0 hk hK hf hin hT
  go_enter Tryz.func71, Tryz.ntmps71
  go_wp2_with fail
  clear hW0
  go_region_held3 (fun w' => w'.cell? ⟨w.heap.size, 0, none⟩ = some (.int .i64 o) ∧ w'.cell? ⟨w.heap.size, 1, none⟩ = some (.int .i64 i) ∧ w'.cell? ⟨w.heap.size, 2, none⟩ = some (.string s) ∧ w'.cell? ⟨w.heap.size, 3, none⟩ = some (.slice a l.length cap)) (go_keep) (first | (go_at_call 92; refine (cK _).mono ?_; rintro e W1 ⟨rfl, rfl⟩) | (go_at_call 93; refine (cF _).mono ?_; rintro e W2 ⟨rfl, b2⟩; have Q2 := (b2.block w.heap.size (show w.heap.size < W0.heap.size by omega)).trans HQ0.out; obtain ⟨u0, u1, u2, u3⟩ := four_box Q2) | fail)
  all_goals
    rename_i hHeld
    clear hHeld
    have B2 : Below w.heap.size w W2 := (HB0.out.trans (Below.refl _ W0).drew).trans (b2.mono HB0.out.size)
    have HB2 : Hid (Below w.heap.size w W2) := B2
    clear B2 b2 Q2 cF cK HB0 HQ0 v0 v1 v2 v3
    go_wp2_with fail
    clear u0 u1 u2 u3
    go_loopw [31, 0] (fun v1 v2 wr => ∃ (q : Nat) (r' : Int), v1 = .int .i64 q ∧ v2 = .int .i64 r' ∧ q ≤ l.length ∧ -1 ≤ r' ∧ r' ≤ 65536 ∧ Below w.heap.size w wr ∧ bhL lf (l.drop q) r' = T) (fun v1 _ _ => l.length - (intOf v1).toNat)
    case atStart => exact ⟨0, r - 1, rfl, rfl, by omega, by omega, by omega, HB2.out, HT.out⟩
    case round =>
      clear HB2 HT
      obtain ⟨q, r', rfl, rfl, hq, hr1, hr2, hB, hM⟩ := hrel
      have HM : Hid (bhL lf (l.drop q) r' = T) := hM
      have HBR : Hid (Below w.heap.size w wr) := hB
      have hsz := hB.size
      clear hM hB
      by_cases hlt : q < l.length
      · have d0 : decide ((q : Int) < (l.length : Int)) = true := by simp; omega
        have hinl := HIN.out.keep (w' := wr) (fun b _ hlt => HBR.out.block b hlt)
        obtain ⟨aa, cc, hsl, -, -, -, -, hLA⟩ := hinl
        cases hsl
        obtain ⟨g, of, u, ha, hSg, hFour, hInq⟩ := XBase.elem_at hLA hlt
        subst ha
        obtain ⟨c0, c1, c2, c3, rfl, d1, d2, d3, d4⟩ := hFour
        obtain ⟨m', a2, cp2, -, rfl, rfl, rfl, rfl, hob, hib, hsb, -⟩ := hInq.kinds
        obtain ⟨y, hy⟩ : ∃ y, l[q] = y := ⟨_, rfl⟩
        rw [hy] at hInq d1 d2 d3 d4
        obtain ⟨W4, hW4⟩ : ∃ W4, wr.alloc (.cells #[.int .i64 y.o, .int .i64 y.i, .string y.s, .slice a2 y.l.length cp2] 24) = W4 := ⟨_, rfl⟩
        have b4 : Below wr.heap.size wr W4 := by rw [← hW4]; exact (Below.refl _ wr).alloc (Nat.le_refl _) _
        have q4 : W4.heap[wr.heap.size]? = some (.cells #[.int .i64 y.o, .int .i64 y.i, .string y.s, .slice a2 y.l.length cp2] 24 (0, 0)) := by rw [← hW4]; exact heap_alloc_new wr _
        obtain ⟨e0', e1', e2', e3'⟩ := four_box q4
        have cM := ih W4 _ y r' (hInq.below b4) hr1 hr2
        have hstep := bhL_cons lf y (l.drop (q + 1)) r'
        have hdrop : l.drop q = y :: l.drop (q + 1) := by rw [← hy]; exact List.drop_eq_getElem_cons hlt
        have HST : Hid (bhL lf (l.drop (q + 1)) (bhL lf [y] r') = T) := by
          show _ = _
          rw [← hstep, ← hdrop]
          exact HM.out
        have hle := bhL_le lf _ [y] r' (Nat.le_refl _) hr1
        obtain ⟨Z, hZ⟩ : ∃ Z, bhL lf [y] r' = Z := ⟨_, rfl⟩
        have HST2 : Hid (bhL lf (l.drop (q + 1)) Z = T) := by rw [← hZ]; exact HST.out
        rw [hZ] at cM hle
        have hcapq : l.length ≤ cap := hcap.1
        clear hstep hdrop HST hZ hInq q4 hLA HM hob hib hsb
        go_wp2_with fail
        refine cM.mono ?_
        rintro e W5 ⟨rfl, B5⟩
        have HKK : Hid (Below w.heap.size w W5) := nx (nx HBR.out b4) B5
        clear cM B5 b4 hW4 d1 d2 d3 d4 e0' e1' e2' e3' HBR
        go_wp2_with fail
        go_roundw
        case rel => exact ⟨q + 1, Z, by go_num, rfl, by omega, by omega, by omega, HKK.out, HST2.out⟩
        case measure => simp only [intOf]; omega
      · have d0 : decide ((q : Int) < (l.length : Int)) = false := by simp; omega
        have hT : r' = T := by
          have := HM.out
          rw [List.drop_eq_nil_of_le (by omega), bhL_nil] at this
          exact this
        subst hT
        go_wp2_with fail
        go_ret
        exact ⟨rfl, HBR.out⟩
theorem be_all {k : Nat} {lf : Int → Int → ByteArray → Bool} (hL : Lf k lf) : ∀ m, BI k lf m
  | 0 => by
    intro w v x r h
    rw [XBase.In] at h
    exact h.elim
  | m + 1 => by
    intro w v x r h hr1 hr2
    obtain ⟨o, i, s, l⟩ := x
    rw [XBase.in_iff] at h
    obtain ⟨lv, rfl, ho, hi, hs, hl⟩ := h
    have hl0 := hl
    obtain ⟨a, cap, rfl, h1, h2, h3, -, -⟩ := hl
    by_cases h0 : r ≤ 0
    · rw [bhL_no (.inl h0)]
      exact be_full (lf := lf) ho (by omega) ⟨h1, h2⟩ hs hr1 hr2 h0
    · by_cases hk : (l.length : Int) = kd o
      · cases hf : ft lf o i s with
        | false =>
          rw [bhL_no (.inr (.inr hf))]
          exact be_unfit ho (by omega) ⟨h1, h2⟩ hs hr1 hr2 hL h0 hk hf
        | true =>
          rw [bhL_one (fun h => h.elim h0 (fun h => h.elim (fun h => h hk) (fun h => by rw [hf] at h; cases h)))]
          exact be_go ho (by omega) ⟨h1, h2⟩ hs hr1 hr2 hL (be_all hL m) hl0 h0 hk hf
      · rw [bhL_no (.inr (.inl hk))]
        exact be_kids (lf := lf) ho (by omega) ⟨h1, h2⟩ hs hr1 hr2 h0 hk
set_option maxRecDepth 20000 in
/-- Tree: at most so many nodes, each of them may be. -/
theorem tree_c {k : Nat} {lf : Int → Int → ByteArray → Bool} (hL : Lf k lf) {m : Nat} {w : World} {v : Value} {x : Ex} {r : Int} (hin : XBase.In false (fun _ => True) w m v x) (h1 : 0 ≤ r) (h2 : r ≤ 65536) :
    Calls Tryz.prog 48 #[v, .int .i64 r, lfv k] w fun e w' => e = .returned (.bool (decide (0 ≤ bhL lf [x] r))) ∧ Below w.heap.size w w' := by
  obtain ⟨m', lv, rfl, rfl, -⟩ := hin.shape
  have b0 : Below w.heap.size w (w.alloc (.cells #[.int .i64 x.o, .int .i64 x.i, .string x.s, lv] 24)) := (Below.refl _ w).alloc (Nat.le_refl _) _
  have cB := be_all hL (m' + 1) (w.alloc (.cells #[.int .i64 x.o, .int .i64 x.i, .string x.s, lv] 24)) _ x r (hin.below b0) (by omega) h2
  obtain ⟨Z, hZ⟩ : ∃ Z, bhL lf [x] r = Z := ⟨_, rfl⟩
  rw [hZ] at cB ⊢
  clear hZ hL
  go_enter Tryz.func48, Tryz.ntmps48
  go_wp2_with fail
  refine cB.mono ?_
  rintro e W1 ⟨rfl, b1⟩
  go_wp2_with fail
  go_ret
  exact ⟨rfl, nx b0 b1⟩
end Go.Proofs.YthjbknncbhkinaaGreatDoor.SBe
