import Derived.BigQuiet
import Derived.Test.YthonejomogkjjaaGreatDoorPA03
set_option linter.unusedVariables false
set_option maxRecDepth 20000
set_option maxHeartbeats 3200000
namespace Go.Proofs.YthonejomogkjjaaGreatDoor.KPi
open Go.RowKit Base EPure
open XBase (four_box frozen_box Four)
def bq : List Ex → Int → Int
 | [], r => r
 | .mk o i s l :: t, r => bq t (if r < 0 then r else bq l (r - 1))
theorem bq_nil (r : Int) : bq [] r = r := by rw [bq]
theorem bq_no {x : Ex} {r : Int} (h : r < 0) : bq [x] r = r := by
 obtain ⟨o, i, s, l⟩ := x
 rw [bq, if_pos h, bq_nil]
theorem bq_one {o i : Int} {s : ByteArray} {l : List Ex} {r : Int} (h : ¬ r < 0) : bq [.mk o i s l] r = bq l (r - 1) := by
 rw [bq, if_neg h, bq_nil]
theorem bq_cons (x : Ex) (t : List Ex) (r : Int) : bq (x :: t) r = bq t (bq [x] r) := by
 obtain ⟨o, i, s, l⟩ := x
 rw [bq, bq, bq_nil]
theorem bq_append (a b : List Ex) (r : Int) : bq (a ++ b) r = bq b (bq a r) := by
 induction a generalizing r with
 | nil => rw [List.nil_append, bq_nil]
 | cons x t ih => rw [List.cons_append, bq_cons, ih, ← bq_cons]
theorem bq_neg (l : List Ex) {r : Int} (h : r < 0) : bq l r = r := by
 induction l with
 | nil => rw [bq_nil]
 | cons x t ih => rw [bq_cons, bq_no h, ih]
theorem bq_le : ∀ (n : Nat) (l : List Ex) (r : Int), SizeOf.sizeOf l ≤ n → bq l r ≤ r ∧ (-1 ≤ r → -1 ≤ bq l r) := by
 intro n
 induction n with
 | zero =>
  intro l r h
  cases l with
  | nil => rw [bq_nil]; omega
  | cons x t => exact absurd h (by simp)
 | succ n ih =>
  intro l r h
  cases l with
  | nil => rw [bq_nil]; omega
  | cons x t =>
   obtain ⟨o, i, s, k⟩ := x
   rw [bq]
   by_cases hc : r < 0
   ·rw [if_pos hc, bq_neg t hc]
    omega
   ·rw [if_neg hc]
    have h1 := ih k (r - 1) (by simp at h; omega)
    have h2 := ih t (bq k (r - 1)) (by simp at h; omega)
    omega
theorem bq_bd (l : List Ex) {r : Int} (h : -900000000000000000 ≤ r) : -900000000000000000 ≤ bq l r ∧ bq l r ≤ r := by
 have := bq_le _ l r (Nat.le_refl _)
 by_cases hc : r < 0
 ·rw [bq_neg l hc]; omega
 ·omega
def BI (m : Nat) : Prop := ∀ (w : World) (v : Value) (x : Ex) (r : Int), XBase.In false (fun _ => True) w m v x → -900000000000000000 ≤ r → r ≤ 65536 →
  Calls Tryz.prog 232 #[.int .i64 r, v] w fun e w' => e = .returned (.int .i64 (bq [x] r)) ∧ Below w.heap.size w w'
theorem be_neg {w : World} {o i : Int} {s : ByteArray} {l : List Ex} {a : Option Addr} {cap : Nat} {r : Int} (h0 : r < 0) :
  Calls Tryz.prog 232 #[.int .i64 r, .agg #[.int .i64 o, .int .i64 i, .string s, .slice a l.length cap]] w fun e w' => e = .returned (.int .i64 r) ∧ Below w.heap.size w w' := by
 have b0 : Below w.heap.size w (w.alloc (.cells #[.int .i64 o, .int .i64 i, .string s, .slice a l.length cap] 44)) := (Below.refl _ w).alloc (Nat.le_refl _) _
 have e0 : decide (r < 0) = true := decide_eq_true h0
 clear h0
 go_enter Tryz.func232, Tryz.ntmps232
 go_wp2_with fail
 go_ret
 exact ⟨rfl, b0⟩
theorem be_go {w : World} {o i : Int} {s : ByteArray} {l : List Ex} {a : Option Addr} {cap : Nat} {r : Int} (hl : l.length ≤ 140737488351232) (hcap : l.length ≤ cap ∧ cap ≤ 9223372036854775807) (h0 : ¬ r < 0) (hr5 : r ≤ 65536) {m : Nat} (ih : BI m) (hin : XBase.InL false (fun _ => True) w m (.slice a l.length cap) l) :
  Calls Tryz.prog 232 #[.int .i64 r, .agg #[.int .i64 o, .int .i64 i, .string s, .slice a l.length cap]] w fun e w' => e = .returned (.int .i64 (bq l (r - 1))) ∧ Below w.heap.size w w' := by
 obtain ⟨W0, hW0⟩ : ∃ W0, w.alloc (.cells #[.int .i64 o, .int .i64 i, .string s, .slice a l.length cap] 44) = W0 := ⟨_, rfl⟩
 have b0 : Below w.heap.size w W0 := by rw [← hW0]; exact (Below.refl _ w).alloc (Nat.le_refl _) _
 have q0 : W0.heap[w.heap.size]? = some (.cells #[.int .i64 o, .int .i64 i, .string s, .slice a l.length cap] 44 (0, 0)) := by rw [← hW0]; exact heap_alloc_new w _
 obtain ⟨v0, v1, v2, v3⟩ := four_box q0
 have HB0 : Hid (Below w.heap.size w W0) := b0
 have e0 : decide (r < 0) = false := decide_eq_false h0
 have HIN : Hid (XBase.InL false (fun _ => True) w m (.slice a l.length cap) l) := hin
 have Hih : Hid (BI m) := ih
 obtain ⟨T, hT⟩ : ∃ T, bq l (r - 1) = T := ⟨_, rfl⟩
 rw [hT]
 have HT : Hid (bq l (r - 1) = T) := hT
 have hr0 : 0 ≤ r := by omega
 clear q0 b0 hin hT h0 ih
 go_enter Tryz.func232, Tryz.ntmps232
 go_wp2_with fail
 try rw [hW0]
 clear hW0 v0 v1 v2 v3
 go_loopw [15, 0] (fun v1 v2 wr => ∃ (q : Nat) (r' : Int), v1 = .int .i64 q ∧ v2 = .int .i64 r' ∧ q ≤ l.length ∧ -1 ≤ r' ∧ r' ≤ 65536 ∧ Below w.heap.size w wr ∧ bq (l.drop q) r' = T) (fun v1 _ _ => l.length - (intOf v1).toNat)
 case atStart => exact ⟨0, r - 1, rfl, by go_num, by omega, by omega, by omega, HB0.out, HT.out⟩
 case round =>
  clear HB0 HT
  obtain ⟨q, r', rfl, rfl, hq, hr1, hr2, hB, hM⟩ := hrel
  have HM : Hid (bq (l.drop q) r' = T) := hM
  have HBR : Hid (Below w.heap.size w wr) := hB
  have hsz := hB.size
  clear hM hB
  by_cases hlt : q < l.length
  ·have d0 : decide ((q : Int) < (l.length : Int)) = true := by simp; omega
   have hinl := HIN.out.keep (w' := wr) (fun b _ hlt => HBR.out.block b hlt)
   obtain ⟨aa, cc, hsl, -, -, -, -, hLA⟩ := hinl
   cases hsl
   obtain ⟨g, of, u, ha, hSg, hFour, hInq⟩ := XBase.elem_at hLA hlt
   subst ha
   obtain ⟨c0, c1, c2, c3, rfl, d1, d2, d3, d4⟩ := hFour
   obtain ⟨m', a2, cp2, -, rfl, rfl, rfl, rfl, hob, hib, hsb, -⟩ := hInq.kinds
   obtain ⟨y, hy⟩ : ∃ y, l[q] = y := ⟨_, rfl⟩
   rw [hy] at hInq d1 d2 d3 d4
   obtain ⟨W4, hW4⟩ : ∃ W4, wr.alloc (.cells #[.int .i64 y.o, .int .i64 y.i, .string y.s, .slice a2 y.l.length cp2] 44) = W4 := ⟨_, rfl⟩
   have b4 : Below wr.heap.size wr W4 := by rw [← hW4]; exact (Below.refl _ wr).alloc (Nat.le_refl _) _
   have q4 : W4.heap[wr.heap.size]? = some (.cells #[.int .i64 y.o, .int .i64 y.i, .string y.s, .slice a2 y.l.length cp2] 44 (0, 0)) := by rw [← hW4]; exact heap_alloc_new wr _
   obtain ⟨e0', e1', e2', e3'⟩ := four_box q4
   have cM := Hih.out W4 _ y r' (hInq.below b4) (by omega) hr2
   have hstep := bq_cons y (l.drop (q + 1)) r'
   have hdrop : l.drop q = y :: l.drop (q + 1) := by rw [← hy]; exact List.drop_eq_getElem_cons hlt
   have HST : Hid (bq (l.drop (q + 1)) (bq [y] r') = T) := by
    show _ = _
    rw [← hstep, ← hdrop]
    exact HM.out
   have hle := bq_le _ [y] r' (Nat.le_refl _)
   obtain ⟨Z, hZ⟩ : ∃ Z, bq [y] r' = Z := ⟨_, rfl⟩
   have HST2 : Hid (bq (l.drop (q + 1)) Z = T) := by rw [← hZ]; exact HST.out
   rw [hZ] at cM hle
   have hcapq : l.length ≤ cap := hcap.1
   have hZ1 : -1 ≤ Z := hle.2 hr1
   have hZ2 : Z ≤ r' := hle.1
   clear hstep hdrop HST hZ hInq q4 hLA HM hob hib hsb hle
   go_wp2_with fail
   refine cM.mono ?_
   rintro e W5 ⟨rfl, B5⟩
   have HKK : Hid (Below w.heap.size w W5) := nx (nx HBR.out b4) B5
   clear cM B5 b4 hW4 d1 d2 d3 d4 e0' e1' e2' e3' HBR
   go_wp2_with fail
   go_roundw
   case rel => exact ⟨q + 1, Z, by go_num, rfl, by omega, by omega, by omega, HKK.out, HST2.out⟩
   case measure => simp only [intOf]; omega
  ·have d0 : decide ((q : Int) < (l.length : Int)) = false := by simp; omega
   have hT : r' = T := by
    have := HM.out
    rw [List.drop_eq_nil_of_le (by omega), bq_nil] at this
    exact this
   subst hT
   go_wp2_with fail
   go_ret
   exact ⟨rfl, HBR.out⟩
theorem be_all : ∀ m, BI m
 | 0 => by
  intro w v x r h
  rw [XBase.In] at h
  exact h.elim
 | m + 1 => by
  intro w v x r h hr1 hr2
  obtain ⟨o, i, s, l⟩ := x
  rw [XBase.in_iff] at h
  obtain ⟨lv, rfl, ho, hi, hs, hl⟩ := h
  have hl0 := hl
  obtain ⟨a, cap, rfl, h1, h2, h3, -, -⟩ := hl
  by_cases h0 : r < 0
  ·rw [bq_no h0]
   exact be_neg h0
  ·rw [bq_one h0]
   exact be_go (by omega) ⟨h1, h2⟩ h0 hr2 (be_all m) hl0
end Go.Proofs.YthonejomogkjjaaGreatDoor.KPi
namespace Go.Proofs.YthonejomogkjjaaGreatDoor.KHs
open Go.RowKit Base EPure
open XBase (four_box frozen_box Four)
def hs (st : Int) : List Ex → Bool
 | [] => true
 | .mk o i s l :: t => (!(o == 6 && (decide (i < 0) || decide (st ≤ i)))) && (hs st l && hs st t)
theorem hs_nil (st : Int) : hs st [] = true := by rw [hs]
theorem hs_one (st o i : Int) (s : ByteArray) (l : List Ex) : hs st [.mk o i s l] = ((!(o == 6 && (decide (i < 0) || decide (st ≤ i)))) && hs st l) := by
 rw [hs, hs_nil, Bool.and_true]
theorem hs_cons (st : Int) (x : Ex) (t : List Ex) : hs st (x :: t) = (hs st [x] && hs st t) := by
 obtain ⟨o, i, s, l⟩ := x
 rw [hs, hs_one, Bool.and_assoc]
def HI (m : Nat) : Prop := ∀ (w : World) (v : Value) (x : Ex) (st el lo : Int), XBase.In false (fun _ => True) w m v x →
  Calls Tryz.prog 238 #[.agg #[.int .i64 st, .int .i64 el, .int .i64 lo], v] w fun e w' => e = .returned (.bool (hs st [x])) ∧ Below w.heap.size w w'
theorem has_no {w : World} {o i : Int} {s : ByteArray} {l : List Ex} {a : Option Addr} {cap : Nat} {st el lo : Int} (hf : (o == 6 && (decide (i < 0) || decide (st ≤ i))) = true) :
  Calls Tryz.prog 238 #[.agg #[.int .i64 st, .int .i64 el, .int .i64 lo], .agg #[.int .i64 o, .int .i64 i, .string s, .slice a l.length cap]] w fun e w' => e = .returned (.bool false) ∧ Below w.heap.size w w' := by
 have b0 : Below w.heap.size w ((w.alloc (.cells #[.int .i64 st, .int .i64 el, .int .i64 lo] 117)).alloc (.cells #[.int .i64 o, .int .i64 i, .string s, .slice a l.length cap] 44)) := ((Below.refl _ w).alloc (Nat.le_refl _) _).alloc (by simp) _
 rw [Bool.and_eq_true] at hf
 obtain ⟨h6, hf⟩ := hf
 cases h1 : decide (i < 0) with
 | true =>
  clear hf
  go_enter Tryz.func238, Tryz.ntmps238
  go_wp2_with fail
  go_ret
  exact ⟨rfl, b0⟩
 | false =>
  rw [h1, Bool.false_or] at hf
  go_enter Tryz.func238, Tryz.ntmps238
  go_wp2_with fail
  go_ret
  exact ⟨rfl, b0⟩
theorem has_go {w : World} {o i : Int} {s : ByteArray} {l : List Ex} {a : Option Addr} {cap : Nat} {st el lo : Int} (hl : l.length ≤ 140737488351232) (hcap : l.length ≤ cap ∧ cap ≤ 9223372036854775807) {m : Nat} (ih : HI m) (hin : XBase.InL false (fun _ => True) w m (.slice a l.length cap) l) (hf : (o == 6 && (decide (i < 0) || decide (st ≤ i))) = false) :
  Calls Tryz.prog 238 #[.agg #[.int .i64 st, .int .i64 el, .int .i64 lo], .agg #[.int .i64 o, .int .i64 i, .string s, .slice a l.length cap]] w fun e w' => e = .returned (.bool (hs st l)) ∧ Below w.heap.size w w' := by
 obtain ⟨W0, hW0⟩ : ∃ W0, (w.alloc (.cells #[.int .i64 st, .int .i64 el, .int .i64 lo] 117)).alloc (.cells #[.int .i64 o, .int .i64 i, .string s, .slice a l.length cap] 44) = W0 := ⟨_, rfl⟩
 have b0 : Below w.heap.size w W0 := by rw [← hW0]; exact ((Below.refl _ w).alloc (Nat.le_refl _) _).alloc (by simp) _
 have q0 : W0.heap[w.heap.size]? = some (.cells #[.int .i64 st, .int .i64 el, .int .i64 lo] 117 (0, 0)) := by rw [← hW0, Below.heap_alloc _ _ _ (by simp)]; exact heap_alloc_new w _
 have q1 : W0.heap[w.heap.size + 1]? = some (.cells #[.int .i64 o, .int .i64 i, .string s, .slice a l.length cap] 44 (0, 0)) := by
  have := heap_alloc_new (w.alloc (.cells #[.int .i64 st, .int .i64 el, .int .i64 lo] 117)) (.cells #[.int .i64 o, .int .i64 i, .string s, .slice a l.length cap] 44)
  rw [World.size_alloc, hW0] at this
  exact this
 obtain ⟨v0, v1, v2, v3⟩ := four_box q1
 have HB0 : Hid (Below w.heap.size w W0) := b0
 have HQ0 : Hid (W0.heap[w.heap.size]? = some (.cells #[.int .i64 st, .int .i64 el, .int .i64 lo] 117 (0, 0))) := q0
 have p0 : W0.cell? ⟨w.heap.size, 0, none⟩ = some (.int .i64 st) := by simp [World.cell?, q0]
 have HIN : Hid (XBase.InL false (fun _ => True) w m (.slice a l.length cap) l) := hin
 have Hih : Hid (HI m) := ih
 have hz0 : W0.heap.size = w.heap.size + 2 := by rw [← hW0]; simp
 obtain ⟨T, hT⟩ : ∃ T, hs st l = T := ⟨_, rfl⟩
 rw [hT]
 have HT : Hid (hs st l = T) := hT
 clear q0 q1 b0 hin hT ih
 suffices H : ∀ (x6 x1 x2 : Bool), (o == 6) = x6 → decide (i < 0) = x1 → decide (st ≤ i) = x2 → (x6 && (x1 || x2)) = false → Calls Tryz.prog 238 #[.agg #[.int .i64 st, .int .i64 el, .int .i64 lo], .agg #[.int .i64 o, .int .i64 i, .string s, .slice a l.length cap]] w fun e w' => e = .returned (.bool T) ∧ Below w.heap.size w w' from H _ _ _ rfl rfl rfl hf
 clear hf
 intro x6 x1 x2 h6 h1 h2 hx
 cases x6
 all_goals cases x1
 all_goals cases x2
 all_goals first | (exfalso; revert hx; decide) | skip
 all_goals
  clear hx
  go_enter Tryz.func238, Tryz.ntmps238
  go_wp2_with fail
  try rw [hW0]
  clear hW0 v0 v1 v2 v3 p0
  go_loopw [25] (fun v1 wr => ∃ (q : Nat), v1 = .int .i64 q ∧ q ≤ l.length ∧ Below w.heap.size w wr ∧ (w.heap.size + 2 ≤ wr.heap.size ∧ wr.heap[w.heap.size]? = some (.cells #[.int .i64 st, .int .i64 el, .int .i64 lo] 117 (0, 0))) ∧ hs st (l.drop q) = T) (fun v1 _ => l.length - (intOf v1).toNat)
  case atStart => exact ⟨0, rfl, by omega, HB0.out, ⟨by omega, HQ0.out⟩, HT.out⟩
  case round =>
   clear HB0 HT HQ0 hz0
   obtain ⟨q, rfl, hq, hB, ⟨hsw, hQ⟩, hM⟩ := hrel
   have HM : Hid (hs st (l.drop q) = T) := hM
   have HBR : Hid (Below w.heap.size w wr) := hB
   have HQR : Hid (wr.heap[w.heap.size]? = some (.cells #[.int .i64 st, .int .i64 el, .int .i64 lo] 117 (0, 0))) := hQ
   clear hM hB hQ
   by_cases hlt : q < l.length
   ·have d0 : decide ((q : Int) < (l.length : Int)) = true := by simp; omega
    have hinl := HIN.out.keep (w' := wr) (fun b _ hlt => HBR.out.block b hlt)
    obtain ⟨aa, cc, hsl, -, -, -, -, hLA⟩ := hinl
    cases hsl
    obtain ⟨g, of, u, ha, hSg, hFour, hInq⟩ := XBase.elem_at hLA hlt
    subst ha
    obtain ⟨c0, c1, c2, c3, rfl, d1, d2, d3, d4⟩ := hFour
    obtain ⟨m', a2, cp2, -, rfl, rfl, rfl, rfl, hob, hib, hsb, -⟩ := hInq.kinds
    obtain ⟨y, hy⟩ : ∃ y, l[q] = y := ⟨_, rfl⟩
    rw [hy] at hInq d1 d2 d3 d4
    obtain ⟨W4, hW4⟩ : ∃ W4, wr.alloc (.cells #[.int .i64 y.o, .int .i64 y.i, .string y.s, .slice a2 y.l.length cp2] 44) = W4 := ⟨_, rfl⟩
    have b4 : Below wr.heap.size wr W4 := by rw [← hW4]; exact (Below.refl _ wr).alloc (Nat.le_refl _) _
    have q4 : W4.heap[wr.heap.size]? = some (.cells #[.int .i64 y.o, .int .i64 y.i, .string y.s, .slice a2 y.l.length cp2] 44 (0, 0)) := by rw [← hW4]; exact heap_alloc_new wr _
    obtain ⟨e0', e1', e2', e3'⟩ := four_box q4
    have q5 := (b4.block w.heap.size (by omega)).trans HQR.out
    have f0 : W4.cell? ⟨w.heap.size, 0, none⟩ = some (.int .i64 st) := by simp [World.cell?, q5]
    have f1 : W4.cell? ⟨w.heap.size, 1, none⟩ = some (.int .i64 el) := by simp [World.cell?, q5]
    have f2 : W4.cell? ⟨w.heap.size, 2, none⟩ = some (.int .i64 lo) := by simp [World.cell?, q5]
    have HQ4 : Hid (W4.heap[w.heap.size]? = some (.cells #[.int .i64 st, .int .i64 el, .int .i64 lo] 117 (0, 0))) := q5
    have hs4 : wr.heap.size + 1 = W4.heap.size := by rw [← hW4]; simp
    have cM := Hih.out W4 _ y st el lo (hInq.below b4)
    have hdrop : l.drop q = y :: l.drop (q + 1) := by rw [← hy]; exact List.drop_eq_getElem_cons hlt
    have HST : Hid ((hs st [y] && hs st (l.drop (q + 1))) = T) := by
     show _ = _
     rw [← hs_cons, ← hdrop]
     exact HM.out
    obtain ⟨Z, hZ⟩ : ∃ Z, hs st [y] = Z := ⟨_, rfl⟩
    have HST2 : Hid ((Z && hs st (l.drop (q + 1))) = T) := by rw [← hZ]; exact HST.out
    rw [hZ] at cM
    have hcapq : l.length ≤ cap := hcap.1
    clear hdrop HST hZ hInq q4 q5 hLA HM hob hib hsb
    go_wp2_with fail
    refine cM.mono ?_
    rintro e W5 ⟨rfl, B5⟩
    have HKK : Hid (Below w.heap.size w W5) := nx (nx HBR.out b4) B5
    have HQ5 : Hid (W5.heap[w.heap.size]? = some (.cells #[.int .i64 st, .int .i64 el, .int .i64 lo] 117 (0, 0))) := (B5.block w.heap.size (by omega)).trans HQ4.out
    have hs5 := B5.size
    clear cM B5 b4 hW4 d1 d2 d3 d4 e0' e1' e2' e3' HBR HQ4 HQR f0 f1 f2
    cases Z with
    | true =>
     go_wp2_with fail
     go_roundw
     case rel => exact ⟨q + 1, by go_num, by omega, HKK.out, ⟨by omega, HQ5.out⟩, by have := HST2.out; rw [Bool.true_and] at this; exact this⟩
     case measure => simp only [intOf]; omega
    | false =>
     have hT : T = false := by have := HST2.out; rw [Bool.false_and] at this; exact this.symm
     subst hT
     go_wp2_with fail
     go_ret
     exact ⟨rfl, HKK.out⟩
   ·have d0 : decide ((q : Int) < (l.length : Int)) = false := by simp; omega
    have hT : true = T := by
     have := HM.out
     rw [List.drop_eq_nil_of_le (by omega), hs_nil] at this
     exact this
    subst hT
    go_wp2_with fail
    go_ret
    exact ⟨rfl, HBR.out⟩
theorem has_all : ∀ m, HI m
 | 0 => by
  intro w v x st el lo h
  rw [XBase.In] at h
  exact h.elim
 | m + 1 => by
  intro w v x st el lo h
  obtain ⟨o, i, s, l⟩ := x
  rw [XBase.in_iff] at h
  obtain ⟨lv, rfl, ho, hi, hs', hl⟩ := h
  have hl0 := hl
  obtain ⟨a, cap, rfl, h1, h2, h3, -, -⟩ := hl
  rw [hs_one]
  cases hf : (o == 6 && (decide (i < 0) || decide (st ≤ i))) with
  | true => exact has_no hf
  | false => exact has_go (by omega) ⟨h1, h2⟩ (has_all m) hl0 hf
end Go.Proofs.YthonejomogkjjaaGreatDoor.KHs
