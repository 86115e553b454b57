import Derived.BigQuiet
import Derived.Test.YthjbknncbhkinaaGreatDoorPS03
open Go.Proofs.Tryz
set_option linter.unusedVariables false
set_option maxRecDepth 20000
set_option maxHeartbeats 3200000
namespace Go.Proofs.YthjbknncbhkinaaGreatDoor.KHs
open Go.RowKit Base EPure
open XBase (four_box frozen_box Rg Four)
def hs (st : Int) : List Ex -> Bool
 | [] => true
 | .mk o i s l :: t => (!(o == 6 && (decide (i < 0) || decide (st <= i)))) && (hs st l && hs st t)
theorem hs_nil (st : Int) : hs st [] = true := by rw [hs]
theorem hs_one (st o i : Int) (s : ByteArray) (l : List Ex) : hs st [.mk o i s l] = ((!(o == 6 && (decide (i < 0) || decide (st <= i)))) && hs st l) := by
 rw [hs, hs_nil, Bool.and_true]
theorem hs_cons (st : Int) (x : Ex) (t : List Ex) : hs st (x :: t) = (hs st [x] && hs st t) := by
 obtain ⟨o, i, s, l⟩ := x
 rw [hs, hs_one, Bool.and_assoc]
theorem hs_last (la o i : Int) (s : ByteArray) (l : List Ex) : hs (la + 1) [.mk o i s l] = ((!(o == 6 && (decide (i < 0) || decide (la < i)))) && hs (la + 1) l) := by
 rw [hs_one]
 have : decide (la + 1 <= i) = decide (la < i) := rfl
 rw [this]
def PI (m : Nat) : Prop := ∀ (w : World) (v : Value) (x : Ex) (la : Int), XBase.In false (fun _ => True) w m v x ->
  Calls prog 28 #[v, .int .i64 la] w fun e w' => e = .returned (.bool (hs (la + 1) [x])) /\ Below w.heap.size w w'
theorem placed_no {w : World} {o i : Int} {s : ByteArray} {l : List Ex} {a : Option Addr} {cap : Nat} {la : Int} (hf : (o == 6 && (decide (i < 0) || decide (la < i))) = true) :
  Calls prog 28 #[.agg #[.int .i64 o, .int .i64 i, .string s, .slice a l.length cap], .int .i64 la] w fun e w' => e = .returned (.bool false) /\ Below w.heap.size w w' := by
 have b0 : Below w.heap.size w (w.alloc (.cells #[.int .i64 o, .int .i64 i, .string s, .slice a l.length cap] 24)) := (Below.refl _ w).alloc (Nat.le_refl _) _
 rw [Bool.and_eq_true] at hf
 obtain ⟨h6, hf⟩ := hf
 cases h1 : decide (i < 0) with
 | true =>
  clear hf
  go_enter func28, ntmps28
  go_wp2_with fail
  go_ret
  exact ⟨rfl, b0⟩
 | false =>
  rw [h1, Bool.false_or] at hf
  go_enter func28, ntmps28
  go_wp2_with fail
  go_ret
  exact ⟨rfl, b0⟩
theorem placed_go {w : World} {o i : Int} {s : ByteArray} {l : List Ex} {a : Option Addr} {cap : Nat} {la : Int} (hl : l.length <= 140737488351232) (hcap : l.length <= cap /\ cap <= 9223372036854775807) {m : Nat} (ih : PI m) (hin : XBase.InL false (fun _ => True) w m (.slice a l.length cap) l) (hf : (o == 6 && (decide (i < 0) || decide (la < i))) = false) :
  Calls prog 28 #[.agg #[.int .i64 o, .int .i64 i, .string s, .slice a l.length cap], .int .i64 la] w fun e w' => e = .returned (.bool (hs (la + 1) l)) /\ Below w.heap.size w w' := by
 obtain ⟨W0, hW0⟩ : ∃ W0, w.alloc (.cells #[.int .i64 o, .int .i64 i, .string s, .slice a l.length cap] 24) = W0 := ⟨_, rfl⟩
 have b0 : Below w.heap.size w W0 := by rw [<- hW0]; exact (Below.refl _ w).alloc (Nat.le_refl _) _
 have q1 : W0.heap[w.heap.size]? = some (.cells #[.int .i64 o, .int .i64 i, .string s, .slice a l.length cap] 24 (0, 0)) := by rw [<- hW0]; exact heap_alloc_new w _
 obtain ⟨v0, v1, v2, v3⟩ := four_box q1
 have HB0 : Hid (Below w.heap.size w W0) := b0
 have HIN : Hid (XBase.InL false (fun _ => True) w m (.slice a l.length cap) l) := hin
 have Hih : Hid (PI m) := ih
 obtain ⟨T, hT⟩ : ∃ T, hs (la + 1) l = T := ⟨_, rfl⟩
 rw [hT]
 have HT : Hid (hs (la + 1) l = T) := hT
 clear q1 b0 hin hT ih
 suffices H : ∀ (x6 x1 x2 : Bool), (o == 6) = x6 -> decide (i < 0) = x1 -> decide (la < i) = x2 -> (x6 && (x1 || x2)) = false -> Calls prog 28 #[.agg #[.int .i64 o, .int .i64 i, .string s, .slice a l.length cap], .int .i64 la] w fun e w' => e = .returned (.bool T) /\ Below w.heap.size w w' from H _ _ _ rfl rfl rfl hf
 clear hf
 intro x6 x1 x2 h6 h1 h2 hx
 cases x6
 all_goals cases x1
 all_goals cases x2
 all_goals first | (exfalso; revert hx; decide) | skip
 all_goals
  clear hx
  go_enter func28, ntmps28
  go_wp2_with fail
  try rw [hW0]
  clear hW0 v0 v1 v2 v3
  go_loopw [24] (fun v1 wr => ∃ (q : Nat), v1 = .int .i64 q /\ q <= l.length /\ Below w.heap.size w wr /\ hs (la + 1) (l.drop q) = T) (fun v1 _ => l.length - (intOf v1).toNat)
  case atStart => exact ⟨0, rfl, by omega, HB0.out, HT.out⟩
  case round =>
   clear HB0 HT
   obtain ⟨q, rfl, hq, hB, hM⟩ := hrel
   have HM : Hid (hs (la + 1) (l.drop q) = T) := hM
   have HBR : Hid (Below w.heap.size w wr) := hB
   clear hM hB
   by_cases hlt : q < l.length
   ·have d0 : decide ((q : Int) < (l.length : Int)) = true := by simp; omega
    have hinl := HIN.out.keep (w' := wr) (fun b _ hlt => HBR.out.block b hlt)
    obtain ⟨aa, cc, hsl, -, -, -, -, hLA⟩ := hinl
    cases hsl
    obtain ⟨g, of, u, ha, hSg, hFour, hInq⟩ := XBase.elem_at hLA hlt
    subst ha
    obtain ⟨c0, c1, c2, c3, rfl, d1, d2, d3, d4⟩ := hFour
    obtain ⟨m', a2, cp2, -, rfl, rfl, rfl, rfl, hob, hib, hsb, -⟩ := hInq.kinds
    obtain ⟨y, hy⟩ : ∃ y, l[q] = y := ⟨_, rfl⟩
    rw [hy] at hInq d1 d2 d3 d4
    obtain ⟨W4, hW4⟩ : ∃ W4, wr.alloc (.cells #[.int .i64 y.o, .int .i64 y.i, .string y.s, .slice a2 y.l.length cp2] 24) = W4 := ⟨_, rfl⟩
    have b4 : Below wr.heap.size wr W4 := by rw [<- hW4]; exact (Below.refl _ wr).alloc (Nat.le_refl _) _
    have q4 : W4.heap[wr.heap.size]? = some (.cells #[.int .i64 y.o, .int .i64 y.i, .string y.s, .slice a2 y.l.length cp2] 24 (0, 0)) := by rw [<- hW4]; exact heap_alloc_new wr _
    obtain ⟨e0', e1', e2', e3'⟩ := four_box q4
    have cM := Hih.out W4 _ y la (hInq.below b4)
    have hdrop : l.drop q = y :: l.drop (q + 1) := by rw [<- hy]; exact List.drop_eq_getElem_cons hlt
    have HST : Hid ((hs (la + 1) [y] && hs (la + 1) (l.drop (q + 1))) = T) := by
     show _ = _
     rw [<- hs_cons, <- hdrop]
     exact HM.out
    obtain ⟨Z, hZ⟩ : ∃ Z, hs (la + 1) [y] = Z := ⟨_, rfl⟩
    have HST2 : Hid ((Z && hs (la + 1) (l.drop (q + 1))) = T) := by rw [<- hZ]; exact HST.out
    rw [hZ] at cM
    have hcapq : l.length <= cap := hcap.1
    clear hdrop HST hZ hInq q4 hLA HM hob hib hsb
    go_wp2_with fail
    refine cM.mono ?_
    rintro e W5 ⟨rfl, B5⟩
    have HKK : Hid (Below w.heap.size w W5) := nx (nx HBR.out b4) B5
    clear cM B5 b4 hW4 d1 d2 d3 d4 e0' e1' e2' e3' HBR
    cases Z with
    | true =>
     go_wp2_with fail
     go_roundw
     case rel => exact ⟨q + 1, by go_num, by omega, HKK.out, by have := HST2.out; rw [Bool.true_and] at this; exact this⟩
     case measure => simp only [intOf]; omega
    | false =>
     have hT : T = false := by have := HST2.out; rw [Bool.false_and] at this; exact this.symm
     subst hT
     go_wp2_with fail
     go_ret
     exact ⟨rfl, HKK.out⟩
   ·have d0 : decide ((q : Int) < (l.length : Int)) = false := by simp; omega
    have hT : true = T := by
     have := HM.out
     rw [List.drop_eq_nil_of_le (by omega), hs_nil] at this
     exact this
    subst hT
    go_wp2_with fail
    go_ret
    exact ⟨rfl, HBR.out⟩
theorem placed_all : ∀ m, PI m
 | 0 => by
  intro w v x la h
  rw [XBase.In] at h
  exact h.elim
 | m + 1 => by
  intro w v x la h
  obtain ⟨o, i, s, l⟩ := x
  rw [XBase.in_iff] at h
  obtain ⟨lv, rfl, ho, hi, hs', hl⟩ := h
  have hl0 := hl
  obtain ⟨a, cap, rfl, h1, h2, h3, -, -⟩ := hl
  rw [hs_last]
  cases hf : (o == 6 && (decide (i < 0) || decide (la < i))) with
  | true => exact placed_no hf
  | false => exact placed_go (by omega) ⟨h1, h2⟩ (placed_all m) hl0 hf
end Go.Proofs.YthjbknncbhkinaaGreatDoor.KHs
