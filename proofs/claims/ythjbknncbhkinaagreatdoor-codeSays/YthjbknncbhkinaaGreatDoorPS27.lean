import Derived.Deep.RegionHeld3
import Derived.Deep.RegionWith
import Derived.Test.YthjbknncbhkinaaGreatDoorPS03
import Derived.Test.YthjbknncbhkinaaGreatDoorPS12
import Derived.Test.YthjbknncbhkinaaGreatDoorPS21
import Derived.Test.YthjbknncbhkinaaGreatDoorPS22
import Derived.Test.YthjbknncbhkinaaGreatDoorPS24
import Derived.Test.YthjbknncbhkinaaGreatDoorPS25
import Derived.Test.YthjbknncbhkinaaGreatDoorPS26
open Go.Proofs.Tryz
set_option linter.unusedVariables false
set_option maxRecDepth 20000
set_option maxHeartbeats 3200000
namespace Go.Proofs.YthjbknncbhkinaaGreatDoor.KSh
open Go.RowKit Base EPure
open XBase (four_box frozen_box Rg Four)
open SFit (ne ret_bool Lf lfv)
open STx (tg tmb_c)
def rlf (o i : Int) (t : ByteArray) : Bool := if o = 6 then t.size == 0 else (i == 0) && tg t
def rsv (x : Ex) : Bool := decide (0 <= SBe.bhL rlf [x] 1024)
theorem leaf_c : Lf 49 rlf := by
 refine ⟨fun args w => by go_simp, ?_⟩
 intro o i t a n c w ho ht
 have b0 : Below w.heap.size w (w.alloc (.cells #[.int .i64 o, .int .i64 i, .string t, .slice a n c] 24)) := (Below.refl _ w).alloc (Nat.le_refl _) _
 have hne := ne t
 by_cases h6 : o = 6
 ·have e : rlf o i t = (t.size == 0) := by unfold rlf; rw [if_pos h6]
  rw [e]
  obtain ⟨z, hz⟩ : ∃ z, (t.size == 0) = z := ⟨_, rfl⟩
  rw [hz] at hne ⊢
  subst h6
  clear e hz ho
  go_enter func49, ntmps49
  go_wp2_with fail
  go_ret
  exact ⟨ret_bool rfl, b0⟩
 ·obtain rfl : o = 5 := by omega
  have e : rlf 5 i t = ((i == 0) && tg t) := rfl
  rw [e]
  have cT := tmb_c t ht (w.alloc (.cells #[.int .i64 5, .int .i64 i, .string t, .slice a n c] 24))
  obtain ⟨z, hz⟩ : ∃ z, tg t = z := ⟨_, rfl⟩
  rw [hz] at cT ⊢
  clear e hz ho h6
  cases hi : (i == 0) with
  | true =>
   rw [Bool.true_and]
   go_enter func49, ntmps49
   go_wp2_with fail
   refine cT.mono ?_
   rintro e W1 ⟨rfl, b1⟩
   go_wp2_with fail
   go_ret
   exact ⟨rfl, nx b0 b1⟩
  | false =>
   rw [Bool.false_and]
   go_enter func49, ntmps49
   go_wp2_with fail
   go_ret
   exact ⟨rfl, b0⟩
theorem resolved_c {m : Nat} {w : World} {v : Value} {x : Ex} (hin : XBase.In false (fun _ => True) w m v x) :
  Calls prog 27 #[v] w fun e w' => e = .returned (.bool (rsv x)) /\ Below w.heap.size w w' := by
 obtain ⟨m', lv, rfl, rfl, -⟩ := hin.shape
 have b0 : Below w.heap.size w (w.alloc (.cells #[.int .i64 x.o, .int .i64 x.i, .string x.s, lv] 24)) := (Below.refl _ w).alloc (Nat.le_refl _) _
 have cB := SBe.tree_c leaf_c (r := 1024) (hin.below b0) (by omega) (by omega)
 obtain ⟨Z, hZ⟩ : ∃ Z, rsv x = Z := ⟨_, rfl⟩
 have hZ' : decide (0 <= SBe.bhL rlf [x] 1024) = Z := hZ
 rw [hZ'] at cB
 rw [hZ]
 clear hZ hZ'
 go_enter func27, ntmps27
 go_wp2_with fail
 refine cB.mono ?_
 rintro e W1 ⟨rfl, b1⟩
 go_wp2_with fail
 go_ret
 exact ⟨rfl, nx b0 b1⟩
end Go.Proofs.YthjbknncbhkinaaGreatDoor.KSh
namespace Go.Proofs.YthjbknncbhkinaaGreatDoor.NFr
open Go.RowKit Base EPure
open XBase (four_box frozen_box Rg Four)
def fr : List Ex -> Bool
 | [] => false
 | .mk o i s l :: t => (o == 6 && decide (1099511627776 < i)) || (fr l || fr t)
theorem fr_nil : fr [] = false := by rw [fr]
theorem fr_one (o i : Int) (s : ByteArray) (l : List Ex) : fr [.mk o i s l] = ((o == 6 && decide (1099511627776 < i)) || fr l) := by
 rw [fr, fr_nil, Bool.or_false]
theorem fr_cons (x : Ex) (t : List Ex) : fr (x :: t) = (fr [x] || fr t) := by
 obtain ⟨o, i, s, l⟩ := x
 rw [fr, fr_one, Bool.or_assoc]
def frI (m : Nat) : Prop := ∀ (w : World) (v : Value) (x : Ex), XBase.In false (fun _ => True) w m v x ->
  Calls prog 6 #[v] w fun e w' => e = .returned (.bool (fr [x])) /\ Below w.heap.size w w'
theorem fr_of (m : Nat) (ih : frI m) : frI (m + 1) := by
 rintro w v ⟨o, i, s, l⟩ hin0
 rw [XBase.in_iff] at hin0
 obtain ⟨lv, rfl, hob, hib, hsb, hin⟩ := hin0
 have hin' := hin
 obtain ⟨a, cap, rfl, hcap, hc2, -⟩ := hin'
 rw [fr_one]
 obtain ⟨W0, hW0⟩ : ∃ W0, w.alloc (.cells #[.int .i64 o, .int .i64 i, .string s, .slice a l.length cap] 24) = W0 := ⟨_, rfl⟩
 have b0 : Below w.heap.size w W0 := by rw [<- hW0]; exact (Below.refl _ w).alloc (Nat.le_refl _) _
 have q1 : W0.heap[w.heap.size]? = some (.cells #[.int .i64 o, .int .i64 i, .string s, .slice a l.length cap] 24 (0, 0)) := by rw [<- hW0]; exact heap_alloc_new w _
 obtain ⟨v0, v1, v2, v3⟩ := four_box q1
 have HX : Hid (W0.heap[w.heap.size]? = some (.cells #[.int .i64 o, .int .i64 i, .string s, .slice a l.length cap] 24 (0, 0))) := q1
 have HB0 : Hid (Below w.heap.size w W0) := b0
 have HIN : Hid (XBase.InL false (fun _ => True) W0 m (.slice a l.length cap) l) := hin.below b0
 have Hih : Hid (frI m) := ih
 obtain ⟨T, hT⟩ : ∃ T, fr l = T := ⟨_, rfl⟩
 rw [hT]
 have HT : Hid (fr l = T) := hT
 clear q1 b0 hin hT ih
 suffices H : ∀ (x6 x1 : Bool), (o == 6) = x6 -> decide (1099511627776 < i) = x1 -> Calls prog 6 #[.agg #[.int .i64 o, .int .i64 i, .string s, .slice a l.length cap]] w fun e w' => e = .returned (.bool ((x6 && x1) || T)) /\ Below w.heap.size w w' from H _ _ rfl rfl
 intro x6 x1 h6 h1
 cases x6
 all_goals cases x1
 all_goals
  go_enter func6, ntmps6
  go_wp2_with fail
  try rw [hW0]
  clear hW0
  first
  | (go_ret; exact ⟨rfl, HB0.out⟩)
  | skip
 all_goals
  go_loopw [3] (fun v1 wr => ∃ (q : Nat), v1 = .int .i64 q /\ q <= l.length /\ Below W0.heap.size W0 wr /\ fr (l.drop q) = T) (fun v1 _ => l.length - (intOf v1).toNat)
  case atStart => exact ⟨0, rfl, by omega, Below.refl _ _, HT.out⟩
  case round =>
   clear HT v0 v1 v2 v3
   obtain ⟨q, rfl, hq, hB, hM⟩ := hrel
   have HM : Hid (fr (l.drop q) = T) := hM
   have HBR : Hid (Below W0.heap.size W0 wr) := hB
   have xr := (hB.block w.heap.size (Array.getElem?_eq_some_iff.1 HX.out).1).trans HX.out
   obtain ⟨v0, v1, v2, v3⟩ := four_box xr
   clear hM hB xr
   by_cases hlt : q < l.length
   ·have d0 : decide ((q : Int) < (l.length : Int)) = true := by simp; omega
    have hinl := HIN.out.keep (w' := wr) (fun b _ hlt => HBR.out.block b hlt)
    obtain ⟨aa, cc, hsl, -, -, -, -, hLA⟩ := hinl
    cases hsl
    obtain ⟨g, of, u, ha, hSg, hFour, hInq⟩ := XBase.elem_at hLA hlt
    subst ha
    obtain ⟨c0, c1, c2, c3, rfl, d1, d2, d3, d4⟩ := hFour
    obtain ⟨m', a2, cp2, -, rfl, rfl, rfl, rfl, hob, hib, hsb, -⟩ := hInq.kinds
    obtain ⟨y, hy⟩ : ∃ y, l[q] = y := ⟨_, rfl⟩
    rw [hy] at hInq d1 d2 d3 d4
    have cM := Hih.out wr _ y hInq
    have hdrop : l.drop q = y :: l.drop (q + 1) := by rw [<- hy]; exact List.drop_eq_getElem_cons hlt
    have HST : Hid ((fr [y] || fr (l.drop (q + 1))) = T) := by
     show _ = _
     rw [<- fr_cons, <- hdrop]
     exact HM.out
    obtain ⟨Z, hZ⟩ : ∃ Z, fr [y] = Z := ⟨_, rfl⟩
    have HST2 : Hid ((Z || fr (l.drop (q + 1))) = T) := by rw [<- hZ]; exact HST.out
    rw [hZ] at cM
    clear hdrop HST hZ hInq hLA HM hob hib hsb
    go_wp2_with fail
    refine cM.mono ?_
    rintro e W5 ⟨rfl, B5⟩
    have HKK : Hid (Below W0.heap.size W0 W5) := HBR.out.trans (B5.mono HBR.out.size)
    clear cM B5 d1 d2 d3 d4 HBR v0 v1 v2 v3
    cases Z with
    | false =>
     go_wp2_with fail
     go_roundw
     case rel => exact ⟨q + 1, by go_num, by omega, HKK.out, by have := HST2.out; rw [Bool.false_or] at this; exact this⟩
     case measure => simp only [intOf]; omega
    | true =>
     have hT : T = true := by have := HST2.out; rw [Bool.true_or] at this; exact this.symm
     subst hT
     go_wp2_with fail
     go_ret
     exact ⟨rfl, nx HB0.out HKK.out⟩
   ·have d0 : decide ((q : Int) < (l.length : Int)) = false := by simp; omega
    have hT : false = T := by
     have := HM.out
     rw [List.drop_eq_nil_of_le (by omega), fr_nil] at this
     exact this
    subst hT
    go_wp2_with fail
    go_ret
    exact ⟨rfl, nx HB0.out HBR.out⟩
theorem fr_all : ∀ m, frI m
 | 0 => by
  intro w v x h
  rw [XBase.In] at h
  exact h.elim
 | m + 1 => fr_of m (fr_all m)
def lw : List Ex -> Bool
 | [] => false
 | .mk o i s l :: t => (o == 6 && decide (i < 0)) || (lw l || lw t)
theorem lw_nil : lw [] = false := by rw [lw]
theorem lw_one (o i : Int) (s : ByteArray) (l : List Ex) : lw [.mk o i s l] = ((o == 6 && decide (i < 0)) || lw l) := by
 rw [lw, lw_nil, Bool.or_false]
theorem lw_cons (x : Ex) (t : List Ex) : lw (x :: t) = (lw [x] || lw t) := by
 obtain ⟨o, i, s, l⟩ := x
 rw [lw, lw_one, Bool.or_assoc]
theorem fr_mid {P R : List Ex} {y : Ex} (h : fr (P ++ y :: R) = false) : fr [y] = false := by
 induction P with
 | nil => rw [List.nil_append, fr_cons, Bool.or_eq_false_iff] at h; exact h.1
 | cons x P ih => rw [List.cons_append, fr_cons, Bool.or_eq_false_iff] at h; exact ih h.2
theorem lw_mid {P R : List Ex} {y : Ex} (h : lw (P ++ y :: R) = false) : lw [y] = false := by
 induction P with
 | nil => rw [List.nil_append, lw_cons, Bool.or_eq_false_iff] at h; exact h.1
 | cons x P ih => rw [List.cons_append, lw_cons, Bool.or_eq_false_iff] at h; exact ih h.2
def dm : List Ex -> Int
 | [] => 0
 | .mk o i s l :: t => max (max (if o = 6 then i + 1 else 0) (dm l)) (dm t)
theorem dm_nil : dm [] = 0 := by rw [dm]
theorem dm_one (o i : Int) (s : ByteArray) (l : List Ex) : dm [.mk o i s l] = max (max (if o = 6 then i + 1 else 0) (dm l)) 0 := by
 rw [dm, dm_nil]
theorem dm_pos : ∀ l, 0 <= dm l
 | [] => by rw [dm_nil]; omega
 | .mk o i s l :: t => by
  have := dm_pos t
  rw [dm]
  omega
theorem dm_cons (x : Ex) (t : List Ex) : dm (x :: t) = max (dm [x]) (dm t) := by
 obtain ⟨o, i, s, l⟩ := x
 have := dm_pos t
 rw [dm, dm_one]
 omega
theorem dm_le : ∀ (n : Nat) (l : List Ex), SizeOf.sizeOf l <= n -> fr l = false -> dm l <= 1099511627777 := by
 intro n
 induction n with
 | zero =>
  intro l h
  cases l with
  | nil => intro _; rw [dm_nil]; omega
  | cons x t => exact absurd h (by simp)
 | succ n ih =>
  intro l h hf
  cases l with
  | nil => rw [dm_nil]; omega
  | cons x t =>
   obtain ⟨o, i, s, k⟩ := x
   rw [fr] at hf
   simp only [Bool.or_eq_false_iff] at hf
   have h1 := ih k (by simp at h; omega) hf.2.1
   have h2 := ih t (by simp at h; omega) hf.2.2
   rw [dm]
   have h3 : (if o = 6 then i + 1 else 0) <= 1099511627777 := by
    split
    ·next e =>
     have := hf.1
     subst e
     simp at this
     omega
    ·omega
   omega
theorem hs_dm (d : Int) : ∀ (n : Nat) (l : List Ex), SizeOf.sizeOf l <= n -> lw l = false -> dm l <= d -> KHs.hs d l = true := by
 intro n
 induction n with
 | zero =>
  intro l h
  cases l with
  | nil => intro _ _; rw [KHs.hs_nil]
  | cons x t => exact absurd h (by simp)
 | succ n ih =>
  intro l h hf hd
  cases l with
  | nil => rw [KHs.hs_nil]
  | cons x t =>
   obtain ⟨o, i, s, k⟩ := x
   rw [lw] at hf
   rw [dm] at hd
   simp only [Bool.or_eq_false_iff] at hf
   have h1 := ih k (by simp at h; omega) hf.2.1 (by omega)
   have h2 := ih t (by simp at h; omega) hf.2.2 (by omega)
   rw [KHs.hs, h1, h2]
   have := hf.1
   by_cases e : o = 6
   ·subst e
    simp at this hd ⊢
    omega
   ·simp [e]
def dmI (m : Nat) : Prop := ∀ (w : World) (v : Value) (x : Ex), XBase.In false (fun _ => True) w m v x -> fr [x] = false -> lw [x] = false ->
  Calls prog 18 #[v] w fun e w' => e = .returned (.int .i64 (dm [x])) /\ Below w.heap.size w w'
theorem dm_of (m : Nat) (ih : dmI m) : dmI (m + 1) := by
 rintro w v ⟨o, i, s, l⟩ hin0 hfr hlw
 rw [XBase.in_iff] at hin0
 obtain ⟨lv, rfl, hob, hib, hsb, hin⟩ := hin0
 have hin' := hin
 obtain ⟨a, cap, rfl, hcap, hc2, -⟩ := hin'
 rw [fr_one, Bool.or_eq_false_iff] at hfr
 rw [lw_one, Bool.or_eq_false_iff] at hlw
 obtain ⟨W0, hW0⟩ : ∃ W0, w.alloc (.cells #[.int .i64 o, .int .i64 i, .string s, .slice a l.length cap] 24) = W0 := ⟨_, rfl⟩
 have b0 : Below w.heap.size w W0 := by rw [<- hW0]; exact (Below.refl _ w).alloc (Nat.le_refl _) _
 have q1 : W0.heap[w.heap.size]? = some (.cells #[.int .i64 o, .int .i64 i, .string s, .slice a l.length cap] 24 (0, 0)) := by rw [<- hW0]; exact heap_alloc_new w _
 obtain ⟨v0, v1, v2, v3⟩ := four_box q1
 have HX : Hid (W0.heap[w.heap.size]? = some (.cells #[.int .i64 o, .int .i64 i, .string s, .slice a l.length cap] 24 (0, 0))) := q1
 have HB0 : Hid (Below w.heap.size w W0) := b0
 have HIN : Hid (XBase.InL false (fun _ => True) W0 m (.slice a l.length cap) l) := hin.below b0
 have Hih : Hid (dmI m) := ih
 have HFL : Hid (fr l = false /\ lw l = false) := ⟨hfr.2, hlw.2⟩
 obtain ⟨z0, hz0⟩ : ∃ z0, (if o = 6 then i + 1 else 0) = z0 := ⟨_, rfl⟩
 have hr0 : 0 <= z0 /\ z0 <= 1099511627777 := by
  have h1 := hfr.1
  have h2 := hlw.1
  rw [<- hz0]
  split
  ·next e =>
   subst e
   simp at h1 h2
   omega
  ·omega
 have hD0 : dm [.mk o i s l] = max z0 (dm l) := by rw [dm_one, hz0]; omega
 have hdl := dm_le _ l (Nat.le_refl _) hfr.2
 rw [hD0]
 obtain ⟨D, hD⟩ : ∃ D, max z0 (dm l) = D := ⟨_, rfl⟩
 rw [hD]
 have HT : Hid (max z0 (dm l) = D) := hD
 clear q1 b0 hin hD ih hD0 hfr hlw hdl
 suffices H : Calls prog 18 #[.agg #[.int .i64 o, .int .i64 i, .string s, .slice a l.length cap]] w fun e w' => e = .returned (.int .i64 D) /\ Below w.heap.size w w' from H
 by_cases h6 : o = 6
 ·rw [if_pos h6] at hz0
  subst h6
  subst hz0
  have hwz : IntKind.i64.wrap (i + 1) = i + 1 := by rw [IntKind.wrap_i64]; omega
  go_enter func18, ntmps18
  go_wp2_with fail
  try rw [hW0]
  clear hW0 hwz
  obtain ⟨z0, hz0⟩ : ∃ z0, i + 1 = z0 := ⟨_, rfl⟩
  rw [hz0] at hr0 HT
  (try rw [hz0])
  go_loopw [3, 4] (fun v0 v1 wr => ∃ (q : Nat) (z : Int), v0 = .int .i64 z /\ v1 = .int .i64 q /\ q <= l.length /\ 0 <= z /\ Below W0.heap.size W0 wr /\ max z (dm (l.drop q)) = D) (fun _ v1 _ => l.length - (intOf v1).toNat)
  case atStart => exact ⟨0, _, rfl, rfl, by omega, by omega, Below.refl _ _, HT.out⟩
  case round =>
   clear HT v0 v1 v2 v3
   obtain ⟨q, z, rfl, rfl, hq, hz, hB, hM⟩ := hrel
   have HM : Hid (max z (dm (l.drop q)) = D) := hM
   have HBR : Hid (Below W0.heap.size W0 wr) := hB
   have xr := (hB.block w.heap.size (Array.getElem?_eq_some_iff.1 HX.out).1).trans HX.out
   obtain ⟨v0, v1, v2, v3⟩ := four_box xr
   clear hM hB xr
   by_cases hlt : q < l.length
   ·have d0 : decide ((q : Int) < (l.length : Int)) = true := by simp; omega
    have hinl := HIN.out.keep (w' := wr) (fun b _ hlt => HBR.out.block b hlt)
    obtain ⟨aa, cc, hsl, -, -, -, -, hLA⟩ := hinl
    cases hsl
    obtain ⟨g, of, u, ha, hSg, hFour, hInq⟩ := XBase.elem_at hLA hlt
    subst ha
    obtain ⟨c0, c1, c2, c3, rfl, d1, d2, d3, d4⟩ := hFour
    obtain ⟨m', a2, cp2, -, rfl, rfl, rfl, rfl, hob, hib, hsb, -⟩ := hInq.kinds
    obtain ⟨y, hy⟩ : ∃ y, l[q] = y := ⟨_, rfl⟩
    rw [hy] at hInq d1 d2 d3 d4
    have hdrop : l.drop q = y :: l.drop (q + 1) := by rw [<- hy]; exact List.drop_eq_getElem_cons hlt
    have hmem : ∃ P R, l = P ++ y :: R := ⟨l.take q, l.drop (q + 1), by rw [<- hdrop, List.take_append_drop]⟩
    have hff : fr [y] = false /\ lw [y] = false := by
     obtain ⟨P, R, hl⟩ := hmem
     have h1 := HFL.out
     rw [hl] at h1
     exact ⟨fr_mid h1.1, lw_mid h1.2⟩
    have cM := Hih.out wr _ y hInq hff.1 hff.2
    obtain ⟨Z, hZ⟩ : ∃ Z, dm [y] = Z := ⟨_, rfl⟩
    have HST2 : Hid (max (max z Z) (dm (l.drop (q + 1))) = D) := by
     have := HM.out
     rw [hdrop, dm_cons, hZ] at this
     show _ = _
     omega
    rw [hZ] at cM
    clear hdrop hmem hff hZ hInq hLA HM hob hib hsb
    go_wp2_with fail
    refine cM.mono ?_
    rintro e W5 ⟨rfl, B5⟩
    have HKK : Hid (Below W0.heap.size W0 W5) := HBR.out.trans (B5.mono HBR.out.size)
    clear cM B5 d1 d2 d3 d4 HBR v0 v1 v2 v3
    go_wp2_with fail
    go_roundw
    case rel => exact ⟨q + 1, max z Z, by first | rfl | (congr 1; omega), by go_num, by omega, by omega, HKK.out, HST2.out⟩
    case measure => simp only [intOf]; omega
   ·have d0 : decide ((q : Int) < (l.length : Int)) = false := by simp; omega
    go_wp2_with fail
    go_ret
    refine ⟨SFit.ret_int ?_, nx HB0.out HBR.out⟩
    have := HM.out
    rw [List.drop_eq_nil_of_le (by omega), dm_nil] at this
    omega
 ·have h6' : (o == 6) = false := by simp [h6]
  rw [if_neg h6] at hz0
  subst hz0
  go_enter func18, ntmps18
  go_wp2_with fail
  try rw [hW0]
  clear hW0
  go_loopw [3, 4] (fun v0 v1 wr => ∃ (q : Nat) (z : Int), v0 = .int .i64 z /\ v1 = .int .i64 q /\ q <= l.length /\ 0 <= z /\ Below W0.heap.size W0 wr /\ max z (dm (l.drop q)) = D) (fun _ v1 _ => l.length - (intOf v1).toNat)
  case atStart => exact ⟨0, _, rfl, rfl, by omega, by omega, Below.refl _ _, HT.out⟩
  case round =>
   clear HT v0 v1 v2 v3
   obtain ⟨q, z, rfl, rfl, hq, hz, hB, hM⟩ := hrel
   have HM : Hid (max z (dm (l.drop q)) = D) := hM
   have HBR : Hid (Below W0.heap.size W0 wr) := hB
   have xr := (hB.block w.heap.size (Array.getElem?_eq_some_iff.1 HX.out).1).trans HX.out
   obtain ⟨v0, v1, v2, v3⟩ := four_box xr
   clear hM hB xr
   by_cases hlt : q < l.length
   ·have d0 : decide ((q : Int) < (l.length : Int)) = true := by simp; omega
    have hinl := HIN.out.keep (w' := wr) (fun b _ hlt => HBR.out.block b hlt)
    obtain ⟨aa, cc, hsl, -, -, -, -, hLA⟩ := hinl
    cases hsl
    obtain ⟨g, of, u, ha, hSg, hFour, hInq⟩ := XBase.elem_at hLA hlt
    subst ha
    obtain ⟨c0, c1, c2, c3, rfl, d1, d2, d3, d4⟩ := hFour
    obtain ⟨m', a2, cp2, -, rfl, rfl, rfl, rfl, hob, hib, hsb, -⟩ := hInq.kinds
    obtain ⟨y, hy⟩ : ∃ y, l[q] = y := ⟨_, rfl⟩
    rw [hy] at hInq d1 d2 d3 d4
    have hdrop : l.drop q = y :: l.drop (q + 1) := by rw [<- hy]; exact List.drop_eq_getElem_cons hlt
    have hmem : ∃ P R, l = P ++ y :: R := ⟨l.take q, l.drop (q + 1), by rw [<- hdrop, List.take_append_drop]⟩
    have hff : fr [y] = false /\ lw [y] = false := by
     obtain ⟨P, R, hl⟩ := hmem
     have h1 := HFL.out
     rw [hl] at h1
     exact ⟨fr_mid h1.1, lw_mid h1.2⟩
    have cM := Hih.out wr _ y hInq hff.1 hff.2
    obtain ⟨Z, hZ⟩ : ∃ Z, dm [y] = Z := ⟨_, rfl⟩
    have HST2 : Hid (max (max z Z) (dm (l.drop (q + 1))) = D) := by
     have := HM.out
     rw [hdrop, dm_cons, hZ] at this
     show _ = _
     omega
    rw [hZ] at cM
    clear hdrop hmem hff hZ hInq hLA HM hob hib hsb
    go_wp2_with fail
    refine cM.mono ?_
    rintro e W5 ⟨rfl, B5⟩
    have HKK : Hid (Below W0.heap.size W0 W5) := HBR.out.trans (B5.mono HBR.out.size)
    clear cM B5 d1 d2 d3 d4 HBR v0 v1 v2 v3
    go_wp2_with fail
    go_roundw
    case rel => exact ⟨q + 1, max z Z, by first | rfl | (congr 1; omega), by go_num, by omega, by omega, HKK.out, HST2.out⟩
    case measure => simp only [intOf]; omega
   ·have d0 : decide ((q : Int) < (l.length : Int)) = false := by simp; omega
    go_wp2_with fail
    go_ret
    refine ⟨SFit.ret_int ?_, nx HB0.out HBR.out⟩
    have := HM.out
    rw [List.drop_eq_nil_of_le (by omega), dm_nil] at this
    omega
theorem dm_all : ∀ m, dmI m
 | 0 => by
  intro w v x h
  rw [XBase.In] at h
  exact h.elim
 | m + 1 => dm_of m (dm_all m)
end Go.Proofs.YthjbknncbhkinaaGreatDoor.NFr
namespace Go.Proofs.YthjbknncbhkinaaGreatDoor.NMk
open Go.RowKit EPure NWr NFr
open Base (nx)
open CPu (Ins)
open CIn (Oc)
open NGe (gen sz Dp)
open KSh (rsv rlf)
open XBase (four_box frozen_box In InL LAt)
theorem in_dp {r : Bool} {S : Nat -> Prop} {w : World} : ∀ (m : Nat) (v : Value) (x : Ex), In r S w m v x -> Dp m x := by
 intro m
 induction m with
 | zero => intro v x h; rw [In] at h; exact h
 | succ m ih =>
  rintro v ⟨o, i, s, l⟩ h
  rw [XBase.in_iff] at h
  obtain ⟨lv, -, -, -, -, a, cap, -, -, -, -, -, hL⟩ := h
  intro y hy
  obtain ⟨j, hj, rfl⟩ := List.getElem_of_mem hy
  obtain ⟨g, of, u, -, -, -, hi⟩ := XBase.elem_at hL hj
  exact ih _ _ hi
def Sz : Nat -> Ex -> Prop
 | 0, _ => True
 | m + 1, .mk o i s l => (-9223372036854775808 <= o /\ o <= 9223372036854775807) /\ (-9223372036854775808 <= i /\ i <= 9223372036854775807) /\ s.size <= 140737488351232 /\ ∀ y ∈ l, Sz m y
theorem in_sz {r : Bool} {S : Nat -> Prop} {w : World} : ∀ (m : Nat) (v : Value) (x : Ex), In r S w m v x -> Sz m x := by
 intro m
 induction m with
 | zero => intro v x h; trivial
 | succ m ih =>
  rintro v ⟨o, i, s, l⟩ h
  rw [XBase.in_iff] at h
  obtain ⟨lv, -, h1, h2, h3, a, cap, -, -, -, -, -, hL⟩ := h
  refine ⟨h1, h2, h3, fun y hy => ?_⟩
  obtain ⟨j, hj, rfl⟩ := List.getElem_of_mem hy
  obtain ⟨g, of, u, -, -, -, hi⟩ := XBase.elem_at hL hj
  exact ih _ _ hi
abbrev i64 (x : Int) : Prop := -9223372036854775808 <= x /\ x <= 9223372036854775807
def Rn (X : NGe.Cd) : Prop := (∀ y ∈ X.1, i64 y.1 /\ i64 y.2) /\ ∀ s ∈ X.2, s.size <= 140737488351232
theorem gen_rn (lf : Int -> Int -> ByteArray -> Bool) : ∀ (m : Nat) (x : Ex) (c t : Nat), NGe.Ok lf m x -> Sz m x -> c + 2 * sz m x <= 60000 -> t + sz m x <= 60000 -> Rn (gen m x c t) := by
 intro m
 induction m with
 | zero => intro x c t h; exact h.elim
 | succ m ih =>
  rintro ⟨o, i, s, l⟩ c t ⟨h1, h2, h3⟩ ⟨z1, z2, z3, z4⟩ hc ht
  have e : sz (m + 1) (.mk o i s l) = 1 + (l.map (sz m)).sum := rfl
  rw [e] at hc ht
  by_cases ho : o = 29 \/ o = 30
  ·have hk : l.length = 2 := by rw [NGe.kd_two ho] at h1; omega
   have es : (l.map (sz m)).sum = sz m (NGe.kid l 0) + sz m (NGe.kid l 1) := by rw [NGe.two_of hk]; simp [NGe.kid]
   have m0 := NGe.kid_mem (l := l) (j := 0) (by omega)
   have m1 := NGe.kid_mem (l := l) (j := 1) (by omega)
   have g0 := NGe.gen_len lf m (NGe.kid l 0) c t (h3 _ m0)
   have g1 := NGe.gen_len lf m (NGe.kid l 1) (c + (gen m (NGe.kid l 0) c t).1.length + 1) (t + (gen m (NGe.kid l 0) c t).2.length) (h3 _ m1)
   have a0 := ih (NGe.kid l 0) c t (h3 _ m0) (z4 _ m0) (by omega) (by omega)
   have a1 := ih (NGe.kid l 1) (c + (gen m (NGe.kid l 0) c t).1.length + 1) (t + (gen m (NGe.kid l 0) c t).2.length) (h3 _ m1) (z4 _ m1) (by omega) (by omega)
   have eg : gen (m + 1) (.mk o i s l) c t = NGe.logic (gen m) (o + 1) (NGe.kid l 0) (NGe.kid l 1) c t := by rw [gen, if_pos ho]
   rw [eg]
   unfold NGe.logic NGe.both2
   refine ⟨fun y hy => ?_, fun y hy => ?_⟩
   ·simp only [List.mem_append, List.mem_cons, List.not_mem_nil, or_false] at hy
    rcases hy with hy | rfl | hy | rfl
    ·exact a0.1 y hy
    ·exact ⟨⟨by omega, by omega⟩, ⟨by simp only; omega, by simp only; omega⟩⟩
    ·exact a1.1 y hy
    ·exact ⟨⟨by simp, by simp⟩, ⟨by simp, by simp⟩⟩
   ·rcases List.mem_append.1 hy with hy | hy
    ·exact a0.2 y hy
    ·exact a1.2 y hy
  by_cases ho3 : o = 31
  ·have hk : l.length = 3 := by subst ho3; rw [NGe.kd_three] at h1; omega
   have es : (l.map (sz m)).sum = sz m (NGe.kid l 0) + sz m (NGe.kid l 1) + sz m (NGe.kid l 2) := by rw [NGe.three_of hk]; simp [NGe.kid]; omega
   have m0 := NGe.kid_mem (l := l) (j := 0) (by omega)
   have m1 := NGe.kid_mem (l := l) (j := 1) (by omega)
   have m2 := NGe.kid_mem (l := l) (j := 2) (by omega)
   have eg : gen (m + 1) (.mk o i s l) c t = NGe.choice (gen m) (NGe.kid l 0) (NGe.kid l 1) (NGe.kid l 2) c t := by rw [gen, if_neg ho, if_pos ho3]
   rw [eg]
   unfold NGe.choice NGe.choice2
   have g0 := NGe.gen_len lf m (NGe.kid l 0) c t (h3 _ m0)
   have a0 := ih (NGe.kid l 0) c t (h3 _ m0) (z4 _ m0) (by omega) (by omega)
   obtain ⟨A, hA⟩ : ∃ A, gen m (NGe.kid l 0) c t = A := ⟨_, rfl⟩
   rw [hA] at g0 a0 ⊢
   have g1 := NGe.gen_len lf m (NGe.kid l 1) (c + A.1.length + 1) (t + A.2.length) (h3 _ m1)
   have a1 := ih (NGe.kid l 1) (c + A.1.length + 1) (t + A.2.length) (h3 _ m1) (z4 _ m1) (by omega) (by omega)
   obtain ⟨B, hB⟩ : ∃ B, gen m (NGe.kid l 1) (c + A.1.length + 1) (t + A.2.length) = B := ⟨_, rfl⟩
   rw [hB] at g1 a1 ⊢
   have g2 := NGe.gen_len lf m (NGe.kid l 2) (c + A.1.length + 1 + B.1.length + 1) (t + A.2.length + B.2.length) (h3 _ m2)
   have a2 := ih (NGe.kid l 2) (c + A.1.length + 1 + B.1.length + 1) (t + A.2.length + B.2.length) (h3 _ m2) (z4 _ m2) (by omega) (by omega)
   obtain ⟨D, hD⟩ : ∃ D, gen m (NGe.kid l 2) (c + A.1.length + 1 + B.1.length + 1) (t + A.2.length + B.2.length) = D := ⟨_, rfl⟩
   rw [hD] at g2 a2 ⊢
   unfold NGe.three
   refine ⟨fun y hy => ?_, fun y hy => ?_⟩
   ·simp only [List.mem_append, List.mem_cons] at hy
    rcases hy with hy | rfl | hy | rfl | hy
    ·exact a0.1 y hy
    ·exact ⟨⟨by simp, by simp⟩, ⟨by simp only; omega, by simp only; omega⟩⟩
    ·exact a1.1 y hy
    ·exact ⟨⟨by simp, by simp⟩, ⟨by simp only; omega, by simp only; omega⟩⟩
    ·exact a2.1 y hy
   ·rcases List.mem_append.1 hy with hy | hy
    ·rcases List.mem_append.1 hy with hy | hy
     ·exact a0.2 y hy
     ·exact a1.2 y hy
    ·exact a2.2 y hy
  have eg : gen (m + 1) (.mk o i s l) c t = NGe.leaf o i s t (NGe.row (gen m) l c t) := by rw [gen, if_neg ho, if_neg ho3]
  have hr : ∀ (l : List Ex) (c t : Nat), (∀ y ∈ l, NGe.Ok lf m y) -> (∀ y ∈ l, Sz m y) -> c + 2 * (l.map (sz m)).sum <= 60000 -> t + (l.map (sz m)).sum <= 60000 -> Rn (NGe.row (gen m) l c t) := by
   intro l
   induction l with
   | nil => intro c t _ _ _ _; exact ⟨by simp [NGe.row], by simp [NGe.row]⟩
   | cons x r ihr =>
    intro c t h hz hc ht
    simp only [List.map_cons, List.sum_cons] at hc ht
    have gx := NGe.gen_len lf m x c t (h x (by simp))
    have ax := ih x c t (h x (by simp)) (hz x (by simp)) (by omega) (by omega)
    have ar := ihr (c + (gen m x c t).1.length) (t + (gen m x c t).2.length) (fun y hy => h y (by simp [hy])) (fun y hy => hz y (by simp [hy])) (by omega) (by omega)
    refine ⟨fun y hy => ?_, fun y hy => ?_⟩
    ·simp only [NGe.row] at hy
     rcases List.mem_append.1 hy with hy | hy
     ·exact ax.1 y hy
     ·exact ar.1 y hy
    ·simp only [NGe.row] at hy
     rcases List.mem_append.1 hy with hy | hy
     ·exact ax.2 y hy
     ·exact ar.2 y hy
  have a := hr l c t h3 z4 (by omega) (by omega)
  have hrl := NWv.row_len lf m l c t h3
  rw [eg]
  unfold NGe.leaf
  refine ⟨fun y hy => ?_, fun y hy => ?_⟩
  ·rcases List.mem_append.1 hy with hy | hy
   ·exact a.1 y hy
   ·simp only [List.mem_cons, List.not_mem_nil, or_false] at hy
    subst hy
    refine ⟨z1, ?_⟩
    simp only [NGe.opd]
    split
    ·omega
    ·exact z2
  ·rcases List.mem_append.1 hy with hy | hy
   ·exact a.2 y hy
   ·unfold NGe.tx at hy
    split at hy
    ·simp at hy; subst hy; exact z3
    ·simp at hy
def mkO (x : Ex) : Bool := rsv x && KHs.hs 9223372036854775808 [x]
theorem hs_lw {x : Ex} : ∀ (n : Nat) (l : List Ex) (m : Nat), SizeOf.sizeOf l <= n -> (∀ y ∈ l, Sz m y /\ Dp m y) -> KHs.hs 9223372036854775808 l = !lw l := by
 intro n
 induction n with
 | zero =>
  intro l m h
  cases l with
  | nil => intro _; rw [KHs.hs_nil, lw_nil]; rfl
  | cons x t => exact absurd h (by simp)
 | succ n ih =>
  intro l m h hz
  cases l with
  | nil => rw [KHs.hs_nil, lw_nil]; rfl
  | cons x t =>
   obtain ⟨o, i, s, k⟩ := x
   have hx := hz _ (List.mem_cons_self ..)
   cases m with
   | zero => exact hx.2.elim
   | succ m =>
    obtain ⟨⟨z1, z2, z3, z4⟩, d⟩ := hx
    have h1 := ih k m (by simp at h; omega) (fun y hy => ⟨z4 y hy, d y hy⟩)
    have h2 := ih t (m + 1) (by simp at h; omega) (fun y hy => hz y (by simp [hy]))
    rw [KHs.hs, lw, h1, h2]
    have h3 : decide (9223372036854775808 <= i) = false := by simp; omega
    rw [h3]
    cases (o == 6) <;> cases decide (i < 0) <;> cases lw k <;> cases lw t <;> rfl
theorem mk_ok {m : Nat} {x : Ex} (hd : Dp m x) (h : mkO x = true) : NGe.Ok rlf m x /\ sz m x <= 1024 := by
 unfold mkO rsv at h
 rw [Bool.and_eq_true] at h
 have h1 : 0 <= SBe.bhL rlf [x] 1024 := by simpa using h.1
 have := NGe.bh_ok rlf m x 1024 hd h1
 exact ⟨this.1, by omega⟩
theorem own_base {w : World} {B B' : Nat} {e : TypeId} {s n : Nat} {v : Value} {xs : List Value} (h : w.ownsRow B e s v n xs) (hB : B' <= B) : w.ownsRow B' e s v n xs := by
 refine ⟨h.1, ?_⟩
 rcases h.2 with h2 | ⟨g, cap, cur, hv, hg, r⟩
 ·exact .inl h2
 ·exact .inr ⟨g, cap, cur, hv, by omega, r⟩
def MkA (B : Nat) (w' : World) (m : Nat) (x : Ex) (cv tv : Value) : Prop := Oc w' B cv (gen m x 0 0).1 /\ Ot w' B tv (gen m x 0 0).2 /\ ∀ g, cv.ownBlock = some g -> tv.ownBlock ≠ some g
theorem make_no {m : Nat} {w : World} {v : Value} {x : Ex} (hin : In false (fun _ => True) w m v x) (h : mkO x = false) :
  Calls prog 8 #[v] w fun e w' => e = .returned (.tuple #[.slice none 0 0, .slice none 0 0, .int .i64 1108]) /\ Below w.heap.size w w' := by
 obtain ⟨m', lv, rfl, rfl, -, -, -, hL⟩ := hin.shape
 obtain ⟨a, cap, rfl, -⟩ := hL
 obtain ⟨W0, hW0⟩ : ∃ W0, w.alloc (.cells #[.int .i64 x.o, .int .i64 x.i, .string x.s, .slice a x.l.length cap] 24) = W0 := ⟨_, rfl⟩
 have b0 : Below w.heap.size w W0 := by rw [<- hW0]; exact (Below.refl _ w).alloc (Nat.le_refl _) _
 have q1 : W0.heap[w.heap.size]? = some (.cells #[.int .i64 x.o, .int .i64 x.i, .string x.s, .slice a x.l.length cap] 24 (0, 0)) := by rw [<- hW0]; exact heap_alloc_new w _
 obtain ⟨v0, v1, v2, v3⟩ := four_box q1
 have c1 := KSh.resolved_c (hin.below b0)
 have HX : Hid (W0.heap[w.heap.size]? = some (.cells #[.int .i64 x.o, .int .i64 x.i, .string x.s, .slice a x.l.length cap] 24 (0, 0))) := q1
 have HB0 : Hid (Below w.heap.size w W0) := b0
 have HIN : Hid _ := hin.below b0
 unfold mkO at h
 obtain ⟨R, hR⟩ : ∃ R, rsv x = R := ⟨_, rfl⟩
 rw [hR] at c1 h
 clear hR q1 b0 hin
 cases R with
 | false =>
  clear h
  go_enter func8, ntmps8
  go_wp2_with fail
  (try rw [hW0])
  refine c1.mono ?_
  rintro e W1 ⟨rfl, b1⟩
  have HB1 : Hid (Below W0.heap.size W0 W1) := b1
  clear c1 b1
  go_wp2_with fail
  go_ret3
  exact ⟨rfl, nx HB0.out HB1.out⟩
 | true =>
  have hh : KHs.hs (9223372036854775807 + 1) [x] = false := by simpa using h
  have HL : Hid (∀ W1, Below W0.heap.size W0 W1 -> Calls prog 28 #[.agg #[.int .i64 x.o, .int .i64 x.i, .string x.s, .slice a x.l.length cap], .int .i64 9223372036854775807] W1 fun e w' => e = .returned (.bool false) /\ Below W1.heap.size W1 w') := by
   intro W1 h1
   have := KHs.placed_all _ W1 _ x 9223372036854775807 (HIN.out.below h1)
   rw [hh] at this
   exact this
  clear hh h
  go_enter func8, ntmps8
  go_wp2_with fail
  (try rw [hW0])
  refine c1.mono ?_
  rintro e W1 ⟨rfl, b1⟩
  have HB1 : Hid (Below W0.heap.size W0 W1) := b1
  have cL := HL.out W1 b1
  have xr := (b1.block w.heap.size (Array.getElem?_eq_some_iff.1 HX.out).1).trans HX.out
  obtain ⟨v0, v1, v2, v3⟩ := four_box xr
  clear c1 b1 xr
  go_wp2_with fail
  refine cL.mono ?_
  rintro e W2 ⟨rfl, b2⟩
  have HB2 : Hid (Below W1.heap.size W1 W2) := b2
  clear cL b2
  go_wp2_with fail
  go_ret3
  exact ⟨rfl, nx (nx HB0.out HB1.out) HB2.out⟩
theorem make_ok {K m : Nat} {w : World} {v : Value} {x : Ex} (hin : In false (fun b => b < K) w m v x) (hK : K <= w.heap.size) (h : mkO x = true) :
  Calls prog 8 #[v] w fun e w' => ∃ cv tv, e = .returned (.tuple #[cv, tv, .int .i64 0]) /\ MkA w.heap.size w' m x cv tv /\ Below w.heap.size w w' := by
 have hdp := in_dp m v x hin
 obtain ⟨hok, hsz⟩ := mk_ok hdp h
 obtain ⟨m', lv, e0, rfl, -, -, -, hL⟩ := hin.shape
 obtain ⟨a, cap, rfl, -⟩ := hL
 obtain ⟨W0, hW0⟩ : ∃ W0, w.alloc (.cells #[.int .i64 x.o, .int .i64 x.i, .string x.s, .slice a x.l.length cap] 24) = W0 := ⟨_, rfl⟩
 have b0 : Below w.heap.size w W0 := by rw [<- hW0]; exact (Below.refl _ w).alloc (Nat.le_refl _) _
 have q1 : W0.heap[w.heap.size]? = some (.cells #[.int .i64 x.o, .int .i64 x.i, .string x.s, .slice a x.l.length cap] 24 (0, 0)) := by rw [<- hW0]; exact heap_alloc_new w _
 obtain ⟨v0, v1, v2, v3⟩ := four_box q1
 have hin1 := hin.below b0
 have hinT : In false (fun _ => True) W0 m (.agg #[.int .i64 x.o, .int .i64 x.i, .string x.s, .slice a x.l.length cap]) x := hin1.weak (fun _ _ => trivial) false id m (Nat.le_refl _)
 unfold mkO at h
 rw [Bool.and_eq_true] at h
 have c1 := KSh.resolved_c hinT
 rw [h.1] at c1
 have hh : KHs.hs (9223372036854775807 + 1) [x] = true := h.2
 have HX : Hid (W0.heap[w.heap.size]? = some (.cells #[.int .i64 x.o, .int .i64 x.i, .string x.s, .slice a x.l.length cap] 24 (0, 0))) := q1
 have HB0 : Hid (Below w.heap.size w W0) := b0
 have HL : Hid (∀ W1, Below W0.heap.size W0 W1 -> Calls prog 28 #[.agg #[.int .i64 x.o, .int .i64 x.i, .string x.s, .slice a x.l.length cap], .int .i64 9223372036854775807] W1 fun e w' => e = .returned (.bool true) /\ Below W1.heap.size W1 w') := by
  intro W1 h1
  have := KHs.placed_all _ W1 _ x 9223372036854775807 (hinT.below h1)
  rw [hh] at this
  exact this
 have HIN : Hid (In false (fun b => b < K) W0 m (.agg #[.int .i64 x.o, .int .i64 x.i, .string x.s, .slice a x.l.length cap]) x) := hin1
 have HOK : Hid (NGe.Ok rlf m x) := hok
 clear q1 b0 hin hin1 hinT hh h hdp hok
 go_enter func8, ntmps8
 go_wp2_with fail
 (try rw [hW0])
 refine c1.mono ?_
 rintro e W1 ⟨rfl, b1⟩
 have HB1 : Hid (Below W0.heap.size W0 W1) := b1
 have cL := HL.out W1 b1
 have xr := (b1.block w.heap.size (Array.getElem?_eq_some_iff.1 HX.out).1).trans HX.out
 have HX1 : Hid _ := xr
 obtain ⟨v0, v1, v2, v3⟩ := four_box xr
 clear c1 b1 xr
 go_wp2_with fail
 refine cL.mono ?_
 rintro e W2 ⟨rfl, b2⟩
 have HB2 : Hid (Below W1.heap.size W1 W2) := b2
 have hB02 : Below w.heap.size w W2 := nx (nx HB0.out HB1.out) b2
 have x2 := (b2.block w.heap.size (Array.getElem?_eq_some_iff.1 HX1.out).1).trans HX1.out
 obtain ⟨W3, hW3⟩ : ∃ W3, W2.alloc (.cells #[.slice none 0 0, .slice none 0 0] 54) = W3 := ⟨_, rfl⟩
 have b3 : Below W2.heap.size W2 W3 := by rw [<- hW3]; exact (Below.refl _ W2).alloc (Nat.le_refl _) _
 have q3 : W3.heap[W2.heap.size]? = some (.cells #[.slice none 0 0, .slice none 0 0] 54 (0, 0)) := by rw [<- hW3]; exact heap_alloc_new W2 _
 have hwb : Wb W3 W2.heap.size (.slice none 0 0) (.slice none 0 0) [] [] := ⟨q3, World.ownsRow_nil _ _ _ _, World.ownsRow_nil _ _ _ _, fun g e => by cases e⟩
 have hz := HB0.out.size
 have hz2 := hB02.size
 have x3 := (b3.block w.heap.size (by have := (Array.getElem?_eq_some_iff.1 x2).1; exact this)).trans x2
 have hin3 : In false (fun b => b < K) W3 m (.agg #[.int .i64 x.o, .int .i64 x.i, .string x.s, .slice a x.l.length cap]) x := HIN.out.keep (w' := W3) (fun b hb hl => by
  have h1 := HB1.out.block b hl
  have h2 := HB2.out.block b (Nat.lt_of_lt_of_le hl HB1.out.size)
  have h3 := b3.block b (Nat.lt_of_lt_of_le hl (Nat.le_trans HB1.out.size HB2.out.size))
  exact h3.trans (h2.trans h1))
 have cW := NWv.write_all rlf m W3 W2.heap.size K _ _ _ [] [] x hwb (by omega) hin3 HOK.out (by simp; omega) (by simp; omega)
 have HBB : Hid (Below w.heap.size w W3) := nx hB02 b3
 obtain ⟨y0, y1, y2, y3⟩ := four_box x3
 obtain ⟨v0, v1, v2, v3⟩ := four_box x2
 clear cL b2 HX1 HX hB02 b3 q3 x2 x3 hwb hin3
 go_wp2_with fail
 (try rw [hW3])
 refine cW.mono ?_
 rintro e W4 ⟨rfl, cv, tv, wb, kw⟩
 rw [List.nil_append, List.nil_append] at wb
 have HWB : Hid (Wb W4 W2.heap.size cv tv (gen m x 0 0).1 (gen m x 0 0).2) := wb
 have HKW : Hid (Below w.heap.size w W4) := HBB.out.trans (kw.below.mono (by omega))
 obtain ⟨k0, k1, -, -⟩ := wb.cells
 clear cW wb kw v0 v1 v2 v3 y0 y1 y2 y3
 go_wp2_with fail
 go_region_held3 (fun w' => w'.cell? ⟨W2.heap.size, 0, none⟩ = some cv /\ w'.cell? ⟨W2.heap.size, 1, none⟩ = some tv) (go_keep) (fail)
 go_wp2_with fail
 go_ret3
 exact ⟨cv, tv, rfl, ⟨own_base HWB.out.own (by omega), own_base HWB.out.tex (by omega), HWB.out.ne⟩, HKW.out.drew⟩
end Go.Proofs.YthjbknncbhkinaaGreatDoor.NMk
