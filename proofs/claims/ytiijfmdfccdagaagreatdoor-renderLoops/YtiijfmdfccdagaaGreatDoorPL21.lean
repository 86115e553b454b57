import Derived.Deep.RegionHeld3
import Derived.Laws.Cover1
import Derived.LoopIn
import Derived.LoopNIn
import Derived.OwnWalkIn
import Derived.RangeFuncBound
import Derived.RangeFuncCalls
import Derived.RangeFuncLeaves
import Derived.RangeFuncNested
import Derived.Shelf.Abstract
import Derived.Shelf.RegionOpen
import Derived.TacticsInMore
import Derived.Test.YtiijfmdfccdagaaGreatDoorPL16
import Derived.Test.YtiijfmdfccdagaaGreatDoorPL20
open Go.Proofs.Tryz
set_option linter.unusedVariables false
set_option maxRecDepth 100000
set_option maxHeartbeats 4000000
namespace Go.Proofs.YtiijfmdfccdagaaGreatDoor.KFd
open Go.RowKit Base KBase KSh
open SFit (ne ret_bool)
theorem drewN_below {n : Nat} {w w' : World} (h : Below n w w') (k : Nat) : Below n w (w'.drewN k) := h.trans ⟨rfl, rfl, rfl, by simp, fun _ _ => by simp⟩
def nlt (z : Option ByteArray) (n : ByteArray) : Bool := match z with
 | none => true
 | some p => Op.bytesLess p.toList n.toList
def fl1 : Option ByteArray -> List Fld -> Bool
 | _, [] => true
 | z, c :: t => (UBase.word c.n 45 && (nlt z c.n && ((c.a == 0) && vOk ⟨c.p, c.b, c.e⟩))) && fl1 (some c.n) t
def fvP (l : List Fld) : Nat -> Option ByteArray
 | 0 => none
 | q + 1 => (l[q]?).map Fld.n
theorem fvP_succ (l : List Fld) (q : Nat) (h : q < l.length) : fvP l (q + 1) = some l[q].n := by
 simp only [fvP, List.getElem?_eq_getElem h, Option.map_some]
theorem eight_new {w : World} (v0 v1 v2 v3 v4 v5 v6 v7 : Value) (t : TypeId) : ∃ W, w.alloc (.cells #[v0, v1, v2, v3, v4, v5, v6, v7] t) = W /\ Below w.heap.size w W /\ W.heap.size = w.heap.size + 1 /\ W.heap[w.heap.size]? = some (.cells #[v0, v1, v2, v3, v4, v5, v6, v7] t (0, 0)) :=
 ⟨_, rfl, (Below.refl _ w).alloc (Nat.le_refl _) _, by simp, heap_alloc_new w _⟩
theorem le_lt : ∀ (x y : List UInt8), (Op.bytesLess x y || (x == y)) = !(Op.bytesLess y x)
 | [], [] => by simp [Op.bytesLess]
 | [], b :: y => by simp [Op.bytesLess]
 | a :: x, [] => by simp [Op.bytesLess]
 | a :: x, b :: y => by
  have ih := le_lt x y
  simp only [Op.bytesLess, List.cons_beq_cons]
  rcases Nat.lt_trichotomy a.toNat b.toNat with h | h | h
  ·have h1 : decide (a < b) = true := decide_eq_true (UInt8.lt_iff_toNat_lt.2 h)
   have h2 : decide (b < a) = false := decide_eq_false (fun k => by have := UInt8.lt_iff_toNat_lt.1 k; omega)
   have h3 : (b == a) = false := by
    rw [beq_eq_false_iff_ne]
    intro k; rw [k] at h; omega
   simp [h1, h2, h3]
  ·obtain rfl : a = b := UInt8.toNat_inj.1 h
   have h1 : decide (a < a) = false := decide_eq_false (fun k => by have := UInt8.lt_iff_toNat_lt.1 k; omega)
   simp only [h1, Bool.false_or, beq_self_eq_true, Bool.true_and]
   exact ih
  ·have h1 : decide (a < b) = false := decide_eq_false (fun k => by have := UInt8.lt_iff_toNat_lt.1 k; omega)
   have h2 : decide (b < a) = true := decide_eq_true (UInt8.lt_iff_toNat_lt.2 h)
   have h3 : (a == b) = false := by
    rw [beq_eq_false_iff_ne]
    intro k; rw [k] at h; omega
   simp [h1, h2, h3]
theorem fields_c {w : World} {v : Value} {l : List Fld} {S : Nat -> Prop} {r : Bool} (hin : RF r S w v l) :
  Calls prog 150 #[v] w fun e w' => e = .returned (.bool (fl1 none l)) /\ Below w.heap.size w w' := by
 obtain ⟨a, cap, rfl, hlc, hcm, hlen, hnil, hL⟩ := hin
 have HL := hid hL
 obtain ⟨T, hT⟩ : ∃ T, fl1 none l = T := ⟨_, rfl⟩
 have HT := hid hT
 rw [hT]
 clear hT hL
 go_enter func150, ntmps150
 go_wp2_with fail
 go_loopw [7] (fun i wr => ∃ q : Nat, q <= l.length /\ i = .int .i64 q /\ fl1 (fvP l q) (l.drop q) = T /\ Below w.heap.size w wr) (fun i _ => l.length - (intOf i).toNat)
 case atStart => exact ⟨0, by omega, rfl, HT.out, Below.refl _ _⟩
 case round =>
  clear HT
  obtain ⟨q, hq, rfl, hM, hb⟩ := hrel
  have Hb := hid hb
  by_cases hlt : q < l.length
  ·have d0 : decide ((q : Int) < (l.length : Int)) = true := by simp; omega
   obtain ⟨g, o, u, ha, hSg, hu, hi⟩ := HL.out.elem hlt
   subst ha
   have hi2 := hi.keep (Keep.of_below hb)
   obtain ⟨v0, v1, v2, e0, e1, e2, e3, v7, rfl, c0, c1, c2, c3, c4, c5, c6, c7⟩ := hu
   obtain ⟨ea, ec, rfl, rfl, rfl, rfl, rfl, rfl, rfl, rfl, hn, hp, -, hat⟩ := hi.eight
   have c0 := below_cell c0 hb
   have c1 := below_cell c1 hb
   have c2 := below_cell c2 hb
   have c3 := below_cell c3 hb
   have c4 := below_cell c4 hb
   have c5 := below_cell c5 hb
   have c6 := below_cell c6 hb
   have c7 := below_cell c7 hb
   have hdrop := List.drop_eq_getElem_cons hlt
   have hnext := fvP_succ l q hlt
   rw [hdrop, fl1, <- hnext] at hM
   obtain ⟨y, hy⟩ : ∃ y, l[q] = y := ⟨_, rfl⟩
   rw [hy] at c0 c1 c2 c3 c4 c5 c6 c7 hn hp hat hi2 hM
   obtain ⟨n, p, b, x, at'⟩ := y
   dsimp only at c0 c1 c2 c3 c4 c5 c6 c7 hn hp hat hM
   obtain ⟨W0, hW0, b0, hs0, q0⟩ := eight_new (w := wr) (.string n) (.string p) (.bool b) (.int .i64 x.o) (.int .i64 x.i) (.string x.s) (.slice ea x.l.length ec) (.int .i64 at') 59
   obtain ⟨mm, f0, f1, f2, f3, hE, -, -, hxi, -⟩ := hi2
   simp only [Value.agg.injEq, Array.mk.injEq, List.cons.injEq, and_true, true_and] at hE
   obtain ⟨rfl, rfl, rfl, rfl⟩ := hE
   have HP : Hid (InP r S wr (.agg #[.string p, .bool b, .int .i64 x.o, .int .i64 x.i, .string x.s, .slice ea x.l.length ec]) ⟨p, b, x⟩) := ⟨mm, _, _, _, _, rfl, hp, hxi⟩
   have c67 := fun W => UWord.tag_c n (by omega) W
   obtain ⟨k0, k1, k2, k3, k4, k5, k6, k7⟩ := eight_box q0
   have HB0 := hid (nx hb b0)
   have Hb0 := hid b0
   have HQ0 := hid q0
   clear hi hdrop hnext hb hy hxi q0 b0
   obtain ⟨Z, hZ⟩ : ∃ Z, fl1 (fvP l (q + 1)) (l.drop (q + 1)) = Z := ⟨_, rfl⟩
   have HZ := hid hZ
   rw [hZ] at hM
   clear hZ
   have more : ∀ (nq : Nat), (at' == 0) = true -> ((vOk ⟨p, b, x⟩ && Z) = T) -> Calls prog 173 #[.agg #[.string p, .bool b, .int .i64 x.o, .int .i64 x.i, .string x.s, .slice ea x.l.length ec]] (W0.drewN nq) fun e w' => e = .returned (.bool (vOk ⟨p, b, x⟩)) /\ Below w.heap.size w w' := by
    intro nq _ _
    refine (value_c (HP.out.keep (Keep.of_below (drewN_below Hb0.out nq)))).mono ?_
    rintro e w' ⟨rfl, h⟩
    exact ⟨rfl, nx (drewN_below HB0.out nq) h⟩
   cases h1 : UBase.word n 45 with
   | false =>
    rw [h1] at hM c67
    have hT : false = T := by rw [<- hM]; rfl
    subst hT
    clear hM more
    go_wp2_with fail
    try rw [hW0]
    clear hW0
    go_quiet (first | (go_at_call 149; exact Calls.quiet_of_same (c67 _)))
    go_wp2_with fail
    go_ret
    exact ⟨rfl, drewN_below HB0.out _⟩
   | true =>
    rw [h1] at hM c67
    rw [Bool.true_and] at hM
    cases q with
    | zero =>
     have e1 : nlt (fvP l 0) n = true := rfl
     rw [e1, Bool.true_and] at hM
     clear e1
     rw [Nat.zero_mul, Nat.add_zero] at c0 c1 c2 c3 c4 c5 c6 c7
     cases h3 : (at' == 0) with
     | false =>
      rw [h3] at hM
      have hT : false = T := by rw [<- hM]; rfl
      subst hT
      have h3' : (at' != 0) = true := by rw [bne, h3]; rfl
      clear hM more
      go_wp2_with fail
      try rw [hW0]
      clear hW0
      go_quiet (first | (go_at_call 149; exact Calls.quiet_of_same (c67 _)))
      go_wp2_with fail
      go_ret
      exact ⟨rfl, drewN_below HB0.out _⟩
     | true =>
      rw [h3, Bool.true_and] at hM
      have h3' : (at' != 0) = false := by rw [bne, h3]; rfl
      have cV := fun nq => more nq h3 hM
      have HM := hid hM
      clear hM more
      go_wp2_with fail
      try rw [hW0]
      clear hW0
      go_quiet (first | (go_at_call 149; exact Calls.quiet_of_same (c67 _)))
      go_wp2_with fail
      refine (cV _).mono ?_
      rintro e W1 ⟨rfl, b1⟩
      have HB1 := hid b1
      have hM := HM.out
      clear b1 cV HM
      cases hv : vOk ⟨p, b, x⟩ with
      | true =>
       rw [hv, Bool.true_and] at hM
       have HM := hid (HZ.out.trans hM)
       clear hM hv
       go_wp2_with fail
       go_roundw
       case rel => exact ⟨1, by omega, by go_num, HM.out, HB1.out⟩
       case measure => simp only [intOf]; omega
      | false =>
       rw [hv, Bool.false_and] at hM
       subst hM
       clear hv
       go_wp2_with fail
       go_ret
       exact ⟨rfl, HB1.out⟩
    | succ j =>
     have hj : j < l.length := by omega
     obtain ⟨g', o', u', E, -, hu', hi'⟩ := HL.out.elem hj
     obtain ⟨rfl, rfl⟩ : g = g' /\ o = o' := by cases E; exact ⟨rfl, rfl⟩
     obtain ⟨w0, w1, w2, e0', e1', e2', e3', w7, rfl, c0', -, -, -, -, -, -, -⟩ := hu'
     obtain ⟨ea', ec', rfl, rfl, rfl, rfl, rfl, rfl, rfl, rfl, hn', -⟩ := hi'.eight
     have c0' := below_cell (below_cell c0' Hb.out) Hb0.out
     rw [fvP_succ l j hj] at hM
     obtain ⟨pn, hpn⟩ : ∃ pn, l[j].n = pn := ⟨_, rfl⟩
     rw [hpn] at c0' hM hn'
     have e1 : nlt (some pn) n = Op.bytesLess pn.toList n.toList := rfl
     rw [e1] at hM
     have hj1 : ((j + 1 : Nat) : Int) - 1 = (j : Int) := by omega
     have hj2 : (0 : Int) <= (j : Int) := by omega
     have hj3 : (j : Int) < (l.length : Int) := by omega
     have hj4 : decide ((0 : Int) < ((j + 1 : Nat) : Int)) = true := decide_eq_true (by omega)
     have hj5 : IntKind.i64.wrap (((j + 1 : Nat) : Int) - 1) = (j : Int) := by rw [IntKind.wrap_i64]; omega
     have hj6 : IntKind.i64.wrap (j : Int) = (j : Int) := by rw [IntKind.wrap_i64]; omega
     have hle := le_lt n.toList pn.toList
     clear hi' E hpn e1
     cases h2 : Op.bytesLess pn.toList n.toList with
     | false =>
      rw [h2] at hM hle
      rw [Bool.not_false] at hle
      have hT : false = T := by rw [<- hM]; rfl
      subst hT
      clear hM more h2
      cases hl1 : Op.bytesLess n.toList pn.toList with
      | true =>
       cases hl2 : (n.toList == pn.toList) with
       | true =>
        go_wp2_with fail
        try rw [hW0]
        clear hW0
        go_quiet (first | (go_at_call 149; exact Calls.quiet_of_same (c67 _)))
        go_wp2_with fail
        go_ret
        exact ⟨rfl, drewN_below HB0.out _⟩
       | false =>
        go_wp2_with fail
        try rw [hW0]
        clear hW0
        go_quiet (first | (go_at_call 149; exact Calls.quiet_of_same (c67 _)))
        go_wp2_with fail
        go_ret
        exact ⟨rfl, drewN_below HB0.out _⟩
      | false =>
       rw [hl1, Bool.false_or] at hle
       go_wp2_with fail
       try rw [hW0]
       clear hW0
       go_quiet (first | (go_at_call 149; exact Calls.quiet_of_same (c67 _)))
       go_wp2_with fail
       go_ret
       exact ⟨rfl, drewN_below HB0.out _⟩
     | true =>
      rw [h2, Bool.true_and] at hM
      rw [h2, Bool.not_true, Bool.or_eq_false_iff] at hle
      obtain ⟨hl1, hl2⟩ := hle
      clear h2
      cases h3 : (at' == 0) with
      | false =>
       rw [h3] at hM
       have hT : false = T := by rw [<- hM]; rfl
       subst hT
       have h3' : (at' != 0) = true := by rw [bne, h3]; rfl
       clear hM more
       go_wp2_with fail
       try rw [hW0]
       clear hW0
       go_quiet (first | (go_at_call 149; exact Calls.quiet_of_same (c67 _)))
       go_wp2_with fail
       go_ret
       exact ⟨rfl, drewN_below HB0.out _⟩
      | true =>
       rw [h3, Bool.true_and] at hM
       have h3' : (at' != 0) = false := by rw [bne, h3]; rfl
       have cV := fun nq => more nq h3 hM
       have HM := hid hM
       clear hM more
       go_wp2_with fail
       try rw [hW0]
       clear hW0
       go_quiet (first | (go_at_call 149; exact Calls.quiet_of_same (c67 _)))
       go_wp2_with fail
       refine (cV _).mono ?_
       rintro e W1 ⟨rfl, b1⟩
       have HB1 := hid b1
       have hM := HM.out
       clear b1 cV HM
       cases hv : vOk ⟨p, b, x⟩ with
       | true =>
        rw [hv, Bool.true_and] at hM
        have HM := hid (HZ.out.trans hM)
        clear hM hv
        go_wp2_with fail
        go_roundw
        case rel => exact ⟨j + 1 + 1, by omega, by go_num, HM.out, HB1.out⟩
        case measure => simp only [intOf]; omega
       | false =>
        rw [hv, Bool.false_and] at hM
        subst hM
        clear hv
        go_wp2_with fail
        go_ret
        exact ⟨rfl, HB1.out⟩
  ·have d0 : decide ((q : Int) < (l.length : Int)) = false := by simp; omega
   have hT : true = T := by
    rw [List.drop_eq_nil_of_le (by omega), fl1] at hM
    exact hM
   subst hT
   clear hM
   go_wp2_with fail
   go_ret
   exact ⟨rfl, Hb.out⟩
end Go.Proofs.YtiijfmdfccdagaaGreatDoor.KFd
namespace Go.Proofs.YtiijfmdfccdagaaGreatDoor.KAr
open Go.RowKit Base
open SFit (ne ret_bool)
open XBase (frozen_box)
abbrev cv (k : Int) (t : ByteArray) (a1 : Option Addr) (n1 c1 : Nat) (a2 : Option Addr) (n2 c2 : Nat) (a3 : Option Addr) (n3 c3 : Nat) (a4 : Option Addr) (n4 c4 : Nat) (a5 : Option Addr) (n5 c5 : Nat) : Value :=
 .agg #[.int .i64 k, .string t, .slice a1 n1 c1, .slice a2 n2 c2, .slice a3 n3 c3, .slice a4 n4 c4, .slice a5 n5 c5]
abbrev av (s e l : Int) : Value := .agg #[.int .i64 s, .int .i64 e, .int .i64 l]
def bare (t : ByteArray) (n1 n2 n3 n4 n5 : Nat) : Bool := (t.size == 0) && (((n1 : Int) == 0) && (((n2 : Int) == 0) && (((n3 : Int) == 0) && (((n4 : Int) == 0) && ((n5 : Int) == 0)))))
theorem bare_c (k : Int) (t : ByteArray) (a1 : Option Addr) (n1 c1 : Nat) (a2 : Option Addr) (n2 c2 : Nat) (a3 : Option Addr) (n3 c3 : Nat) (a4 : Option Addr) (n4 c4 : Nat) (a5 : Option Addr) (n5 c5 : Nat) (w : World) :
  Calls prog 148 #[cv k t a1 n1 c1 a2 n2 c2 a3 n3 c3 a4 n4 c4 a5 n5 c5] w fun e w' => e = .returned (.bool (bare t n1 n2 n3 n4 n5)) /\ Below w.heap.size w w' := by
 have b0 : Below w.heap.size w (w.alloc (.cells #[.int .i64 k, .string t, .slice a1 n1 c1, .slice a2 n2 c2, .slice a3 n3 c3, .slice a4 n4 c4, .slice a5 n5 c5] 45)) := (Below.refl _ w).alloc (Nat.le_refl _) _
 unfold bare
 have hne := ne t
 suffices H : ∀ (x0 x1 x2 x3 x4 x5 : Bool), t.toList.isEmpty = x0 -> ((n1 : Int) == 0) = x1 -> ((n2 : Int) == 0) = x2 -> ((n3 : Int) == 0) = x3 -> ((n4 : Int) == 0) = x4 -> ((n5 : Int) == 0) = x5 -> Calls prog 148 #[cv k t a1 n1 c1 a2 n2 c2 a3 n3 c3 a4 n4 c4 a5 n5 c5] w fun e w' => e = .returned (.bool (x0 && (x1 && (x2 && (x3 && (x4 && x5)))))) /\ Below w.heap.size w w' by
  have := H _ _ _ _ _ _ rfl rfl rfl rfl rfl rfl
  rw [hne] at this
  exact this
 clear hne
 intro x0 x1 x2 x3 x4 x5 h0 h1 h2 h3 h4 h5
 cases x0 with
 | false => (go_enter func148, ntmps148; go_wp2_with fail; go_ret; exact ⟨ret_bool rfl, b0⟩)
 | true => cases x1 with
  | false => (go_enter func148, ntmps148; go_wp2_with fail; go_ret; exact ⟨ret_bool rfl, b0⟩)
  | true => cases x2 with
   | false => (go_enter func148, ntmps148; go_wp2_with fail; go_ret; exact ⟨ret_bool rfl, b0⟩)
   | true => cases x3 with
    | false => (go_enter func148, ntmps148; go_wp2_with fail; go_ret; exact ⟨ret_bool rfl, b0⟩)
    | true => cases x4 with
     | false => (go_enter func148, ntmps148; go_wp2_with fail; go_ret; exact ⟨ret_bool rfl, b0⟩)
     | true => (go_enter func148, ntmps148; go_wp2_with fail; go_ret; exact ⟨ret_bool rfl, b0⟩)
def deep (s e l : Int) : Bool := decide (64 < s) || (decide (63 < e) || decide (8 < l))
theorem deep_c (s e l : Int) (w : World) : Calls prog 72 #[av s e l] w fun x w' => x = .returned (.bool (deep s e l)) /\ Below w.heap.size w w' := by
 have b0 : Below w.heap.size w (w.alloc (.cells #[.int .i64 s, .int .i64 e, .int .i64 l] 75)) := (Below.refl _ w).alloc (Nat.le_refl _) _
 unfold deep
 suffices H : ∀ (x0 x1 x2 : Bool), decide (64 < s) = x0 -> decide (63 < e) = x1 -> decide (8 < l) = x2 -> Calls prog 72 #[av s e l] w fun x w' => x = .returned (.bool (x0 || (x1 || x2))) /\ Below w.heap.size w w' from H _ _ _ rfl rfl rfl
 intro x0 x1 x2 h0 h1 h2
 cases x0
 all_goals try cases x1
 all_goals
  go_enter func72, ntmps72
  go_wp2_with fail
  go_ret
  exact ⟨ret_bool rfl, b0⟩
theorem heap_setCell_same (w : World) (B j : Nat) (cs : Array Value) (t : TypeId) (v : Value) (h : w.heap[B]? = some (.cells cs t (0, 0))) : (w.setCell ⟨B, j, none⟩ v).heap[B]? = some (.cells (cs.setIfInBounds j v) t (0, 0)) := by
 simp [World.setCell, Array.getElem?_modify, h]
theorem three_new (w : World) (c0 c1 c2 : Array Value) (t0 t1 t2 : TypeId) : ∃ W, ((w.alloc (.cells c0 t0)).alloc (.cells c1 t1)).alloc (.cells c2 t2) = W /\ Below w.heap.size w W /\ W.heap.size = w.heap.size + 3 /\ W.heap[w.heap.size]? = some (.cells c0 t0 (0, 0)) /\ W.heap[w.heap.size + 1]? = some (.cells c1 t1 (0, 0)) /\ W.heap[w.heap.size + 1 + 1]? = some (.cells c2 t2 (0, 0)) := by
 refine ⟨_, rfl, (((Below.refl _ w).alloc (Nat.le_refl _) _).alloc (by simp) _).alloc (by simp; omega) _, by simp, ?_, ?_, ?_⟩
 ·rw [Below.heap_alloc _ _ _ (by simp; omega), Below.heap_alloc _ _ _ (by simp)]; exact heap_alloc_new w _
 ·have := heap_alloc_new (w.alloc (.cells c0 t0)) (.cells c1 t1)
  rw [World.size_alloc] at this
  rw [Below.heap_alloc _ _ _ (by simp)]
  exact this
 ·have := heap_alloc_new ((w.alloc (.cells c0 t0)).alloc (.cells c1 t1)) (.cells c2 t2)
  rw [World.size_alloc, World.size_alloc] at this
  exact this
theorem three_box {w : World} {B : Nat} {v0 v1 v2 : Value} {t : TypeId} (h : w.heap[B]? = some (.cells #[v0, v1, v2] t (0, 0))) :
  w.cell? ⟨B, 0, none⟩ = some v0 /\ w.cell? ⟨B, 1, none⟩ = some v1 /\ w.cell? ⟨B, 2, none⟩ = some v2 := by
 refine ⟨?_, ?_, ?_⟩ <;> simp [World.cell?, h]
theorem set3 {w : World} {B : Nat} {u0 u1 u2 : Value} (v0 v1 v2 : Value) {t : TypeId} (h : w.heap[B]? = some (.cells #[u0, u1, u2] t (0, 0))) {W : World} (hW : ((w.setCell ⟨B, 0, none⟩ v0).setCell ⟨B, 1, none⟩ v1).setCell ⟨B, 2, none⟩ v2 = W) :
  W.heap[B]? = some (.cells #[v0, v1, v2] t (0, 0)) /\ (∀ n X, n <= B -> Below n X w -> Below n X W) /\ (∀ b, b ≠ B -> W.heap[b]? = w.heap[b]?) := by
 subst hW
 refine ⟨?_, fun n X hn hX => ?_, fun b hb => ?_⟩
 ·exact heap_setCell_same _ _ _ _ _ _ (heap_setCell_same _ _ _ _ _ _ (heap_setCell_same _ _ _ _ _ _ h))
 ·exact ((hX.setCell (p := ⟨B, 0, none⟩) hn _).setCell (p := ⟨B, 1, none⟩) hn _).setCell (p := ⟨B, 2, none⟩) hn _
 ·rw [Below.heap_setCell _ _ _ _ hb, Below.heap_setCell _ _ _ _ hb, Below.heap_setCell _ _ _ _ hb]
end Go.Proofs.YtiijfmdfccdagaaGreatDoor.KAr
namespace Go.Proofs.YtiijfmdfccdagaaGreatDoor.KEx
open Go.RowKit Go.Shelf Base EPure KBase
open XBase (four_box)
attribute [local go_sem] Oper.semAt_some
def ex1 (l : List Fld) : List Ex := (l.filter Fld.b).map Fld.e
def ex2 (l : List Pt) : List Ex := (l.filter Pt.b).map Pt.e
def xsC (c : Co) : List Ex := ex1 c.f ++ (ex2 c.p ++ c.x)
theorem ex1_yes (l : List Fld) (q : Nat) (h : q < l.length) (hb : l[q].b = true) : ex1 (l.take (q + 1)) = ex1 (l.take q) ++ [l[q].e] := by
 unfold ex1
 rw [List.take_add_one, List.getElem?_eq_getElem h, List.filter_append, List.map_append]
 simp only [Option.toList_some, List.filter_cons, hb, List.filter_nil, if_true, List.map_cons, List.map_nil]
theorem ex1_no (l : List Fld) (q : Nat) (h : q < l.length) (hb : l[q].b = false) : ex1 (l.take (q + 1)) = ex1 (l.take q) := by
 unfold ex1
 rw [List.take_add_one, List.getElem?_eq_getElem h, List.filter_append, List.map_append]
 simp only [Option.toList_some, List.filter_cons, hb, List.filter_nil, List.map_nil, Bool.false_eq_true, if_false, List.append_nil]
theorem ex2_yes (l : List Pt) (q : Nat) (h : q < l.length) (hb : l[q].b = true) : ex2 (l.take (q + 1)) = ex2 (l.take q) ++ [l[q].e] := by
 unfold ex2
 rw [List.take_add_one, List.getElem?_eq_getElem h, List.filter_append, List.map_append]
 simp only [Option.toList_some, List.filter_cons, hb, List.filter_nil, if_true, List.map_cons, List.map_nil]
theorem ex2_no (l : List Pt) (q : Nat) (h : q < l.length) (hb : l[q].b = false) : ex2 (l.take (q + 1)) = ex2 (l.take q) := by
 unfold ex2
 rw [List.take_add_one, List.getElem?_eq_getElem h, List.filter_append, List.map_append]
 simp only [Option.toList_some, List.filter_cons, hb, List.filter_nil, List.map_nil, Bool.false_eq_true, if_false, List.append_nil]
theorem ex1_pre (l : List Fld) (q : Nat) : ex1 (l.take q) <+: ex1 l := by
 refine ⟨ex1 (l.drop q), ?_⟩
 unfold ex1
 rw [<- List.map_append, <- List.filter_append, List.take_append_drop]
theorem ex2_pre (l : List Pt) (q : Nat) : ex2 (l.take q) <+: ex2 l := by
 refine ⟨ex2 (l.drop q), ?_⟩
 unfold ex2
 rw [<- List.map_append, <- List.filter_append, List.take_append_drop]
theorem room_none (k : Nat) : Fence.wide.room k := fun d h => by cases h
theorem round_any {m m' : Nat} {P : Program} {l : Nat} {f : FuncId} {tmps : Array Value} {assign body : Code} {w : World} {R : Ending -> World -> Prop}
  (h : RoundIn Fence.wide m P l f tmps assign body w R) : RoundIn Fence.wide m' P l f tmps assign body w R := ⟨h.1, fun c cs _ => h.2 c cs (room_none _)⟩
theorem yield_any {m : Nat} (m' : Nat) {P : Program} {l : Nat} {args : Array Value} {W : World} {R : Ending -> World -> Prop} (h : YieldAt Fence.wide m P l args W R) : YieldAt Fence.wide m' P l args W R := by
 obtain ⟨fn, tmps, assign, body, hy, hR⟩ := h
 exact ⟨fn, tmps, assign, body, hy, round_any hR⟩
def Al (w0 : World) : Type := { x : Value × Ex // ∃ m, XBase.In false (fun _ => True) w0 m x.1 x.2 }
def pr {w0 : World} (x : Al w0) : Ex := x.1.2
def enc {w0 : World} (x : Al w0) : Array Value := #[x.1.1]
def Kx (n0 n1 B : Nat) (W W' : World) : Prop := (Below n0 W W' /\ ∀ b c t fz, n1 <= b -> W.heap[b]? = some (.cells c t fz) -> W'.heap[b]? = some (.cells c t fz)) /\ W'.heap[B]? = W.heap[B]?
theorem Kx.trans {n0 n1 B : Nat} {A C D : World} (h : Kx n0 n1 B A C) (k : Kx n0 n1 B C D) : Kx n0 n1 B A D := ⟨⟨h.1.1.trans k.1.1, fun b c t fz hb hc => k.1.2 b c t fz hb (h.1.2 b c t fz hb hc)⟩, k.2.trans h.2⟩
theorem Kx.refl (n0 n1 B : Nat) (A : World) : Kx n0 n1 B A A := ⟨⟨Below.refl _ _, fun _ _ _ _ _ h => h⟩, rfl⟩
theorem Kx.of_below {n0 n1 B : Nat} {A C : World} (h : Below A.heap.size A C) (hn : n0 <= A.heap.size) (hB : B < A.heap.size) : Kx n0 n1 B A C :=
 ⟨⟨h.mono hn, fun b c t fz _ hc => (h.block b (Array.getElem?_eq_some_iff.1 hc).1).trans hc⟩, h.block B hB⟩
theorem Kx.book {n0 n1 B : Nat} {w : World} (hn : n0 <= w.heap.size) (hB : B < w.heap.size) (W : World) (l : Nat) (o o' : Obj) (hl : w.heap.size <= l) (h : W.heap[l]? = some o) (ho : o.isCells = false) (hw : o.isWalk = false) : Kx n0 n1 B W (W.putObj l o') := by
 refine ⟨⟨belowK_b hn W l o o' hl h ho hw, fun b c t fz _ hc => ?_⟩, World.putObj_heap_other (by omega)⟩
 by_cases e : b = l
 ·subst e
  rw [h] at hc
  cases hc
  cases ho
 ·rw [World.putObj_heap_other (fun h => e h)]
  exact hc
theorem Kx.set {n0 n1 B : Nat} (W : World) (b : Nat) (u : Value) (h0 : n0 <= b) (h1 : b < n1) (hB : B ≠ b) : Kx n0 n1 B W (W.setCell ⟨b, 0, none⟩ u) :=
 ⟨⟨(Below.refl _ W).setCell (p := ⟨b, 0, none⟩) h0 u, fun b' c t fz hb hc => by rw [Below.heap_setCell _ _ _ _ (by simp; omega)]; exact hc⟩, Below.heap_setCell _ _ _ _ hB⟩
theorem exprs_in (n : Nat) (v0 v1 v2 v3 v4 v5 v6 : Value) (w : World) :
  CallsIn Fence.wide n prog 104 #[.agg #[v0, v1, v2, v3, v4, v5, v6]] w fun e w' => e = .returned (.func (.func 146) #[] #[.pointer (some ⟨w.heap.size, 0, none⟩)]) /\ w' = w.alloc (.cells #[v0, v1, v2, v3, v4, v5, v6] 45) := by
 refine callsIn_of_wp func104 rfl trivial ?_ rfl
 simp only [ntmps104, List.size_toArray, List.length_cons, List.length_nil, Nat.reduceAdd, Nat.reduceSub, Array.replicate_succ, Array.replicate_zero, List.push_toArray, List.append_toArray, List.nil_append, List.cons_append]
 gi_wp2
 go_ret
 exact ⟨rfl, rfl⟩
theorem exprs_stops (n B : Nat) (w0 wl : World) {m : Nat} {v0 v1 v2 v3 v4 v5 v6 : Value} {c : Co} (hin : In false (fun _ => True) w0 m (.agg #[v0, v1, v2, v3, v4, v5, v6]) c) (hB : Below w0.heap.size w0 wl) (hx : wl.heap[B]? = some (.cells #[v0, v1, v2, v3, v4, v5, v6] 45 (0, 0))) :
  SeqStopsK Fence.wide n prog 146 #[.pointer (some ⟨B, 0, none⟩)] (enc (w0 := w0)) (Kx w0.heap.size wl.heap.size B) (fun ys => ys.map pr = xsC c) (fun pre => pre.map pr <+: xsC c) (xsC c).length wl := by
 intro l J Jx W hW hJ hJx hY0 h0
 have hdd : ∀ k : Nat, (Fence.wide.depth.isSome = true -> 1 <= k) := fun k h => by cases h
 have hlt := (Array.getElem?_eq_some_iff.1 hx).1
 have hJa : ∀ s W o, J s W -> J s (W.alloc o) := fun s W o h => hJ s W _ none h (World.grownBy_alloc W o none) (fun r e => by cases e)
 have hY := fun m pre x W hj hl => yield_any m (hY0 pre x W hj hl)
 obtain ⟨m', fv, pv, xv, lv, uv, rfl, he, -, -, hF, hP, ⟨mx, hX⟩, -, -⟩ := hin.shape
 simp only [Value.agg.injEq, Array.mk.injEq, List.cons.injEq, and_true] at he
 obtain ⟨rfl, rfl, rfl, rfl, rfl, rfl, rfl⟩ := he
 obtain ⟨a1, c1, rfl, hc1, hm1, hl1, -, hLF⟩ := hF
 obtain ⟨a2, c2, rfl, hc2, hm2, hl2, -, hLP⟩ := hP
 obtain ⟨a3, c3, rfl, hc3, hm3, hl3, -, hLX⟩ := hX
 have hBW := hB.trans (hW.mono hB.size)
 have hxW := (hW.block B hlt).trans hx
 obtain ⟨d0, d1, d2, d3, d4, d5, d6⟩ := seven_box hxW
 have hWl := hW.size
 have hw0 := hB.size
 have Hxs : Hid (xsC c = ex1 c.f ++ (ex2 c.p ++ c.x)) := rfl
 have HN : Hid ((xsC c).length = (ex1 c.f).length + ((ex2 c.p).length + c.x.length)) := by show _ = _; rw [Hxs.out]; simp
 have HxW := hid hxW
 have HLF := hid hLF
 have HLP := hid hLP
 have HLX := hid hLX
 have HBW := hid hBW
 obtain ⟨N, hN⟩ : ∃ N, (xsC c).length = N := ⟨_, rfl⟩
 have HN2 := hid (HN.out.symm.trans hN)
 rw [hN] at hY
 clear hin hJ hJx hY0 hxW hLF hLP hLX hBW HN hN hx
 show CallsIn Fence.wide n prog 146 #[.func (.yield l) #[] #[], .pointer (some ⟨B, 0, none⟩)] W _
 refine callsIn_of_wp func146 rfl trivial ?_ rfl
 simp only [ntmps146, List.size_toArray, List.length_cons, List.length_nil, Nat.reduceAdd, Nat.reduceSub, Array.replicate_succ, Array.replicate_zero, List.push_toArray, List.append_toArray, List.nil_append, List.cons_append]
 gi_wp2_with fail
 clear d0 d1 d2 d3 d4 d5 d6
 gi_loopw [12] (fun i' wr => ∃ (q : Nat) (xs : List (Al w0)), q <= c.f.length /\ i' = .int .i64 q /\ xs.map pr = ex1 (c.f.take q) /\ J xs wr /\ Kx w0.heap.size wl.heap.size B W wr) (fun i' _ => c.f.length - (intOf i').toNat)
 case atStart => exact ⟨0, [], by omega, rfl, rfl, h0, Kx.refl _ _ _ _⟩
 case round =>
  clear h0
  obtain ⟨q, xs, hq, rfl, hxs, hJs, hk⟩ := hrel
  have Hxs1 := hid hxs
  have hBr := HBW.out.trans hk.1.1
  have hwr := hBr.size
  have hwl := Nat.le_trans hWl hk.1.1.size
  clear hxs
  by_cases hlt' : q < c.f.length
  ·have d0 : decide ((q : Int) < (c.f.length : Int)) = true := by simp; omega
   obtain ⟨g, o, u, ha, -, hu, hi⟩ := RwAt.elem HLF.out hlt'
   subst ha
   obtain ⟨t0, t1, t2, e0, e1, e2, e3, t7, rfl, k0, k1, k2, k3, k4, k5, k6, k7⟩ := hu
   obtain ⟨ea, ec, rfl, rfl, rfl, rfl, rfl, rfl, rfl, rfl, -, -, -, -⟩ := hi.eight
   obtain ⟨-, -, -, -, -, -, -, me, hie⟩ := hi.kinds
   have k0 := below_cell k0 hBr
   have k1 := below_cell k1 hBr
   have k2 := below_cell k2 hBr
   have k3 := below_cell k3 hBr
   have k4 := below_cell k4 hBr
   have k5 := below_cell k5 hBr
   have k6 := below_cell k6 hBr
   have k7 := below_cell k7 hBr
   obtain ⟨y, hy⟩ : ∃ y, c.f[q] = y := ⟨_, rfl⟩
   have Hy := hid hy
   rw [hy] at k0 k1 k2 k3 k4 k5 k6 k7 hie
   obtain ⟨W1, hW1⟩ : ∃ W1, wr.alloc (.cells #[.string y.n, .string y.p, .bool y.b, .int .i64 y.e.o, .int .i64 y.e.i, .string y.e.s, .slice ea y.e.l.length ec, .int .i64 y.a] 59) = W1 := ⟨_, rfl⟩
   have b1 := alB hW1
   have q1 := alG hW1
   have hJ1 : J xs W1 := by rw [<- hW1]; exact hJa _ _ _ hJs
   have hk1 : Kx w0.heap.size wl.heap.size B W W1 := hk.trans (Kx.of_below b1 hwr (by omega))
   obtain ⟨z0, z1, z2, z3, z4, z5, z6, z7⟩ := eight_box q1
   have hcc := hc1
   clear b1 q1 hy hk hJs
   obtain ⟨b, hb⟩ : ∃ b, y.b = b := ⟨_, rfl⟩
   rw [hb] at z2 k2 hW1
   have Hb := hid hb
   clear hb
   cases b with
   | true =>
    obtain ⟨x0, hx0⟩ : ∃ x0 : Al w0, x0 = ⟨(.agg #[.int .i64 y.e.o, .int .i64 y.e.i, .string y.e.s, .slice ea y.e.l.length ec], y.e), me, hie⟩ := ⟨_, rfl⟩
    have Hpr : Hid (pr x0 = y.e) := by show _ = _; rw [hx0]; rfl
    have henc : enc x0 = #[.agg #[.int .i64 y.e.o, .int .i64 y.e.i, .string y.e.s, .slice ea y.e.l.length ec]] := by rw [hx0]; rfl
    have Hst : Hid (ex1 (c.f.take (q + 1)) = ex1 (c.f.take q) ++ [y.e]) := by show _ = _; rw [ex1_yes c.f q hlt' (by rw [Hy.out]; exact Hb.out), Hy.out]
    have Hall : Hid ((xs ++ [x0]).map pr = ex1 (c.f.take (q + 1))) := by show _ = _; rw [List.map_append, Hxs1.out, List.map_cons, List.map_nil, Hpr.out, Hst.out]
    have Hpre : Hid ((xs ++ [x0]).map pr <+: xsC c) := by
     show _ <+: _
     rw [Hall.out, Hxs.out]
     exact (ex1_pre c.f (q + 1)).trans ⟨_, rfl⟩
    have hlen2 : xs.length < N := by
     have e1 := Hpre.out.length_le
     rw [List.length_map, List.length_append] at e1
     have e2 := HN2.out
     have e3 : (xsC c).length = (ex1 c.f).length + ((ex2 c.p).length + c.x.length) := by rw [Hxs.out]; simp
     simp only [List.length_cons, List.length_nil] at e1
     omega
    obtain ⟨fn, tmps, assign, body, hyd, hR⟩ := hY (n - 1) xs x0 W1 hJ1 hlen2
    rw [henc] at hyd
    clear hx0 henc hie
    gi_wp2_with fail
    refine ⟨hdd _, ?_⟩
    refine hR.mono ?_
    clear hR hyd
    rintro e W2 (⟨rfl, hJ2, hk2⟩ | ⟨rfl, hx2⟩)
    ·have hkk := hk1.trans hk2
     clear hk1 hk2 hJ1 k0 k1 k2 k3 k4 k5 k6 k7 z0 z1 z2 z3 z4 z5 z6 z7 hW1
     gi_wp2_with fail
     go_roundw
     case rel => exact ⟨q + 1, xs ++ [x0], by omega, by go_num, Hall.out, hJ2, hkk⟩
     case measure => simp only [intOf]; omega
    ·clear hk1 hJ1 k0 k1 k2 k3 k4 k5 k6 k7 z0 z1 z2 z3 z4 z5 z6 z7 hW1
     gi_wp2_with fail
     refine bodyPost_ret (results_none rfl _ _ _) rfl ?_
     exact ⟨⟨_, rfl⟩, .inr ⟨xs ++ [x0], Hpre.out, hx2⟩⟩
   | false =>
    have Hst : Hid (ex1 (c.f.take (q + 1)) = ex1 (c.f.take q)) := ex1_no c.f q hlt' (by rw [Hy.out]; exact Hb.out)
    have Hall : Hid (xs.map pr = ex1 (c.f.take (q + 1))) := by show _ = _; rw [Hxs1.out, Hst.out]
    clear hie
    gi_wp2_with fail
    refine ⟨fun f h => (by cases h), ?_⟩
    gi_wp2_with fail
    go_roundw
    case rel => exact ⟨q + 1, xs, by omega, by go_num, Hall.out, hJ1, hk1⟩
    case measure => simp only [intOf]; omega
  ·have dn1 : decide ((q : Int) < (c.f.length : Int)) = false := by simp; omega
   have dm1 : decide (q < c.f.length) = false := by simp; omega
   obtain ⟨d0', d1', d2', d3', d4', d5', d6'⟩ := seven_box (hk.2.trans HxW.out)
   gi_wp2_with fail
   clear d0' d1' d2' d3' d4' d5' d6'
   obtain ⟨Wa, hWa⟩ : ∃ Wa, Wa = wr := ⟨_, rfl⟩
   subst hWa
   gi_loopw [29] (fun i' wr => ∃ (q : Nat) (xs : List (Al w0)), q <= c.p.length /\ i' = .int .i64 q /\ xs.map pr = ex1 c.f ++ ex2 (c.p.take q) /\ J xs wr /\ Kx w0.heap.size wl.heap.size B W wr) (fun i' _ => c.p.length - (intOf i').toNat)
   case atStart => exact ⟨0, xs, by omega, rfl, by rw [Hxs1.out, List.take_of_length_le (by omega)]; simp [ex2], hJs, hk⟩
   case round =>
    clear hJs hk Hxs1 hBr hwr hwl
    obtain ⟨q, xs, hq, rfl, hxs, hJs, hk⟩ := hrel
    have Hxs1 := hid hxs
    have hBr := HBW.out.trans hk.1.1
    have hwr := hBr.size
    have hwl := Nat.le_trans hWl hk.1.1.size
    clear hxs
    by_cases hlt' : q < c.p.length
    ·have d0 : decide ((q : Int) < (c.p.length : Int)) = true := by simp; omega
     obtain ⟨g, o, u, ha, -, hu, hi⟩ := RwAt.elem HLP.out hlt'
     subst ha
     obtain ⟨t0, t1, e0, e1, e2, e3, rfl, k0, k1, k2, k3, k4, k5⟩ := hu
     obtain ⟨ea, ec, rfl, rfl, rfl, rfl, rfl, rfl, -, -⟩ := hi.six
     obtain ⟨-, -, -, me, hie⟩ := hi.kinds
     have k0 := below_cell k0 hBr
     have k1 := below_cell k1 hBr
     have k2 := below_cell k2 hBr
     have k3 := below_cell k3 hBr
     have k4 := below_cell k4 hBr
     have k5 := below_cell k5 hBr
     obtain ⟨y, hy⟩ : ∃ y, c.p[q] = y := ⟨_, rfl⟩
     have Hy := hid hy
     rw [hy] at k0 k1 k2 k3 k4 k5 hie
     obtain ⟨W1, hW1⟩ : ∃ W1, wr.alloc (.cells #[.string y.p, .bool y.b, .int .i64 y.e.o, .int .i64 y.e.i, .string y.e.s, .slice ea y.e.l.length ec] 89) = W1 := ⟨_, rfl⟩
     have b1 := alB hW1
     have q1 := alG hW1
     have hJ1 : J xs W1 := by rw [<- hW1]; exact hJa _ _ _ hJs
     have hk1 : Kx w0.heap.size wl.heap.size B W W1 := hk.trans (Kx.of_below b1 hwr (by omega))
     obtain ⟨z0, z1, z2, z3, z4, z5⟩ := six_box q1
     have hcc := hc2
     clear b1 q1 hy hk hJs
     obtain ⟨b, hb⟩ : ∃ b, y.b = b := ⟨_, rfl⟩
     rw [hb] at z1 k1 hW1
     have Hb := hid hb
     clear hb
     cases b with
     | true =>
      obtain ⟨x0, hx0⟩ : ∃ x0 : Al w0, x0 = ⟨(.agg #[.int .i64 y.e.o, .int .i64 y.e.i, .string y.e.s, .slice ea y.e.l.length ec], y.e), me, hie⟩ := ⟨_, rfl⟩
      have Hpr : Hid (pr x0 = y.e) := by show _ = _; rw [hx0]; rfl
      have henc : enc x0 = #[.agg #[.int .i64 y.e.o, .int .i64 y.e.i, .string y.e.s, .slice ea y.e.l.length ec]] := by rw [hx0]; rfl
      have Hst : Hid (ex2 (c.p.take (q + 1)) = ex2 (c.p.take q) ++ [y.e]) := by show _ = _; rw [ex2_yes c.p q hlt' (by rw [Hy.out]; exact Hb.out), Hy.out]
      have Hall : Hid ((xs ++ [x0]).map pr = ex1 c.f ++ ex2 (c.p.take (q + 1))) := by show _ = _; rw [List.map_append, Hxs1.out, List.map_cons, List.map_nil, Hpr.out, Hst.out]; simp
      have Hpre : Hid ((xs ++ [x0]).map pr <+: xsC c) := by
       show _ <+: _
       rw [Hall.out, Hxs.out]
       exact (List.prefix_append_right_inj _).2 ((ex2_pre c.p (q + 1)).trans ⟨_, rfl⟩)
      have hlen2 : xs.length < N := by
       have e1 := Hpre.out.length_le
       rw [List.length_map, List.length_append] at e1
       have e2 := HN2.out
       have e3 : (xsC c).length = (ex1 c.f).length + ((ex2 c.p).length + c.x.length) := by rw [Hxs.out]; simp
       simp only [List.length_cons, List.length_nil] at e1
       omega
      obtain ⟨fn, tmps, assign, body, hyd, hR⟩ := hY (n - 1) xs x0 W1 hJ1 hlen2
      rw [henc] at hyd
      clear hx0 henc hie
      gi_wp2_with fail
      refine ⟨hdd _, ?_⟩
      refine hR.mono ?_
      clear hR hyd
      rintro e W2 (⟨rfl, hJ2, hk2⟩ | ⟨rfl, hx2⟩)
      ·have hkk := hk1.trans hk2
       clear hk1 hk2 hJ1 k0 k1 k2 k3 k4 k5 z0 z1 z2 z3 z4 z5 hW1
       gi_wp2_with fail
       go_roundw
       case rel => exact ⟨q + 1, xs ++ [x0], by omega, by go_num, Hall.out, hJ2, hkk⟩
       case measure => simp only [intOf]; omega
      ·clear hk1 hJ1 k0 k1 k2 k3 k4 k5 z0 z1 z2 z3 z4 z5 hW1
       gi_wp2_with fail
       refine bodyPost_ret (results_none rfl _ _ _) rfl ?_
       exact ⟨⟨_, rfl⟩, .inr ⟨xs ++ [x0], Hpre.out, hx2⟩⟩
     | false =>
      have Hst : Hid (ex2 (c.p.take (q + 1)) = ex2 (c.p.take q)) := ex2_no c.p q hlt' (by rw [Hy.out]; exact Hb.out)
      have Hall : Hid (xs.map pr = ex1 c.f ++ ex2 (c.p.take (q + 1))) := by show _ = _; rw [Hxs1.out, Hst.out]
      clear hie
      gi_wp2_with fail
      refine ⟨fun f h => (by cases h), ?_⟩
      gi_wp2_with fail
      go_roundw
      case rel => exact ⟨q + 1, xs, by omega, by go_num, Hall.out, hJ1, hk1⟩
      case measure => simp only [intOf]; omega
    ·have dn2 : decide ((q : Int) < (c.p.length : Int)) = false := by simp; omega
     have dm2 : decide (q < c.p.length) = false := by simp; omega
     obtain ⟨d0', d1', d2', d3', d4', d5', d6'⟩ := seven_box (hk.2.trans HxW.out)
     gi_wp2_with fail
     clear d0' d1' d2' d3' d4' d5' d6'
     obtain ⟨Wa, hWa⟩ : ∃ Wa, Wa = wr := ⟨_, rfl⟩
     subst hWa
     gi_loopw [46] (fun i' wr => ∃ (q : Nat) (xs : List (Al w0)), q <= c.x.length /\ i' = .int .i64 q /\ xs.map pr = ex1 c.f ++ (ex2 c.p ++ c.x.take q) /\ J xs wr /\ Kx w0.heap.size wl.heap.size B W wr) (fun i' _ => c.x.length - (intOf i').toNat)
     case atStart => exact ⟨0, xs, by omega, rfl, by rw [Hxs1.out, List.take_of_length_le (by omega)]; simp, hJs, hk⟩
     case round =>
      clear hJs hk Hxs1 hBr hwr hwl
      obtain ⟨q, xs, hq, rfl, hxs, hJs, hk⟩ := hrel
      have Hxs1 := hid hxs
      have hBr := HBW.out.trans hk.1.1
      have hwr := hBr.size
      have hwl := Nat.le_trans hWl hk.1.1.size
      clear hxs
      by_cases hlt' : q < c.x.length
      ·have d0 : decide ((q : Int) < (c.x.length : Int)) = true := by simp; omega
       obtain ⟨g, o, u, ha, -, hu, hie⟩ := XBase.elem_at HLX.out hlt'
       subst ha
       obtain ⟨e0, e1, e2, e3, rfl, k0, k1, k2, k3⟩ := hu
       obtain ⟨me', ea, ec, -, rfl, rfl, rfl, rfl, -, -, -, -⟩ := hie.kinds
       have k0 := below_cell k0 hBr
       have k1 := below_cell k1 hBr
       have k2 := below_cell k2 hBr
       have k3 := below_cell k3 hBr
       obtain ⟨y, hy⟩ : ∃ y, c.x[q] = y := ⟨_, rfl⟩
       have Hy := hid hy
       rw [hy] at k0 k1 k2 k3 hie
       obtain ⟨W1, hW1⟩ : ∃ W1, wr.alloc (.cells #[.int .i64 y.o, .int .i64 y.i, .string y.s, .slice ea y.l.length ec] 47) = W1 := ⟨_, rfl⟩
       have b1 := alB hW1
       have q1 := alG hW1
       have hJ1 : J xs W1 := by rw [<- hW1]; exact hJa _ _ _ hJs
       have hk1 : Kx w0.heap.size wl.heap.size B W W1 := hk.trans (Kx.of_below b1 hwr (by omega))
       obtain ⟨z0, z1, z2, z3⟩ := four_box q1
       have hcc := hc3
       clear b1 q1 hy hk hJs
       obtain ⟨x0, hx0⟩ : ∃ x0 : Al w0, x0 = ⟨(.agg #[.int .i64 y.o, .int .i64 y.i, .string y.s, .slice ea y.l.length ec], y), _, hie⟩ := ⟨_, rfl⟩
       have Hpr : Hid (pr x0 = y) := by show _ = _; rw [hx0]; rfl
       have henc : enc x0 = #[.agg #[.int .i64 y.o, .int .i64 y.i, .string y.s, .slice ea y.l.length ec]] := by rw [hx0]; rfl
       have Hst : Hid (c.x.take (q + 1) = c.x.take q ++ [y]) := by show _ = _; rw [List.take_add_one, List.getElem?_eq_getElem hlt', Hy.out]; rfl
       have Hall : Hid ((xs ++ [x0]).map pr = ex1 c.f ++ (ex2 c.p ++ c.x.take (q + 1))) := by show _ = _; rw [List.map_append, Hxs1.out, List.map_cons, List.map_nil, Hpr.out, Hst.out]; simp
       have Hpre : Hid ((xs ++ [x0]).map pr <+: xsC c) := by
        show _ <+: _
        rw [Hall.out, Hxs.out]
        exact (List.prefix_append_right_inj _).2 ((List.prefix_append_right_inj _).2 (List.take_prefix _ _))
       have hlen2 : xs.length < N := by
        have e1 := Hpre.out.length_le
        rw [List.length_map, List.length_append] at e1
        have e2 := HN2.out
        have e3 : (xsC c).length = (ex1 c.f).length + ((ex2 c.p).length + c.x.length) := by rw [Hxs.out]; simp
        simp only [List.length_cons, List.length_nil] at e1
        omega
       obtain ⟨fn, tmps, assign, body, hyd, hR⟩ := hY (n - 1) xs x0 W1 hJ1 hlen2
       rw [henc] at hyd
       clear hx0 henc hie
       gi_wp2_with fail
       refine ⟨hdd _, ?_⟩
       refine hR.mono ?_
       clear hR hyd
       rintro e W2 (⟨rfl, hJ2, hk2⟩ | ⟨rfl, hx2⟩)
       ·have hkk := hk1.trans hk2
        clear hk1 hk2 hJ1 k0 k1 k2 k3 z0 z1 z2 z3 hW1
        gi_wp2_with fail
        go_roundw
        case rel => exact ⟨q + 1, xs ++ [x0], by omega, by go_num, Hall.out, hJ2, hkk⟩
        case measure => simp only [intOf]; omega
       ·clear hk1 hJ1 k0 k1 k2 k3 z0 z1 z2 z3 hW1
        gi_wp2_with fail
        refine bodyPost_ret (results_none rfl _ _ _) rfl ?_
        exact ⟨⟨_, rfl⟩, .inr ⟨xs ++ [x0], Hpre.out, hx2⟩⟩
      ·have dn3 : decide ((q : Int) < (c.x.length : Int)) = false := by simp; omega
       have dm3 : decide (q < c.x.length) = false := by simp; omega
       have Hall : Hid (xs.map pr = xsC c) := by show _ = _; rw [Hxs1.out, Hxs.out, List.take_of_length_le (by omega)]
       gi_wp2_with fail
       go_end0
       exact ⟨⟨_, rfl⟩, .inl ⟨xs, Hall.out, hJs⟩⟩
end Go.Proofs.YtiijfmdfccdagaaGreatDoor.KEx
