import Derived.Deep.RegionHeld3
import Derived.Laws.Cover1
import Derived.Test.YthonejomogkjjaaGreatDoorPA26
set_option linter.unusedVariables false
set_option maxRecDepth 20000
set_option maxHeartbeats 3200000
namespace Go.Proofs.YthonejomogkjjaaGreatDoor.KFd
open Go.RowKit Base EPure KBase KSh
open SFit (ne ret_bool)
theorem drewN_below {n : Nat} {w w' : World} (h : Below n w w') (k : Nat) : Below n w (w'.drewN k) := h.trans ⟨rfl, rfl, rfl, by simp, fun _ _ => by simp⟩
def nlt (z : Option ByteArray) (n : ByteArray) : Bool := match z with
 | none => true
 | some p => Op.bytesLess p.toList n.toList
def fl1 : Option ByteArray → List Fld → Bool
 | _, [] => true
 | z, c :: t => (UBase.word c.n 45 && (nlt z c.n && ((c.a == 0) && vOk ⟨c.p, c.b, c.e⟩))) && fl1 (some c.n) t
def fvP (l : List Fld) : Nat → Option ByteArray
 | 0 => none
 | q + 1 => (l[q]?).map Fld.n
theorem fvP_succ (l : List Fld) (q : Nat) (h : q < l.length) : fvP l (q + 1) = some l[q].n := by
 simp only [fvP, List.getElem?_eq_getElem h, Option.map_some]
theorem eight_new {w : World} (v0 v1 v2 v3 v4 v5 v6 v7 : Value) (t : TypeId) : ∃ W, w.alloc (.cells #[v0, v1, v2, v3, v4, v5, v6, v7] t) = W ∧ Below w.heap.size w W ∧ W.heap.size = w.heap.size + 1 ∧ W.heap[w.heap.size]? = some (.cells #[v0, v1, v2, v3, v4, v5, v6, v7] t (0, 0)) :=
 ⟨_, rfl, (Below.refl _ w).alloc (Nat.le_refl _) _, by simp, heap_alloc_new w _⟩
theorem le_lt : ∀ (x y : List UInt8), (Op.bytesLess x y || (x == y)) = !(Op.bytesLess y x)
 | [], [] => by simp [Op.bytesLess]
 | [], b :: y => by simp [Op.bytesLess]
 | a :: x, [] => by simp [Op.bytesLess]
 | a :: x, b :: y => by
  have ih := le_lt x y
  simp only [Op.bytesLess, List.cons_beq_cons]
  rcases Nat.lt_trichotomy a.toNat b.toNat with h | h | h
  ·have h1 : decide (a < b) = true := decide_eq_true (UInt8.lt_iff_toNat_lt.2 h)
   have h2 : decide (b < a) = false := decide_eq_false (fun k => by have := UInt8.lt_iff_toNat_lt.1 k; omega)
   have h3 : (b == a) = false := by
    rw [beq_eq_false_iff_ne]
    intro k; rw [k] at h; omega
   simp [h1, h2, h3]
  ·obtain rfl : a = b := UInt8.toNat_inj.1 h
   have h1 : decide (a < a) = false := decide_eq_false (fun k => by have := UInt8.lt_iff_toNat_lt.1 k; omega)
   simp only [h1, Bool.false_or, beq_self_eq_true, Bool.true_and]
   exact ih
  ·have h1 : decide (a < b) = false := decide_eq_false (fun k => by have := UInt8.lt_iff_toNat_lt.1 k; omega)
   have h2 : decide (b < a) = true := decide_eq_true (UInt8.lt_iff_toNat_lt.2 h)
   have h3 : (a == b) = false := by
    rw [beq_eq_false_iff_ne]
    intro k; rw [k] at h; omega
   simp [h1, h2, h3]
theorem fields_c {w : World} {v : Value} {l : List Fld} {S : Nat → Prop} {r : Bool} (hin : RF r S w v l) :
  Calls Tryz.prog 284 #[v] w fun e w' => e = .returned (.bool (fl1 none l)) ∧ Below w.heap.size w w' := by
 obtain ⟨a, cap, rfl, hlc, hcm, hlen, hnil, hL⟩ := hin
 have HL : Hid (RwAt 8 Fd8 rmF r S w (InF r S w) a cap l) := hL
 obtain ⟨T, hT⟩ : ∃ T, fl1 none l = T := ⟨_, rfl⟩
 have HT : Hid (fl1 (fvP l 0) (l.drop 0) = T) := hT
 rw [hT]
 clear hT hL
 go_enter Tryz.func284, Tryz.ntmps284
 go_wp2_with fail
 go_loopw [7] (fun i wr => ∃ q : Nat, q ≤ l.length ∧ i = .int .i64 q ∧ fl1 (fvP l q) (l.drop q) = T ∧ Below w.heap.size w wr) (fun i _ => l.length - (intOf i).toNat)
 case atStart => exact ⟨0, by omega, rfl, HT.out, Below.refl _ _⟩
 case round =>
  clear HT
  obtain ⟨q, hq, rfl, hM, hb⟩ := hrel
  have Hb : Hid (Below w.heap.size w wr) := hb
  by_cases hlt : q < l.length
  ·have d0 : decide ((q : Int) < (l.length : Int)) = true := by simp; omega
   obtain ⟨g, o, u, ha, hSg, hu, hi⟩ := HL.out.elem hlt
   subst ha
   have hi2 := hi.keep (Keep.of_below hb)
   obtain ⟨v0, v1, v2, e0, e1, e2, e3, v7, rfl, c0, c1, c2, c3, c4, c5, c6, c7⟩ := hu
   obtain ⟨ea, ec, rfl, rfl, rfl, rfl, rfl, rfl, rfl, rfl, hn, hp, -, hat⟩ := hi.eight
   have c0 := below_cell c0 hb
   have c1 := below_cell c1 hb
   have c2 := below_cell c2 hb
   have c3 := below_cell c3 hb
   have c4 := below_cell c4 hb
   have c5 := below_cell c5 hb
   have c6 := below_cell c6 hb
   have c7 := below_cell c7 hb
   have hdrop : l.drop q = l[q] :: l.drop (q + 1) := List.drop_eq_getElem_cons hlt
   have hnext := fvP_succ l q hlt
   rw [hdrop, fl1, ← hnext] at hM
   obtain ⟨y, hy⟩ : ∃ y, l[q] = y := ⟨_, rfl⟩
   rw [hy] at c0 c1 c2 c3 c4 c5 c6 c7 hn hp hat hi2 hM
   obtain ⟨n, p, b, x, at'⟩ := y
   dsimp only at c0 c1 c2 c3 c4 c5 c6 c7 hn hp hat hM
   obtain ⟨W0, hW0, b0, hs0, q0⟩ := eight_new (w := wr) (.string n) (.string p) (.bool b) (.int .i64 x.o) (.int .i64 x.i) (.string x.s) (.slice ea x.l.length ec) (.int .i64 at') 76
   obtain ⟨mm, f0, f1, f2, f3, hE, -, -, hxi, -⟩ := hi2
   simp only [Value.agg.injEq, Array.mk.injEq, List.cons.injEq, and_true, true_and] at hE
   obtain ⟨rfl, rfl, rfl, rfl⟩ := hE
   have HP : Hid (InP r S wr (.agg #[.string p, .bool b, .int .i64 x.o, .int .i64 x.i, .string x.s, .slice ea x.l.length ec]) ⟨p, b, x⟩) := ⟨mm, _, _, _, _, rfl, hp, hxi⟩
   have c67 := fun W => UWord.tag_c n (by omega) W
   obtain ⟨k0, k1, k2, k3, k4, k5, k6, k7⟩ := eight_box q0
   have HB0 : Hid (Below w.heap.size w W0) := nx hb b0
   have Hb0 : Hid (Below wr.heap.size wr W0) := b0
   have HQ0 : Hid (W0.heap[wr.heap.size]? = some (.cells #[.string n, .string p, .bool b, .int .i64 x.o, .int .i64 x.i, .string x.s, .slice ea x.l.length ec, .int .i64 at'] 76 (0, 0))) := q0
   clear hi hdrop hnext hb hy hxi q0 b0
   obtain ⟨Z, hZ⟩ : ∃ Z, fl1 (fvP l (q + 1)) (l.drop (q + 1)) = Z := ⟨_, rfl⟩
   have HZ : Hid (fl1 (fvP l (q + 1)) (l.drop (q + 1)) = Z) := hZ
   rw [hZ] at hM
   clear hZ
   have more : ∀ (nq : Nat), (at' == 0) = true → ((vOk ⟨p, b, x⟩ && Z) = T) → Calls Tryz.prog 301 #[.agg #[.string p, .bool b, .int .i64 x.o, .int .i64 x.i, .string x.s, .slice ea x.l.length ec]] (W0.drewN nq) fun e w' => e = .returned (.bool (vOk ⟨p, b, x⟩)) ∧ Below w.heap.size w w' := by
    intro nq _ _
    refine (value_c (HP.out.keep (Keep.of_below (drewN_below Hb0.out nq)))).mono ?_
    rintro e w' ⟨rfl, h⟩
    exact ⟨rfl, nx (drewN_below HB0.out nq) h⟩
   cases h1 : UBase.word n 45 with
   | false =>
    rw [h1] at hM c67
    have hT : false = T := by rw [← hM]; rfl
    subst hT
    clear hM more
    go_wp2_with fail
    try rw [hW0]
    clear hW0
    go_quiet (first | (go_at_call 283; exact Calls.quiet_of_same (c67 _)))
    go_wp2_with fail
    go_ret
    exact ⟨rfl, drewN_below HB0.out _⟩
   | true =>
    rw [h1] at hM c67
    rw [Bool.true_and] at hM
    cases q with
    | zero =>
     have e1 : nlt (fvP l 0) n = true := rfl
     rw [e1, Bool.true_and] at hM
     clear e1
     rw [Nat.zero_mul, Nat.add_zero] at c0 c1 c2 c3 c4 c5 c6 c7
     cases h3 : (at' == 0) with
     | false =>
      rw [h3] at hM
      have hT : false = T := by rw [← hM]; rfl
      subst hT
      have h3' : (at' != 0) = true := by rw [bne, h3]; rfl
      clear hM more
      go_wp2_with fail
      try rw [hW0]
      clear hW0
      go_quiet (first | (go_at_call 283; exact Calls.quiet_of_same (c67 _)))
      go_wp2_with fail
      go_ret
      exact ⟨rfl, drewN_below HB0.out _⟩
     | true =>
      rw [h3, Bool.true_and] at hM
      have h3' : (at' != 0) = false := by rw [bne, h3]; rfl
      have cV := fun nq => more nq h3 hM
      have HM : Hid ((vOk ⟨p, b, x⟩ && Z) = T) := hM
      clear hM more
      go_wp2_with fail
      try rw [hW0]
      clear hW0
      go_quiet (first | (go_at_call 283; exact Calls.quiet_of_same (c67 _)))
      go_wp2_with fail
      refine (cV _).mono ?_
      rintro e W1 ⟨rfl, b1⟩
      have HB1 : Hid (Below w.heap.size w W1) := b1
      have hM := HM.out
      clear b1 cV HM
      cases hv : vOk ⟨p, b, x⟩ with
      | true =>
       rw [hv, Bool.true_and] at hM
       have HM : Hid (fl1 (fvP l 1) (l.drop 1) = T) := HZ.out.trans hM
       clear hM hv
       go_wp2_with fail
       go_roundw
       case rel => exact ⟨1, by omega, by go_num, HM.out, HB1.out⟩
       case measure => simp only [intOf]; omega
      | false =>
       rw [hv, Bool.false_and] at hM
       subst hM
       clear hv
       go_wp2_with fail
       go_ret
       exact ⟨rfl, HB1.out⟩
    | succ j =>
     have hj : j < l.length := by omega
     obtain ⟨g', o', u', E, -, hu', hi'⟩ := HL.out.elem hj
     obtain ⟨rfl, rfl⟩ : g = g' ∧ o = o' := by cases E; exact ⟨rfl, rfl⟩
     obtain ⟨w0, w1, w2, e0', e1', e2', e3', w7, rfl, c0', -, -, -, -, -, -, -⟩ := hu'
     obtain ⟨ea', ec', rfl, rfl, rfl, rfl, rfl, rfl, rfl, rfl, hn', -⟩ := hi'.eight
     have c0' := below_cell (below_cell c0' Hb.out) Hb0.out
     rw [fvP_succ l j hj] at hM
     obtain ⟨pn, hpn⟩ : ∃ pn, l[j].n = pn := ⟨_, rfl⟩
     rw [hpn] at c0' hM hn'
     have e1 : nlt (some pn) n = Op.bytesLess pn.toList n.toList := rfl
     rw [e1] at hM
     have hj1 : ((j + 1 : Nat) : Int) - 1 = (j : Int) := by omega
     have hj2 : (0 : Int) ≤ (j : Int) := by omega
     have hj3 : (j : Int) < (l.length : Int) := by omega
     have hj4 : decide ((0 : Int) < ((j + 1 : Nat) : Int)) = true := decide_eq_true (by omega)
     have hj5 : IntKind.i64.wrap (((j + 1 : Nat) : Int) - 1) = (j : Int) := by rw [IntKind.wrap_i64]; omega
     have hj6 : IntKind.i64.wrap (j : Int) = (j : Int) := by rw [IntKind.wrap_i64]; omega
     have hle := le_lt n.toList pn.toList
     clear hi' E hpn e1
     cases h2 : Op.bytesLess pn.toList n.toList with
     | false =>
      rw [h2] at hM hle
      rw [Bool.not_false] at hle
      have hT : false = T := by rw [← hM]; rfl
      subst hT
      clear hM more h2
      cases hl1 : Op.bytesLess n.toList pn.toList with
      | true =>
       cases hl2 : (n.toList == pn.toList) with
       | true =>
        go_wp2_with fail
        try rw [hW0]
        clear hW0
        go_quiet (first | (go_at_call 283; exact Calls.quiet_of_same (c67 _)))
        go_wp2_with fail
        go_ret
        exact ⟨rfl, drewN_below HB0.out _⟩
       | false =>
        go_wp2_with fail
        try rw [hW0]
        clear hW0
        go_quiet (first | (go_at_call 283; exact Calls.quiet_of_same (c67 _)))
        go_wp2_with fail
        go_ret
        exact ⟨rfl, drewN_below HB0.out _⟩
      | false =>
       rw [hl1, Bool.false_or] at hle
       go_wp2_with fail
       try rw [hW0]
       clear hW0
       go_quiet (first | (go_at_call 283; exact Calls.quiet_of_same (c67 _)))
       go_wp2_with fail
       go_ret
       exact ⟨rfl, drewN_below HB0.out _⟩
     | true =>
      rw [h2, Bool.true_and] at hM
      rw [h2, Bool.not_true, Bool.or_eq_false_iff] at hle
      obtain ⟨hl1, hl2⟩ := hle
      clear h2
      cases h3 : (at' == 0) with
      | false =>
       rw [h3] at hM
       have hT : false = T := by rw [← hM]; rfl
       subst hT
       have h3' : (at' != 0) = true := by rw [bne, h3]; rfl
       clear hM more
       go_wp2_with fail
       try rw [hW0]
       clear hW0
       go_quiet (first | (go_at_call 283; exact Calls.quiet_of_same (c67 _)))
       go_wp2_with fail
       go_ret
       exact ⟨rfl, drewN_below HB0.out _⟩
      | true =>
       rw [h3, Bool.true_and] at hM
       have h3' : (at' != 0) = false := by rw [bne, h3]; rfl
       have cV := fun nq => more nq h3 hM
       have HM : Hid ((vOk ⟨p, b, x⟩ && Z) = T) := hM
       clear hM more
       go_wp2_with fail
       try rw [hW0]
       clear hW0
       go_quiet (first | (go_at_call 283; exact Calls.quiet_of_same (c67 _)))
       go_wp2_with fail
       refine (cV _).mono ?_
       rintro e W1 ⟨rfl, b1⟩
       have HB1 : Hid (Below w.heap.size w W1) := b1
       have hM := HM.out
       clear b1 cV HM
       cases hv : vOk ⟨p, b, x⟩ with
       | true =>
        rw [hv, Bool.true_and] at hM
        have HM : Hid (fl1 (fvP l (j + 1 + 1)) (l.drop (j + 1 + 1)) = T) := HZ.out.trans hM
        clear hM hv
        go_wp2_with fail
        go_roundw
        case rel => exact ⟨j + 1 + 1, by omega, by go_num, HM.out, HB1.out⟩
        case measure => simp only [intOf]; omega
       | false =>
        rw [hv, Bool.false_and] at hM
        subst hM
        clear hv
        go_wp2_with fail
        go_ret
        exact ⟨rfl, HB1.out⟩
  ·have d0 : decide ((q : Int) < (l.length : Int)) = false := by simp; omega
   have hT : true = T := by
    rw [List.drop_eq_nil_of_le (by omega), fl1] at hM
    exact hM
   subst hT
   clear hM
   go_wp2_with fail
   go_ret
   exact ⟨rfl, Hb.out⟩
end Go.Proofs.YthonejomogkjjaaGreatDoor.KFd
namespace Go.Proofs.YthonejomogkjjaaGreatDoor.KAr
open Go.RowKit Base EPure KBase KSh
open SFit (ne ret_bool)
open XBase (frozen_box)
abbrev cv (k : Int) (t : ByteArray) (a1 : Option Addr) (n1 c1 : Nat) (a2 : Option Addr) (n2 c2 : Nat) (a3 : Option Addr) (n3 c3 : Nat) (a4 : Option Addr) (n4 c4 : Nat) (a5 : Option Addr) (n5 c5 : Nat) : Value :=
 .agg #[.int .i64 k, .string t, .slice a1 n1 c1, .slice a2 n2 c2, .slice a3 n3 c3, .slice a4 n4 c4, .slice a5 n5 c5]
abbrev av (s e l : Int) : Value := .agg #[.int .i64 s, .int .i64 e, .int .i64 l]
def bare (t : ByteArray) (n1 n2 n3 n4 n5 : Nat) : Bool := (t.size == 0) && (((n1 : Int) == 0) && (((n2 : Int) == 0) && (((n3 : Int) == 0) && (((n4 : Int) == 0) && ((n5 : Int) == 0)))))
theorem bare_c (k : Int) (t : ByteArray) (a1 : Option Addr) (n1 c1 : Nat) (a2 : Option Addr) (n2 c2 : Nat) (a3 : Option Addr) (n3 c3 : Nat) (a4 : Option Addr) (n4 c4 : Nat) (a5 : Option Addr) (n5 c5 : Nat) (w : World) :
  Calls Tryz.prog 282 #[cv k t a1 n1 c1 a2 n2 c2 a3 n3 c3 a4 n4 c4 a5 n5 c5] w fun e w' => e = .returned (.bool (bare t n1 n2 n3 n4 n5)) ∧ Below w.heap.size w w' := by
 have b0 : Below w.heap.size w (w.alloc (.cells #[.int .i64 k, .string t, .slice a1 n1 c1, .slice a2 n2 c2, .slice a3 n3 c3, .slice a4 n4 c4, .slice a5 n5 c5] 66)) := (Below.refl _ w).alloc (Nat.le_refl _) _
 unfold bare
 have hne := ne t
 suffices H : ∀ (x0 x1 x2 x3 x4 x5 : Bool), t.toList.isEmpty = x0 → ((n1 : Int) == 0) = x1 → ((n2 : Int) == 0) = x2 → ((n3 : Int) == 0) = x3 → ((n4 : Int) == 0) = x4 → ((n5 : Int) == 0) = x5 → Calls Tryz.prog 282 #[cv k t a1 n1 c1 a2 n2 c2 a3 n3 c3 a4 n4 c4 a5 n5 c5] w fun e w' => e = .returned (.bool (x0 && (x1 && (x2 && (x3 && (x4 && x5)))))) ∧ Below w.heap.size w w' by
  have := H _ _ _ _ _ _ rfl rfl rfl rfl rfl rfl
  rw [hne] at this
  exact this
 clear hne
 intro x0 x1 x2 x3 x4 x5 h0 h1 h2 h3 h4 h5
 cases x0 with
 | false => (go_enter Tryz.func282, Tryz.ntmps282; go_wp2_with fail; go_ret; exact ⟨ret_bool rfl, b0⟩)
 | true => cases x1 with
  | false => (go_enter Tryz.func282, Tryz.ntmps282; go_wp2_with fail; go_ret; exact ⟨ret_bool rfl, b0⟩)
  | true => cases x2 with
   | false => (go_enter Tryz.func282, Tryz.ntmps282; go_wp2_with fail; go_ret; exact ⟨ret_bool rfl, b0⟩)
   | true => cases x3 with
    | false => (go_enter Tryz.func282, Tryz.ntmps282; go_wp2_with fail; go_ret; exact ⟨ret_bool rfl, b0⟩)
    | true => cases x4 with
     | false => (go_enter Tryz.func282, Tryz.ntmps282; go_wp2_with fail; go_ret; exact ⟨ret_bool rfl, b0⟩)
     | true => (go_enter Tryz.func282, Tryz.ntmps282; go_wp2_with fail; go_ret; exact ⟨ret_bool rfl, b0⟩)
def deep (s e l : Int) : Bool := decide (64 < s) || (decide (63 < e) || decide (8 < l))
theorem deep_c (s e l : Int) (w : World) : Calls Tryz.prog 168 #[av s e l] w fun x w' => x = .returned (.bool (deep s e l)) ∧ Below w.heap.size w w' := by
 have b0 : Below w.heap.size w (w.alloc (.cells #[.int .i64 s, .int .i64 e, .int .i64 l] 117)) := (Below.refl _ w).alloc (Nat.le_refl _) _
 unfold deep
 suffices H : ∀ (x0 x1 x2 : Bool), decide (64 < s) = x0 → decide (63 < e) = x1 → decide (8 < l) = x2 → Calls Tryz.prog 168 #[av s e l] w fun x w' => x = .returned (.bool (x0 || (x1 || x2))) ∧ Below w.heap.size w w' from H _ _ _ rfl rfl rfl
 intro x0 x1 x2 h0 h1 h2
 cases x0
 all_goals try cases x1
 all_goals
  go_enter Tryz.func168, Tryz.ntmps168
  go_wp2_with fail
  go_ret
  exact ⟨ret_bool rfl, b0⟩
theorem heap_setCell_same (w : World) (B j : Nat) (cs : Array Value) (t : TypeId) (v : Value) (h : w.heap[B]? = some (.cells cs t (0, 0))) : (w.setCell ⟨B, j, none⟩ v).heap[B]? = some (.cells (cs.setIfInBounds j v) t (0, 0)) := by
 simp [World.setCell, Array.getElem?_modify, h]
theorem three_new (w : World) (c0 c1 c2 : Array Value) (t0 t1 t2 : TypeId) : ∃ W, ((w.alloc (.cells c0 t0)).alloc (.cells c1 t1)).alloc (.cells c2 t2) = W ∧ Below w.heap.size w W ∧ W.heap.size = w.heap.size + 3 ∧ W.heap[w.heap.size]? = some (.cells c0 t0 (0, 0)) ∧ W.heap[w.heap.size + 1]? = some (.cells c1 t1 (0, 0)) ∧ W.heap[w.heap.size + 1 + 1]? = some (.cells c2 t2 (0, 0)) := by
 refine ⟨_, rfl, (((Below.refl _ w).alloc (Nat.le_refl _) _).alloc (by simp) _).alloc (by simp; omega) _, by simp, ?_, ?_, ?_⟩
 ·rw [Below.heap_alloc _ _ _ (by simp; omega), Below.heap_alloc _ _ _ (by simp)]; exact heap_alloc_new w _
 ·have := heap_alloc_new (w.alloc (.cells c0 t0)) (.cells c1 t1)
  rw [World.size_alloc] at this
  rw [Below.heap_alloc _ _ _ (by simp)]
  exact this
 ·have := heap_alloc_new ((w.alloc (.cells c0 t0)).alloc (.cells c1 t1)) (.cells c2 t2)
  rw [World.size_alloc, World.size_alloc] at this
  exact this
theorem three_box {w : World} {B : Nat} {v0 v1 v2 : Value} {t : TypeId} (h : w.heap[B]? = some (.cells #[v0, v1, v2] t (0, 0))) :
  w.cell? ⟨B, 0, none⟩ = some v0 ∧ w.cell? ⟨B, 1, none⟩ = some v1 ∧ w.cell? ⟨B, 2, none⟩ = some v2 := by
 refine ⟨?_, ?_, ?_⟩ <;> simp [World.cell?, h]
theorem set3 {w : World} {B : Nat} {u0 u1 u2 : Value} (v0 v1 v2 : Value) {t : TypeId} (h : w.heap[B]? = some (.cells #[u0, u1, u2] t (0, 0))) {W : World} (hW : ((w.setCell ⟨B, 0, none⟩ v0).setCell ⟨B, 1, none⟩ v1).setCell ⟨B, 2, none⟩ v2 = W) :
  W.heap[B]? = some (.cells #[v0, v1, v2] t (0, 0)) ∧ (∀ n X, n ≤ B → Below n X w → Below n X W) ∧ (∀ b, b ≠ B → W.heap[b]? = w.heap[b]?) := by
 subst hW
 refine ⟨?_, fun n X hn hX => ?_, fun b hb => ?_⟩
 ·exact heap_setCell_same _ _ _ _ _ _ (heap_setCell_same _ _ _ _ _ _ (heap_setCell_same _ _ _ _ _ _ h))
 ·exact ((hX.setCell (p := ⟨B, 0, none⟩) hn _).setCell (p := ⟨B, 1, none⟩) hn _).setCell (p := ⟨B, 2, none⟩) hn _
 ·rw [Below.heap_setCell _ _ _ _ hb, Below.heap_setCell _ _ _ _ hb, Below.heap_setCell _ _ _ _ hb]
end Go.Proofs.YthonejomogkjjaaGreatDoor.KAr
