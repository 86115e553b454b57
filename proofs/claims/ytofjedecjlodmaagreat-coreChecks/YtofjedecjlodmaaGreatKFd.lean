/- Rows of fields that may be (package core). -/
import Derived.Test.YtofjedecjlodmaaGreatKRo
import Derived.Laws.Cover1
namespace Go.Proofs.YtofjedecjlodmaaGreat.KFd
open Go.RowKit Go.Proofs.YtofjedecjlodmaaGreat.Base Go.Proofs.YtofjedecjlodmaaGreat.EPure Go.Proofs.YtofjedecjlodmaaGreat.KBase Go.Proofs.YtofjedecjlodmaaGreat.KSh
open Go.Proofs.YtofjedecjlodmaaGreat.SFit (ne ret_bool)
set_option linter.unusedVariables false

theorem drewN_below {n : Nat} {w w' : World} (h : Below n w w') (k : Nat) : Below n w (w'.drewN k) := h.trans ⟨rfl, rfl, rfl, by simp, fun _ _ => by simp⟩
/-- Does a name lie behind the one ahead of it? -/
def nlt (z : Option ByteArray) (n : ByteArray) : Bool := match z with
  | none => true
  | some p => Op.bytesLess p.toList n.toList
/-- May each field stand behind the one ahead of it? -/
def fl1 : Option ByteArray → List Fld → Bool
  | _, [] => true
  | z, c :: t => (UBase.word c.n 45 && (nlt z c.n && ((c.a == 0) && vOk ⟨c.p, c.b, c.e⟩))) && fl1 (some c.n) t
def fvP (l : List Fld) : Nat → Option ByteArray
  | 0 => none
  | q + 1 => (l[q]?).map Fld.n
theorem fvP_succ (l : List Fld) (q : Nat) (h : q < l.length) : fvP l (q + 1) = some l[q].n := by
  simp only [fvP, List.getElem?_eq_getElem h, Option.map_some]
theorem eight_new {w : World} (v0 v1 v2 v3 v4 v5 v6 v7 : Value) (t : TypeId) : ∃ W, w.alloc (.cells #[v0, v1, v2, v3, v4, v5, v6, v7] t) = W ∧ Below w.heap.size w W ∧ W.heap.size = w.heap.size + 1 ∧ W.heap[w.heap.size]? = some (.cells #[v0, v1, v2, v3, v4, v5, v6, v7] t (0, 0)) :=
  ⟨_, rfl, (Below.refl _ w).alloc (Nat.le_refl _) _, by simp, heap_alloc_new w _⟩
theorem drewN_heap (w : World) (k : Nat) : (w.drewN k).heap = w.heap := by simp
theorem le_lt : ∀ (x y : List UInt8), (Op.bytesLess x y || (x == y)) = !(Op.bytesLess y x)
  | [], [] => by simp [Op.bytesLess]
  | [], b :: y => by simp [Op.bytesLess]
  | a :: x, [] => by simp [Op.bytesLess]
  | a :: x, b :: y => by
    have ih := le_lt x y
    simp only [Op.bytesLess, List.cons_beq_cons]
    rcases Nat.lt_trichotomy a.toNat b.toNat with h | h | h
    · have h1 : decide (a < b) = true := decide_eq_true (UInt8.lt_iff_toNat_lt.2 h)
      have h2 : decide (b < a) = false := decide_eq_false (fun k => by have := UInt8.lt_iff_toNat_lt.1 k; omega)
      have h3 : (b == a) = false := by
        rw [beq_eq_false_iff_ne]
        intro k; rw [k] at h; omega
      simp [h1, h2, h3]
    · obtain rfl : a = b := UInt8.toNat_inj.1 h
      have h1 : decide (a < a) = false := decide_eq_false (fun k => by have := UInt8.lt_iff_toNat_lt.1 k; omega)
      simp only [h1, Bool.false_or, beq_self_eq_true, Bool.true_and]
      exact ih
    · have h1 : decide (a < b) = false := decide_eq_false (fun k => by have := UInt8.lt_iff_toNat_lt.1 k; omega)
      have h2 : decide (b < a) = true := decide_eq_true (UInt8.lt_iff_toNat_lt.2 h)
      have h3 : (a == b) = false := by
        rw [beq_eq_false_iff_ne]
        intro k; rw [k] at h; omega
      simp [h1, h2, h3]
set_option maxRecDepth 20000 in
set_option maxHeartbeats 3200000 in
theorem fields_c {w : World} {v : Value} {l : List Fld} {S : Nat → Prop} {r : Bool} (hin : RF r S w v l) :
    Calls Tryz.prog 96 #[v] w fun e w' => e = .returned (.bool (fl1 none l)) ∧ Below w.heap.size w w' := by
  obtain ⟨a, cap, rfl, hlc, hcm, hlen, hnil, hL⟩ := hin
  have HL : Hid (RwAt 8 Fd8 rmF r S w (InF r S w) a cap l) := hL
  obtain ⟨T, hT⟩ : ∃ T, fl1 none l = T := ⟨_, rfl⟩
  have HT : Hid (fl1 (fvP l 0) (l.drop 0) = T) := hT
  rw [hT]
  clear hT hL
  go_enter Tryz.func96, Tryz.ntmps96
  go_wp2_with fail
  go_loopw [7] (fun i wr => ∃ q : Nat, q ≤ l.length ∧ i = .int .i64 q ∧ fl1 (fvP l q) (l.drop q) = T ∧ Below w.heap.size w wr) (fun i _ => l.length - (intOf i).toNat)
  case atStart => exact ⟨0, by omega, rfl, HT.out, Below.refl _ _⟩
  case round =>
    clear HT
    obtain ⟨q, hq, rfl, hM, hb⟩ := hrel
    have Hb : Hid (Below w.heap.size w wr) := hb
    by_cases hlt : q < l.length
    · have d0 : decide ((q : Int) < (l.length : Int)) = true := by simp; omega
      obtain ⟨g, o, u, ha, hSg, hu, hi⟩ := HL.out.elem hlt
      subst ha
      have hi2 := hi.keep (Keep.of_below hb)
      obtain ⟨v0, v1, v2, e0, e1, e2, e3, v7, rfl, c0, c1, c2, c3, c4, c5, c6, c7⟩ := hu
      obtain ⟨ea, ec, rfl, rfl, rfl, rfl, rfl, rfl, rfl, rfl, hn, hp, -, hat⟩ := hi.eight
      have c0 := below_cell c0 hb
      have c1 := below_cell c1 hb
      have c2 := below_cell c2 hb
      have c3 := below_cell c3 hb
      have c4 := below_cell c4 hb
      have c5 := below_cell c5 hb
      have c6 := below_cell c6 hb
      have c7 := below_cell c7 hb
      have hdrop : l.drop q = l[q] :: l.drop (q + 1) := List.drop_eq_getElem_cons hlt
      have hnext := fvP_succ l q hlt
      rw [hdrop, fl1, ← hnext] at hM
      obtain ⟨y, hy⟩ : ∃ y, l[q] = y := ⟨_, rfl⟩
      rw [hy] at c0 c1 c2 c3 c4 c5 c6 c7 hn hp hat hi2 hM
      obtain ⟨n, p, b, x, at'⟩ := y
      dsimp only at c0 c1 c2 c3 c4 c5 c6 c7 hn hp hat hM
      obtain ⟨W0, hW0, b0, hs0, q0⟩ := eight_new (w := wr) (.string n) (.string p) (.bool b) (.int .i64 x.o) (.int .i64 x.i) (.string x.s) (.slice ea x.l.length ec) (.int .i64 at') 79
      obtain ⟨mm, f0, f1, f2, f3, hE, -, -, hxi, -⟩ := hi2
      simp only [Value.agg.injEq, Array.mk.injEq, List.cons.injEq, and_true, true_and] at hE
      obtain ⟨rfl, rfl, rfl, rfl⟩ := hE
      have HP : Hid (InP r S wr (.agg #[.string p, .bool b, .int .i64 x.o, .int .i64 x.i, .string x.s, .slice ea x.l.length ec]) ⟨p, b, x⟩) := ⟨mm, _, _, _, _, rfl, hp, hxi⟩
      have c67 := fun W => UWord.tag_c n (by omega) W
      obtain ⟨k0, k1, k2, k3, k4, k5, k6, k7⟩ := eight_box q0
      have HB0 : Hid (Below w.heap.size w W0) := nx hb b0
      have Hb0 : Hid (Below wr.heap.size wr W0) := b0
      have HQ0 : Hid (W0.heap[wr.heap.size]? = some (.cells #[.string n, .string p, .bool b, .int .i64 x.o, .int .i64 x.i, .string x.s, .slice ea x.l.length ec, .int .i64 at'] 79 (0, 0))) := q0
      clear hi hdrop hnext hb hy hxi q0 b0
      obtain ⟨Z, hZ⟩ : ∃ Z, fl1 (fvP l (q + 1)) (l.drop (q + 1)) = Z := ⟨_, rfl⟩
      have HZ : Hid (fl1 (fvP l (q + 1)) (l.drop (q + 1)) = Z) := hZ
      rw [hZ] at hM
      clear hZ
      have more : ∀ (nq : Nat), (at' == 0) = true → ((vOk ⟨p, b, x⟩ && Z) = T) → Calls Tryz.prog 102 #[.agg #[.string p, .bool b, .int .i64 x.o, .int .i64 x.i, .string x.s, .slice ea x.l.length ec]] (W0.drewN nq) fun e w' => e = .returned (.bool (vOk ⟨p, b, x⟩)) ∧ Below w.heap.size w w' := by
        intro nq _ _
        refine (value_c (HP.out.keep (Keep.of_below (drewN_below Hb0.out nq)))).mono ?_
        rintro e w' ⟨rfl, h⟩
        exact ⟨rfl, nx (drewN_below HB0.out nq) h⟩
      cases h1 : UBase.word n 45 with
      | false =>
        rw [h1] at hM c67
        have hT : false = T := by rw [← hM]; rfl
        subst hT
        clear hM more
        go_wp2_with fail
        try rw [hW0]
        clear hW0
        go_quiet (first | (go_at_call 95; exact Calls.quiet_of_same (c67 _)))
        go_wp2_with fail
        go_ret
        exact ⟨rfl, drewN_below HB0.out _⟩
      | true =>
        rw [h1] at hM c67
        rw [Bool.true_and] at hM
        cases q with
        | zero =>
          have e1 : nlt (fvP l 0) n = true := rfl
          rw [e1, Bool.true_and] at hM
          clear e1
          rw [Nat.zero_mul, Nat.add_zero] at c0 c1 c2 c3 c4 c5 c6 c7
          cases h3 : (at' == 0) with
          | false =>
            rw [h3] at hM
            have hT : false = T := by rw [← hM]; rfl
            subst hT
            have h3' : (at' != 0) = true := by rw [bne, h3]; rfl
            clear hM more
            go_wp2_with fail
            try rw [hW0]
            clear hW0
            go_quiet (first | (go_at_call 95; exact Calls.quiet_of_same (c67 _)))
            go_wp2_with fail
            go_ret
            exact ⟨rfl, drewN_below HB0.out _⟩
          | true =>
            rw [h3, Bool.true_and] at hM
            have h3' : (at' != 0) = false := by rw [bne, h3]; rfl
            have cV := fun nq => more nq h3 hM
            have HM : Hid ((vOk ⟨p, b, x⟩ && Z) = T) := hM
            clear hM more
            go_wp2_with fail
            try rw [hW0]
            clear hW0
            go_quiet (first | (go_at_call 95; exact Calls.quiet_of_same (c67 _)))
            go_wp2_with fail
            refine (cV _).mono ?_
            rintro e W1 ⟨rfl, b1⟩
            have HB1 : Hid (Below w.heap.size w W1) := b1
            have hM := HM.out
            clear b1 cV HM
            cases hv : vOk ⟨p, b, x⟩ with
            | true =>
              rw [hv, Bool.true_and] at hM
              have HM : Hid (fl1 (fvP l 1) (l.drop 1) = T) := HZ.out.trans hM
              clear hM hv
              go_wp2_with fail
              go_roundw
              case rel => exact ⟨1, by omega, by go_num, HM.out, HB1.out⟩
              case measure => simp only [intOf]; omega
            | false =>
              rw [hv, Bool.false_and] at hM
              subst hM
              clear hv
              go_wp2_with fail
              go_ret
              exact ⟨rfl, HB1.out⟩
        | succ j =>
          have hj : j < l.length := by omega
          obtain ⟨g', o', u', E, -, hu', hi'⟩ := HL.out.elem hj
          obtain ⟨rfl, rfl⟩ : g = g' ∧ o = o' := by cases E; exact ⟨rfl, rfl⟩
          obtain ⟨w0, w1, w2, e0', e1', e2', e3', w7, rfl, c0', -, -, -, -, -, -, -⟩ := hu'
          obtain ⟨ea', ec', rfl, rfl, rfl, rfl, rfl, rfl, rfl, rfl, hn', -⟩ := hi'.eight
          have c0' := below_cell (below_cell c0' Hb.out) Hb0.out
          rw [fvP_succ l j hj] at hM
          obtain ⟨pn, hpn⟩ : ∃ pn, l[j].n = pn := ⟨_, rfl⟩
          rw [hpn] at c0' hM hn'
          have e1 : nlt (some pn) n = Op.bytesLess pn.toList n.toList := rfl
          rw [e1] at hM
          have hj1 : ((j + 1 : Nat) : Int) - 1 = (j : Int) := by omega
          have hj2 : (0 : Int) ≤ (j : Int) := by omega
          have hj3 : (j : Int) < (l.length : Int) := by omega
          have hj4 : decide ((0 : Int) < ((j + 1 : Nat) : Int)) = true := decide_eq_true (by omega)
          have hj5 : IntKind.i64.wrap (((j + 1 : Nat) : Int) - 1) = (j : Int) := by rw [IntKind.wrap_i64]; omega
          have hj6 : IntKind.i64.wrap (j : Int) = (j : Int) := by rw [IntKind.wrap_i64]; omega
          have hle := le_lt n.toList pn.toList
          clear hi' E hpn e1
          cases h2 : Op.bytesLess pn.toList n.toList with
          | false =>
            rw [h2] at hM hle
            rw [Bool.not_false] at hle
            have hT : false = T := by rw [← hM]; rfl
            subst hT
            clear hM more h2
            cases hl1 : Op.bytesLess n.toList pn.toList with
            | true =>
              cases hl2 : (n.toList == pn.toList) with
              | true =>
                go_wp2_with fail
                try rw [hW0]
                clear hW0
                go_quiet (first | (go_at_call 95; exact Calls.quiet_of_same (c67 _)))
                go_wp2_with fail
                go_ret
                exact ⟨rfl, drewN_below HB0.out _⟩
              | false =>
                go_wp2_with fail
                try rw [hW0]
                clear hW0
                go_quiet (first | (go_at_call 95; exact Calls.quiet_of_same (c67 _)))
                go_wp2_with fail
                go_ret
                exact ⟨rfl, drewN_below HB0.out _⟩
            | false =>
              rw [hl1, Bool.false_or] at hle
              go_wp2_with fail
              try rw [hW0]
              clear hW0
              go_quiet (first | (go_at_call 95; exact Calls.quiet_of_same (c67 _)))
              go_wp2_with fail
              go_ret
              exact ⟨rfl, drewN_below HB0.out _⟩
          | true =>
            rw [h2, Bool.true_and] at hM
            rw [h2, Bool.not_true, Bool.or_eq_false_iff] at hle
            obtain ⟨hl1, hl2⟩ := hle
            clear h2
            cases h3 : (at' == 0) with
            | false =>
              rw [h3] at hM
              have hT : false = T := by rw [← hM]; rfl
              subst hT
              have h3' : (at' != 0) = true := by rw [bne, h3]; rfl
              clear hM more
              go_wp2_with fail
              try rw [hW0]
              clear hW0
              go_quiet (first | (go_at_call 95; exact Calls.quiet_of_same (c67 _)))
              go_wp2_with fail
              go_ret
              exact ⟨rfl, drewN_below HB0.out _⟩
            | true =>
              rw [h3, Bool.true_and] at hM
              have h3' : (at' != 0) = false := by rw [bne, h3]; rfl
              have cV := fun nq => more nq h3 hM
              have HM : Hid ((vOk ⟨p, b, x⟩ && Z) = T) := hM
              clear hM more
              go_wp2_with fail
              try rw [hW0]
              clear hW0
              go_quiet (first | (go_at_call 95; exact Calls.quiet_of_same (c67 _)))
              go_wp2_with fail
              refine (cV _).mono ?_
              rintro e W1 ⟨rfl, b1⟩
              have HB1 : Hid (Below w.heap.size w W1) := b1
              have hM := HM.out
              clear b1 cV HM
              cases hv : vOk ⟨p, b, x⟩ with
              | true =>
                rw [hv, Bool.true_and] at hM
                have HM : Hid (fl1 (fvP l (j + 1 + 1)) (l.drop (j + 1 + 1)) = T) := HZ.out.trans hM
                clear hM hv
                go_wp2_with fail
                go_roundw
                case rel => exact ⟨j + 1 + 1, by omega, by go_num, HM.out, HB1.out⟩
                case measure => simp only [intOf]; omega
              | false =>
                rw [hv, Bool.false_and] at hM
                subst hM
                clear hv
                go_wp2_with fail
                go_ret
                exact ⟨rfl, HB1.out⟩
    · have d0 : decide ((q : Int) < (l.length : Int)) = false := by simp; omega
      have hT : true = T := by
        rw [List.drop_eq_nil_of_le (by omega), fl1] at hM
        exact hM
      subst hT
      clear hM
      go_wp2_with fail
      go_ret
      exact ⟨rfl, Hb.out⟩
end Go.Proofs.YtofjedecjlodmaaGreat.KFd
