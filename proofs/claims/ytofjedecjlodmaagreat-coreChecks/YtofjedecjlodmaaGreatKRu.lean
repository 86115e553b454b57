/- Fields that may be: the document's own answer (stencilref15.fields). -/
import Derived.Test.YtofjedecjlodmaaGreatKRt
import Derived.Test.YtofjedecjlodmaaGreatKRo
import Derived.Test.YtofjedecjlodmaaGreatKFd
import Derived.BigQuiet
import Derived.Laws.Cover1
namespace Go.Proofs.YtofjedecjlodmaaGreat.KRu
open Go.RowKit Go.Proofs.YtofjedecjlodmaaGreat.Base Go.Proofs.YtofjedecjlodmaaGreat.UBase Go.Proofs.YtofjedecjlodmaaGreat.EPure Go.Proofs.YtofjedecjlodmaaGreat.KBase Go.Proofs.YtofjedecjlodmaaGreat.KSh Go.Proofs.YtofjedecjlodmaaGreat.KRo Go.Proofs.YtofjedecjlodmaaGreat.KFd
open Go.Proofs.YtofjedecjlodmaaGreat.KRt (zeroX_c tagR_c)
open Go.Proofs.YtofjedecjlodmaaGreat.SFit (ne ret_bool)
open Go.Proofs.YtofjedecjlodmaaGreat.STx (tg)
open Go.Proofs.YtofjedecjlodmaaGreat.XBase (four_box)
set_option linter.unusedVariables false

set_option maxRecDepth 20000 in
set_option maxHeartbeats 3200000 in
theorem fieldsR_c {w : World} {v : Value} {l : List Fld} {S : Nat → Prop} {r : Bool} (hin : RF r S w v l) :
    Calls Tryz.prog 69 #[v] w fun e w' => e = .returned (.bool (fl1 none l)) ∧ Below w.heap.size w w' := by
  obtain ⟨a, cap, rfl, hlc, hcm, hlen, hnil, hL⟩ := hin
  have HL : Hid (RwAt 8 Fd8 rmF r S w (InF r S w) a cap l) := hL
  obtain ⟨T, hT⟩ : ∃ T, fl1 none l = T := ⟨_, rfl⟩
  have HT : Hid (fl1 (fvP l 0) (l.drop 0) = T) := hT
  rw [hT]
  clear hT hL
  go_enter Tryz.func69, Tryz.ntmps69
  go_wp2_with fail
  go_loopw [3] (fun i wr => ∃ q : Nat, q ≤ l.length ∧ i = .int .i64 q ∧ fl1 (fvP l q) (l.drop q) = T ∧ Below w.heap.size w wr) (fun i _ => l.length - (intOf i).toNat)
  case atStart => exact ⟨0, by omega, rfl, HT.out, Below.refl _ _⟩
  case round =>
    clear HT
    obtain ⟨q, hq, rfl, hM, hb⟩ := hrel
    have Hb : Hid (Below w.heap.size w wr) := hb
    by_cases hlt : q < l.length
    · have d0 : decide ((q : Int) < (l.length : Int)) = true := by simp; omega
      have i0 : (0 : Int) ≤ (q : Int) := by omega
      have i1 : (q : Int) < (l.length : Int) := by omega
      obtain ⟨g, o, u, ha, hSg, hu, hi⟩ := HL.out.elem hlt
      subst ha
      obtain ⟨v0, v1, v2, e0, e1, e2, e3, v7, rfl, c0, c1, c2, c3, c4, c5, c6, c7⟩ := hu
      obtain ⟨ea, ec, rfl, rfl, rfl, rfl, rfl, rfl, rfl, rfl, hn, hp, hxl, hat⟩ := hi.eight
      have c0 := below_cell c0 hb
      have c1 := below_cell c1 hb
      have c2 := below_cell c2 hb
      have c3 := below_cell c3 hb
      have c4 := below_cell c4 hb
      have c5 := below_cell c5 hb
      have c6 := below_cell c6 hb
      have c7 := below_cell c7 hb
      have hdrop : l.drop q = l[q] :: l.drop (q + 1) := List.drop_eq_getElem_cons hlt
      have hnext := fvP_succ l q hlt
      rw [hdrop, fl1, ← hnext] at hM
      obtain ⟨y, hy⟩ : ∃ y, l[q] = y := ⟨_, rfl⟩
      rw [hy] at c0 c1 c2 c3 c4 c5 c6 c7 hn hp hat hM hxl
      obtain ⟨n, p, b, x, at'⟩ := y
      dsimp only at c0 c1 c2 c3 c4 c5 c6 c7 hn hp hat hM hxl
      obtain ⟨W0, hW0, b0, hs0, q0⟩ := eight_new (w := wr) (.string n) (.string p) (.bool b) (.int .i64 x.o) (.int .i64 x.i) (.string x.s) (.slice ea x.l.length ec) (.int .i64 at') 79
      have c67 := fun W => tagR_c n hn W
      have cG := fun W => KQv.good_c p hp W
      have cN := fun W => zeroX_c (w := W) (x := x) (a := ea) (cap := ec) (by omega)
      have hne := ne p
      obtain ⟨k0, k1, k2, k3, k4, k5, k6, k7⟩ := eight_box q0
      have HB0 : Hid (Below w.heap.size w W0) := nx hb b0
      have Hb0 : Hid (Below wr.heap.size wr W0) := b0
      obtain ⟨Z, hZ⟩ : ∃ Z, fl1 (fvP l (q + 1)) (l.drop (q + 1)) = Z := ⟨_, rfl⟩
      have HZ : Hid (fl1 (fvP l (q + 1)) (l.drop (q + 1)) = Z) := hZ
      rw [hZ] at hM
      obtain ⟨zt, hzt⟩ : ∃ zt, tg p = zt := ⟨_, rfl⟩
      obtain ⟨zn, hzn⟩ : ∃ zn, nn x = zn := ⟨_, rfl⟩
      obtain ⟨ze, hze⟩ : ∃ ze, (p.size == 0) = ze := ⟨_, rfl⟩
      obtain ⟨zw, hzw⟩ : ∃ zw, UBase.word n 45 = zw := ⟨_, rfl⟩
      obtain ⟨za, hza⟩ : ∃ za, (at' == 0) = za := ⟨_, rfl⟩
      have hza' : (at' != 0) = !za := by rw [← hza]; rfl
      have hvo : vOk ⟨p, b, x⟩ = if b = true then ze else zt && zn := by rw [← hzt, ← hzn, ← hze]; rfl
      rw [hvo, hzw, hza] at hM
      rw [hzt] at cG
      rw [hzn] at cN
      rw [hze] at hne
      rw [hzw] at c67
      have HM : Hid (((zw && (nlt (fvP l q) n && (za && (if b = true then ze else zt && zn)))) && Z) = T) := hM
      clear hi hdrop hnext hb hy q0 b0 hZ hvo hM hzt hzn hze hxl hzw hza
      cases za with
      | false =>
        have hT : T = false := by rw [← HM.out]; simp
        subst hT
        clear HM
        go_wp2_with fail
        try rw [hW0]
        clear hW0
        go_quiet (first | (go_at_call 68; exact Calls.quiet_of_same (c67 _)))
        go_wp2_with fail
        go_ret
        exact ⟨rfl, drewN_below HB0.out _⟩
      | true =>
        cases zw with
        | false =>
          have hT : T = false := by rw [← HM.out]; simp
          subst hT
          clear HM
          go_wp2_with fail
          try rw [hW0]
          clear hW0
          go_quiet (first | (go_at_call 68; exact Calls.quiet_of_same (c67 _)))
          go_wp2_with fail
          go_ret
          exact ⟨rfl, drewN_below HB0.out _⟩
        | true =>
          cases q with
          | zero =>
            have HM : Hid (((if b = true then ze else zt && zn) && Z) = T) := by show _ = _; rw [← HM.out]; simp [nlt, fvP]
            rw [Nat.zero_mul, Nat.add_zero] at c0 c1 c2 c3 c4 c5 c6 c7
            cases b with
            | true =>
              cases ze with
              | false =>
                have hT : T = false := by rw [← HM.out]; simp
                subst hT
                clear HM
                go_wp2_with fail
                try rw [hW0]
                clear hW0
                go_quiet (first | (go_at_call 68; exact Calls.quiet_of_same (c67 _)))
                go_wp2_with fail
                go_ret
                exact ⟨rfl, drewN_below HB0.out _⟩
              | true =>
                have HM2 : Hid (fl1 (fvP l (1)) (l.drop (1)) = T) := HZ.out.trans (by rw [← HM.out]; simp)
                clear HM
                go_wp2_with fail
                try rw [hW0]
                clear hW0
                go_quiet (first | (go_at_call 68; exact Calls.quiet_of_same (c67 _)))
                go_wp2_with fail
                go_roundw
                case rel => exact ⟨1, by omega, by go_num, HM2.out, drewN_below HB0.out _⟩
                case measure => simp only [intOf]; omega
            | false =>
              cases zt with
              | false =>
                have hT : T = false := by rw [← HM.out]; simp
                subst hT
                clear HM
                go_wp2_with fail
                try rw [hW0]
                clear hW0
                go_quiet (first | (go_at_call 68; exact Calls.quiet_of_same (c67 _)))
                go_wp2_with fail
                refine (cG _).mono ?_
                rintro e w' ⟨rfl, hw'⟩
                subst w'
                go_wp2_with fail
                go_ret
                exact ⟨rfl, drewN_below HB0.out _⟩
              | true =>
                cases zn with
                | false =>
                  have hT : T = false := by rw [← HM.out]; simp
                  subst hT
                  clear HM
                  go_wp2_with fail
                  try rw [hW0]
                  clear hW0
                  go_quiet (first | (go_at_call 68; exact Calls.quiet_of_same (c67 _)))
                  go_wp2_with fail
                  refine (cG _).mono ?_
                  rintro e w' ⟨rfl, hw'⟩
                  subst w'
                  go_wp2_with fail
                  refine (cN _).mono ?_
                  rintro e W1 ⟨rfl, b1⟩
                  have HB1 : Hid (Below w.heap.size w W1) := nx (drewN_below HB0.out _) b1
                  clear b1
                  go_wp2_with fail
                  go_ret
                  exact ⟨rfl, HB1.out⟩
                | true =>
                  have HM2 : Hid (fl1 (fvP l (1)) (l.drop (1)) = T) := HZ.out.trans (by rw [← HM.out]; simp)
                  clear HM
                  go_wp2_with fail
                  try rw [hW0]
                  clear hW0
                  go_quiet (first | (go_at_call 68; exact Calls.quiet_of_same (c67 _)))
                  go_wp2_with fail
                  refine (cG _).mono ?_
                  rintro e w' ⟨rfl, hw'⟩
                  subst w'
                  go_wp2_with fail
                  refine (cN _).mono ?_
                  rintro e W1 ⟨rfl, b1⟩
                  have HB1 : Hid (Below w.heap.size w W1) := nx (drewN_below HB0.out _) b1
                  clear b1
                  go_wp2_with fail
                  go_roundw
                  case rel => exact ⟨1, by omega, by go_num, HM2.out, HB1.out⟩
                  case measure => simp only [intOf]; omega
          | succ j =>
            have hj : j < l.length := by omega
            obtain ⟨g', o', u', E, -, hu', hi'⟩ := HL.out.elem hj
            obtain ⟨rfl, rfl⟩ : g = g' ∧ o = o' := by cases E; exact ⟨rfl, rfl⟩
            obtain ⟨w0, w1, w2, e0', e1', e2', e3', w7, rfl, c0', -, -, -, -, -, -, -⟩ := hu'
            obtain ⟨ea', ec', rfl, rfl, rfl, rfl, rfl, rfl, rfl, rfl, hn', -⟩ := hi'.eight
            have c0' := below_cell (below_cell c0' Hb.out) Hb0.out
            have hm := HM.out
            rw [fvP_succ l j hj] at hm
            obtain ⟨pn, hpn⟩ : ∃ pn, l[j].n = pn := ⟨_, rfl⟩
            rw [hpn] at c0' hm hn'
            have e1 : nlt (some pn) n = Op.bytesLess pn.toList n.toList := rfl
            rw [e1] at hm
            have hj1 : ((j + 1 : Nat) : Int) - 1 = (j : Int) := by omega
            have hj2 : (0 : Int) ≤ (j : Int) := by omega
            have hj3 : (j : Int) < (l.length : Int) := by omega
            have hj4 : decide ((0 : Int) < ((j + 1 : Nat) : Int)) = true := decide_eq_true (by omega)
            have hj5 : IntKind.i64.wrap (((j + 1 : Nat) : Int) - 1) = (j : Int) := by rw [IntKind.wrap_i64]; omega
            have hj6 : IntKind.i64.wrap (j : Int) = (j : Int) := by rw [IntKind.wrap_i64]; omega
            have hle := le_lt n.toList pn.toList
            have hsy : (pn.toList == n.toList) = (n.toList == pn.toList) := Bool.beq_comm
            clear hi' E hpn e1 HM
            obtain ⟨zl, hzl⟩ : ∃ zl, Op.bytesLess pn.toList n.toList = zl := ⟨_, rfl⟩
            rw [hzl] at hm hle
            have HM : Hid (((true && (zl && (true && (if b = true then ze else zt && zn)))) && Z) = T) := hm
            clear hm
            cases zl with
            | false =>
              rw [Bool.not_false] at hle
              cases hl1 : Op.bytesLess n.toList pn.toList with
              | true =>
                cases hl2 : (n.toList == pn.toList) with
                | true =>
                  rw [hl2] at hsy
                  have hT : T = false := by rw [← HM.out]; simp
                  subst hT
                  clear HM
                  go_wp2_with fail
                  try rw [hW0]
                  clear hW0
                  go_quiet (first | (go_at_call 68; exact Calls.quiet_of_same (c67 _)))
                  go_wp2_with fail
                  go_ret
                  exact ⟨rfl, drewN_below HB0.out _⟩
                | false =>
                  rw [hl2] at hsy
                  have hT : T = false := by rw [← HM.out]; simp
                  subst hT
                  clear HM
                  go_wp2_with fail
                  try rw [hW0]
                  clear hW0
                  go_quiet (first | (go_at_call 68; exact Calls.quiet_of_same (c67 _)))
                  go_wp2_with fail
                  go_ret
                  exact ⟨rfl, drewN_below HB0.out _⟩
              | false =>
                rw [hl1, Bool.false_or] at hle
                rw [hle] at hsy
                have hT : T = false := by rw [← HM.out]; simp
                subst hT
                clear HM
                go_wp2_with fail
                try rw [hW0]
                clear hW0
                go_quiet (first | (go_at_call 68; exact Calls.quiet_of_same (c67 _)))
                go_wp2_with fail
                go_ret
                exact ⟨rfl, drewN_below HB0.out _⟩
            | true =>
              rw [Bool.not_true, Bool.or_eq_false_iff] at hle
              obtain ⟨hl1, hl2⟩ := hle
              rw [hl2] at hsy
              have HM : Hid (((if b = true then ze else zt && zn) && Z) = T) := by show _ = _; rw [← HM.out]; simp
              cases b with
              | true =>
                cases ze with
                | false =>
                  have hT : T = false := by rw [← HM.out]; simp
                  subst hT
                  clear HM
                  go_wp2_with fail
                  try rw [hW0]
                  clear hW0
                  go_quiet (first | (go_at_call 68; exact Calls.quiet_of_same (c67 _)))
                  go_wp2_with fail
                  go_ret
                  exact ⟨rfl, drewN_below HB0.out _⟩
                | true =>
                  have HM2 : Hid (fl1 (fvP l (j + 1 + 1)) (l.drop (j + 1 + 1)) = T) := HZ.out.trans (by rw [← HM.out]; simp)
                  clear HM
                  go_wp2_with fail
                  try rw [hW0]
                  clear hW0
                  go_quiet (first | (go_at_call 68; exact Calls.quiet_of_same (c67 _)))
                  go_wp2_with fail
                  go_roundw
                  case rel => exact ⟨j + 1 + 1, by omega, by go_num, HM2.out, drewN_below HB0.out _⟩
                  case measure => simp only [intOf]; omega
              | false =>
                cases zt with
                | false =>
                  have hT : T = false := by rw [← HM.out]; simp
                  subst hT
                  clear HM
                  go_wp2_with fail
                  try rw [hW0]
                  clear hW0
                  go_quiet (first | (go_at_call 68; exact Calls.quiet_of_same (c67 _)))
                  go_wp2_with fail
                  refine (cG _).mono ?_
                  rintro e w' ⟨rfl, hw'⟩
                  subst w'
                  go_wp2_with fail
                  go_ret
                  exact ⟨rfl, drewN_below HB0.out _⟩
                | true =>
                  cases zn with
                  | false =>
                    have hT : T = false := by rw [← HM.out]; simp
                    subst hT
                    clear HM
                    go_wp2_with fail
                    try rw [hW0]
                    clear hW0
                    go_quiet (first | (go_at_call 68; exact Calls.quiet_of_same (c67 _)))
                    go_wp2_with fail
                    refine (cG _).mono ?_
                    rintro e w' ⟨rfl, hw'⟩
                    subst w'
                    go_wp2_with fail
                    refine (cN _).mono ?_
                    rintro e W1 ⟨rfl, b1⟩
                    have HB1 : Hid (Below w.heap.size w W1) := nx (drewN_below HB0.out _) b1
                    clear b1
                    go_wp2_with fail
                    go_ret
                    exact ⟨rfl, HB1.out⟩
                  | true =>
                    have HM2 : Hid (fl1 (fvP l (j + 1 + 1)) (l.drop (j + 1 + 1)) = T) := HZ.out.trans (by rw [← HM.out]; simp)
                    clear HM
                    go_wp2_with fail
                    try rw [hW0]
                    clear hW0
                    go_quiet (first | (go_at_call 68; exact Calls.quiet_of_same (c67 _)))
                    go_wp2_with fail
                    refine (cG _).mono ?_
                    rintro e w' ⟨rfl, hw'⟩
                    subst w'
                    go_wp2_with fail
                    refine (cN _).mono ?_
                    rintro e W1 ⟨rfl, b1⟩
                    have HB1 : Hid (Below w.heap.size w W1) := nx (drewN_below HB0.out _) b1
                    clear b1
                    go_wp2_with fail
                    go_roundw
                    case rel => exact ⟨j + 1 + 1, by omega, by go_num, HM2.out, HB1.out⟩
                    case measure => simp only [intOf]; omega
    · have d0 : decide ((q : Int) < (l.length : Int)) = false := by simp; omega
      have hT : true = T := by
        rw [List.drop_eq_nil_of_le (by omega), fl1] at hM
        exact hM
      subst hT
      clear hM
      go_wp2_with fail
      go_ret
      exact ⟨rfl, hb⟩
end Go.Proofs.YtofjedecjlodmaaGreat.KRu
