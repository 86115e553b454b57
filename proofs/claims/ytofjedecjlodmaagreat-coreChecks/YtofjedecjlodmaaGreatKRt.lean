/- Parts and fields that may be: the document's own answer (stencilref15.parts, fields). -/
import Derived.Test.YtofjedecjlodmaaGreatKRe
import Derived.Test.YtofjedecjlodmaaGreatKRo
import Derived.Test.YtofjedecjlodmaaGreatKFd
import Derived.BigQuiet
import Derived.Laws.Cover1
namespace Go.Proofs.YtofjedecjlodmaaGreat.KRt
open Go.RowKit Go.Proofs.YtofjedecjlodmaaGreat.Base Go.Proofs.YtofjedecjlodmaaGreat.UBase Go.Proofs.YtofjedecjlodmaaGreat.EPure Go.Proofs.YtofjedecjlodmaaGreat.KBase Go.Proofs.YtofjedecjlodmaaGreat.KSh Go.Proofs.YtofjedecjlodmaaGreat.KRo Go.Proofs.YtofjedecjlodmaaGreat.KFd
open Go.Proofs.YtofjedecjlodmaaGreat.SFit (ne ret_bool)
open Go.Proofs.YtofjedecjlodmaaGreat.STx (tg)
open Go.Proofs.YtofjedecjlodmaaGreat.XBase (four_box)
set_option linter.unusedVariables false

set_option maxRecDepth 20000 in
set_option maxHeartbeats 1600000 in
theorem zeroX_c {w : World} {x : Ex} {a : Option Addr} {cap : Nat} (hl : x.l.length ≤ 140737488351232) :
    Calls Tryz.prog 89 #[.agg #[.int .i64 x.o, .int .i64 x.i, .string x.s, .slice a x.l.length cap]] w fun e w' => e = .returned (.bool (nn x)) ∧ Below w.heap.size w w' := by
  have b0 : Below w.heap.size w (w.alloc (.cells #[.int .i64 x.o, .int .i64 x.i, .string x.s, .slice a x.l.length cap] 58)) := (Below.refl _ w).alloc (Nat.le_refl _) _
  unfold nn
  have hne := ne x.s
  obtain ⟨o, ho⟩ : ∃ o, x.o = o := ⟨_, rfl⟩
  obtain ⟨i, hi⟩ : ∃ i, x.i = i := ⟨_, rfl⟩
  obtain ⟨s, hs⟩ : ∃ s, x.s = s := ⟨_, rfl⟩
  obtain ⟨n, hn⟩ : ∃ n, x.l.length = n := ⟨_, rfl⟩
  rw [ho, hi, hs, hn] at b0
  rw [hn] at hl
  rw [hs] at hne
  rw [ho, hi, hs, hn]
  clear ho hi hs hn
  suffices H : ∀ (x0 x1 x2 x3 : Bool), (o == 0) = x0 → (i == 0) = x1 → s.toList.isEmpty = x2 → ((n : Int) == 0) = x3 → Calls Tryz.prog 89 #[.agg #[.int .i64 o, .int .i64 i, .string s, .slice a n cap]] w fun e w' => e = .returned (.bool (x0 && (x1 && (x2 && x3)))) ∧ Below w.heap.size w w' by
    have := H _ _ _ _ rfl rfl rfl rfl
    rw [hne] at this
    exact this
  clear hne
  intro x0 x1 x2 x3 h0 h1 h2 h3
  cases x0
  all_goals try cases x1
  all_goals try cases x2
  all_goals
    go_enter Tryz.func89, Tryz.ntmps89
    go_wp2_with fail
    go_ret
    exact ⟨ret_bool rfl, b0⟩
theorem tagR_c (s : ByteArray) (hs : s.size ≤ 140737488351232) (w : World) : Calls Tryz.prog 68 #[.string s] w fun e w' => e = .returned (.bool (word s 45)) ∧ w' = w := by
  have c := UWord.ref_c s (by omega) 45 w
  generalize word s 45 = b at *
  go_enter Tryz.func68, Tryz.ntmps68
  go_wp2_with (first | (go_at_call 90; refine c.mono ?_; rintro e w' ⟨rfl, rfl⟩))
  go_ret
  exact ⟨rfl, rfl⟩
/-- May a part stand behind one that is bound (or none)? -/
def po (z : Bool) (c : Pt) : Bool := if c.b = true then c.p.size == 0 else (!(c.p.size == 0)) && (tg c.p && (nn c.e && z))
def pk : Bool → List Pt → Bool
  | _, [] => true
  | z, c :: t => po z c && pk c.b t
theorem pk_eq : ∀ (l : List Pt) (z : Bool), pk z l = (l.all vOk && rw1 z l)
  | [], z => rfl
  | c :: t, z => by
    rw [pk, pk_eq t, List.all_cons, rw1]
    generalize t.all vOk = A
    obtain ⟨p, b, x⟩ := c
    dsimp only
    generalize rw1 b t = R
    unfold po vOk
    dsimp only
    generalize (p.size == 0) = E
    generalize tg p = G
    generalize nn x = X
    cases b <;> cases E <;> cases G <;> cases X <;> cases z <;> cases A <;> cases R <;> rfl
theorem pr_eq (l : List Pt) : prOk l = (pk true l && decide (0 < (l.length : Int))) := by
  unfold prOk rowOk
  rw [pk_eq, Bool.and_assoc]
set_option maxRecDepth 20000 in
set_option maxHeartbeats 3200000 in
theorem partsR_c {w : World} {v : Value} {l : List Pt} {S : Nat → Prop} {r : Bool} (hin : RP r S w v l) :
    Calls Tryz.prog 67 #[v] w fun e w' => e = .returned (.bool (prOk l)) ∧ Below w.heap.size w w' := by
  obtain ⟨a, cap, rfl, hlc, hcm, hlen, hnil, hL⟩ := hin
  have HL : Hid (RwAt 6 Pt6 rmP r S w (InP r S w) a cap l) := hL
  rw [pr_eq]
  obtain ⟨T, hT⟩ : ∃ T, pk true l = T := ⟨_, rfl⟩
  have HT : Hid (pk (pv l 0) (l.drop 0) = T) := hT
  rw [hT]
  clear hT hL
  go_enter Tryz.func67, Tryz.ntmps67
  go_wp2_with fail
  go_loopw [3] (fun i wr => ∃ q : Nat, q ≤ l.length ∧ i = .int .i64 q ∧ pk (pv l q) (l.drop q) = T ∧ Below w.heap.size w wr) (fun i _ => l.length - (intOf i).toNat)
  case atStart => exact ⟨0, by omega, rfl, HT.out, Below.refl _ _⟩
  case round =>
    clear HT
    obtain ⟨q, hq, rfl, hM, hb⟩ := hrel
    have Hb : Hid (Below w.heap.size w wr) := hb
    by_cases hlt : q < l.length
    · have d0 : decide ((q : Int) < (l.length : Int)) = true := by simp; omega
      have i0 : (0 : Int) ≤ (q : Int) := by omega
      have i1 : (q : Int) < (l.length : Int) := by omega
      obtain ⟨g, o, u, ha, hSg, hu, hi⟩ := HL.out.elem hlt
      subst ha
      obtain ⟨v0, v1, e0, e1, e2, e3, rfl, c0, c1, c2, c3, c4, c5⟩ := hu
      obtain ⟨ea, ec, rfl, rfl, rfl, rfl, rfl, rfl, hp, hxl⟩ := hi.six
      have c0 := below_cell c0 hb
      have c1 := below_cell c1 hb
      have c2 := below_cell c2 hb
      have c3 := below_cell c3 hb
      have c4 := below_cell c4 hb
      have c5 := below_cell c5 hb
      have hdrop : l.drop q = l[q] :: l.drop (q + 1) := List.drop_eq_getElem_cons hlt
      have hnext := pv_succ l q hlt
      rw [hdrop, pk, ← hnext] at hM
      obtain ⟨y, hy⟩ : ∃ y, l[q] = y := ⟨_, rfl⟩
      rw [hy] at c0 c1 c2 c3 c4 c5 hp hM hxl
      obtain ⟨p, b, x⟩ := y
      dsimp only at c0 c1 c2 c3 c4 c5 hp hM hxl
      obtain ⟨W0, hW0, b0, hs0, q0⟩ := six_new (w := wr) (.string p) (.bool b) (.int .i64 x.o) (.int .i64 x.i) (.string x.s) (.slice ea x.l.length ec) 60
      obtain ⟨k0, k1, k2, k3, k4, k5⟩ := six_box q0
      have HB0 : Hid (Below w.heap.size w W0) := nx hb b0
      have Hb0 : Hid (Below wr.heap.size wr W0) := b0
      have HQ0 : Hid (W0.heap[wr.heap.size]? = some (.cells #[.string p, .bool b, .int .i64 x.o, .int .i64 x.i, .string x.s, .slice ea x.l.length ec] 60 (0, 0))) := q0
      have cG := fun W => KQv.good_c p hp W
      have cN := fun W => zeroX_c (w := W) (x := x) (a := ea) (cap := ec) (by omega)
      have hne := ne p
      obtain ⟨Z, hZ⟩ : ∃ Z, pk (pv l (q + 1)) (l.drop (q + 1)) = Z := ⟨_, rfl⟩
      have HZ : Hid (pk (pv l (q + 1)) (l.drop (q + 1)) = Z) := hZ
      rw [hZ] at hM
      obtain ⟨zt, hzt⟩ : ∃ zt, tg p = zt := ⟨_, rfl⟩
      obtain ⟨zn, hzn⟩ : ∃ zn, nn x = zn := ⟨_, rfl⟩
      obtain ⟨ze, hze⟩ : ∃ ze, (p.size == 0) = ze := ⟨_, rfl⟩
      have hpo : po (pv l q) ⟨p, b, x⟩ = if b = true then ze else (!ze) && (zt && (zn && pv l q)) := by rw [← hzt, ← hzn, ← hze]; rfl
      rw [hpo] at hM
      rw [hzt] at cG
      rw [hzn] at cN
      rw [hze] at hne
      have HM : Hid (((if b = true then ze else (!ze) && (zt && (zn && pv l q))) && Z) = T) := hM
      clear hi hdrop hnext hb hy q0 b0 hZ hpo hM hzt hzn hze hxl
      cases b with
      | true =>
        cases ze with
        | true =>
          have HM3 : Hid (Z = T) := by show _ = _; simpa using HM.out
          have HM2 : Hid (pk (pv l (q + 1)) (l.drop (q + 1)) = T) := HZ.out.trans HM3.out
          clear HM3 HM
          go_wp2_with fail
          try rw [hW0]
          clear hW0
          go_wp2_with fail
          go_roundw
          case rel => exact ⟨q + 1, by omega, by go_num, HM2.out, HB0.out⟩
          case measure => simp only [intOf]; omega
        | false =>
          have hT : T = false := by simpa using HM.out.symm
          subst hT
          clear HM
          go_wp2_with fail
          try rw [hW0]
          go_ret
          exact ⟨rfl, HB0.out⟩
      | false =>
        cases ze with
        | true =>
          have hT : T = false := by simpa using HM.out.symm
          subst hT
          clear HM
          go_wp2_with fail
          try rw [hW0]
          go_ret
          exact ⟨rfl, HB0.out⟩
        | false =>
          cases zt with
          | false =>
            have hT : T = false := by simpa using HM.out.symm
            subst hT
            clear HM
            go_wp2_with fail
            try rw [hW0]
            refine (cG _).mono ?_
            rintro e w' ⟨rfl, hw'⟩
            subst w'
            go_wp2_with fail
            go_ret
            exact ⟨rfl, HB0.out⟩
          | true =>
            cases zn with
            | false =>
              have hT : T = false := by simpa using HM.out.symm
              subst hT
              clear HM
              go_wp2_with fail
              try rw [hW0]
              refine (cG _).mono ?_
              rintro e w' ⟨rfl, hw'⟩
              subst w'
              go_wp2_with fail
              refine (cN _).mono ?_
              rintro e W1 ⟨rfl, b1⟩
              have HB1 : Hid (Below w.heap.size w W1) := nx HB0.out b1
              clear b1
              go_wp2_with fail
              go_ret
              exact ⟨rfl, HB1.out⟩
            | true =>
              have HM3 : Hid ((pv l q && Z) = T) := by show _ = _; simpa using HM.out
              clear HM
              cases q with
              | zero =>
                have HM2 : Hid (pk (pv l 1) (l.drop 1) = T) := HZ.out.trans (by simpa [pv] using HM3.out)
                rw [Nat.zero_mul, Nat.add_zero] at c0 c1 c2 c3 c4 c5
                clear HM3
                go_wp2_with fail
                try rw [hW0]
                refine (cG _).mono ?_
                rintro e w' ⟨rfl, hw'⟩
                subst w'
                go_wp2_with fail
                refine (cN _).mono ?_
                rintro e W1 ⟨rfl, b1⟩
                have HB1 : Hid (Below w.heap.size w W1) := nx HB0.out b1
                clear b1
                go_wp2_with fail
                go_roundw
                case rel => exact ⟨1, by omega, by go_num, HM2.out, HB1.out⟩
                case measure => simp only [intOf]; omega
              | succ j =>
                have hj : j < l.length := by omega
                obtain ⟨g', o', u', E, -, hu', hi'⟩ := HL.out.elem hj
                obtain ⟨rfl, rfl⟩ : g = g' ∧ o = o' := by cases E; exact ⟨rfl, rfl⟩
                obtain ⟨w0, w1, e0', e1', e2', e3', rfl, -, c1', -, -, -, -⟩ := hu'
                obtain ⟨ea', ec', rfl, rfl, rfl, rfl, rfl, rfl, -, -⟩ := hi'.six
                have c1' := below_cell (below_cell c1' Hb.out) Hb0.out
                have Hc1 : Hid (W0.cell? ⟨g, o + j * 6 + 1, none⟩ = some (.bool l[j].b)) := c1'
                have hm := HM3.out
                rw [pv_succ l j hj] at hm
                obtain ⟨zb, hzb⟩ : ∃ zb, l[j].b = zb := ⟨_, rfl⟩
                rw [hzb] at hm Hc1
                have hj1 : ((j + 1 : Nat) : Int) - 1 = (j : Int) := by omega
                have hj2 : (0 : Int) ≤ (j : Int) := by omega
                have hj3 : (j : Int) < (l.length : Int) := by omega
                have hj4 : decide ((0 : Int) < ((j + 1 : Nat) : Int)) = true := decide_eq_true (by omega)
                have hj5 : IntKind.i64.wrap (((j + 1 : Nat) : Int) - 1) = (j : Int) := by rw [IntKind.wrap_i64]; omega
                have hj6 : IntKind.i64.wrap (j : Int) = (j : Int) := by rw [IntKind.wrap_i64]; omega
                have HM4 : Hid ((zb && Z) = T) := hm
                clear hi' E hzb c1' hm HM3
                go_wp2_with fail
                try rw [hW0]
                refine (cG _).mono ?_
                rintro e w' ⟨rfl, hw'⟩
                subst w'
                go_wp2_with fail
                refine (cN _).mono ?_
                rintro e W1 ⟨rfl, b1⟩
                have HB1 : Hid (Below w.heap.size w W1) := nx HB0.out b1
                have p1 := below_cell Hc1.out b1
                clear b1 Hc1
                cases zb with
                | true =>
                  have HM2 : Hid (pk (pv l (j + 1 + 1)) (l.drop (j + 1 + 1)) = T) := HZ.out.trans (by simpa using HM4.out)
                  go_wp2_with fail
                  go_roundw
                  case rel => exact ⟨j + 1 + 1, by omega, by go_num, HM2.out, HB1.out⟩
                  case measure => simp only [intOf]; omega
                | false =>
                  have hT : T = false := by simpa using HM4.out.symm
                  subst hT
                  clear HM4
                  go_wp2_with fail
                  go_ret
                  exact ⟨rfl, HB1.out⟩
    · have d0 : decide ((q : Int) < (l.length : Int)) = false := by simp; omega
      have hT : true = T := by
        rw [List.drop_eq_nil_of_le (by omega), pk] at hM
        exact hM
      subst hT
      clear hM
      go_wp2_with fail
      go_ret
      exact ⟨ret_bool (by simp), hb⟩
end Go.Proofs.YtofjedecjlodmaaGreat.KRt
