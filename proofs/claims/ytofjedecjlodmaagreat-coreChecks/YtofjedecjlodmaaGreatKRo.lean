/- Rows of parts that may be (packages shape and core). -/
import Derived.Test.YtofjedecjlodmaaGreatKSh
import Derived.BigQuiet
namespace Go.Proofs.YtofjedecjlodmaaGreat.KRo
open Go.RowKit Go.Proofs.YtofjedecjlodmaaGreat.Base Go.Proofs.YtofjedecjlodmaaGreat.EPure Go.Proofs.YtofjedecjlodmaaGreat.KBase Go.Proofs.YtofjedecjlodmaaGreat.KSh
open Go.Proofs.YtofjedecjlodmaaGreat.SFit (ne ret_bool)
set_option linter.unusedVariables false

/-- May each part stand behind the one ahead of it? -/
def rw1 : Bool → List Pt → Bool
  | _, [] => true
  | z, c :: t => (c.b || ((!(c.p.size == 0)) && z)) && rw1 c.b t
/-- Is the part ahead of q bound (or is there none)? -/
def pv (l : List Pt) : Nat → Bool
  | 0 => true
  | q + 1 => match l[q]? with
    | some c => c.b
    | none => true
def rowOk (l : List Pt) : Bool := rw1 true l && decide (0 < (l.length : Int))
theorem pv_succ (l : List Pt) (q : Nat) (h : q < l.length) : pv l (q + 1) = l[q].b := by
  simp only [pv, List.getElem?_eq_getElem h]
set_option maxRecDepth 20000 in
set_option maxHeartbeats 1600000 in
theorem row_c {w : World} {v : Value} {l : List Pt} {S : Nat → Prop} {r : Bool} (hin : RP r S w v l) :
    Calls Tryz.prog 103 #[v] w fun e w' => e = .returned (.bool (rowOk l)) ∧ Below w.heap.size w w' := by
  obtain ⟨a, cap, rfl, hlc, hcm, hlen, hnil, hL⟩ := hin
  have HL : Hid (RwAt 6 Pt6 rmP r S w (InP r S w) a cap l) := hL
  obtain ⟨T, hT⟩ : ∃ T, rw1 true l = T := ⟨_, rfl⟩
  have HT : Hid (rw1 (pv l 0) (l.drop 0) = T) := hT
  have e : rowOk l = (T && decide (0 < (l.length : Int))) := by unfold rowOk; rw [hT]
  rw [e]
  clear e hT hL
  go_enter Tryz.func103, Tryz.ntmps103
  go_wp2_with fail
  go_loopw [7] (fun i wr => ∃ q : Nat, q ≤ l.length ∧ i = .int .i64 q ∧ rw1 (pv l q) (l.drop q) = T ∧ Below w.heap.size w wr) (fun i _ => l.length - (intOf i).toNat)
  case atStart => exact ⟨0, by omega, rfl, HT.out, Below.refl _ _⟩
  case round =>
    clear HT
    obtain ⟨q, hq, rfl, hM, hb⟩ := hrel
    by_cases hlt : q < l.length
    · have d0 : decide ((q : Int) < (l.length : Int)) = true := by simp; omega
      obtain ⟨g, o, u, ha, hSg, hu, hi⟩ := HL.out.elem hlt
      subst ha
      obtain ⟨v0, v1, e0, e1, e2, e3, rfl, c0, c1, c2, c3, c4, c5⟩ := hu
      obtain ⟨ea, ec, rfl, rfl, rfl, rfl, rfl, rfl, hp, -⟩ := hi.six
      have c0 := below_cell c0 hb
      have c1 := below_cell c1 hb
      have c2 := below_cell c2 hb
      have c3 := below_cell c3 hb
      have c4 := below_cell c4 hb
      have c5 := below_cell c5 hb
      have hdrop : l.drop q = l[q] :: l.drop (q + 1) := List.drop_eq_getElem_cons hlt
      have hnext := pv_succ l q hlt
      rw [hdrop, rw1] at hM
      obtain ⟨p, hp'⟩ : ∃ p, l[q].p = p := ⟨_, rfl⟩
      obtain ⟨b, hb'⟩ : ∃ b, l[q].b = b := ⟨_, rfl⟩
      obtain ⟨x, hx'⟩ : ∃ x, l[q].e = x := ⟨_, rfl⟩
      rw [hx'] at c2 c3 c4 c5
      rw [hp'] at c0 hp
      rw [hb'] at c1
      rw [hp', ← hnext] at hM
      rw [hnext.trans hb'] at hM
      have hne := ne p
      have HNX : Hid (pv l (q + 1) = b) := hnext.trans hb'
      have hM2 : rw1 b (l.drop (q + 1)) = rw1 (pv l (q + 1)) (l.drop (q + 1)) := by rw [HNX.out]
      rw [hM2] at hM
      have HB0 : Hid (Below w.heap.size w (wr.alloc (.cells #[.string p, .bool b, .int .i64 x.o, .int .i64 x.i, .string x.s, .slice ea x.l.length ec] 60))) := hb.alloc hb.size _
      have Hb : Hid (Below w.heap.size w wr) := hb
      clear hi hdrop hnext hp' hb' hx' hb hM2
      cases b with
      | true =>
        rw [Bool.true_or, Bool.true_and] at hM
        have HM : Hid (rw1 (pv l (q + 1)) (l.drop (q + 1)) = T) := hM
        clear hM
        go_wp2_with fail
        go_roundw
        case rel => exact ⟨q + 1, by omega, by go_num, HM.out, HB0.out⟩
        case measure => simp only [intOf]; omega
      | false =>
        rw [Bool.false_or] at hM
        cases hz : (p.size == 0) with
        | true =>
          rw [hz] at hne hM
          have hT : false = T := by rw [← hM]; rfl
          subst hT
          clear hM
          go_wp2_with fail
          go_ret
          exact ⟨rfl, HB0.out⟩
        | false =>
          rw [hz] at hne hM
          rw [Bool.not_false, Bool.true_and] at hM
          cases q with
          | zero =>
            have e1 : pv l 0 = true := rfl
            rw [e1, Bool.true_and] at hM
            have HM : Hid (rw1 (pv l 1) (l.drop 1) = T) := hM
            clear hM e1
            rw [Nat.zero_mul, Nat.add_zero] at c0 c1 c2 c3 c4 c5
            go_wp2_with fail
            go_roundw
            case rel => exact ⟨1, by omega, by go_num, HM.out, HB0.out⟩
            case measure => simp only [intOf]; omega
          | succ j =>
            have hj : j < l.length := by omega
            obtain ⟨g', o', u', E, -, hu', hi'⟩ := HL.out.elem hj
            obtain ⟨rfl, rfl⟩ : g = g' ∧ o = o' := by cases E; exact ⟨rfl, rfl⟩
            obtain ⟨v0', v1', e0', e1', e2', e3', rfl, -, c1', -, -, -, -⟩ := hu'
            obtain ⟨-, rfl, -, -⟩ := hi'.kinds
            have c1' := below_cell (below_cell c1' Hb.out) ((Below.refl _ wr).alloc (Nat.le_refl _) (.cells #[.string p, .bool false, .int .i64 x.o, .int .i64 x.i, .string x.s, .slice ea x.l.length ec] 60))
            obtain ⟨z, hz'⟩ : ∃ z, l[j].b = z := ⟨_, rfl⟩
            rw [hz'] at c1'
            rw [pv_succ l j hj, hz'] at hM
            have hj1 : ((j + 1 : Nat) : Int) - 1 = (j : Int) := by omega
            have hj2 : (0 : Int) ≤ (j : Int) := by omega
            have hj3 : (j : Int) < (l.length : Int) := by omega
            have hj4 : decide ((0 : Int) < ((j + 1 : Nat) : Int)) = true := decide_eq_true (by omega)
            clear hi' E hz'
            cases z with
            | true =>
              rw [Bool.true_and] at hM
              have HM : Hid (rw1 (pv l (j + 1 + 1)) (l.drop (j + 1 + 1)) = T) := hM
              clear hM
              go_wp2_with fail
              go_roundw
              case rel => exact ⟨j + 1 + 1, by omega, by go_num, HM.out, HB0.out⟩
              case measure => simp only [intOf]; omega
            | false =>
              have hT : false = T := by rw [← hM]; rfl
              subst hT
              clear hM
              go_wp2_with fail
              go_ret
              exact ⟨rfl, HB0.out⟩
    · have d0 : decide ((q : Int) < (l.length : Int)) = false := by simp; omega
      have hT : true = T := by
        rw [List.drop_eq_nil_of_le (by omega), rw1] at hM
        exact hM
      subst hT
      clear hM
      go_wp2_with fail
      go_ret
      exact ⟨ret_bool (by simp), hb⟩
/-- A text's parts that may be. -/
def prOk (l : List Pt) : Bool := l.all vOk && rowOk l
set_option maxRecDepth 20000 in
set_option maxHeartbeats 1600000 in
theorem parts_c {w : World} {v : Value} {l : List Pt} {S : Nat → Prop} {r : Bool} (hin : RP r S w v l) :
    Calls Tryz.prog 93 #[v] w fun e w' => e = .returned (.bool (prOk l)) ∧ Below w.heap.size w w' := by
  have HR : Hid (RP r S w v l) := hin
  obtain ⟨a, cap, rfl, hlc, hcm, hlen, hnil, hL⟩ := hin
  have HL : Hid (RwAt 6 Pt6 rmP r S w (InP r S w) a cap l) := hL
  obtain ⟨T, hT⟩ : ∃ T, l.all vOk = T := ⟨_, rfl⟩
  have HT : Hid ((l.drop 0).all vOk = T) := hT
  have e : prOk l = (T && rowOk l) := by unfold prOk; rw [hT]
  rw [e]
  clear e hT hL
  go_enter Tryz.func93, Tryz.ntmps93
  go_wp2_with fail
  go_loopw [7] (fun i wr => ∃ q : Nat, q ≤ l.length ∧ i = .int .i64 q ∧ (l.drop q).all vOk = T ∧ Below w.heap.size w wr) (fun i _ => l.length - (intOf i).toNat)
  case atStart => exact ⟨0, by omega, rfl, HT.out, Below.refl _ _⟩
  case round =>
    clear HT
    obtain ⟨q, hq, rfl, hM, hb⟩ := hrel
    have Hb : Hid (Below w.heap.size w wr) := hb
    by_cases hlt : q < l.length
    · have d0 : decide ((q : Int) < (l.length : Int)) = true := by simp; omega
      obtain ⟨g, o, u, ha, hSg, hu, hi⟩ := HL.out.elem hlt
      subst ha
      have hi2 := hi.keep (Keep.of_below hb)
      obtain ⟨v0, v1, e0, e1, e2, e3, rfl, c0, c1, c2, c3, c4, c5⟩ := hu
      obtain ⟨ea, ec, rfl, rfl, rfl, rfl, rfl, rfl, hp, -⟩ := hi.six
      have c0 := below_cell c0 hb
      have c1 := below_cell c1 hb
      have c2 := below_cell c2 hb
      have c3 := below_cell c3 hb
      have c4 := below_cell c4 hb
      have c5 := below_cell c5 hb
      have hdrop : l.drop q = l[q] :: l.drop (q + 1) := List.drop_eq_getElem_cons hlt
      rw [hdrop, List.all_cons] at hM
      obtain ⟨p, hp'⟩ : ∃ p, l[q].p = p := ⟨_, rfl⟩
      obtain ⟨b, hb'⟩ : ∃ b, l[q].b = b := ⟨_, rfl⟩
      obtain ⟨x, hx'⟩ : ∃ x, l[q].e = x := ⟨_, rfl⟩
      rw [hx'] at c2 c3 c4 c5
      obtain ⟨W0, hW0, b0, hs0, q0⟩ := six_new (w := wr) (.string p) (.bool b) (.int .i64 x.o) (.int .i64 x.i) (.string x.s) (.slice ea x.l.length ec) 60
      have cV := value_c (hi2.keep (Keep.of_below b0))
      rw [hp', hb', hx'] at cV
      rw [hp'] at c0 hp
      rw [hb'] at c1
      obtain ⟨z, hz⟩ : ∃ z, vOk l[q] = z := ⟨_, rfl⟩
      rw [hz] at cV hM
      obtain ⟨k0, k1, k2, k3, k4, k5⟩ := six_box q0
      have HB0 : Hid (Below w.heap.size w W0) := nx hb b0
      have HM : Hid ((z && (l.drop (q + 1)).all vOk) = T) := hM
      clear hi hi2 hdrop hp' hb' hx' hb hz q0 b0 hM
      go_wp2_with fail
      try rw [hW0]
      refine cV.mono ?_
      rintro e W1 ⟨rfl, b1⟩
      have HB1 : Hid (Below w.heap.size w W1) := nx HB0.out b1
      clear cV b1 hW0
      cases z with
      | true =>
        go_wp2_with fail
        go_roundw
        case rel => exact ⟨q + 1, by omega, by go_num, by have := HM.out; rw [Bool.true_and] at this; exact this, HB1.out⟩
        case measure => simp only [intOf]; omega
      | false =>
        have hT : false = T := by have := HM.out; rw [Bool.false_and] at this; exact this
        subst hT
        go_wp2_with fail
        go_ret
        exact ⟨rfl, HB1.out⟩
    · have d0 : decide ((q : Int) < (l.length : Int)) = false := by simp; omega
      have hT : true = T := by
        rw [List.drop_eq_nil_of_le (by omega)] at hM
        exact hM
      subst hT
      have cR := row_c (RP.keep (Keep.of_below hb) HR.out)
      clear hM hb
      go_wp2_with fail
      refine cR.mono ?_
      rintro e W1 ⟨rfl, b1⟩
      go_wp2_with fail
      go_ret
      exact ⟨ret_bool (by simp), nx Hb.out b1⟩
end Go.Proofs.YtofjedecjlodmaaGreat.KRo
