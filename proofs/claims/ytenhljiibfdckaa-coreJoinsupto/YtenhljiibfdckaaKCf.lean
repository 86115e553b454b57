/- Is one of the parts, one of the fields bound (package slices, with node's closures)? -/
import Derived.Test.YtenhljiibfdckaaKSh
namespace Go.Proofs.Ytenhljiibfdckaa.KCf
open Go.RowKit Go.Proofs.Ytenhljiibfdckaa.Base Go.Proofs.Ytenhljiibfdckaa.EPure Go.Proofs.Ytenhljiibfdckaa.KBase
set_option linter.unusedVariables false

theorem oneP_c (p : ByteArray) (b : Bool) (x : Ex) (ea : Option Addr) (ec : Nat) (w : World) :
    Calls Try.prog 38 #[.agg #[.string p, .bool b, .int .i64 x.o, .int .i64 x.i, .string x.s, .slice ea x.l.length ec]] w fun e w' => e = .returned (.bool b) ∧ Below w.heap.size w w' := by
  have b0 : Below w.heap.size w (w.alloc (.cells #[.string p, .bool b, .int .i64 x.o, .int .i64 x.i, .string x.s, .slice ea x.l.length ec] 44)) := (Below.refl _ w).alloc (Nat.le_refl _) _
  go_enter Try.func38, Try.ntmps38
  go_wp2_with fail
  go_ret
  exact ⟨rfl, b0⟩
theorem anyP_cons (l : List Pt) (q : Nat) (h : q < l.length) : (l.drop q).any Pt.b = (l[q].b || (l.drop (q + 1)).any Pt.b) := by
  rw [List.drop_eq_getElem_cons h, List.any_cons]
set_option maxRecDepth 20000 in
set_option maxHeartbeats 1600000 in
theorem indexP_c {w : World} {v : Value} {l : List Pt} {S : Nat → Prop} {r : Bool} (hin : RP r S w v l) :
    Calls Try.prog 50 #[v, .func (.func 38) #[] #[]] w fun e w' => ∃ z : Int, e = .returned (.int .i64 z) ∧ decide (0 ≤ z) = l.any Pt.b ∧ Below w.heap.size w w' := by
  obtain ⟨a, cap, rfl, hlc, hcm, hlen, hnil, hL⟩ := hin
  have HL : Hid (RwAt 6 Pt6 rmP r S w (InP r S w) a cap l) := hL
  obtain ⟨T, hT⟩ : ∃ T, l.any Pt.b = T := ⟨_, rfl⟩
  have HT : Hid ((l.drop 0).any Pt.b = T) := hT
  rw [hT]
  clear hT hL
  go_enter Try.func50, Try.ntmps50
  go_wp2_with fail
  go_loopw [8] (fun i wr => ∃ q : Nat, q ≤ l.length ∧ i = .int .i64 q ∧ (l.drop q).any Pt.b = T ∧ Below w.heap.size w wr) (fun i _ => l.length - (intOf i).toNat)
  case atStart => exact ⟨0, by omega, rfl, HT.out, Below.refl _ _⟩
  case round =>
    clear HT
    obtain ⟨q, hq, rfl, hM, hb⟩ := hrel
    have Hb : Hid (Below w.heap.size w wr) := hb
    by_cases hlt : q < l.length
    · have d0 : decide ((q : Int) < (l.length : Int)) = true := by simp; omega
      obtain ⟨g, o, u, ha, hSg, hu, hi⟩ := HL.out.elem hlt
      subst ha
      obtain ⟨v0, v1, e0, e1, e2, e3, rfl, k0, k1, k2, k3, k4, k5⟩ := hu
      obtain ⟨ea, ec, rfl, rfl, rfl, rfl, rfl, rfl, -, -⟩ := hi.six
      have k0 := below_cell k0 hb; have k1 := below_cell k1 hb; have k2 := below_cell k2 hb; have k3 := below_cell k3 hb; have k4 := below_cell k4 hb; have k5 := below_cell k5 hb
      rw [anyP_cons l q hlt] at hM
      obtain ⟨y, hy⟩ : ∃ y, l[q] = y := ⟨_, rfl⟩
      rw [hy] at k0 k1 k2 k3 k4 k5 hM
      have cO := oneP_c y.p y.b y.e ea ec wr
      obtain ⟨b, hb'⟩ : ∃ b, y.b = b := ⟨_, rfl⟩
      rw [hb'] at k1 cO hM
      have HM : Hid ((b || (l.drop (q + 1)).any Pt.b) = T) := hM
      clear hi hy hb' hM hb
      go_wp2_with fail
      refine cO.mono ?_
      rintro e W1 ⟨rfl, b1⟩
      have HB1 : Hid (Below w.heap.size w W1) := nx Hb.out b1
      clear cO b1 k0 k1 k2 k3 k4 k5
      cases b with
      | true =>
        have hT : true = T := by have := HM.out; rw [Bool.true_or] at this; exact this
        subst hT
        go_wp2_with fail
        go_ret
        exact ⟨_, rfl, by simp, HB1.out⟩
      | false =>
        go_wp2_with fail
        go_roundw
        case rel => exact ⟨q + 1, by omega, by go_num, by have := HM.out; rw [Bool.false_or] at this; exact this, HB1.out⟩
        case measure => simp only [intOf]; omega
    · have d0 : decide ((q : Int) < (l.length : Int)) = false := by simp; omega
      have hT : false = T := by
        rw [List.drop_eq_nil_of_le (by omega)] at hM
        exact hM
      subst hT
      clear hM
      go_wp2_with fail
      go_ret
      exact ⟨_, rfl, by simp, Hb.out⟩
theorem anyP_c {w : World} {v : Value} {l : List Pt} {S : Nat → Prop} {r : Bool} (hin : RP r S w v l) :
    Calls Try.prog 37 #[v, .func (.func 38) #[] #[]] w fun e w' => e = .returned (.bool (l.any Pt.b)) ∧ Below w.heap.size w w' := by
  have cI := indexP_c hin
  obtain ⟨a, cap, rfl, -⟩ := hin
  obtain ⟨T, hT⟩ : ∃ T, l.any Pt.b = T := ⟨_, rfl⟩
  rw [hT] at cI ⊢
  clear hT
  go_enter Try.func37, Try.ntmps37
  go_wp2_with fail
  refine cI.mono ?_
  rintro e W1 ⟨z, rfl, hz, b1⟩
  go_wp2_with fail
  go_ret
  exact ⟨by first | rfl | exact SFit.ret_bool rfl, b1⟩
theorem oneF_c (n p : ByteArray) (b : Bool) (x : Ex) (ea : Option Addr) (ec : Nat) (at' : Int) (w : World) :
    Calls Try.prog 40 #[.agg #[.string n, .string p, .bool b, .int .i64 x.o, .int .i64 x.i, .string x.s, .slice ea x.l.length ec, .int .i64 at']] w fun e w' => e = .returned (.bool b) ∧ Below w.heap.size w w' := by
  have b0 : Below w.heap.size w (w.alloc (.cells #[.string n, .string p, .bool b, .int .i64 x.o, .int .i64 x.i, .string x.s, .slice ea x.l.length ec, .int .i64 at'] 37)) := (Below.refl _ w).alloc (Nat.le_refl _) _
  go_enter Try.func40, Try.ntmps40
  go_wp2_with fail
  go_ret
  exact ⟨rfl, b0⟩
theorem anyF_cons (l : List Fld) (q : Nat) (h : q < l.length) : (l.drop q).any Fld.b = (l[q].b || (l.drop (q + 1)).any Fld.b) := by
  rw [List.drop_eq_getElem_cons h, List.any_cons]
set_option maxRecDepth 20000 in
set_option maxHeartbeats 1600000 in
theorem indexF_c {w : World} {v : Value} {l : List Fld} {S : Nat → Prop} {r : Bool} (hin : RF r S w v l) :
    Calls Try.prog 51 #[v, .func (.func 40) #[] #[]] w fun e w' => ∃ z : Int, e = .returned (.int .i64 z) ∧ decide (0 ≤ z) = l.any Fld.b ∧ Below w.heap.size w w' := by
  obtain ⟨a, cap, rfl, hlc, hcm, hlen, hnil, hL⟩ := hin
  have HL : Hid (RwAt 8 Fd8 rmF r S w (InF r S w) a cap l) := hL
  obtain ⟨T, hT⟩ : ∃ T, l.any Fld.b = T := ⟨_, rfl⟩
  have HT : Hid ((l.drop 0).any Fld.b = T) := hT
  rw [hT]
  clear hT hL
  go_enter Try.func51, Try.ntmps51
  go_wp2_with fail
  go_loopw [8] (fun i wr => ∃ q : Nat, q ≤ l.length ∧ i = .int .i64 q ∧ (l.drop q).any Fld.b = T ∧ Below w.heap.size w wr) (fun i _ => l.length - (intOf i).toNat)
  case atStart => exact ⟨0, by omega, rfl, HT.out, Below.refl _ _⟩
  case round =>
    clear HT
    obtain ⟨q, hq, rfl, hM, hb⟩ := hrel
    have Hb : Hid (Below w.heap.size w wr) := hb
    by_cases hlt : q < l.length
    · have d0 : decide ((q : Int) < (l.length : Int)) = true := by simp; omega
      obtain ⟨g, o, u, ha, hSg, hu, hi⟩ := HL.out.elem hlt
      subst ha
      obtain ⟨v0, v1, v2, e0, e1, e2, e3, v7, rfl, k0, k1, k2, k3, k4, k5, k6, k7⟩ := hu
      obtain ⟨ea, ec, rfl, rfl, rfl, rfl, rfl, rfl, rfl, rfl, -, -, -, -⟩ := hi.eight
      have k0 := below_cell k0 hb; have k1 := below_cell k1 hb; have k2 := below_cell k2 hb; have k3 := below_cell k3 hb; have k4 := below_cell k4 hb; have k5 := below_cell k5 hb; have k6 := below_cell k6 hb; have k7 := below_cell k7 hb
      rw [anyF_cons l q hlt] at hM
      obtain ⟨y, hy⟩ : ∃ y, l[q] = y := ⟨_, rfl⟩
      rw [hy] at k0 k1 k2 k3 k4 k5 k6 k7 hM
      have cO := oneF_c y.n y.p y.b y.e ea ec y.a wr
      obtain ⟨b, hb'⟩ : ∃ b, y.b = b := ⟨_, rfl⟩
      rw [hb'] at k2 cO hM
      have HM : Hid ((b || (l.drop (q + 1)).any Fld.b) = T) := hM
      clear hi hy hb' hM hb
      go_wp2_with fail
      refine cO.mono ?_
      rintro e W1 ⟨rfl, b1⟩
      have HB1 : Hid (Below w.heap.size w W1) := nx Hb.out b1
      clear cO b1 k0 k1 k2 k3 k4 k5 k6 k7
      cases b with
      | true =>
        have hT : true = T := by have := HM.out; rw [Bool.true_or] at this; exact this
        subst hT
        go_wp2_with fail
        go_ret
        exact ⟨_, rfl, by simp, HB1.out⟩
      | false =>
        go_wp2_with fail
        go_roundw
        case rel => exact ⟨q + 1, by omega, by go_num, by have := HM.out; rw [Bool.false_or] at this; exact this, HB1.out⟩
        case measure => simp only [intOf]; omega
    · have d0 : decide ((q : Int) < (l.length : Int)) = false := by simp; omega
      have hT : false = T := by
        rw [List.drop_eq_nil_of_le (by omega)] at hM
        exact hM
      subst hT
      clear hM
      go_wp2_with fail
      go_ret
      exact ⟨_, rfl, by simp, Hb.out⟩
theorem anyF_c {w : World} {v : Value} {l : List Fld} {S : Nat → Prop} {r : Bool} (hin : RF r S w v l) :
    Calls Try.prog 39 #[v, .func (.func 40) #[] #[]] w fun e w' => e = .returned (.bool (l.any Fld.b)) ∧ Below w.heap.size w w' := by
  have cI := indexF_c hin
  obtain ⟨a, cap, rfl, -⟩ := hin
  obtain ⟨T, hT⟩ : ∃ T, l.any Fld.b = T := ⟨_, rfl⟩
  rw [hT] at cI ⊢
  clear hT
  go_enter Try.func39, Try.ntmps39
  go_wp2_with fail
  refine cI.mono ?_
  rintro e W1 ⟨z, rfl, hz, b1⟩
  go_wp2_with fail
  go_ret
  exact ⟨by first | rfl | exact SFit.ret_bool rfl, b1⟩
end Go.Proofs.Ytenhljiibfdckaa.KCf
