/- Expressions: the walk of the law ExprForms. -/
import Derived.Test.YtofpdnhnlkocoaaDoorPX34
import Derived.Test.YtofpdnhnlkocoaaDoorPX29
import Derived.Test.YtofpdnhnlkocoaaDoorPX30
namespace Go.Proofs.YtofpdnhnlkocoaaDoor.WFormsX
open Go.RowKit Go.Proofs.YtofpdnhnlkocoaaDoor.EPure Go.Proofs.YtofpdnhnlkocoaaDoor.EPs Go.Proofs.YtofpdnhnlkocoaaDoor.EAw Go.Proofs.YtofpdnhnlkocoaaDoor.XSm Go.Proofs.YtofpdnhnlkocoaaDoor.EWr
open Go.Proofs.YtofpdnhnlkocoaaDoor.XBase (four_box two_box frozen_box Rg)
open Go.Proofs.YtofpdnhnlkocoaaDoor.Base (All heap_alloc_new)
open Go.Proofs.YtofpdnhnlkocoaaDoor.PPr (pr)
open Go.Proofs.YtofpdnhnlkocoaaDoor.PMay (mayL)
set_option linter.unusedVariables false

theorem wr_eq (s : ByteArray) : (⟨#[32, 10, 40]⟩ : ByteArray) ++ s ++ ⟨#[9, 41, 32]⟩ = wr s := by
  apply ByteArray.ext
  apply Array.toList_inj.1
  simp [wr]
/-- An expression that Parse has handed out, in its box. -/
structure Bo (w : World) (B : Nat) (x : Ex) (m : Nat) (a : Option Addr) (c : Nat) : Prop where
  box : w.heap[B]? = some (.cells #[.int .i64 x.o, .int .i64 x.i, .string x.s, .slice a x.l.length c] 24 (0, 0))
  lt : B < w.heap.size
  inn : XBase.In false (fun b => b < w.heap.size) w m (.agg #[.int .i64 x.o, .int .i64 x.i, .string x.s, .slice a x.l.length c]) x
theorem Bo.later {w w' : World} {B m c : Nat} {x : Ex} {a : Option Addr} (h : Bo w B x m a c) (hb : Below w.heap.size w w') : Bo w' B x m a c :=
  ⟨(hb.block B h.lt).trans h.box, Nat.lt_of_lt_of_le h.lt hb.size, (h.inn.below hb).weak (fun b hb' => Nat.lt_of_lt_of_le hb' hb.size) false id m (Nat.le_refl _)⟩
theorem Bo.mk' {w w' : World} {m c lo : Nat} {x : Ex} {a : Option Addr} (hin : XBase.In false (Rg lo w.heap.size) w m (.agg #[.int .i64 x.o, .int .i64 x.i, .string x.s, .slice a x.l.length c]) x)
    (hW : w.alloc (.cells #[.int .i64 x.o, .int .i64 x.i, .string x.s, .slice a x.l.length c] 24) = w') : Bo w' w.heap.size x m a c ∧ Below w.heap.size w w' := by
  have d : Below w.heap.size w w' := by rw [← hW]; exact (Below.refl _ w).alloc (Nat.le_refl _) _
  refine ⟨⟨by rw [← hW]; exact heap_alloc_new w _, by rw [← hW]; simp, (hin.below d).weak (fun b hb => Nat.lt_of_lt_of_le hb.2 d.size) false id m (Nat.le_refl _)⟩, d⟩
/-- What the three readings come to. -/
theorem facts {s : ByteArray} {x : Ex} (hp : prs s = .ok x) : (PPp.ptx x = pr (-1) x ∧ PPp.pcd x = 0 ∧ (pr (-1) x).length ≤ 100000000000) ∧ (prs ⟨(pr (-1) x).toArray⟩ = .ok x ∨ ∃ c p, prs ⟨(pr (-1) x).toArray⟩ = .error (c, p) ∧ (c = 1001 ∨ c = 1002)) ∧ (prs (wr s) = .ok x ∨ ∃ c p, prs (wr s) = .error (c, p) ∧ (c = 1001 ∨ c = 1002)) := by
  obtain ⟨h1, h2, h3⟩ := EGd.prs_good hp
  refine ⟨⟨by unfold PPp.ptx; rw [if_pos h1], by unfold PPp.pcd; rw [if_pos h1], PLen.pr_len h3 h1⟩, ?_, ?_⟩
  · rcases EBn.back h2 h3 with h | ⟨⟨c, p⟩, h, hb⟩
    · exact .inl h
    · exact .inr ⟨c, p, h, hb⟩
  · rcases wrapped hp with h | ⟨⟨c, p⟩, h, hb⟩
    · exact .inl h
    · exact .inr ⟨c, p, h, hb⟩
/-- Nothing, as Parse hands it out beside a fault. -/
def nx : Ex := .mk 0 0 ⟨#[]⟩ []
theorem may_nx : (mayL [nx] 512).1 = false := by
  unfold nx
  rw [PMay.mayL_no (.inr (.inl (by decide)))]
/-- What Parse hands out, in one form: the expression or nothing, its code. -/
def Pany (w : World) (e : Ending) (w' : World) (y : Ex) (c p : Nat) : Prop := Below w.heap.size w w' ∧ ∃ m a k, e = .returned (.tuple #[.agg #[.int .i64 y.o, .int .i64 y.i, .string y.s, .slice a y.l.length k], .int .i64 p, .int .i64 c]) ∧ XBase.In false (Rg w.heap.size w'.heap.size) w' m (.agg #[.int .i64 y.o, .int .i64 y.i, .string y.s, .slice a y.l.length k]) y
theorem in_nx (w : World) (S : Nat → Prop) : XBase.In false S w 1 (.agg #[.int .i64 nx.o, .int .i64 nx.i, .string nx.s, .slice none nx.l.length 0]) nx := by
  unfold nx
  rw [XBase.In]
  exact ⟨none, 0, rfl, by omega, by omega, by decide, by simp, by omega, by simp, fun _ => rfl, .inl ⟨rfl, rfl⟩⟩
theorem any_of {t : ByteArray} {x : Ex} (h : prs t = .ok x ∨ ∃ c p, prs t = .error (c, p) ∧ (c = 1001 ∨ c = 1002)) : ∃ y c p, ((c = 0 ∧ y = x) ∨ ((c = 1001 ∨ c = 1002) ∧ y = nx)) ∧ ∀ w e w', Pout w e w' (prs t) → Pany w e w' y c p := by
  rcases h with h | ⟨c, p, h, hc⟩
  · refine ⟨x, 0, 0, .inl ⟨rfl, rfl⟩, fun w e w' ho => ?_⟩
    rw [h] at ho
    obtain ⟨b, m, a, k, rfl, hin⟩ := ho
    exact ⟨b, m, a, k, rfl, hin⟩
  · refine ⟨nx, c, p, .inr ⟨hc, rfl⟩, fun w e w' ho => ?_⟩
    rw [h] at ho
    obtain ⟨b, rfl⟩ := ho
    exact ⟨b, 1, none, 0, rfl, in_nx _ _⟩
set_option maxRecDepth 20000 in
set_option maxHeartbeats 6400000 in
theorem walk {w : World} (s : ByteArray) (hs : s.size ≤ 140737488351232) (ht : TX w) : Calls Tryd.prog 4 #[.string s] w fun e w' => e = .returned (.bool true) ∧ Below w.heap.size w w' := by
  have HT : Hid (TX w) := ht
  have c0 := awake_c ht
  have HZ : Hid (s.size ≤ 140737488351232) := hs
  clear ht
  go_enter Tryd.func4, Tryd.ntmps4
  go_wp2_with fail
  refine c0.mono ?_
  rintro e W1 ⟨rfl, b1⟩
  have HB1 : Hid (Below w.heap.size w W1) := b1
  have c1 := parse_x (s := s) (by omega) (HT.out.later b1)
  clear b1 c0
  cases hp : prs s with
  | error f =>
    obtain ⟨c, p⟩ := f
    obtain ⟨hc0, hpl⟩ := EEr.prs_err hp
    rw [hp] at c1
    clear hp
    have hc0' : ((c : Int) != 0) = true := by simp only [bne_iff_ne, ne_eq]; simp only at hc0; omega
    simp only at hpl
    go_wp2_with fail
    refine c1.mono ?_
    rintro e W2 ⟨b2, rfl⟩
    have HB2 : Hid (Below w.heap.size w W2) := HB1.out.trans (b2.mono HB1.out.size)
    clear b2 c1 hc0
    go_wp2_with (first | (go_at_call 10; refine (num_c _ _).mono ?_; rintro e w' ⟨rfl, hw'⟩; subst w'))
    all_goals first | (exfalso; omega) | skip
    go_ret
    exact ⟨rfl, HB2.out.alloc HB2.out.size _⟩
  | ok x =>
    obtain ⟨⟨f1, f2, f3⟩, f4, f5⟩ := facts hp
    obtain ⟨T, hT⟩ : ∃ T, pr (-1) x = T := ⟨_, rfl⟩
    rw [hT] at f1 f3 f4
    obtain ⟨yg, cg, pg, hg, ag⟩ := any_of f4
    obtain ⟨yi, ci, pi, hi, ai⟩ := any_of f5
    have HG : Hid (∀ W, TX W → Calls Tryd.prog 11 #[.string ⟨T.toArray⟩] W fun e w' => Pany W e w' yg cg pg) := fun W hW => (parse_x (by show T.toArray.size ≤ _; simp; omega) hW).mono fun e w' => ag W e w'
    have HI : Hid (∀ W, TX W → Calls Tryd.prog 11 #[.string (⟨#[32, 10, 40]⟩ ++ s ++ ⟨#[9, 41, 32]⟩)] W fun e w' => Pany W e w' yi ci pi) := fun W hW => by
      rw [wr_eq]
      exact (parse_x (by rw [wr_size]; omega) hW).mono fun e w' => ai W e w'
    have HC : Hid (((cg = 0 ∧ yg = x) ∨ ((cg = 1001 ∨ cg = 1002) ∧ yg = nx)) ∧ ((ci = 0 ∧ yi = x) ∨ ((ci = 1001 ∨ ci = 1002) ∧ yi = nx))) := ⟨hg, hi⟩
    rw [hp] at c1
    have HF : Hid (PPp.ptx x = T ∧ PPp.pcd x = 0) := ⟨f1, f2⟩
    clear hp hT f3 f4 f5 ag ai hg hi
    go_wp2_with fail
    refine c1.mono ?_
    rintro e W2 ⟨b2, m2, a2, k2, rfl, in2⟩
    obtain ⟨W3, hW3⟩ : ∃ W3, W2.alloc (.cells #[.int .i64 x.o, .int .i64 x.i, .string x.s, .slice a2 x.l.length k2] 24) = W3 := ⟨_, rfl⟩
    obtain ⟨o3, d3⟩ := Bo.mk' in2 hW3
    have hb3 : Below w.heap.size w W3 := HB1.out.trans ((b2.trans (d3.mono b2.size)).mono HB1.out.size)
    have cP := print_x o3.inn (HT.out.later hb3)
    rw [f1, f2] at cP
    obtain ⟨y0, y1, y2, y3⟩ := four_box o3.box
    have HB3 : Hid (Below w.heap.size w W3) := hb3
    have O3 : Hid (Bo W3 W2.heap.size x m2 a2 k2) := o3
    clear b2 in2 d3 hb3 c1 o3 f1 f2
    go_wp2_with (first | (go_at_call 10; refine (num_c _ _).mono ?_; rintro e w' ⟨rfl, hw'⟩; subst w'))
    clear hW3
    refine cP.mono ?_
    rintro e W4 ⟨rfl, b4⟩
    have hb4 : Below w.heap.size w W4 := HB3.out.trans (b4.mono HB3.out.size)
    have O4 : Hid (Bo W4 W2.heap.size x m2 a2 k2) := O3.out.later b4
    have HB4 : Hid (Below w.heap.size w W4) := hb4
    have cG := HG.out W4 (HT.out.later hb4)
    clear y0 y1 y2 y3 cP b4 hb4 O3 HG
    go_wp2_with fail
    refine cG.mono ?_
    rintro e W5 ⟨b5, m5, a5, k5, rfl, in5⟩
    obtain ⟨W6, hW6⟩ : ∃ W6, W5.alloc (.cells #[.int .i64 yg.o, .int .i64 yg.i, .string yg.s, .slice a5 yg.l.length k5] 24) = W6 := ⟨_, rfl⟩
    obtain ⟨o6, d6⟩ := Bo.mk' in5 hW6
    have e6 := b5.trans (d6.mono b5.size)
    have hb6 : Below w.heap.size w W6 := HB4.out.trans (e6.mono HB4.out.size)
    have O6 : Hid (Bo W6 W2.heap.size x m2 a2 k2) := O4.out.later e6
    have P6 : Hid (Bo W6 W5.heap.size yg m5 a5 k5) := o6
    have cQ := print_x o6.inn (HT.out.later hb6)
    obtain ⟨T2, hT2⟩ : ∃ T2, PPp.ptx yg = T2 := ⟨_, rfl⟩
    obtain ⟨h2, hh2⟩ : ∃ h2, PPp.pcd yg = h2 := ⟨_, rfl⟩
    have HT2 : Hid (PPp.ptx yg = T2 ∧ PPp.pcd yg = h2) := ⟨hT2, hh2⟩
    rw [hT2, hh2] at cQ
    obtain ⟨y0, y1, y2, y3⟩ := four_box o6.box
    have HB6 : Hid (Below w.heap.size w W6) := hb6
    clear b5 in5 d6 e6 hb6 cG o6 O4 hT2 hh2
    go_wp2_with fail
    clear hW6
    refine cQ.mono ?_
    rintro e W7 ⟨rfl, b7⟩
    have hb7 : Below w.heap.size w W7 := HB6.out.trans (b7.mono HB6.out.size)
    have O7 : Hid (Bo W7 W2.heap.size x m2 a2 k2) := O6.out.later b7
    have P7 : Hid (Bo W7 W5.heap.size yg m5 a5 k5) := P6.out.later b7
    have HB7 : Hid (Below w.heap.size w W7) := hb7
    have cI := HI.out W7 (HT.out.later hb7)
    clear y0 y1 y2 y3 cQ b7 hb7 O6 P6 HI
    have hz := HZ.out
    go_wp2_with fail
    all_goals first | (exfalso; omega) | skip
    refine cI.mono ?_
    rintro e W8 ⟨b8, m8, a8, k8, rfl, in8⟩
    obtain ⟨W9, hW9⟩ : ∃ W9, W8.alloc (.cells #[.int .i64 yi.o, .int .i64 yi.i, .string yi.s, .slice a8 yi.l.length k8] 24) = W9 := ⟨_, rfl⟩
    obtain ⟨o9, d9⟩ := Bo.mk' in8 hW9
    have e9 := b8.trans (d9.mono b8.size)
    have HB9 : Hid (Below w.heap.size w W9) := HB7.out.trans (e9.mono HB7.out.size)
    have O9 : Hid (Bo W9 W2.heap.size x m2 a2 k2) := O7.out.later e9
    have P9 : Hid (Bo W9 W5.heap.size yg m5 a5 k5) := P7.out.later e9
    have R9 : Hid (Bo W9 W8.heap.size yi m8 a8 k8) := o9
    obtain ⟨y0, y1, y2, y3⟩ := four_box O9.out.box
    obtain ⟨z0, z1, z2, z3⟩ := four_box P9.out.box
    obtain ⟨v0, v1, v2, v3⟩ := four_box R9.out.box
    clear b8 in8 d9 e9 o9 cI O7 P7
    obtain ⟨hg, hi⟩ := HC.out
    rcases hg with ⟨rfl, rfl⟩ | ⟨rfl | rfl, rfl⟩
    · rcases hi with ⟨rfl, rfl⟩ | ⟨rfl | rfl, rfl⟩
      · obtain ⟨rfl, rfl⟩ : T = T2 ∧ h2 = 0 := ⟨HF.out.1.symm.trans HT2.out.1, HT2.out.2.symm.trans HF.out.2⟩
        have cE := same_c O9.out.inn P9.out.inn
        rw [WLeans.smL_refl _ [_] (Nat.le_refl _)] at cE
        go_wp2_with (first | (go_at_call 10; refine (num_c _ _).mono ?_; rintro e w' ⟨rfl, hw'⟩; subst w') | (go_at_call 12; refine cF.mono ?_; rintro e W11 ⟨rfl, b11⟩) | (go_at_call 12; refine cE.mono ?_; rintro e W10 ⟨rfl, b10⟩; clear y0 y1 y2 y3 v0 v1 v2 v3; obtain ⟨y0, y1, y2, y3⟩ := four_box (O9.out.later b10).box; obtain ⟨v0, v1, v2, v3⟩ := four_box (R9.out.later b10).box; have cF := same_c (O9.out.later b10).inn (R9.out.later b10).inn; rw [WLeans.smL_refl _ [yi] (Nat.le_refl _)] at cF))
        go_ret
        exact ⟨rfl, HB9.out.trans ((b10.trans (b11.mono b10.size)).mono HB9.out.size)⟩
      · obtain ⟨rfl, rfl⟩ : T = T2 ∧ h2 = 0 := ⟨HF.out.1.symm.trans HT2.out.1, HT2.out.2.symm.trans HF.out.2⟩
        have cE := same_c O9.out.inn P9.out.inn
        rw [WLeans.smL_refl _ [_] (Nat.le_refl _)] at cE
        go_wp2_with (first | (go_at_call 10; refine (num_c _ _).mono ?_; rintro e w' ⟨rfl, hw'⟩; subst w') | (go_at_call 12; refine cE.mono ?_; rintro e W10 ⟨rfl, b10⟩; clear y0 y1 y2 y3 v0 v1 v2 v3; obtain ⟨y0, y1, y2, y3⟩ := four_box (O9.out.later b10).box; obtain ⟨v0, v1, v2, v3⟩ := four_box (R9.out.later b10).box))
        go_ret
        exact ⟨rfl, HB9.out.trans (b10.mono HB9.out.size)⟩
      · obtain ⟨rfl, rfl⟩ : T = T2 ∧ h2 = 0 := ⟨HF.out.1.symm.trans HT2.out.1, HT2.out.2.symm.trans HF.out.2⟩
        have cE := same_c O9.out.inn P9.out.inn
        rw [WLeans.smL_refl _ [_] (Nat.le_refl _)] at cE
        go_wp2_with (first | (go_at_call 10; refine (num_c _ _).mono ?_; rintro e w' ⟨rfl, hw'⟩; subst w') | (go_at_call 12; refine cE.mono ?_; rintro e W10 ⟨rfl, b10⟩; clear y0 y1 y2 y3 v0 v1 v2 v3; obtain ⟨y0, y1, y2, y3⟩ := four_box (O9.out.later b10).box; obtain ⟨v0, v1, v2, v3⟩ := four_box (R9.out.later b10).box))
        go_ret
        exact ⟨rfl, HB9.out.trans (b10.mono HB9.out.size)⟩
    · rcases hi with ⟨rfl, rfl⟩ | ⟨rfl | rfl, rfl⟩
      · have cF := same_c O9.out.inn R9.out.inn
        rw [WLeans.smL_refl _ [_] (Nat.le_refl _)] at cF
        go_wp2_with (first | (go_at_call 10; refine (num_c _ _).mono ?_; rintro e w' ⟨rfl, hw'⟩; subst w') | (go_at_call 12; refine cF.mono ?_; rintro e W11 ⟨rfl, b11⟩))
        go_ret
        exact ⟨rfl, HB9.out.trans (b11.mono HB9.out.size)⟩
      · go_wp2_with (first | (go_at_call 10; refine (num_c _ _).mono ?_; rintro e w' ⟨rfl, hw'⟩; subst w'))
        go_ret
        exact ⟨rfl, HB9.out⟩
      · go_wp2_with (first | (go_at_call 10; refine (num_c _ _).mono ?_; rintro e w' ⟨rfl, hw'⟩; subst w'))
        go_ret
        exact ⟨rfl, HB9.out⟩
    · rcases hi with ⟨rfl, rfl⟩ | ⟨rfl | rfl, rfl⟩
      · have cF := same_c O9.out.inn R9.out.inn
        rw [WLeans.smL_refl _ [_] (Nat.le_refl _)] at cF
        go_wp2_with (first | (go_at_call 10; refine (num_c _ _).mono ?_; rintro e w' ⟨rfl, hw'⟩; subst w') | (go_at_call 12; refine cF.mono ?_; rintro e W11 ⟨rfl, b11⟩))
        go_ret
        exact ⟨rfl, HB9.out.trans (b11.mono HB9.out.size)⟩
      · go_wp2_with (first | (go_at_call 10; refine (num_c _ _).mono ?_; rintro e w' ⟨rfl, hw'⟩; subst w'))
        go_ret
        exact ⟨rfl, HB9.out⟩
      · go_wp2_with (first | (go_at_call 10; refine (num_c _ _).mono ?_; rintro e w' ⟨rfl, hw'⟩; subst w'))
        go_ret
        exact ⟨rfl, HB9.out⟩
end Go.Proofs.YtofpdnhnlkocoaaDoor.WFormsX
