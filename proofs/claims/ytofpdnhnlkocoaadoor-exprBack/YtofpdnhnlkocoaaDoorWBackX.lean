/- Expressions: the walk of the law ExprBack. -/
import Derived.Test.YtofpdnhnlkocoaaDoorPX32
import Derived.Test.YtofpdnhnlkocoaaDoorPX13
import Derived.Test.YtofpdnhnlkocoaaDoorPX30
namespace Go.Proofs.YtofpdnhnlkocoaaDoor.WBackX
open Go.RowKit Go.Proofs.YtofpdnhnlkocoaaDoor.EPure Go.Proofs.YtofpdnhnlkocoaaDoor.EPs Go.Proofs.YtofpdnhnlkocoaaDoor.EAw Go.Proofs.YtofpdnhnlkocoaaDoor.XSm Go.Proofs.YtofpdnhnlkocoaaDoor.XSh
open Go.Proofs.YtofpdnhnlkocoaaDoor.XBase (four_box two_box frozen_box Rg)
open Go.Proofs.YtofpdnhnlkocoaaDoor.Base (All heap_alloc_new)
open Go.Proofs.YtofpdnhnlkocoaaDoor.PPr (pr)
open Go.Proofs.YtofpdnhnlkocoaaDoor.PMay (mayL)
set_option linter.unusedVariables false

set_option maxRecDepth 20000 in
set_option maxHeartbeats 3200000 in
theorem walk {m : Nat} {v : Value} {x : Ex} {w : World} (h : XBase.In false All w m v x) (ht : TX w) : Calls Tryd.prog 3 #[v] w fun e w' => e = .returned (.bool true) ∧ Below w.heap.size w w' := by
  have hrg := PLen.rg_of h
  have hlow := EOpen.In.low h
  obtain ⟨m', lv, rfl, rfl, ho, hi, hs, hL⟩ := h.shape
  obtain ⟨a, cap, rfl, -⟩ := hL
  obtain ⟨W0, hW0⟩ : ∃ W0, w.alloc (.cells #[.int .i64 x.o, .int .i64 x.i, .string x.s, .slice a x.l.length cap] 24) = W0 := ⟨_, rfl⟩
  have b0 : Below w.heap.size w W0 := by rw [← hW0]; exact (Below.refl _ w).alloc (Nat.le_refl _) _
  have s0 : W0.heap.size = w.heap.size + 1 := by rw [← hW0]; simp
  have hx : W0.heap[w.heap.size]? = some (.cells #[.int .i64 x.o, .int .i64 x.i, .string x.s, .slice a x.l.length cap] 24 (0, 0)) := by rw [← hW0]; exact heap_alloc_new w _
  have HX : Hid (W0.heap[w.heap.size]? = some (.cells #[.int .i64 x.o, .int .i64 x.i, .string x.s, .slice a x.l.length cap] 24 (0, 0)) ∧ W0.heap.size = w.heap.size + 1 ∧ Below w.heap.size w W0) := ⟨hx, s0, b0⟩
  have HI : Hid (XBase.In false (fun b => b < w.heap.size) w (m' + 1) (.agg #[.int .i64 x.o, .int .i64 x.i, .string x.s, .slice a x.l.length cap]) x) := hlow
  have HT : Hid (TX w) := ht
  have HR : Hid (ERg.rgL [x]) := hrg
  have c0 := awake_c (ht.later b0)
  clear h hlow ht hrg hx s0 b0 ho hi hs
  go_enter Tryd.func3, Tryd.ntmps3
  go_wp2_with fail
  clear hW0
  refine c0.mono ?_
  rintro e W1 ⟨rfl, b1⟩
  have hb1 : Below w.heap.size w W1 := HX.out.2.2.trans (b1.mono (by have := HX.out.2.1; omega))
  obtain ⟨y0, y1, y2, y3⟩ := four_box ((b1.block w.heap.size (by have := HX.out.2.1; omega)).trans HX.out.1)
  have cS := shallow_c ((HI.out.plain).below hb1)
  have HB1 : Hid (Below w.heap.size w W1 ∧ Below W0.heap.size W0 W1) := ⟨hb1, b1⟩
  clear b1 hb1 c0
  go_wp2_with fail
  refine cS.mono ?_
  rintro e W2 ⟨⟨bb, rfl⟩, b2⟩
  have hb2 : Below w.heap.size w W2 := HB1.out.1.trans (b2.mono HB1.out.1.size)
  have hc2 : Below W0.heap.size W0 W2 := HB1.out.2.trans (b2.mono HB1.out.2.size)
  clear y0 y1 y2 y3 cS b2
  cases bb with
  | false =>
    have HB2 : Hid (Below w.heap.size w W2) := hb2
    clear hb2 hc2
    go_wp2_with fail
    go_ret
    exact ⟨rfl, HB2.out⟩
  | true =>
    obtain ⟨y0, y1, y2, y3⟩ := four_box ((hc2.block w.heap.size (by have := HX.out.2.1; omega)).trans HX.out.1)
    have cP := print_x ((HI.out.below hb2).weak (S' := fun b => b < W2.heap.size) (fun b hb => Nat.lt_of_lt_of_le hb hb2.size) false id (m' + 1) (Nat.le_refl _)) (HT.out.later hb2)
    have HB2 : Hid (Below w.heap.size w W2 ∧ Below W0.heap.size W0 W2) := ⟨hb2, hc2⟩
    clear hb2 hc2
    cases hm : (mayL [x] 512).1 with
    | false =>
      rw [show PPp.ptx x = [] by unfold PPp.ptx; rw [hm]; rfl, show PPp.pcd x = 1003 by unfold PPp.pcd; rw [hm]; rfl] at cP
      clear hm
      go_wp2_with fail
      refine cP.mono ?_
      rintro e W3 ⟨rfl, b3⟩
      have HB3 : Hid (Below w.heap.size w W3) := HB2.out.1.trans (b3.mono HB2.out.1.size)
      clear cP b3 y0 y1 y2 y3
      go_wp2_with (first | (go_at_call 10; refine (num_c _ _).mono ?_; rintro e w' ⟨rfl, rfl⟩))
      go_ret
      exact ⟨rfl, HB3.out⟩
    | true =>
      have hpl := PLen.pr_len HR.out hm
      have hbk := EBn.back (PPr.gdL_cons.1 (PPr.gd_of _ [x] 512 (Nat.le_refl _) hm)).1 HR.out
      rw [show PPp.ptx x = pr (-1) x by unfold PPp.ptx; rw [if_pos hm], show PPp.pcd x = 0 by unfold PPp.pcd; rw [if_pos hm]] at cP
      obtain ⟨X, hX⟩ : ∃ X, pr (-1) x = X := ⟨_, rfl⟩
      rw [hX] at hpl hbk cP
      have HP : Hid (∀ W, TX W → Calls Tryd.prog 11 #[.string ⟨X.toArray⟩] W fun e w' => Pout W e w' (prs ⟨X.toArray⟩)) := fun W hW => parse_x (by show X.toArray.size ≤ _; simp; omega) hW
      clear hm hX hpl
      go_wp2_with fail
      refine cP.mono ?_
      rintro e W3 ⟨rfl, b3⟩
      have hb3 : Below w.heap.size w W3 := HB2.out.1.trans (b3.mono HB2.out.1.size)
      have HB3 : Hid (Below w.heap.size w W3 ∧ Below W0.heap.size W0 W3) := ⟨hb3, HB2.out.2.trans (b3.mono HB2.out.2.size)⟩
      have c4 := HP.out W3 (HT.out.later hb3)
      clear cP b3 hb3 y0 y1 y2 y3
      rcases hbk with hp | ⟨f, hp, hf⟩
      · rw [hp] at c4
        clear hp
        go_wp2_with (first | (go_at_call 10; refine (num_c _ _).mono ?_; rintro e w' ⟨rfl, hw'⟩; subst w'))
        refine c4.mono ?_
        rintro e W4 ⟨b4, m4, a4, k4, rfl, in4⟩
        obtain ⟨W5, hW5⟩ : ∃ W5, W4.alloc (.cells #[.int .i64 x.o, .int .i64 x.i, .string x.s, .slice a4 x.l.length k4] 24) = W5 := ⟨_, rfl⟩
        have d5 : Below W4.heap.size W4 W5 := by rw [← hW5]; exact (Below.refl _ W4).alloc (Nat.le_refl _) _
        have x5 : W5.heap[W4.heap.size]? = some (.cells #[.int .i64 x.o, .int .i64 x.i, .string x.s, .slice a4 x.l.length k4] 24 (0, 0)) := by rw [← hW5]; exact heap_alloc_new W4 _
        have b5 := b4.trans (d5.mono b4.size)
        have hb5 : Below w.heap.size w W5 := HB3.out.1.trans (b5.mono HB3.out.1.size)
        have hc5 : Below W0.heap.size W0 W5 := HB3.out.2.trans (b5.mono HB3.out.2.size)
        obtain ⟨y0, y1, y2, y3⟩ := four_box ((hc5.block w.heap.size (by have := HX.out.2.1; omega)).trans HX.out.1)
        obtain ⟨z0, z1, z2, z3⟩ := four_box x5
        have cE := same_c ((HI.out.plain).below hb5) (in4.below d5)
        rw [WLeans.smL_refl _ [x] (Nat.le_refl _)] at cE
        have HB5 : Hid (Below w.heap.size w W5) := hb5
        clear b4 in4 d5 x5 b5 hb5 hc5 c4 HP
        go_wp2_with (first | (go_at_call 10; refine (num_c _ _).mono ?_; rintro e w' ⟨rfl, hw'⟩; subst w') | (go_at_call 12; refine cE.mono ?_; rintro e W6 ⟨rfl, b6⟩))
        go_ret
        exact ⟨rfl, HB5.out.trans (b6.mono HB5.out.size)⟩
      · obtain ⟨c, p⟩ := f
        rw [hp] at c4
        clear hp
        go_wp2_with (first | (go_at_call 10; refine (num_c _ _).mono ?_; rintro e w' ⟨rfl, hw'⟩; subst w'))
        refine c4.mono ?_
        rintro e W4 ⟨b4, rfl⟩
        have HB4 : Hid (Below w.heap.size w W4) := HB3.out.1.trans (b4.mono HB3.out.1.size)
        clear b4 c4 HP
        rcases hf with hf | hf
        · obtain rfl : c = 1001 := hf
          go_wp2_with (first | (go_at_call 10; refine (num_c _ _).mono ?_; rintro e w' ⟨rfl, hw'⟩; subst w'))
          go_ret
          exact ⟨rfl, HB4.out.alloc HB4.out.size _⟩
        · obtain rfl : c = 1002 := hf
          go_wp2_with (first | (go_at_call 10; refine (num_c _ _).mono ?_; rintro e w' ⟨rfl, hw'⟩; subst w'))
          go_ret
          exact ⟨rfl, HB4.out.alloc HB4.out.size _⟩
end Go.Proofs.YtofpdnhnlkocoaaDoor.WBackX
