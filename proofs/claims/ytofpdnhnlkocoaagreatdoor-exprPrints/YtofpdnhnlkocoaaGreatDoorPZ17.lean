import Derived.LoopN
import Derived.LoopTactic
import Derived.Test.YtofpdnhnlkocoaaGreatDoorPZ16
namespace Go.Proofs.YtofpdnhnlkocoaaGreatDoor.EPw
open Go.RowKit Go.Proofs.YtofpdnhnlkocoaaGreatDoor.Base Go.Proofs.YtofpdnhnlkocoaaGreatDoor.UBase Go.Proofs.YtofpdnhnlkocoaaGreatDoor.EPure Go.Proofs.YtofpdnhnlkocoaaGreatDoor.ERd Go.Proofs.YtofpdnhnlkocoaaGreatDoor.ESk Go.Proofs.YtofpdnhnlkocoaaGreatDoor.ETk Go.Proofs.YtofpdnhnlkocoaaGreatDoor.EChr Go.Proofs.YtofpdnhnlkocoaaGreatDoor.ECh Go.Proofs.YtofpdnhnlkocoaaGreatDoor.ESc Go.Proofs.YtofpdnhnlkocoaaGreatDoor.EAdv Go.Proofs.YtofpdnhnlkocoaaGreatDoor.EDn Go.Proofs.YtofpdnhnlkocoaaGreatDoor.EGx Go.Proofs.YtofpdnhnlkocoaaGreatDoor.EBt Go.Proofs.YtofpdnhnlkocoaaGreatDoor.EPa Go.Proofs.YtofpdnhnlkocoaaGreatDoor.EPt
open Go.Proofs.YtofpdnhnlkocoaaGreatDoor.XBase (four_box frozen_box Rg)
set_option linter.unusedVariables false
def pak (s : ByteArray) (C : P) : A Ex → A Ex
  | .error e => .error e
  | .ok (x, g1) => prt s C (2 * s.size + 2) x g1
theorem mu_le (s : ByteArray) (g : Sr) : mu s g ≤ 2 * s.size + 1 := by unfold mu; split <;> omega
theorem in_row {w W : World} {R : Nat} {s : ByteArray} {g : Sr} {x : Ex} {B lo c : Nat} {a : Option Addr} (h : Pa w W R s g x B lo)
    (hb : W.heap[B]? = some (.cells #[.int .i64 x.o, .int .i64 x.i, .string x.s, .slice a x.l.length c] 24 (0, 0))) : ∃ m, XBase.In false (Sx lo W.heap.size B) W m (.agg #[.int .i64 x.o, .int .i64 x.i, .string x.s, .slice a x.l.length c]) x := by
  obtain ⟨m', a0, c0, hb', hin⟩ := h.row
  have e := hb.symm.trans hb'
  simp only [Option.some.injEq, Obj.cells.injEq, Array.mk.injEq, List.cons.injEq, Value.slice.injEq, and_true, true_and] at e
  obtain ⟨rfl, rfl⟩ := e
  exact ⟨m', hin⟩
set_option maxRecDepth 20000 in
set_option maxHeartbeats 3200000 in
theorem part_c {s : ByteArray} {n : Nat} {C : P} (hn : n ≤ 100) (hC : ChI s (n + 1) C) (hD : Dn s C) : PaI s n (par s C) := by
  intro w R g h ho
  have hRlt := h.er.lt
  have G0 := Gx.start h ho
  obtain ⟨W0, hW0⟩ : ∃ W0, w.alloc (.cells #[.int .i64 0, .int .i64 0, .string ⟨#[]⟩, .slice none 0 0] 24) = W0 := ⟨_, rfl⟩
  rw [hW0] at G0
  have cW := EWd.word_c hn hC hD W0 R g G0.es G0.ok
  obtain ⟨X, hX⟩ : ∃ X, wor s C g = X := ⟨_, rfl⟩
  obtain ⟨U, hU⟩ : ∃ U, par s C g = U := ⟨_, rfl⟩
  rw [hU]
  have HU : Hid (pak s C X = U) := by
    show _ = _
    rw [← hU, ← hX]
    unfold par pak
    rfl
  rw [hX] at cW
  have HX : Hid (wor s C g = X) := hX
  unfold ptr at cW ⊢
  clear h hX hU
  go_enter Tryz.func101, Tryz.ntmps101
  go_wp2_with fail
  refine cW.mono ?_
  intro e W1 hT
  clear cW hW0
  cases X with
  | error f =>
    obtain ⟨K1, rfl⟩ := hT
    have hU : Except.error f = U := HU.out
    subst hU
    exact ⟨rfl, G0.kr.trans K1, rfl⟩
  | ok p =>
    obtain ⟨x0, g1⟩ := p
    obtain ⟨K1, ⟨m0, a0, c0, rfl, hin0⟩, E1⟩ := hT
    have G1 := G0.step hRlt K1 E1 (wor_dn hD _ _ _ G0.ok HX.out).1
    obtain ⟨W2, hW2⟩ : ∃ W2, W1.alloc (.cells #[.int .i64 x0.o, .int .i64 x0.i, .string x0.s, .slice a0 x0.l.length c0] 24) = W2 := ⟨_, rfl⟩
    have P2 : Pa w W2 R s g1 x0 W1.heap.size W0.heap.size := Pa.start G1 hRlt hin0 G0.lt K1.below.size hW2
    obtain ⟨B, hB⟩ : ∃ B, W1.heap.size = B := ⟨_, rfl⟩
    obtain ⟨lo, hlo⟩ : ∃ lo, W0.heap.size = lo := ⟨_, rfl⟩
    have HP2 : Hid (Pa w W2 R s g1 x0 B lo) := by rw [← hB, ← hlo]; exact P2
    have HBE : Hid (W1.heap.size = B) := hB
    have HU1 : Hid (prt s C (2 * s.size + 2) x0 g1 = U) := HU.out
    clear P2 G1 K1 E1 hin0 G0 HU hlo hB
    go_wp2_with fail
    rw [HBE.out]
    clear hW2
    go_loopw [] (fun wr => ∃ (g' : Sr) (x : Ex) (f : Nat), Pa w wr R s g' x B lo ∧ prt s C f x g' = U ∧ mu s g' < f) (fun wr => muw R s wr)
    case atStart => exact ⟨g1, x0, _, HP2.out, HU1.out, by have := mu_le s g1; omega⟩
    case round =>
      clear HP2 HU1 HX
      obtain ⟨g', x, f, hP, hpr, hf⟩ := hrel
      obtain ⟨f, rfl⟩ : ∃ f', f = f' + 1 := ⟨f - 1, by omega⟩
      have HM : Hid (muw R s wr = mu s g') := muw_of hP.gx.es.er
      rw [prt_step] at hpr
      obtain ⟨k3, k4, k5, k6⟩ := Es.cells hP.gx.es
      have hk0 : is g'.tk [46] = true ∨ is g'.tk [91] = true → g'.tk.k ≠ 0 := fun h => h.elim is_k is_k
      cases hb1 : is g'.tk [46] with
      | true =>
        rw [if_pos hb1] at hpr
        have hkk := hk0 (.inl hb1)
        have cI := is_b hb1 wr
        obtain ⟨X, hX⟩ : ∃ X, adv s g'.a g'.r = X := ⟨_, rfl⟩
        have HX1 : Hid (adv s g'.a g'.r = X) := hX
        rw [hX] at hpr
        have HPR : Hid (pdk s C f x X = U) := hpr
        have HPA : Hid (Pa w wr R s g' x B lo) := hP
        clear hpr hP hX hk0 hb1
        go_wp2_with fail
        refine cI.mono ?_
        rintro e W3 ⟨rfl, b3⟩
        have P3 := HPA.out.below hRlt b3
        have cA := adv_c P3.gx.es P3.gx.ok.r
        rw [HX1.out] at cA
        unfold ptr at cA
        clear cI k3 k4 k5 k6 b3
        go_wp2_with fail
        refine cA.mono ?_
        intro e W4 hA
        clear cA
        cases X with
        | error fe =>
          obtain ⟨K4, rfl⟩ := hA
          have hU : Except.error fe = U := HPR.out
          subst hU
          exact ⟨rfl, P3.gx.kr.trans K4, rfl⟩
        | ok g2 =>
          obtain ⟨K4, ⟨z, rfl⟩, E4⟩ := hA
          obtain ⟨ho2, hm2⟩ := adv_mu P3.gx.ok hkk HX1.out
          have P4 := P3.step hRlt K4 E4 ho2
          have P4d : Pa w W4.drew R s g2 x B lo := P4.below hRlt (Below.refl _ W4).drew
          have cF := field_c P4d.gx.es P4d.gx.ok
          obtain ⟨Y, hY⟩ : ∃ Y, fld s g2 = Y := ⟨_, rfl⟩
          have HY : Hid (fld s g2 = Y) := hY
          have HPR2 : Hid (ptk s C f x Y = U) := by
            show _ = _
            rw [← hY]
            exact HPR.out
          rw [hY] at cF
          unfold ptr at cF
          obtain ⟨mx, ax, cx, hbx, -⟩ := P4.row
          obtain ⟨j0, j1, j2, j3⟩ := four_box hbx
          have hB4 := P4.lt
          have hwB : R < B := by have := P4.lo1; have := P4.lo2; omega
          have HP4 : Hid (Pa w W4.drew R s g2 x B lo) := P4d
          have HP4u : Hid (Pa w W4 R s g2 x B lo) := P4
          have HBX : Hid (W4.heap[B]? = some (.cells #[.int .i64 x.o, .int .i64 x.i, .string x.s, .slice ax x.l.length cx] 24 (0, 0))) := hbx
          have HKR : Hid (Kr R w W4) := P4.gx.kr
          clear K4 E4 P3 P4 P4d hY hbx HPA HPR
          obtain ⟨W4a, hW4a⟩ : ∃ W, W4.alloc (.cells #[.int .i64 x.o, .int .i64 x.i, .string x.s, .slice ax x.l.length cx] 24) = W := ⟨_, rfl⟩
          have b4a : Below W4.heap.size W4 W4a := by rw [← hW4a]; exact (Below.refl _ W4).alloc (Nat.le_refl _) _
          have P4a : Pa w W4a.drew R s g2 x B lo := (HP4u.out.below hRlt b4a).below hRlt (Below.refl _ W4a).drew
          have hb4a := (b4a.block B hB4).trans HBX.out
          obtain ⟨l0, l1, l2, l3⟩ := four_box hb4a
          have cFa := field_c P4a.gx.es P4a.gx.ok
          rw [HY.out] at cFa
          unfold ptr at cFa
          cases Y with
          | error fe =>
            have hU : Except.error fe = U := HPR2.out
            subst hU
            go_wp2_with fail
            refine wp_region_held_drew (S := (fun w' => w'.cell? ⟨B, 0, none⟩ = some (.int .i64 x.o) ∧ w'.cell? ⟨B, 1, none⟩ = some (.int .i64 x.i) ∧ w'.cell? ⟨B, 2, none⟩ = some (.string x.s) ∧ w'.cell? ⟨B, 3, none⟩ = some (.slice ax x.l.length cx))) (by kernel_rfl) ?_ (fun hHeld => ?_)
            · exact four_box (show W4.drew.heap[B]? = _ from HBX.out)
            refine wpAnyH_take (i := 0) (v := ?_) rfl (by kernel_rfl) (by kernel_rfl) (by kernel_rfl) (fun _ _ _ h => h) (Or.inl ⟨by rfl, ?_⟩) (by assumption) ?_
            rotate_left 1
            · intro w hSw; (try dsimp only at hSw); go_simp; first | done | with_reducible rfl
            try simp only [Act.put, List.getElem_toArray, List.getElem_cons_zero, List.setIfInBounds_toArray, List.set_cons_zero, List.set_cons_succ]
            refine wpAnyH_take (i := 2) (v := ?_) rfl (by kernel_rfl) (by kernel_rfl) (by kernel_rfl) (fun _ _ _ h => h) (Or.inl ⟨by rfl, ?_⟩) (by assumption) ?_
            rotate_left 1
            · intro w hSw; (try dsimp only at hSw); go_simp; first | done | with_reducible rfl
            try simp only [Act.put, List.getElem_toArray, List.getElem_cons_zero, List.getElem_cons_succ, List.setIfInBounds_toArray, List.set_cons_zero, List.set_cons_succ]
            refine wpAnyH_ready (rs := [1, 3]) (by kernel_rfl) (by simp) ?_
            refine AllReadyH.cons rfl (fun K hK => ?_) (AllReadyH.cons rfl (fun K hK => ?_) AllReadyH.nil)
            · go_simp
              refine cF.mono ?_
              rintro e W5 ⟨K5, rfl⟩
              exact ⟨rfl, HP4.out.gx.kr.trans K5, rfl⟩
            · go_simp
              refine hK.out _ _ ?_ (fun hHeld => ?_)
              · exact four_box (show (W4a.drew).heap[B]? = _ from hb4a)
              clear hK K
              try simp only [Act.put, List.getElem_toArray, List.getElem_cons_zero, List.getElem_cons_succ, List.setIfInBounds_toArray, List.set_cons_zero, List.set_cons_succ]
              refine wpAnyH_ready (rs := [1]) (by kernel_rfl) (by simp) ?_
              refine AllReadyH.cons rfl (fun K hK => ?_) AllReadyH.nil
              go_simp
              refine cFa.mono ?_
              rintro e W5 ⟨K5, rfl⟩
              exact ⟨rfl, P4a.gx.kr.trans K5, rfl⟩
          | ok q =>
            obtain ⟨t, g3⟩ := q
            obtain ⟨ho3, hm3, ht3⟩ := fld_mu HP4.out.gx.ok HY.out
            have q4a : W4a.heap[W4.heap.size]? = some (.cells #[.int .i64 x.o, .int .i64 x.i, .string x.s, .slice ax x.l.length cx] 24 (0, 0)) := by rw [← hW4a]; exact heap_alloc_new W4 _
            go_wp2_with fail
            go_region_with (first | (go_at_call 119; refine cF.mono ?_; rintro e W5 ⟨K5, rfl, E5⟩; have P5 := HP4.out.step hRlt K5 E5 ho3; have hb5 := (K5.other B (by omega) hB4).trans HBX.out; obtain ⟨i0, i1, i2, i3⟩ := four_box hb5; obtain ⟨W6, hW6⟩ : ∃ W6, W5.alloc (.cells #[.int .i64 x.o, .int .i64 x.i, .string x.s, .slice ax x.l.length cx] 24) = W6 := ⟨_, rfl⟩; have hb6 : W6.heap[B]? = some (.cells #[.int .i64 x.o, .int .i64 x.i, .string x.s, .slice ax x.l.length cx] 24 (0, 0)) := (by rw [← hW6]; exact (Below.heap_alloc _ _ _ P5.lt).trans hb5); obtain ⟨h0, h1, h2, h3⟩ := four_box hb6; have f0 := frozen_box hb6 0; have f1 := frozen_box hb6 1; have f2 := frozen_box hb6 2; have f3 := frozen_box hb6 3) | (go_at_call 119; refine cFa.mono ?_; rintro e W5 ⟨K5, rfl, E5⟩; have P5 := P4a.step hRlt K5 E5 ho3; have hb5 := (K5.other B (by omega) (show B < W4a.heap.size by have := b4a.size; omega)).trans hb4a; obtain ⟨i0, i1, i2, i3⟩ := four_box hb5; have f0 := frozen_box hb5 0; have f1 := frozen_box hb5 1; have f2 := frozen_box hb5 2; have f3 := frozen_box hb5 3))
            all_goals first
              | (obtain ⟨W7, hW7⟩ : ∃ W7, ((((W6.setCell ⟨B, 0, none⟩ (.int .i64 7)).setCell ⟨B, 1, none⟩ (.int .i64 0)).setCell ⟨B, 2, none⟩ (.string t)).setCell ⟨B, 3, none⟩ (.slice (some ⟨W5.heap.size, 0, none⟩) 1 1)) = W7 := ⟨_, rfl⟩
                 have P7 := Pa.field (m := 0) P5 hRlt ht3 hb5 hW6 hW7
                 rw [hW7]
                 clear hW7 hW6 hW4a)
              | (obtain ⟨W7, hW7⟩ : ∃ W7, ((((W5.setCell ⟨B, 0, none⟩ (.int .i64 7)).setCell ⟨B, 1, none⟩ (.int .i64 0)).setCell ⟨B, 2, none⟩ (.string t)).setCell ⟨B, 3, none⟩ (.slice (some ⟨W4.heap.size, 0, none⟩) 1 1)) = W7 := ⟨_, rfl⟩
                 obtain ⟨mr, hmr⟩ := in_row P5 hb5
                 have P7 : Pa w W7 R s g3 (.mk 7 0 t [x]) B lo := P5.put (l := [x]) hRlt (EKd.in_one (lo := 0) (hi := 0) ((K5.other W4.heap.size (by omega) (show W4.heap.size < W4a.heap.size by rw [← hW4a]; simp)).trans q4a) ⟨by have := P5.lo2; omega, by have := K5.below.size; have h9 : W4a.drew.heap.size = W4.heap.size + 1 := (by rw [← hW4a]; show (W4.alloc _).heap.size = _; simp); omega, by omega⟩ hmr 7 0 t (by omega) (by omega) (by omega)) hW7
                 rw [hW7]
                 clear hW7 hW4a)
            all_goals
              have HP7 : Hid (Pa w W7 R s g3 (.mk 7 0 t [x]) B lo) := P7
              have HM7 : Hid (muw R s W7 = mu s g3) := muw_of P7.gx.es.er
              clear P7 P5 K5 E5 P4a cF cFa hb5
              go_wp2_with fail
              go_roundw
              case rel => exact ⟨g3, .mk 7 0 t [x], f, HP7.out, HPR2.out, by omega⟩
              case measure =>
                show muw R s W7 < muw R s wr
                rw [HM7.out, HM.out]
                omega
      | false =>
        rw [if_neg (by simp [hb1])] at hpr
        have cI := is_b hb1 wr
        cases hb2 : is g'.tk [91] with
        | false =>
          rw [if_neg (by simp [hb2])] at hpr
          subst hpr
          have HPA : Hid (Pa w wr R s g' x B lo) := hP
          clear hP hk0 hb1
          go_wp2_with fail
          refine cI.mono ?_
          rintro e W3 ⟨rfl, b3⟩
          have P3 := HPA.out.below hRlt b3
          clear k3 k4 k5 k6
          obtain ⟨k3, k4, k5, k6⟩ := Es.cells P3.gx.es
          have cI2 := is_b hb2 W3
          clear cI b3
          go_wp2_with fail
          refine cI2.mono ?_
          rintro e W4 ⟨rfl, b4⟩
          have P4 := P3.below hRlt b4
          obtain ⟨mx, ax, cx, hbx, -⟩ := P4.row
          obtain ⟨j0, j1, j2, j3⟩ := four_box hbx
          obtain ⟨d0, d1, d2, d3⟩ := four_box P4.gx.box
          have f0 := frozen_box P4.gx.box 0
          have f1 := frozen_box P4.gx.box 1
          have f2 := frozen_box P4.gx.box 2
          have f3 := frozen_box P4.gx.box 3
          obtain ⟨W5, hW5⟩ : ∃ W5, ((((W4.setCell ⟨w.heap.size, 0, none⟩ (.int .i64 x.o)).setCell ⟨w.heap.size, 1, none⟩ (.int .i64 x.i)).setCell ⟨w.heap.size, 2, none⟩ (.string x.s)).setCell ⟨w.heap.size, 3, none⟩ (.slice ax x.l.length cx)) = W5 := ⟨_, rfl⟩
          obtain ⟨p1, p2⟩ := Pa.fin P4 hRlt hbx hW5
          obtain ⟨y0, y1, y2, y3⟩ := four_box p1
          have HP2 : Hid (PR w W5 R s (.returned (.agg #[.int .i64 x.o, .int .i64 x.i, .string x.s, .slice ax x.l.length cx])) (.ok (x, g'))) := p2
          clear p1 p2 P4 P3 cI2 b4 k3 k4 k5 k6 hbx
          go_wp2_with fail
          refine bodyPost_ret (v := .agg #[.int .i64 x.o, .int .i64 x.i, .string x.s, .slice ax x.l.length cx]) (by simp [results, Tryz.results101, go_sem, y0, y1, y2, y3]) rfl ?_
          exact HP2.out
        | true =>
          rw [if_pos hb2] at hpr
          obtain ⟨Y, hY⟩ : ∃ Y, btw s C [91] [93] g' = Y := ⟨_, rfl⟩
          have HY : Hid (btw s C [91] [93] g' = Y) := hY
          rw [hY] at hpr
          have HPR : Hid (pik s C f x Y = U) := hpr
          have HPA : Hid (Pa w wr R s g' x B lo) := hP
          clear hP hk0 hb1 hpr hY
          go_wp2_with fail
          refine cI.mono ?_
          rintro e W3 ⟨rfl, b3⟩
          have P3 := HPA.out.below hRlt b3
          clear k3 k4 k5 k6
          obtain ⟨k3, k4, k5, k6⟩ := Es.cells P3.gx.es
          have cI2 := is_b hb2 W3
          clear cI b3
          go_wp2_with fail
          refine cI2.mono ?_
          rintro e W4 ⟨rfl, b4⟩
          have P4 := P3.below hRlt b4
          have P4d : Pa w W4.drew R s g' x B lo := P4.below hRlt (Below.refl _ W4).drew
          have cB := between_c hn hC hD P4d.gx.es P4d.gx.ok [91] [93]
          rw [HY.out] at cB
          unfold ptr at cB
          obtain ⟨mx, ax, cx, hbx, -⟩ := P4.row
          obtain ⟨j0, j1, j2, j3⟩ := four_box hbx
          have hB4 := P4.lt
          have hwB : R < B := by have := P4.lo1; have := P4.lo2; omega
          have HP4 : Hid (Pa w W4.drew R s g' x B lo) := P4d
          have HBX : Hid (W4.heap[B]? = some (.cells #[.int .i64 x.o, .int .i64 x.i, .string x.s, .slice ax x.l.length cx] 24 (0, 0))) := hbx
          clear P4 P4d P3 cI2 b4 k3 k4 k5 k6 hbx HPA
          cases Y with
          | error fe =>
            have hU : Except.error fe = U := HPR.out
            subst hU
            go_wp2_with fail
            refine wp_region_held_drew (S := (fun w' => w'.cell? ⟨B, 0, none⟩ = some (.int .i64 x.o) ∧ w'.cell? ⟨B, 1, none⟩ = some (.int .i64 x.i) ∧ w'.cell? ⟨B, 2, none⟩ = some (.string x.s) ∧ w'.cell? ⟨B, 3, none⟩ = some (.slice ax x.l.length cx))) (by kernel_rfl) ?_ (fun hHeld => ?_)
            · exact four_box (show W4.drew.heap[B]? = _ from HBX.out)
            refine wpAnyH_take (i := 0) (v := ?_) rfl (by kernel_rfl) (by kernel_rfl) (by kernel_rfl) (fun _ _ _ h => h) (Or.inl ⟨by rfl, ?_⟩) (by assumption) ?_
            rotate_left 1
            · intro w hSw; (try dsimp only at hSw); go_simp; first | done | with_reducible rfl
            try simp only [Act.put, List.getElem_toArray, List.getElem_cons_zero, List.setIfInBounds_toArray, List.set_cons_zero, List.set_cons_succ]
            refine wpAnyH_take (i := 1) (v := ?_) rfl (by kernel_rfl) (by kernel_rfl) (by kernel_rfl) (fun _ _ _ h => h) (Or.inl ⟨by rfl, ?_⟩) (by assumption) ?_
            rotate_left 1
            · intro w hSw; (try dsimp only at hSw); go_simp; first | done | with_reducible rfl
            try simp only [Act.put, List.getElem_toArray, List.getElem_cons_zero, List.getElem_cons_succ, List.setIfInBounds_toArray, List.set_cons_zero, List.set_cons_succ]
            refine wpAnyH_take (i := 2) (v := ?_) rfl (by kernel_rfl) (by kernel_rfl) (by kernel_rfl) (fun _ _ _ h => h) (Or.inl ⟨by rfl, ?_⟩) (by assumption) ?_
            rotate_left 1
            · intro w hSw; (try dsimp only at hSw); go_simp; first | done | with_reducible rfl
            try simp only [Act.put, List.getElem_toArray, List.getElem_cons_zero, List.getElem_cons_succ, List.setIfInBounds_toArray, List.set_cons_zero, List.set_cons_succ]
            refine wpAnyH_ready (rs := [3]) (by kernel_rfl) (by simp) ?_
            refine AllReadyH.cons rfl (fun K hK => ?_) AllReadyH.nil
            go_simp
            refine cB.mono ?_
            rintro e W5 ⟨K5, rfl⟩
            exact ⟨rfl, HP4.out.gx.kr.trans K5, rfl⟩
          | ok q =>
            obtain ⟨y, g3⟩ := q
            obtain ⟨ho3, hm3⟩ := btw_dn hD _ _ _ _ _ HP4.out.gx.ok HY.out
            go_wp2_with fail
            go_region_with (first | (go_at_call 120; refine cB.mono ?_; rintro e W5 ⟨K5, ⟨my, ay, cy, rfl, hiny⟩, E5⟩; have P5 := HP4.out.step hRlt K5 E5 ho3; have hb5 := (K5.other B (by omega) hB4).trans HBX.out; obtain ⟨i0, i1, i2, i3⟩ := four_box hb5; obtain ⟨W6, hW6⟩ : ∃ W6, W5.alloc (.cells #[.int .i64 x.o, .int .i64 x.i, .string x.s, .slice ax x.l.length cx, .int .i64 y.o, .int .i64 y.i, .string y.s, .slice ay y.l.length cy] 24) = W6 := ⟨_, rfl⟩; have hb6 : W6.heap[B]? = some (.cells #[.int .i64 x.o, .int .i64 x.i, .string x.s, .slice ax x.l.length cx] 24 (0, 0)) := (by rw [← hW6]; exact (Below.heap_alloc _ _ _ P5.lt).trans hb5); have hs6 : B < W6.heap.size := (by rw [← hW6]; have := P5.lt; simp; omega); have cN := node_c 8 (some ⟨W5.heap.size, 0, none⟩) 2 2 W6) | (go_at_call 57; refine cN.mono ?_; rintro e W7 ⟨rfl, b7⟩; have hb7 := (b7.block B hs6).trans hb6; obtain ⟨h0, h1, h2, h3⟩ := four_box hb7; have f0 := frozen_box hb7 0; have f1 := frozen_box hb7 1; have f2 := frozen_box hb7 2; have f3 := frozen_box hb7 3))
            all_goals
              obtain ⟨W8, hW8⟩ : ∃ W8, ((((W7.setCell ⟨B, 0, none⟩ (.int .i64 8)).setCell ⟨B, 1, none⟩ (.int .i64 0)).setCell ⟨B, 2, none⟩ (.string ⟨#[]⟩)).setCell ⟨B, 3, none⟩ (.slice (some ⟨W5.heap.size, 0, none⟩) 2 2)) = W8 := ⟨_, rfl⟩
              have P8 := Pa.two (o := 8) P5 hRlt (by omega) hb5 hiny (show B < W4.heap.size from hB4) hW6 b7 hW8
              rw [hW8]
              have HP8 : Hid (Pa w W8 R s g3 (nd 8 [x, y]) B lo) := P8
              have HM8 : Hid (muw R s W8 = mu s g3) := muw_of P8.gx.es.er
              clear P8 P5 K5 E5 cB hb5 hb6 hb7 b7 hW8 hW6 hiny cN
              go_wp2_with fail
              go_roundw
              case rel => exact ⟨g3, nd 8 [x, y], f, HP8.out, HPR.out, by omega⟩
              case measure =>
                show muw R s W8 < muw R s wr
                rw [HM8.out, HM.out]
                omega
end Go.Proofs.YtofpdnhnlkocoaaGreatDoor.EPw
namespace Go.Proofs.YtofpdnhnlkocoaaGreatDoor.ESd
open Go.RowKit Go.Proofs.YtofpdnhnlkocoaaGreatDoor.Base Go.Proofs.YtofpdnhnlkocoaaGreatDoor.UBase Go.Proofs.YtofpdnhnlkocoaaGreatDoor.EPure Go.Proofs.YtofpdnhnlkocoaaGreatDoor.ERd Go.Proofs.YtofpdnhnlkocoaaGreatDoor.ESk Go.Proofs.YtofpdnhnlkocoaaGreatDoor.ETk Go.Proofs.YtofpdnhnlkocoaaGreatDoor.EChr Go.Proofs.YtofpdnhnlkocoaaGreatDoor.ECh Go.Proofs.YtofpdnhnlkocoaaGreatDoor.ESc Go.Proofs.YtofpdnhnlkocoaaGreatDoor.EAdv Go.Proofs.YtofpdnhnlkocoaaGreatDoor.EDn Go.Proofs.YtofpdnhnlkocoaaGreatDoor.EGx Go.Proofs.YtofpdnhnlkocoaaGreatDoor.EBt Go.Proofs.YtofpdnhnlkocoaaGreatDoor.EPa
open Go.Proofs.YtofpdnhnlkocoaaGreatDoor.XBase (four_box frozen_box Rg)
set_option linter.unusedVariables false
def sgk1 (o : Int) : A Ex → A Ex
  | .error e => .error e
  | .ok (x, g2) => .ok (nd o [x], g2)
def sgk (S : P) (o : Int) : Except F Sr → A Ex
  | .error e => .error e
  | .ok g1 => sgk1 o (S g1)
theorem sgd_eq (s : ByteArray) (S C : P) (g : Sr) : sgd s S C g = if is g.tk [45] = true then sgk S 10 (adv s g.a g.r) else if is g.tk [33] = true then sgk S 11 (adv s g.a g.r) else par s C g := by
  unfold sgd sgk sgk1
  rfl
set_option maxRecDepth 20000 in
set_option maxHeartbeats 1600000 in
theorem signed_neg {w : World} {R : Nat} {s : ByteArray} {g : Sr} {n : Nat} {S : P} (hn : n ≤ 32) (hS : SgI s (n + 1) S) (hD : Dn s S) (h : Es w R s g.a g.r g.tk) (ho : SrOk s g) (hb1 : is g.tk [45] = true) :
    Calls Tryz.prog 81 #[ptr R, .int .i64 n] w fun e w' => PR w w' R s e (sgk S 10 (adv s g.a g.r)) := by
  have hRlt := h.er.lt
  have G0 := Gx.start h ho
  obtain ⟨W0, hW0⟩ : ∃ W0, w.alloc (.cells #[.int .i64 0, .int .i64 0, .string ⟨#[]⟩, .slice none 0 0] 24) = W0 := ⟨_, rfl⟩
  rw [hW0] at G0
  have hkk := is_k hb1
  obtain ⟨U, hU⟩ : ∃ U, sgk S 10 (adv s g.a g.r) = U := ⟨_, rfl⟩
  rw [hU]
  obtain ⟨X, hX⟩ : ∃ X, adv s g.a g.r = X := ⟨_, rfl⟩
  rw [hX] at hU
  have HX : Hid (adv s g.a g.r = X) := hX
  have HU : Hid (sgk S 10 X = U) := hU
  clear hX hU
  have cG := begin_ok G0.es (n := n) (by omega) (.inl hn)
  unfold ptr at cG ⊢
  clear h
  go_enter Tryz.func81, Tryz.ntmps81
  go_wp2_with fail
  refine cG.mono ?_
  rintro e W1 ⟨⟨z0, rfl⟩, b1⟩
  have G1 := G0.below hRlt b1
  obtain ⟨k3, k4, k5, k6⟩ := Es.cells G1.es
  have cI := is_b hb1 W1
  clear cG G0 b1 hW0
  go_wp2_with fail
  refine cI.mono ?_
  rintro e W2 ⟨rfl, b2⟩
  have G2 := G1.below hRlt b2
  clear cI G1 b2 k3 k4 k5 k6
  have cA := adv_c G2.es G2.ok.r
  rw [HX.out] at cA
  unfold ptr at cA
  go_wp2_with fail
  refine cA.mono ?_
  intro e W4 hA
  clear cA
  cases X with
  | error f =>
    obtain ⟨K4, rfl⟩ := hA
    have hU : Except.error f = U := HU.out
    subst hU
    exact ⟨rfl, G2.kr.trans K4, rfl⟩
  | ok g1 =>
    obtain ⟨K4, ⟨z, rfl⟩, E4⟩ := hA
    have G4 := G2.step hRlt K4 E4 (adv_mu G2.ok hkk HX.out).1
    have cS := hS W4 R g1 G4.es G4.ok
    obtain ⟨Y, hY⟩ : ∃ Y, S g1 = Y := ⟨_, rfl⟩
    have HY : Hid (S g1 = Y) := hY
    have HU1 : Hid (sgk1 10 Y = U) := by
      have := HU.out
      show _ = _
      rw [← this, ← hY]
      rfl
    rw [hY] at cS
    unfold ptr at cS
    have hl4 := G4.lt
    clear K4 E4 G2 hY HU
    go_wp2_with fail
    refine cS.mono ?_
    intro e W5 hP5
    clear cS
    cases Y with
    | error f =>
      obtain ⟨K5, rfl⟩ := hP5
      have hU : Except.error f = U := HU1.out
      subst hU
      exact ⟨rfl, G4.kr.trans K5, rfl⟩
    | ok p =>
      obtain ⟨x, g2⟩ := p
      obtain ⟨K5, ⟨m, a, cp, rfl, hin⟩, E5⟩ := hP5
      have hU : Except.ok (nd 10 [x], g2) = U := HU1.out
      subst hU
      have G5 := G4.step hRlt K5 E5 (hD _ _ _ G4.ok HY.out).1
      have hk5 := K5.below.size
      obtain ⟨W6, hW6⟩ : ∃ W6, W5.alloc (.cells #[.int .i64 x.o, .int .i64 x.i, .string x.s, .slice a x.l.length cp] 24) = W6 := ⟨_, rfl⟩
      have b6 : Below W5.heap.size W5 W6 := by rw [← hW6]; exact (Below.refl _ W5).alloc (Nat.le_refl _) _
      have q6 : W6.heap[W5.heap.size]? = some (.cells #[.int .i64 x.o, .int .i64 x.i, .string x.s, .slice a x.l.length cp] 24 (0, 0)) := by rw [← hW6]; exact heap_alloc_new W5 _
      have s6 : W6.heap.size = W5.heap.size + 1 := by rw [← hW6]; simp
      have cN := node_c 10 (some ⟨W5.heap.size, 0, none⟩) 1 1 W6
      have HG5 : Hid (Gx w W5 R s g2) := G5
      clear G5 G4 K5 E5
      go_wp2_with fail
      refine cN.mono ?_
      rintro e W7 ⟨rfl, b7⟩
      have b57 := nx b6 b7
      have G7 := HG5.out.below hRlt b57
      have s7 := b7.size
      have hin7 : XBase.In false (Rg W4.heap.size W7.heap.size) W7 (m + 1) (.agg #[.int .i64 10, .int .i64 0, .string ⟨#[]⟩, .slice (some ⟨W5.heap.size, 0, none⟩) 1 1]) (.mk 10 0 ⟨#[]⟩ [x]) :=
        EKd.in_one (lo := 0) (hi := 0) ((b7.block _ (by omega)).trans q6) ⟨by omega, by omega⟩ (in_rg (hin.below b57) (Nat.le_refl _) (by omega)) 10 0 ⟨#[]⟩ (by omega) (by omega) (by decide)
      obtain ⟨c0, c1, c2, c3⟩ := four_box G7.box
      have f0 := frozen_box G7.box 0
      have f1 := frozen_box G7.box 1
      have f2 := frozen_box G7.box 2
      have f3 := frozen_box G7.box 3
      obtain ⟨W8, hW8⟩ : ∃ W8, ((((W7.setCell ⟨w.heap.size, 0, none⟩ (.int .i64 10)).setCell ⟨w.heap.size, 1, none⟩ (.int .i64 0)).setCell ⟨w.heap.size, 2, none⟩ (.string ⟨#[]⟩)).setCell ⟨w.heap.size, 3, none⟩ (.slice (some ⟨W5.heap.size, 0, none⟩) 1 1)) = W8 := ⟨_, rfl⟩
      obtain ⟨p1, p2⟩ := EKd.made (l := [x]) G7 hRlt hin7 hl4 hW8
      obtain ⟨y0, y1, y2, y3⟩ := four_box p1
      have HP2 : Hid (PR w W8 R s (.returned (.agg #[.int .i64 10, .int .i64 0, .string ⟨#[]⟩, .slice (some ⟨W5.heap.size, 0, none⟩) 1 1])) (.ok (.mk 10 0 ⟨#[]⟩ [x], g2))) := p2
      clear p1 p2 G7 hin hin7 q6 b6 b7 b57 s6 s7 hk5 hl4 cN hW6
      go_wp2_with fail
      refine bodyPost_ret (v := .agg #[.int .i64 10, .int .i64 0, .string ⟨#[]⟩, .slice (some ⟨W5.heap.size, 0, none⟩) 1 1]) (by simp [results, Tryz.results81, go_sem, y0, y1, y2, y3]) rfl ?_
      exact HP2.out
set_option maxRecDepth 20000 in
set_option maxHeartbeats 1600000 in
theorem signed_not {w : World} {R : Nat} {s : ByteArray} {g : Sr} {n : Nat} {S : P} (hn : n ≤ 32) (hS : SgI s (n + 1) S) (hD : Dn s S) (h : Es w R s g.a g.r g.tk) (ho : SrOk s g) (hb1 : is g.tk [45] = false) (hb2 : is g.tk [33] = true) :
    Calls Tryz.prog 81 #[ptr R, .int .i64 n] w fun e w' => PR w w' R s e (sgk S 11 (adv s g.a g.r)) := by
  have hRlt := h.er.lt
  have G0 := Gx.start h ho
  obtain ⟨W0, hW0⟩ : ∃ W0, w.alloc (.cells #[.int .i64 0, .int .i64 0, .string ⟨#[]⟩, .slice none 0 0] 24) = W0 := ⟨_, rfl⟩
  rw [hW0] at G0
  have hkk := is_k hb2
  obtain ⟨U, hU⟩ : ∃ U, sgk S 11 (adv s g.a g.r) = U := ⟨_, rfl⟩
  rw [hU]
  obtain ⟨X, hX⟩ : ∃ X, adv s g.a g.r = X := ⟨_, rfl⟩
  rw [hX] at hU
  have HX : Hid (adv s g.a g.r = X) := hX
  have HU : Hid (sgk S 11 X = U) := hU
  clear hX hU
  have cG := begin_ok G0.es (n := n) (by omega) (.inl hn)
  unfold ptr at cG ⊢
  clear h
  go_enter Tryz.func81, Tryz.ntmps81
  go_wp2_with fail
  refine cG.mono ?_
  rintro e W1 ⟨⟨z0, rfl⟩, b1⟩
  have G1 := G0.below hRlt b1
  obtain ⟨k3, k4, k5, k6⟩ := Es.cells G1.es
  have cI := is_b hb1 W1
  clear cG G0 b1 hW0
  go_wp2_with fail
  refine cI.mono ?_
  rintro e W2 ⟨rfl, b2⟩
  have G2 := G1.below hRlt b2
  clear cI G1 b2 k3 k4 k5 k6
  obtain ⟨k3, k4, k5, k6⟩ := Es.cells G2.es
  have cJ := is_b hb2 W2
  go_wp2_with fail
  refine cJ.mono ?_
  rintro e W3 ⟨rfl, b3⟩
  have G3 := G2.below hRlt b3
  clear cJ G2 b3 k3 k4 k5 k6
  have cA := adv_c G3.es G3.ok.r
  rw [HX.out] at cA
  unfold ptr at cA
  go_wp2_with fail
  refine cA.mono ?_
  intro e W4 hA
  clear cA
  cases X with
  | error f =>
    obtain ⟨K4, rfl⟩ := hA
    have hU : Except.error f = U := HU.out
    subst hU
    exact ⟨rfl, G3.kr.trans K4, rfl⟩
  | ok g1 =>
    obtain ⟨K4, ⟨z, rfl⟩, E4⟩ := hA
    have G4 := G3.step hRlt K4 E4 (adv_mu G3.ok hkk HX.out).1
    have cS := hS W4 R g1 G4.es G4.ok
    obtain ⟨Y, hY⟩ : ∃ Y, S g1 = Y := ⟨_, rfl⟩
    have HY : Hid (S g1 = Y) := hY
    have HU1 : Hid (sgk1 11 Y = U) := by
      have := HU.out
      show _ = _
      rw [← this, ← hY]
      rfl
    rw [hY] at cS
    unfold ptr at cS
    have hl4 := G4.lt
    clear K4 E4 G3 hY HU
    go_wp2_with fail
    refine cS.mono ?_
    intro e W5 hP5
    clear cS
    cases Y with
    | error f =>
      obtain ⟨K5, rfl⟩ := hP5
      have hU : Except.error f = U := HU1.out
      subst hU
      exact ⟨rfl, G4.kr.trans K5, rfl⟩
    | ok p =>
      obtain ⟨x, g2⟩ := p
      obtain ⟨K5, ⟨m, a, cp, rfl, hin⟩, E5⟩ := hP5
      have hU : Except.ok (nd 11 [x], g2) = U := HU1.out
      subst hU
      have G5 := G4.step hRlt K5 E5 (hD _ _ _ G4.ok HY.out).1
      have hk5 := K5.below.size
      obtain ⟨W6, hW6⟩ : ∃ W6, W5.alloc (.cells #[.int .i64 x.o, .int .i64 x.i, .string x.s, .slice a x.l.length cp] 24) = W6 := ⟨_, rfl⟩
      have b6 : Below W5.heap.size W5 W6 := by rw [← hW6]; exact (Below.refl _ W5).alloc (Nat.le_refl _) _
      have q6 : W6.heap[W5.heap.size]? = some (.cells #[.int .i64 x.o, .int .i64 x.i, .string x.s, .slice a x.l.length cp] 24 (0, 0)) := by rw [← hW6]; exact heap_alloc_new W5 _
      have s6 : W6.heap.size = W5.heap.size + 1 := by rw [← hW6]; simp
      have cN := node_c 11 (some ⟨W5.heap.size, 0, none⟩) 1 1 W6
      have HG5 : Hid (Gx w W5 R s g2) := G5
      clear G5 G4 K5 E5
      go_wp2_with fail
      refine cN.mono ?_
      rintro e W7 ⟨rfl, b7⟩
      have b57 := nx b6 b7
      have G7 := HG5.out.below hRlt b57
      have s7 := b7.size
      have hin7 : XBase.In false (Rg W4.heap.size W7.heap.size) W7 (m + 1) (.agg #[.int .i64 11, .int .i64 0, .string ⟨#[]⟩, .slice (some ⟨W5.heap.size, 0, none⟩) 1 1]) (.mk 11 0 ⟨#[]⟩ [x]) :=
        EKd.in_one (lo := 0) (hi := 0) ((b7.block _ (by omega)).trans q6) ⟨by omega, by omega⟩ (in_rg (hin.below b57) (Nat.le_refl _) (by omega)) 11 0 ⟨#[]⟩ (by omega) (by omega) (by decide)
      obtain ⟨c0, c1, c2, c3⟩ := four_box G7.box
      have f0 := frozen_box G7.box 0
      have f1 := frozen_box G7.box 1
      have f2 := frozen_box G7.box 2
      have f3 := frozen_box G7.box 3
      obtain ⟨W8, hW8⟩ : ∃ W8, ((((W7.setCell ⟨w.heap.size, 0, none⟩ (.int .i64 11)).setCell ⟨w.heap.size, 1, none⟩ (.int .i64 0)).setCell ⟨w.heap.size, 2, none⟩ (.string ⟨#[]⟩)).setCell ⟨w.heap.size, 3, none⟩ (.slice (some ⟨W5.heap.size, 0, none⟩) 1 1)) = W8 := ⟨_, rfl⟩
      obtain ⟨p1, p2⟩ := EKd.made (l := [x]) G7 hRlt hin7 hl4 hW8
      obtain ⟨y0, y1, y2, y3⟩ := four_box p1
      have HP2 : Hid (PR w W8 R s (.returned (.agg #[.int .i64 11, .int .i64 0, .string ⟨#[]⟩, .slice (some ⟨W5.heap.size, 0, none⟩) 1 1])) (.ok (.mk 11 0 ⟨#[]⟩ [x], g2))) := p2
      clear p1 p2 G7 hin hin7 q6 b6 b7 b57 s6 s7 hk5 hl4 cN hW6
      go_wp2_with fail
      refine bodyPost_ret (v := .agg #[.int .i64 11, .int .i64 0, .string ⟨#[]⟩, .slice (some ⟨W5.heap.size, 0, none⟩) 1 1]) (by simp [results, Tryz.results81, go_sem, y0, y1, y2, y3]) rfl ?_
      exact HP2.out
set_option maxRecDepth 20000 in
set_option maxHeartbeats 1600000 in
theorem signed_part {w : World} {R : Nat} {s : ByteArray} {g : Sr} {n : Nat} {Q : P} (hn : n ≤ 33) (hk : n ≤ 32 ∨ g.tk.k = 0) (hP : PaI s n Q) (hD : Dn s Q) (h : Es w R s g.a g.r g.tk) (ho : SrOk s g) (hb1 : is g.tk [45] = false) (hb2 : is g.tk [33] = false) :
    Calls Tryz.prog 81 #[ptr R, .int .i64 n] w fun e w' => PR w w' R s e (Q g) := by
  have hRlt := h.er.lt
  have G0 := Gx.start h ho
  obtain ⟨W0, hW0⟩ : ∃ W0, w.alloc (.cells #[.int .i64 0, .int .i64 0, .string ⟨#[]⟩, .slice none 0 0] 24) = W0 := ⟨_, rfl⟩
  rw [hW0] at G0
  obtain ⟨U, hU⟩ : ∃ U, Q g = U := ⟨_, rfl⟩
  rw [hU]
  have HU : Hid (Q g = U) := hU
  clear hU
  have cG := begin_ok G0.es (n := n) hn hk
  unfold ptr at cG ⊢
  clear h
  go_enter Tryz.func81, Tryz.ntmps81
  go_wp2_with fail
  refine cG.mono ?_
  rintro e W1 ⟨⟨z0, rfl⟩, b1⟩
  have G1 := G0.below hRlt b1
  obtain ⟨k3, k4, k5, k6⟩ := Es.cells G1.es
  have cI := is_b hb1 W1
  clear cG G0 b1 hW0
  go_wp2_with fail
  refine cI.mono ?_
  rintro e W2 ⟨rfl, b2⟩
  have G2 := G1.below hRlt b2
  clear cI G1 b2 k3 k4 k5 k6
  obtain ⟨k3, k4, k5, k6⟩ := Es.cells G2.es
  have cJ := is_b hb2 W2
  go_wp2_with fail
  refine cJ.mono ?_
  rintro e W3 ⟨rfl, b3⟩
  have G3 := G2.below hRlt b3
  clear cJ G2 b3 k3 k4 k5 k6
  have cP := hP W3 R g G3.es G3.ok
  rw [HU.out] at cP
  unfold ptr at cP
  have hl3 := G3.lt
  go_wp2_with fail
  refine cP.mono ?_
  intro e W4 hN
  clear cP
  cases U with
  | error f =>
    obtain ⟨K4, rfl⟩ := hN
    exact ⟨rfl, G3.kr.trans K4, rfl⟩
  | ok p =>
    obtain ⟨x, g3⟩ := p
    obtain ⟨K4, ⟨m, a, cp, rfl, hin⟩, E4⟩ := hN
    have G4 := G3.step hRlt K4 E4 (hD _ _ _ G3.ok HU.out).1
    clear G3
    obtain ⟨c0, c1, c2, c3⟩ := four_box G4.box
    have f0 := frozen_box G4.box 0
    have f1 := frozen_box G4.box 1
    have f2 := frozen_box G4.box 2
    have f3 := frozen_box G4.box 3
    obtain ⟨W5, hW5⟩ : ∃ W5, ((((W4.setCell ⟨w.heap.size, 0, none⟩ (.int .i64 x.o)).setCell ⟨w.heap.size, 1, none⟩ (.int .i64 x.i)).setCell ⟨w.heap.size, 2, none⟩ (.string x.s)).setCell ⟨w.heap.size, 3, none⟩ (.slice a x.l.length cp)) = W5 := ⟨_, rfl⟩
    obtain ⟨p1, p2⟩ := G4.fin hRlt hin hl3 hW5
    obtain ⟨y0, y1, y2, y3⟩ := four_box p1
    have HP2 : Hid (PR w W5 R s (.returned (.agg #[.int .i64 x.o, .int .i64 x.i, .string x.s, .slice a x.l.length cp])) (.ok (x, g3))) := p2
    clear p1 p2 G4 K4 E4 hin hl3
    go_wp2_with fail
    refine bodyPost_ret (v := .agg #[.int .i64 x.o, .int .i64 x.i, .string x.s, .slice a x.l.length cp]) (by simp [results, Tryz.results81, go_sem, y0, y1, y2, y3]) rfl ?_
    exact HP2.out
set_option maxRecDepth 20000 in
set_option maxHeartbeats 1600000 in
theorem signed_deep {w : World} {R : Nat} {s : ByteArray} {g : Sr} (h : Es w R s g.a g.r g.tk) (ho : SrOk s g) (hk : g.tk.k ≠ 0) :
    Calls Tryz.prog 81 #[ptr R, .int .i64 33] w fun e w' => PR w w' R s e (.error (1001, g.tk.a)) := by
  have hRlt := h.er.lt
  have G0 := Gx.start h ho
  obtain ⟨W0, hW0⟩ : ∃ W0, w.alloc (.cells #[.int .i64 0, .int .i64 0, .string ⟨#[]⟩, .slice none 0 0] 24) = W0 := ⟨_, rfl⟩
  rw [hW0] at G0
  have cG := begin_deep G0.es hk
  unfold ptr at cG ⊢
  clear h
  go_enter Tryz.func81, Tryz.ntmps81
  go_wp2_with fail
  refine cG.mono ?_
  rintro e W1 ⟨rfl, b1⟩
  exact ⟨rfl, (G0.below hRlt b1).kr, rfl⟩
theorem is_end {t : Tk} (h : t.k = 0) (x : List UInt8) : is t x = false := by unfold is; rw [h]; rfl
theorem signed_c {s : ByteArray} {n : Nat} {S C : P} (hn : n ≤ 32) (hS : SgI s (n + 1) S) (hDS : Dn s S) (hC : ChI s (n + 1) C) (hDC : Dn s C) : SgI s n (sgd s S C) := by
  intro w R g h ho
  rw [sgd_eq]
  cases hb1 : is g.tk [45] with
  | true => rw [if_pos rfl]; exact signed_neg hn hS hDS h ho hb1
  | false =>
    rw [if_neg (by simp)]
    cases hb2 : is g.tk [33] with
    | true => rw [if_pos rfl]; exact signed_not hn hS hDS h ho hb1 hb2
    | false => rw [if_neg (by simp)]; exact signed_part (by omega) (.inl hn) (EPw.part_c (by omega) hC hDC) (par_dn hDC) h ho hb1 hb2
end Go.Proofs.YtofpdnhnlkocoaaGreatDoor.ESd
