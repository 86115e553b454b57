/- Code that is run without an error: reckon.Code. -/
import Derived.Test.YthjbknncbhkinaaGreatDoorMDp
import Derived.Test.YthjbknncbhkinaaGreatDoorCBx
import Derived.Defers
import Derived.Recover
import Derived.Test.YthjbknncbhkinaaGreatDoorPart0
namespace Go.Proofs.YthjbknncbhkinaaGreatDoor.MRn
open Go.RowKit Go.Proofs.YthjbknncbhkinaaGreatDoor.Base Go.Proofs.YthjbknncbhkinaaGreatDoor.VSm Go.Proofs.YthjbknncbhkinaaGreatDoor.VJn Go.Proofs.YthjbknncbhkinaaGreatDoor.VRs Go.Proofs.YthjbknncbhkinaaGreatDoor.VPk Go.Proofs.YthjbknncbhkinaaGreatDoor.MBx Go.Proofs.YthjbknncbhkinaaGreatDoor.MPu Go.Proofs.YthjbknncbhkinaaGreatDoor.MSe Go.Proofs.YthjbknncbhkinaaGreatDoor.MDo
open Go.Proofs.YthjbknncbhkinaaGreatDoor.VPure
open Go.Proofs.YthjbknncbhkinaaGreatDoor.CPu (Ins)
open Go.Proofs.YthjbknncbhkinaaGreatDoor.CBx (Cx cell_keep)
set_option linter.unusedVariables false

set_option maxRecDepth 20000 in
set_option maxHeartbeats 3200000 in
theorem line_c {K m : Nat} {w : World} {M : Nat} {tv sv pv0 cv : Value} {L : List Ins} {P : Nat → List C} {r : C} (hv : Cx K w cv L) (h : Mc K m w M tv sv pv0 (P 0)) (hn : L.length ≤ 8192) (hj : ∀ q (h : q < L.length), L[q].1 < 30)
    (hstep : ∀ q (h : q < L.length) W pv, Below M w W → Mc K m W M tv sv pv (P q) → Calls Tryz.prog 82 #[ptr M, .agg #[.int .i64 L[q].1, .int .i64 L[q].2]] W fun e w' => DR K m M tv sv pv W (.ok (P (q + 1))) e w')
    (hend : P L.length = [r]) :
    Calls Tryz.prog 66 #[ptr M, cv] w fun e w' => ∃ u, e = .returned u ∧ Base.In false (fun b => b < K) w' m u r ∧ Km M pv0 w w' := by
  have HV : Hid (Cx K w cv L) := hv
  obtain ⟨a, cap, rfl, hl, hm, hnil, hL⟩ := hv
  clear hL hnil
  obtain ⟨n, hnn⟩ : ∃ n, L.length = n := ⟨_, rfl⟩
  have HN : Hid (L.length = n) := hnn
  rw [hnn] at hl hn hend ⊢
  obtain ⟨W0, hW0⟩ : ∃ W0, w.alloc (.cells #[.int .i64 0, .bool false, .int .i64 0, .string ⟨#[]⟩, .slice none 0 0, .slice none 0 0] 46) = W0 := ⟨_, rfl⟩
  have b0 : Below w.heap.size w W0 := by rw [← hW0]; exact (Below.refl _ w).alloc (Nat.le_refl _) _
  have s0 : W0.heap.size = w.heap.size + 1 := by rw [← hW0]; simp
  have x0 : W0.heap[w.heap.size]? = some (.cells #[.int .i64 0, .bool false, .int .i64 0, .string ⟨#[]⟩, .slice none 0 0, .slice none 0 0] 46 (0, 0)) := by rw [← hW0]; exact heap_alloc_new w _
  have hlt := h.lt
  have hlow := h.low
  have HB0 : Hid (Km M pv0 w W0) := Km.of_below b0 (by omega)
  have HM0 : Hid _ := h.below b0
  have HX0 : Hid _ := x0
  have HP0 : Hid (some w.heap.size ≠ pv0.ownBlock) := fun e => by have := h.own_ne e.symm; omega
  have HJ : Hid _ := hj
  have HST : Hid _ := hstep
  have HEN : Hid (P n = [r]) := hend
  clear h b0 x0 hj hstep hnn hend
  go_enter Tryz.func66, Tryz.ntmps66
  go_wp2_with fail
  try rw [hW0]
  go_step3
  go_wp2_with fail
  go_step3
  go_wp2_with fail
  try rw [hW0]
  go_loopg [5] n (fun g i wr => ∃ (q : Nat) (pv : Value), q + g = n ∧ i = .int .i64 q ∧ Mc K m wr M tv sv pv (P q) ∧ (Km M pv0 w wr ∧ (pv.ownBlock = pv0.ownBlock ∨ ∃ g, pv.ownBlock = some g ∧ w.heap.size ≤ g)) ∧ some w.heap.size ≠ pv.ownBlock ∧ w.heap.size < wr.heap.size ∧ wr.heap[w.heap.size]? = some (.cells #[.int .i64 0, .bool false, .int .i64 0, .string ⟨#[]⟩, .slice none 0 0, .slice none 0 0] 46 (0, 0)))
  case atStart => exact ⟨0, pv0, by omega, rfl, HM0.out, ⟨HB0.out, .inl rfl⟩, HP0.out, by omega, HX0.out⟩
  case round =>
    clear HM0 HB0 HP0 HX0
    obtain ⟨q, pv, hg, rfl, hmc, ⟨hB, hpe⟩, hpn, hsz, hx⟩ := hrel
    have HPE : Hid _ := hpe
    have HKM : Hid (Km M pv0 w wr) := hB
    have hB := hB.below
    clear hpe
    have HM : Hid _ := hmc
    have HB : Hid (Below M w wr) := hB
    have HPN : Hid (some w.heap.size ≠ pv.ownBlock) := hpn
    have HX : Hid _ := hx
    clear hmc hB hpn hx
    by_cases hlq : q < n
    · have d0 : decide ((q : Int) < (n : Int)) = true := by simp; omega
      obtain ⟨aa, cc, hsl, -, -, -, hL⟩ := HV.out
      cases hsl
      have hlL : q < L.length := by rw [HN.out]; exact hlq
      obtain ⟨g1, og, rfl, hg1, hc⟩ : ∃ g o, a = some ⟨g, o, none⟩ ∧ g < K ∧ ∀ j (h : j < L.length), w.cell? ⟨g, o + j * 2, none⟩ = some (.int .i64 L[j].1) ∧ w.cell? ⟨g, o + j * 2 + 1, none⟩ = some (.int .i64 L[j].2) := by
        rcases hL with rfl | hL
        · simp at hlL
        · exact hL
      obtain ⟨k0, k1⟩ := hc q hlL
      have k0 := cell_keep (by omega : g1 < M) k0 HB.out
      have k1 := cell_keep (by omega : g1 < M) k1 HB.out
      have hjq := HJ.out q hlL
      have hsq := HST.out q hlL
      clear hc hL
      generalize L[q] = x at *
      obtain ⟨o, a⟩ := x
      dsimp only at k0 k1 hjq hsq
      obtain ⟨W4, hW4, b4, s4, x4⟩ := box1 wr (.int .i64 o) (.int .i64 a)
      obtain ⟨e0, e1⟩ := two_box x4
      have cD := hsq W4 pv (HB.out.trans (b4.mono (by omega))) (HM.out.below b4)
      have d30 : (o == 30) = false := by simp; omega
      have d31 : (o == 31) = false := by simp; omega
      have d32 : (o == 32) = false := by simp; omega
      have d33 : (o == 33) = false := by simp; omega
      have HB4 : Hid (Below wr.heap.size wr W4) := b4
      have hw1 : IntKind.i64.wrap ((q : Int) + 1) = (q : Int) + 1 := by rw [IntKind.wrap_i64]; omega
      clear hjq hsq b4 x4
      go_wp2_with fail
      try rw [hW4]
      refine cD.mono ?_
      rintro e W5 ⟨⟨v5, rfl⟩, pv5, m5, k5, e5⟩
      have HE : Hid (Mc K m W5 M tv sv pv5 (P (q + 1)) ∧ (Km M pv0 w W5 ∧ (pv5.ownBlock = pv0.ownBlock ∨ ∃ g, pv5.ownBlock = some g ∧ w.heap.size ≤ g)) ∧ some w.heap.size ≠ pv5.ownBlock ∧ w.heap.size < W5.heap.size ∧ W5.heap[w.heap.size]? = some (.cells #[.int .i64 0, .bool false, .int .i64 0, .string ⟨#[]⟩, .slice none 0 0, .slice none 0 0] 46 (0, 0))) := by
        have h1 := k5.below.size
        have hke : Km M pv0 w W4 := HKM.out.trans (Km.of_below (pv := pv) HB4.out (by omega)) HPE.out
        refine ⟨m5, ⟨hke.trans k5 HPE.out, ?_⟩, ?_, by omega, ?_⟩
        · rcases e5 with e | ⟨g, e, hg⟩
          · rw [e]; exact HPE.out
          · exact .inr ⟨g, e, by omega⟩
        · rcases e5 with e | ⟨g, e, hg⟩
          · rw [e]; exact HPN.out
          · rw [e]
            intro e2
            have := Option.some.inj e2
            omega
        · rw [k5.other w.heap.size (by omega) (by omega) HPN.out, HB4.out.block _ hsz, HX.out]
      clear cD m5 k5 e5 e0 e1 k0 k1
      go_wp2_with fail
      go_roundg (n - (q + 1))
      case rel => exact ⟨q + 1, pv5, by omega, by go_num, HE.out⟩
      case measure => omega
    · have d0 : decide ((q : Int) < (n : Int)) = false := by simp; omega
      obtain rfl : q = n := by omega
      have cT := take_c (K := K) (m := m) (w := wr) (M := M) (tv := tv) (sv := sv) (pv := pv) (q := []) (c := r) (by have := HM.out; rw [HEN.out] at this; exact this) (by simp)
      go_wp2_with fail
      refine cT.mono ?_
      rintro e W1 ⟨u, pv1, rfl, hin, m1, k1, e1⟩
      obtain ⟨an, ln, cn, al, ll, cl, rfl⟩ := in_shape hin
      have y1 := (k1.other w.heap.size hsz (by omega) HPN.out).trans HX.out
      obtain ⟨W9, hW9⟩ : ∃ W9, (((((W1.setCell ⟨w.heap.size, 0, none⟩ (.int .i64 r.k)).setCell ⟨w.heap.size, 1, none⟩ (.bool r.b)).setCell ⟨w.heap.size, 2, none⟩ (.int .i64 r.i)).setCell ⟨w.heap.size, 3, none⟩ (.string r.s)).setCell ⟨w.heap.size, 4, none⟩ (.slice an ln cn)).setCell ⟨w.heap.size, 5, none⟩ (.slice al ll cl) = W9 := ⟨_, rfl⟩
      obtain ⟨q1, q2, q3, q4⟩ := set6 _ _ _ _ _ _ y1 hW9
      have HE : Hid (∃ u, (Ending.returned (vl r.k r.b r.i r.s (.slice an ln cn) (.slice al ll cl)) = .returned u) ∧ Base.In false (fun b => b < K) W9 m u r ∧ Km M pv0 w W9) := by
        have hk := HKM.out.trans k1 HPE.out
        exact ⟨_, rfl, hin.keep fun b hb _ => q2 b (by have : b < K := hb; omega), q4 _ _ (by omega) hk.below, fun b hb h1 h2 => (q2 b (by omega)).trans (hk.other b hb h1 h2)⟩
      have HQ1 : Hid _ := q1
      obtain ⟨v0', v1', v2', v3', v4', v5'⟩ := six_box y1
      have g0 := frozen_box y1 0
      have g1 := frozen_box y1 1
      have g2 := frozen_box y1 2
      have g3 := frozen_box y1 3
      have g4 := frozen_box y1 4
      have g5 := frozen_box y1 5
      clear hin m1 k1 e1 y1 q1 q2 q3 q4 cT
      go_wp2_with fail
      try rw [hW9]
      try rw [Exit.noGoto_ret]
      refine bodyPost_ret (results_cell_row rfl _ W9 w.heap.size 46 _ (0, 0) _ rfl HQ1.out Tryz.underlying46 rfl (by kernel_rfl)) rfl ?_
      exact HE.out
end Go.Proofs.YthjbknncbhkinaaGreatDoor.MRn

namespace Go.Proofs.YthjbknncbhkinaaGreatDoor.MCd
open Go.RowKit Go.Proofs.YthjbknncbhkinaaGreatDoor.Base Go.Proofs.YthjbknncbhkinaaGreatDoor.VSm Go.Proofs.YthjbknncbhkinaaGreatDoor.VRs Go.Proofs.YthjbknncbhkinaaGreatDoor.MBx Go.Proofs.YthjbknncbhkinaaGreatDoor.MSe Go.Proofs.YthjbknncbhkinaaGreatDoor.MDo
set_option linter.unusedVariables false

theorem wp_tmps {P : Program} {c : Code} {Q : Exit → Act → World → Prop} {T : Array Value} (L : Array Value) {w : World} (e : T = L) (h : c.wp P Q { tmps := L, defers := [] } w) : c.wp P Q { tmps := T, defers := [] } w := by
  subst e; exact h
theorem as_no (w : World) : (Instr.typeAssert .nilIface 20 29 true).run Tryz.prog w = .ok (.tuple #[.int .i64 0, .bool false]) w := by
  simp [Instr.typeAssert, run_underlying Tryz.underlying29, Tryz.zeroValue29]
set_option maxRecDepth 20000 in
theorem catch_idle (p q : Addr) (w : World) :
    CallsD Tryz.prog 78 #[.pointer (some p), .pointer (some q)] .returning w fun e u' w' => e = .returned (.tuple #[]) ∧ u' = .returning ∧ w' = w := by
  refine callsD_of_wpS Tryz.func78 rfl fun c₀ cs hu => ?_
  apply wpS_seq
  apply wpS_region
  simp [wpOpsS, go_sem, recoverD, hu, Tryz.ntmps78, Exit.thenS, as_no]
  refine wpS_of_wp ?_
  refine wp_tmps (#[.pointer (some p), .pointer (some q), .int .i64 0, .bool false, .tuple #[.int .i64 0, .bool false], .nilIface, .tuple #[.int .i64 0, .bool false], .int .i64 0, .bool false, undef, undef, undef]) rfl ?_
  go_wp2
  cases c₀
  simp_all [bodyPostS, results, Tryz.results78]
abbrev nilS : Value := .slice none 0 0
/-- The closure that is caught. -/
abbrev clo (M B : Nat) : Value := .func (.func 65) #[] #[ptr M, ptr B]
set_option maxRecDepth 20000 in
set_option maxHeartbeats 1600000 in
theorem code1_c {K m M B : Nat} {w : World} {cv : Value} {r : C} (hcv : ∃ a n c, cv = .slice a n c) (hK : K ≤ M) (hM : M < w.heap.size) (hB : w.heap[B]? = some (.cells #[cv] 27 (0, 0))) (cR : ∀ W, Below w.heap.size w W → Calls Tryz.prog 66 #[ptr M, cv] W fun e w' => ∃ u, e = .returned u ∧ Base.In false (fun b => b < K) w' m u r ∧ Km M nilS W w') :
    Calls Tryz.prog 65 #[ptr M, ptr B] w fun e w' => ∃ u, e = .returned u ∧ Base.In false (fun b => b < K) w' m u r ∧ Km M nilS w w' := by
  obtain ⟨a, n, c, rfl⟩ := hcv
  obtain ⟨W0, hW0⟩ : ∃ W0, w.alloc (.cells #[.int .i64 0, .bool false, .int .i64 0, .string ⟨#[]⟩, .slice none 0 0, .slice none 0 0] 46) = W0 := ⟨_, rfl⟩
  have b0 : Below w.heap.size w W0 := by rw [← hW0]; exact (Below.refl _ w).alloc (Nat.le_refl _) _
  have s0 : W0.heap.size = w.heap.size + 1 := by rw [← hW0]; simp
  have x0 : W0.heap[w.heap.size]? = some (.cells #[.int .i64 0, .bool false, .int .i64 0, .string ⟨#[]⟩, .slice none 0 0, .slice none 0 0] 46 (0, 0)) := by rw [← hW0]; exact heap_alloc_new w _
  have hBl : B < w.heap.size := (Array.getElem?_eq_some_iff.1 hB).1
  have kB : W0.cell? ⟨B, 0, none⟩ = some (.slice a n c) := by
    have := (b0.block B hBl).trans hB
    simp [World.cell?, this]
  have c1 := cR W0 b0
  have HB0 : Hid _ := b0
  have HX0 : Hid _ := x0
  clear cR b0 x0 hB
  go_enter Tryz.func65, Tryz.ntmps65
  go_wp2_with fail
  try rw [hW0]
  refine c1.mono ?_
  rintro e W1 ⟨u, rfl, hin, k1⟩
  obtain ⟨an, ln, cn, al, ll, cl, rfl⟩ := in_shape hin
  have y1 := (k1.other w.heap.size (by omega) (by omega) (fun e => by cases e)).trans HX0.out
  obtain ⟨W9, hW9⟩ : ∃ W9, (((((W1.setCell ⟨w.heap.size, 0, none⟩ (.int .i64 r.k)).setCell ⟨w.heap.size, 1, none⟩ (.bool r.b)).setCell ⟨w.heap.size, 2, none⟩ (.int .i64 r.i)).setCell ⟨w.heap.size, 3, none⟩ (.string r.s)).setCell ⟨w.heap.size, 4, none⟩ (.slice an ln cn)).setCell ⟨w.heap.size, 5, none⟩ (.slice al ll cl) = W9 := ⟨_, rfl⟩
  obtain ⟨q1, q2, q3, q4⟩ := set6 _ _ _ _ _ _ y1 hW9
  have HE : Hid (∃ u, (Ending.returned (vl r.k r.b r.i r.s (.slice an ln cn) (.slice al ll cl)) = .returned u) ∧ Base.In false (fun b => b < K) W9 m u r ∧ Km M nilS w W9) := by
    have hk := (Km.of_below (pv := nilS) HB0.out (Nat.le_of_lt hM)).trans k1 (.inl rfl)
    exact ⟨_, rfl, hin.keep fun b hb _ => q2 b (by have : b < K := hb; omega), q4 _ _ (by omega) hk.below, fun b hb h1 h2 => (q2 b (by omega)).trans (hk.other b hb h1 h2)⟩
  have HQ1 : Hid _ := q1
  obtain ⟨v0', v1', v2', v3', v4', v5'⟩ := six_box y1
  have g0 := frozen_box y1 0
  have g1 := frozen_box y1 1
  have g2 := frozen_box y1 2
  have g3 := frozen_box y1 3
  have g4 := frozen_box y1 4
  have g5 := frozen_box y1 5
  clear hin k1 y1 q1 q2 q3 q4 c1
  go_wp2_with fail
  try rw [hW9]
  refine bodyPost_ret (results_cell_row rfl _ W9 w.heap.size 46 _ (0, 0) _ rfl HQ1.out Tryz.underlying46 rfl (by kernel_rfl)) rfl ?_
  exact HE.out
set_option maxRecDepth 20000 in
set_option maxHeartbeats 3200000 in
theorem caught_ok {K m M B : Nat} {w : World} {r : C} (hK : K ≤ M) (hM : M < w.heap.size) (cV : ∀ W, Below w.heap.size w W → Calls Tryz.prog 65 #[ptr M, ptr B] W fun e w' => ∃ u, e = .returned u ∧ Base.In false (fun b => b < K) w' m u r ∧ Km M nilS W w') :
    Calls Tryz.prog 64 #[clo M B] w fun e w' => ∃ u, e = .returned (.tuple #[u, .int .i64 0]) ∧ Base.In false (fun b => b < K) w' m u r ∧ Km M nilS w w' := by
  have hmf : ∀ (fn : Fn) (first cap : Array Value) (w : World), (Instr.makeFunc fn first cap).run Tryz.prog w = .ok (.func fn first cap) w := fun _ _ _ _ => rfl
  obtain ⟨W, hW⟩ : ∃ W, (w.alloc (.cells #[.int .i64 0, .bool false, .int .i64 0, .string ⟨#[]⟩, .slice none 0 0, .slice none 0 0] 46)).alloc (.cells #[.int .i64 0] 29) = W := ⟨_, rfl⟩
  have bW : Below w.heap.size w W := by rw [← hW]; exact ((Below.refl _ w).alloc (Nat.le_refl _) _).alloc (by simp) _
  have sW : W.heap.size = w.heap.size + 2 := by rw [← hW]; simp
  have zV : W.heap[w.heap.size]? = some (.cells #[.int .i64 0, .bool false, .int .i64 0, .string ⟨#[]⟩, .slice none 0 0, .slice none 0 0] 46 (0, 0)) := by rw [← hW, Below.heap_alloc _ _ _ (by simp), heap_alloc_new]
  have zM : W.heap[w.heap.size + 1]? = some (.cells #[.int .i64 0] 29 (0, 0)) := by
    rw [← hW]
    have := heap_alloc_new (w.alloc (.cells #[.int .i64 0, .bool false, .int .i64 0, .string ⟨#[]⟩, .slice none 0 0, .slice none 0 0] 46)) (.cells #[.int .i64 0] 29)
    rwa [World.size_alloc] at this
  have c1 := cV W bW
  have HB : Hid (Below w.heap.size w W) := bW
  have HV : Hid _ := zV
  have HM : Hid _ := zM
  clear bW zV zM cV
  go_enter_defers Tryz.func64, Tryz.ntmps64
  go_wp2_with fail
  try rw [hW]
  refine c1.mono ?_
  rintro e W1 ⟨u, rfl, hin, k1⟩
  obtain ⟨an, ln, cn, al, ll, cl, rfl⟩ := in_shape hin
  have v1 := (k1.other w.heap.size (by omega) (by omega) (fun e => by cases e)).trans HV.out
  have m1 := (k1.other (w.heap.size + 1) (by omega) (by omega) (fun e => by cases e)).trans HM.out
  have hk1 : Km M nilS w W1 := (Km.of_below (pv := nilS) HB.out (Nat.le_of_lt hM)).trans k1 (.inl rfl)
  obtain ⟨r0, r1, r2, r3, r4, r5⟩ := six_box v1
  have rf0 := frozen_box v1 0
  have rf1 := frozen_box v1 1
  have rf2 := frozen_box v1 2
  have rf3 := frozen_box v1 3
  have rf4 := frozen_box v1 4
  have rf5 := frozen_box v1 5
  obtain ⟨W2, hW2⟩ : ∃ W2, ((((((W1.setCell ⟨w.heap.size, 0, none⟩ (.int .i64 r.k)).setCell ⟨w.heap.size, 1, none⟩ (.bool r.b)).setCell ⟨w.heap.size, 2, none⟩ (.int .i64 r.i)).setCell ⟨w.heap.size, 3, none⟩ (.string r.s)).setCell ⟨w.heap.size, 4, none⟩ (.slice an ln cn)).setCell ⟨w.heap.size, 5, none⟩ (.slice al ll cl)) = W2 := ⟨_, rfl⟩
  obtain ⟨q1, q2, q3, q4⟩ := set6 _ _ _ _ _ _ v1 hW2
  have m2 : W2.heap[w.heap.size + 1]? = some (.cells #[.int .i64 0] 29 (0, 0)) := (q2 _ (by omega)).trans m1
  have e0 : W2.cell? ⟨w.heap.size + 1, 0, none⟩ = some (.int .i64 0) := by simp [World.cell?, m2]
  have ef := frozen_box m2 0
  obtain ⟨W3, hW3⟩ : ∃ W3, W2.setCell ⟨w.heap.size + 1, 0, none⟩ (.int .i64 0) = W3 := ⟨_, rfl⟩
  have m3 : W3.heap[w.heap.size + 1]? = some (.cells #[.int .i64 0] 29 (0, 0)) := by rw [← hW3]; simp [World.setCell, Array.getElem?_modify, m2]
  have o3 : ∀ b, b ≠ w.heap.size + 1 → W3.heap[b]? = W2.heap[b]? := fun b hb => by rw [← hW3, Below.heap_setCell _ _ _ _ (by simpa using hb)]
  have v3 : W3.heap[w.heap.size]? = some (.cells #[.int .i64 r.k, .bool r.b, .int .i64 r.i, .string r.s, .slice an ln cn, .slice al ll cl] 46 (0, 0)) := (o3 _ (by omega)).trans q1
  have HE : Hid (Base.In false (fun b => b < K) W3 m (vl r.k r.b r.i r.s (.slice an ln cn) (.slice al ll cl)) r ∧ Km M nilS w W3) := by
    refine ⟨hin.keep fun b hb _ => ?_, ?_, fun b hb h1 h2 => ?_⟩
    · rw [o3 b (by have : b < K := hb; omega), q2 b (by have : b < K := hb; omega)]
    · rw [← hW3]
      exact (q4 _ _ (by omega) hk1.below).setCell (p := ⟨w.heap.size + 1, 0, none⟩) (by show M ≤ w.heap.size + 1; omega) _
    · rw [o3 b (by omega), q2 b (by omega), hk1.other b hb h1 h2]
  obtain ⟨c0, c1', c2, c3, c4, c5⟩ := six_box v3
  have p0 : W3.cell? ⟨w.heap.size + 1, 0, none⟩ = some (.int .i64 0) := by simp [World.cell?, m3]
  clear hin q1 q2 q3 q4 m2 m3 v3 o3 v1 m1 k1 hk1 c1
  go_wp2_with fail
  refine leaves_cons (f := 78) (args := #[.pointer (some ⟨w.heap.size, 0, none⟩), .pointer (some ⟨w.heap.size + 1, 0, none⟩)]) (by simp) (by simp [go_sem]) ?_
  refine (catch_idle ⟨w.heap.size, 0, none⟩ ⟨w.heap.size + 1, 0, none⟩ W3).mono ?_
  rintro e u' w5 ⟨rfl, rfl, rfl⟩
  simp [Leaves, settle, results, Tryz.results64, go_sem, c0, c1', c2, c3, c4, c5, p0]
  exact HE.out
end Go.Proofs.YthjbknncbhkinaaGreatDoor.MCd

namespace Go.Proofs.YthjbknncbhkinaaGreatDoor.MCo
open Go.RowKit Go.Proofs.YthjbknncbhkinaaGreatDoor.Base Go.Proofs.YthjbknncbhkinaaGreatDoor.VSm Go.Proofs.YthjbknncbhkinaaGreatDoor.VRs Go.Proofs.YthjbknncbhkinaaGreatDoor.MBx Go.Proofs.YthjbknncbhkinaaGreatDoor.MSe Go.Proofs.YthjbknncbhkinaaGreatDoor.MDo Go.Proofs.YthjbknncbhkinaaGreatDoor.MCd
set_option linter.unusedVariables false

set_option maxRecDepth 20000 in
set_option maxHeartbeats 3200000 in
theorem code_ok {m : Nat} {w : World} {r : C} {a1 a2 a3 : Option Addr} {n1 n2 n3 c1 c2 c3 : Nat} (cR : ∀ W, Below w.heap.size w W → Mc w.heap.size m W (w.heap.size + 2) (.slice a2 n2 c2) (.slice a3 n3 c3) nilS [] → Calls Tryz.prog 66 #[ptr (w.heap.size + 2), .slice a1 n1 c1] W fun e w' => ∃ u, e = .returned u ∧ Base.In false (fun b => b < w.heap.size) w' m u r ∧ Km (w.heap.size + 2) nilS W w') :
    Calls Tryz.prog 42 #[.slice a1 n1 c1, .slice a2 n2 c2, .slice a3 n3 c3] w fun e w' => ∃ u, e = .returned (.tuple #[u, .int .i64 0]) ∧ Base.In false (fun b => b < w.heap.size) w' m u r ∧ Below w.heap.size w w' := by
  have hmf : ∀ (fn : Fn) (first cap : Array Value) (w : World), (Instr.makeFunc fn first cap).run Tryz.prog w = .ok (.func fn first cap) w := fun _ _ _ _ => rfl
  obtain ⟨W, hW⟩ : ∃ W, ((w.alloc (.cells #[.slice a1 n1 c1] 27)).alloc (.cells #[.int .i64 0, .bool false, .int .i64 0, .string ⟨#[]⟩, .slice none 0 0, .slice none 0 0] 46)).alloc (.cells #[.slice a2 n2 c2, .slice a3 n3 c3, nilS] 90) = W := ⟨_, rfl⟩
  have bW : Below w.heap.size w W := by rw [← hW]; exact (((Below.refl _ w).alloc (Nat.le_refl _) _).alloc (by simp) _).alloc (by simp <;> omega) _
  have sW : W.heap.size = w.heap.size + 3 := by rw [← hW]; simp
  have z0 : W.heap[w.heap.size]? = some (.cells #[.slice a1 n1 c1] 27 (0, 0)) := by rw [← hW, Below.heap_alloc _ _ _ (by simp <;> omega), Below.heap_alloc _ _ _ (by simp), heap_alloc_new]
  have z1 : W.heap[w.heap.size + 1]? = some (.cells #[.int .i64 0, .bool false, .int .i64 0, .string ⟨#[]⟩, .slice none 0 0, .slice none 0 0] 46 (0, 0)) := by
    rw [← hW, Below.heap_alloc _ _ _ (by simp)]
    have := heap_alloc_new (w.alloc (.cells #[.slice a1 n1 c1] 27)) (.cells #[.int .i64 0, .bool false, .int .i64 0, .string ⟨#[]⟩, .slice none 0 0, .slice none 0 0] 46)
    rwa [World.size_alloc] at this
  have z2 : W.heap[w.heap.size + 2]? = some (.cells #[.slice a2 n2 c2, .slice a3 n3 c3, nilS] 90 (0, 0)) := by
    rw [← hW]
    have := heap_alloc_new ((w.alloc (.cells #[.slice a1 n1 c1] 27)).alloc (.cells #[.int .i64 0, .bool false, .int .i64 0, .string ⟨#[]⟩, .slice none 0 0, .slice none 0 0] 46)) (.cells #[.slice a2 n2 c2, .slice a3 n3 c3, nilS] 90)
    rwa [World.size_alloc, World.size_alloc] at this
  have mW : Mc w.heap.size m W (w.heap.size + 2) (.slice a2 n2 c2) (.slice a3 n3 c3) nilS [] := ⟨z2, by omega, [], ⟨World.ownsRow_nil _ _ _ _, fun u hu => by cases hu⟩, rfl, fun j hj => by cases hj⟩
  have cK := caught_ok (K := w.heap.size) (m := m) (M := w.heap.size + 2) (B := w.heap.size) (w := W) (r := r) (by omega) (by omega) (fun W1 b1 => code1_c ⟨_, _, _, rfl⟩ (by omega) (by have := b1.size; omega) ((b1.block w.heap.size (by omega)).trans z0) fun W2 b2 => cR W2 ((bW.trans (b1.mono (by omega))).trans (b2.mono (by have := b1.size; omega))) ((mW.below b1).below b2))
  have HB : Hid (Below w.heap.size w W) := bW
  have HZ : Hid _ := z1
  have HW : Hid (_ = W) := hW
  clear cR bW z0 z1 z2 mW hW
  go_enter Tryz.func42, Tryz.ntmps42
  go_wp2_with fail
  rw [HW.out]
  refine cK.mono ?_
  rintro e W1 ⟨u, rfl, hin, k1⟩
  obtain ⟨an, ln, cn, al, ll, cl, rfl⟩ := in_shape hin
  have y1 := (k1.other (w.heap.size + 1) (by omega) (by omega) (fun e => by cases e)).trans HZ.out
  obtain ⟨W9, hW9⟩ : ∃ W9, (((((W1.setCell ⟨w.heap.size + 1, 0, none⟩ (.int .i64 r.k)).setCell ⟨w.heap.size + 1, 1, none⟩ (.bool r.b)).setCell ⟨w.heap.size + 1, 2, none⟩ (.int .i64 r.i)).setCell ⟨w.heap.size + 1, 3, none⟩ (.string r.s)).setCell ⟨w.heap.size + 1, 4, none⟩ (.slice an ln cn)).setCell ⟨w.heap.size + 1, 5, none⟩ (.slice al ll cl) = W9 := ⟨_, rfl⟩
  obtain ⟨q1, q2, q3, q4⟩ := set6 _ _ _ _ _ _ y1 hW9
  have HE : Hid (Base.In false (fun b => b < w.heap.size) W9 m (vl r.k r.b r.i r.s (.slice an ln cn) (.slice al ll cl)) r ∧ Below w.heap.size w W9) := ⟨hin.keep fun b hb _ => q2 b (by have : b < w.heap.size := hb; omega), q4 _ _ (by omega) (HB.out.trans (k1.below.mono (by omega)))⟩
  have HQ1 : Hid _ := q1
  obtain ⟨v0', v1', v2', v3', v4', v5'⟩ := six_box y1
  have g0 := frozen_box y1 0
  have g1 := frozen_box y1 1
  have g2 := frozen_box y1 2
  have g3 := frozen_box y1 3
  have g4 := frozen_box y1 4
  have g5 := frozen_box y1 5
  clear hin k1 y1 q1 q2 q3 q4 cK
  go_wp2_with fail
  try rw [hW9]
  refine bodyPost_ret (Part.res_row_tmp rfl _ W9 (w.heap.size + 1) 46 _ (0, 0) _ rfl HQ1.out Tryz.underlying46 rfl (by kernel_rfl)) rfl ?_
  exact ⟨_, rfl, HE.out⟩
end Go.Proofs.YthjbknncbhkinaaGreatDoor.MCo
