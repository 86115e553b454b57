import Derived.Defers
import Derived.Recover
import Derived.Test.YthjbknncbhkinaaGreatDoorPS04
import Derived.Test.YthjbknncbhkinaaGreatDoorPS06
import Derived.Test.YthjbknncbhkinaaGreatDoorPS07
import Derived.Test.YthjbknncbhkinaaGreatDoorPS10
import Derived.Test.YthjbknncbhkinaaGreatDoorPS15
import Derived.Test.YthjbknncbhkinaaGreatDoorPS18
import Derived.Test.YthjbknncbhkinaaGreatDoorPS19
import Derived.Test.YthjbknncbhkinaaGreatDoorPS28
import Derived.Test.YthjbknncbhkinaaGreatDoorPS29
import Derived.Test.YthjbknncbhkinaaGreatDoorPS31
open Go.Proofs.Tryz
set_option linter.unusedVariables false
set_option maxRecDepth 20000
set_option maxHeartbeats 3200000
namespace Go.Proofs.YthjbknncbhkinaaGreatDoor.MRn
open Go.RowKit Base VSm VRs MBx MSe MDo
open CPu (Ins)
open CBx (Cx cell_keep)
theorem line_c {K m : Nat} {w : World} {M : Nat} {tv sv pv0 cv : Value} {L : List Ins} {P : Nat -> List C} {r : C} (hv : Cx K w cv L) (h : Mc K m w M tv sv pv0 (P 0)) (hn : L.length <= 8192) (hj : ∀ q (h : q < L.length), L[q].1 < 30)
  (hstep : ∀ q (h : q < L.length) W pv, Below M w W -> Mc K m W M tv sv pv (P q) -> Calls prog 82 #[ptr M, .agg #[.int .i64 L[q].1, .int .i64 L[q].2]] W fun e w' => DR K m M tv sv pv W (.ok (P (q + 1))) e w')
  (hend : P L.length = [r]) :
  Calls prog 66 #[ptr M, cv] w fun e w' => ∃ u, e = .returned u /\ Base.In false (fun b => b < K) w' m u r /\ Km M pv0 w w' := by
 have HV : Hid (Cx K w cv L) := hv
 obtain ⟨a, cap, rfl, hl, hm, hnil, hL⟩ := hv
 clear hL hnil
 obtain ⟨n, hnn⟩ : ∃ n, L.length = n := ⟨_, rfl⟩
 have HN : Hid (L.length = n) := hnn
 rw [hnn] at hl hn hend ⊢
 obtain ⟨W0, hW0⟩ : ∃ W0, w.alloc (.cells #[.int .i64 0, .bool false, .int .i64 0, .string ⟨#[]⟩, .slice none 0 0, .slice none 0 0] 46) = W0 := ⟨_, rfl⟩
 have b0 : Below w.heap.size w W0 := by rw [<- hW0]; exact (Below.refl _ w).alloc (Nat.le_refl _) _
 have s0 : W0.heap.size = w.heap.size + 1 := by rw [<- hW0]; simp
 have x0 : W0.heap[w.heap.size]? = some (.cells #[.int .i64 0, .bool false, .int .i64 0, .string ⟨#[]⟩, .slice none 0 0, .slice none 0 0] 46 (0, 0)) := by rw [<- hW0]; exact heap_alloc_new w _
 have hlt := h.lt
 have hlow := h.low
 have HB0 : Hid (Km M pv0 w W0) := Km.of_below b0 (by omega)
 have HM0 : Hid _ := h.below b0
 have HX0 : Hid _ := x0
 have HP0 : Hid (some w.heap.size ≠ pv0.ownBlock) := fun e => by have := h.own_ne e.symm; omega
 have HJ : Hid _ := hj
 have HST : Hid _ := hstep
 have HEN : Hid (P n = [r]) := hend
 clear h b0 x0 hj hstep hnn hend
 go_enter func66, ntmps66
 go_wp2_with fail
 try rw [hW0]
 go_step3
 go_wp2_with fail
 go_step3
 go_wp2_with fail
 try rw [hW0]
 go_loopg [5] n (fun g i wr => ∃ (q : Nat) (pv : Value), q + g = n /\ i = .int .i64 q /\ Mc K m wr M tv sv pv (P q) /\ (Km M pv0 w wr /\ (pv.ownBlock = pv0.ownBlock \/ ∃ g, pv.ownBlock = some g /\ w.heap.size <= g)) /\ some w.heap.size ≠ pv.ownBlock /\ w.heap.size < wr.heap.size /\ wr.heap[w.heap.size]? = some (.cells #[.int .i64 0, .bool false, .int .i64 0, .string ⟨#[]⟩, .slice none 0 0, .slice none 0 0] 46 (0, 0)))
 case atStart => exact ⟨0, pv0, by omega, rfl, HM0.out, ⟨HB0.out, .inl rfl⟩, HP0.out, by omega, HX0.out⟩
 case round =>
  clear HM0 HB0 HP0 HX0
  obtain ⟨q, pv, hg, rfl, hmc, ⟨hB, hpe⟩, hpn, hsz, hx⟩ := hrel
  have HPE : Hid _ := hpe
  have HKM : Hid (Km M pv0 w wr) := hB
  have hB := hB.below
  clear hpe
  have HM : Hid _ := hmc
  have HB : Hid (Below M w wr) := hB
  have HPN : Hid (some w.heap.size ≠ pv.ownBlock) := hpn
  have HX : Hid _ := hx
  clear hmc hB hpn hx
  by_cases hlq : q < n
  ·have d0 : decide ((q : Int) < (n : Int)) = true := by simp; omega
   obtain ⟨aa, cc, hsl, -, -, -, hL⟩ := HV.out
   cases hsl
   have hlL : q < L.length := by rw [HN.out]; exact hlq
   obtain ⟨g1, og, rfl, hg1, hc⟩ : ∃ g o, a = some ⟨g, o, none⟩ /\ g < K /\ ∀ j (h : j < L.length), w.cell? ⟨g, o + j * 2, none⟩ = some (.int .i64 L[j].1) /\ w.cell? ⟨g, o + j * 2 + 1, none⟩ = some (.int .i64 L[j].2) := by
    rcases hL with rfl | hL
    ·simp at hlL
    ·exact hL
   obtain ⟨k0, k1⟩ := hc q hlL
   have k0 := cell_keep (by omega : g1 < M) k0 HB.out
   have k1 := cell_keep (by omega : g1 < M) k1 HB.out
   have hjq := HJ.out q hlL
   have hsq := HST.out q hlL
   clear hc hL
   generalize L[q] = x at *
   obtain ⟨o, a⟩ := x
   dsimp only at k0 k1 hjq hsq
   obtain ⟨W4, hW4, b4, s4, x4⟩ := box1 wr (.int .i64 o) (.int .i64 a)
   obtain ⟨e0, e1⟩ := two_box x4
   have cD := hsq W4 pv (HB.out.trans (b4.mono (by omega))) (HM.out.below b4)
   have d30 : (o == 30) = false := by simp; omega
   have d31 : (o == 31) = false := by simp; omega
   have d32 : (o == 32) = false := by simp; omega
   have d33 : (o == 33) = false := by simp; omega
   have HB4 : Hid (Below wr.heap.size wr W4) := b4
   have hw1 : IntKind.i64.wrap ((q : Int) + 1) = (q : Int) + 1 := by rw [IntKind.wrap_i64]; omega
   clear hjq hsq b4 x4
   go_wp2_with fail
   try rw [hW4]
   refine cD.mono ?_
   rintro e W5 ⟨⟨v5, rfl⟩, pv5, m5, k5, e5⟩
   have HE : Hid (Mc K m W5 M tv sv pv5 (P (q + 1)) /\ (Km M pv0 w W5 /\ (pv5.ownBlock = pv0.ownBlock \/ ∃ g, pv5.ownBlock = some g /\ w.heap.size <= g)) /\ some w.heap.size ≠ pv5.ownBlock /\ w.heap.size < W5.heap.size /\ W5.heap[w.heap.size]? = some (.cells #[.int .i64 0, .bool false, .int .i64 0, .string ⟨#[]⟩, .slice none 0 0, .slice none 0 0] 46 (0, 0))) := by
    have h1 := k5.below.size
    have hke : Km M pv0 w W4 := HKM.out.trans (Km.of_below (pv := pv) HB4.out (by omega)) HPE.out
    refine ⟨m5, ⟨hke.trans k5 HPE.out, ?_⟩, ?_, by omega, ?_⟩
    ·rcases e5 with e | ⟨g, e, hg⟩
     ·rw [e]; exact HPE.out
     ·exact .inr ⟨g, e, by omega⟩
    ·rcases e5 with e | ⟨g, e, hg⟩
     ·rw [e]; exact HPN.out
     ·rw [e]
      intro e2
      have := Option.some.inj e2
      omega
    ·rw [k5.other w.heap.size (by omega) (by omega) HPN.out, HB4.out.block _ hsz, HX.out]
   clear cD m5 k5 e5 e0 e1 k0 k1
   go_wp2_with fail
   go_roundg (n - (q + 1))
   case rel => exact ⟨q + 1, pv5, by omega, by go_num, HE.out⟩
   case measure => omega
  ·have d0 : decide ((q : Int) < (n : Int)) = false := by simp; omega
   obtain rfl : q = n := by omega
   have cT := take_c (K := K) (m := m) (w := wr) (M := M) (tv := tv) (sv := sv) (pv := pv) (q := []) (c := r) (by have := HM.out; rw [HEN.out] at this; exact this) (by simp)
   go_wp2_with fail
   refine cT.mono ?_
   rintro e W1 ⟨u, pv1, rfl, hin, m1, k1, e1⟩
   obtain ⟨an, ln, cn, al, ll, cl, rfl⟩ := in_shape hin
   have y1 := (k1.other w.heap.size hsz (by omega) HPN.out).trans HX.out
   obtain ⟨W9, hW9⟩ : ∃ W9, (((((W1.setCell ⟨w.heap.size, 0, none⟩ (.int .i64 r.k)).setCell ⟨w.heap.size, 1, none⟩ (.bool r.b)).setCell ⟨w.heap.size, 2, none⟩ (.int .i64 r.i)).setCell ⟨w.heap.size, 3, none⟩ (.string r.s)).setCell ⟨w.heap.size, 4, none⟩ (.slice an ln cn)).setCell ⟨w.heap.size, 5, none⟩ (.slice al ll cl) = W9 := ⟨_, rfl⟩
   obtain ⟨q1, q2, q3, q4⟩ := set6 _ _ _ _ _ _ y1 hW9
   have HE : Hid (∃ u, (Ending.returned (vl r.k r.b r.i r.s (.slice an ln cn) (.slice al ll cl)) = .returned u) /\ Base.In false (fun b => b < K) W9 m u r /\ Km M pv0 w W9) := by
    have hk := HKM.out.trans k1 HPE.out
    exact ⟨_, rfl, hin.keep fun b hb _ => q2 b (by have : b < K := hb; omega), q4 _ _ (by omega) hk.below, fun b hb h1 h2 => (q2 b (by omega)).trans (hk.other b hb h1 h2)⟩
   have HQ1 : Hid _ := q1
   obtain ⟨v0', v1', v2', v3', v4', v5'⟩ := six_box y1
   have g0 := frozen_box y1 0
   have g1 := frozen_box y1 1
   have g2 := frozen_box y1 2
   have g3 := frozen_box y1 3
   have g4 := frozen_box y1 4
   have g5 := frozen_box y1 5
   clear hin m1 k1 e1 y1 q1 q2 q3 q4 cT
   go_wp2_with fail
   try rw [hW9]
   try rw [Exit.noGoto_ret]
   refine bodyPost_ret (results_cell_row rfl _ W9 w.heap.size 46 _ (0, 0) _ rfl HQ1.out underlying46 rfl (by kernel_rfl)) rfl ?_
   exact HE.out
end Go.Proofs.YthjbknncbhkinaaGreatDoor.MRn
namespace Go.Proofs.YthjbknncbhkinaaGreatDoor.MCd
open Go.RowKit Base VSm VRs MBx
theorem wp_tmps {P : Program} {c : Code} {Q : Exit -> Act -> World -> Prop} {T : Array Value} (L : Array Value) {w : World} (e : T = L) (h : c.wp P Q { tmps := L, defers := [] } w) : c.wp P Q { tmps := T, defers := [] } w := by
 subst e; exact h
theorem as_no (w : World) : (Instr.typeAssert .nilIface 20 29 true).run prog w = .ok (.tuple #[.int .i64 0, .bool false]) w := by
 simp [Instr.typeAssert, run_underlying underlying29, Tryz.zeroValue29]
theorem catch_idle (p q : Addr) (w : World) :
  CallsD prog 78 #[.pointer (some p), .pointer (some q)] .returning w fun e u' w' => e = .returned (.tuple #[]) /\ u' = .returning /\ w' = w := by
 refine callsD_of_wpS func78 rfl fun c₀ cs hu => ?_
 apply wpS_seq
 apply wpS_region
 simp [wpOpsS, go_sem, recoverD, hu, ntmps78, Exit.thenS, as_no]
 refine wpS_of_wp ?_
 refine wp_tmps (#[.pointer (some p), .pointer (some q), .int .i64 0, .bool false, .tuple #[.int .i64 0, .bool false], .nilIface, .tuple #[.int .i64 0, .bool false], .int .i64 0, .bool false, undef, undef, undef]) rfl ?_
 go_wp2
 cases c₀
 simp_all [bodyPostS, results, results78]
abbrev nilS : Value := .slice none 0 0
abbrev clo (M B : Nat) : Value := .func (.func 65) #[] #[ptr M, ptr B]
theorem code1_c {K m M B : Nat} {w : World} {cv : Value} {r : C} (hcv : ∃ a n c, cv = .slice a n c) (hK : K <= M) (hM : M < w.heap.size) (hB : w.heap[B]? = some (.cells #[cv] 27 (0, 0))) (cR : ∀ W, Below w.heap.size w W -> Calls prog 66 #[ptr M, cv] W fun e w' => ∃ u, e = .returned u /\ Base.In false (fun b => b < K) w' m u r /\ Km M nilS W w') :
  Calls prog 65 #[ptr M, ptr B] w fun e w' => ∃ u, e = .returned u /\ Base.In false (fun b => b < K) w' m u r /\ Km M nilS w w' := by
 obtain ⟨a, n, c, rfl⟩ := hcv
 obtain ⟨W0, hW0⟩ : ∃ W0, w.alloc (.cells #[.int .i64 0, .bool false, .int .i64 0, .string ⟨#[]⟩, .slice none 0 0, .slice none 0 0] 46) = W0 := ⟨_, rfl⟩
 have b0 : Below w.heap.size w W0 := by rw [<- hW0]; exact (Below.refl _ w).alloc (Nat.le_refl _) _
 have s0 : W0.heap.size = w.heap.size + 1 := by rw [<- hW0]; simp
 have x0 : W0.heap[w.heap.size]? = some (.cells #[.int .i64 0, .bool false, .int .i64 0, .string ⟨#[]⟩, .slice none 0 0, .slice none 0 0] 46 (0, 0)) := by rw [<- hW0]; exact heap_alloc_new w _
 have hBl : B < w.heap.size := (Array.getElem?_eq_some_iff.1 hB).1
 have kB : W0.cell? ⟨B, 0, none⟩ = some (.slice a n c) := by
  have := (b0.block B hBl).trans hB
  simp [World.cell?, this]
 have c1 := cR W0 b0
 have HB0 : Hid _ := b0
 have HX0 : Hid _ := x0
 clear cR b0 x0 hB
 go_enter func65, ntmps65
 go_wp2_with fail
 try rw [hW0]
 refine c1.mono ?_
 rintro e W1 ⟨u, rfl, hin, k1⟩
 obtain ⟨an, ln, cn, al, ll, cl, rfl⟩ := in_shape hin
 have y1 := (k1.other w.heap.size (by omega) (by omega) (fun e => by cases e)).trans HX0.out
 obtain ⟨W9, hW9⟩ : ∃ W9, (((((W1.setCell ⟨w.heap.size, 0, none⟩ (.int .i64 r.k)).setCell ⟨w.heap.size, 1, none⟩ (.bool r.b)).setCell ⟨w.heap.size, 2, none⟩ (.int .i64 r.i)).setCell ⟨w.heap.size, 3, none⟩ (.string r.s)).setCell ⟨w.heap.size, 4, none⟩ (.slice an ln cn)).setCell ⟨w.heap.size, 5, none⟩ (.slice al ll cl) = W9 := ⟨_, rfl⟩
 obtain ⟨q1, q2, q3, q4⟩ := set6 _ _ _ _ _ _ y1 hW9
 have HE : Hid (∃ u, (Ending.returned (vl r.k r.b r.i r.s (.slice an ln cn) (.slice al ll cl)) = .returned u) /\ Base.In false (fun b => b < K) W9 m u r /\ Km M nilS w W9) := by
  have hk := (Km.of_below (pv := nilS) HB0.out (Nat.le_of_lt hM)).trans k1 (.inl rfl)
  exact ⟨_, rfl, hin.keep fun b hb _ => q2 b (by have : b < K := hb; omega), q4 _ _ (by omega) hk.below, fun b hb h1 h2 => (q2 b (by omega)).trans (hk.other b hb h1 h2)⟩
 have HQ1 : Hid _ := q1
 obtain ⟨v0', v1', v2', v3', v4', v5'⟩ := six_box y1
 have g0 := frozen_box y1 0
 have g1 := frozen_box y1 1
 have g2 := frozen_box y1 2
 have g3 := frozen_box y1 3
 have g4 := frozen_box y1 4
 have g5 := frozen_box y1 5
 clear hin k1 y1 q1 q2 q3 q4 c1
 go_wp2_with fail
 try rw [hW9]
 refine bodyPost_ret (results_cell_row rfl _ W9 w.heap.size 46 _ (0, 0) _ rfl HQ1.out underlying46 rfl (by kernel_rfl)) rfl ?_
 exact HE.out
theorem caught_ok {K m M B : Nat} {w : World} {r : C} (hK : K <= M) (hM : M < w.heap.size) (cV : ∀ W, Below w.heap.size w W -> Calls prog 65 #[ptr M, ptr B] W fun e w' => ∃ u, e = .returned u /\ Base.In false (fun b => b < K) w' m u r /\ Km M nilS W w') :
  Calls prog 64 #[clo M B] w fun e w' => ∃ u, e = .returned (.tuple #[u, .int .i64 0]) /\ Base.In false (fun b => b < K) w' m u r /\ Km M nilS w w' := by
 have hmf : ∀ (fn : Fn) (first cap : Array Value) (w : World), (Instr.makeFunc fn first cap).run prog w = .ok (.func fn first cap) w := fun _ _ _ _ => rfl
 obtain ⟨W, hW⟩ : ∃ W, (w.alloc (.cells #[.int .i64 0, .bool false, .int .i64 0, .string ⟨#[]⟩, .slice none 0 0, .slice none 0 0] 46)).alloc (.cells #[.int .i64 0] 29) = W := ⟨_, rfl⟩
 have bW : Below w.heap.size w W := by rw [<- hW]; exact ((Below.refl _ w).alloc (Nat.le_refl _) _).alloc (by simp) _
 have sW : W.heap.size = w.heap.size + 2 := by rw [<- hW]; simp
 have zV : W.heap[w.heap.size]? = some (.cells #[.int .i64 0, .bool false, .int .i64 0, .string ⟨#[]⟩, .slice none 0 0, .slice none 0 0] 46 (0, 0)) := by rw [<- hW, Below.heap_alloc _ _ _ (by simp), heap_alloc_new]
 have zM : W.heap[w.heap.size + 1]? = some (.cells #[.int .i64 0] 29 (0, 0)) := by
  rw [<- hW]
  have := heap_alloc_new (w.alloc (.cells #[.int .i64 0, .bool false, .int .i64 0, .string ⟨#[]⟩, .slice none 0 0, .slice none 0 0] 46)) (.cells #[.int .i64 0] 29)
  rwa [World.size_alloc] at this
 have c1 := cV W bW
 have HB : Hid (Below w.heap.size w W) := bW
 have HV : Hid _ := zV
 have HM : Hid _ := zM
 clear bW zV zM cV
 go_enter_defers func64, ntmps64
 go_wp2_with fail
 try rw [hW]
 refine c1.mono ?_
 rintro e W1 ⟨u, rfl, hin, k1⟩
 obtain ⟨an, ln, cn, al, ll, cl, rfl⟩ := in_shape hin
 have v1 := (k1.other w.heap.size (by omega) (by omega) (fun e => by cases e)).trans HV.out
 have m1 := (k1.other (w.heap.size + 1) (by omega) (by omega) (fun e => by cases e)).trans HM.out
 have hk1 : Km M nilS w W1 := (Km.of_below (pv := nilS) HB.out (Nat.le_of_lt hM)).trans k1 (.inl rfl)
 obtain ⟨r0, r1, r2, r3, r4, r5⟩ := six_box v1
 have rf0 := frozen_box v1 0
 have rf1 := frozen_box v1 1
 have rf2 := frozen_box v1 2
 have rf3 := frozen_box v1 3
 have rf4 := frozen_box v1 4
 have rf5 := frozen_box v1 5
 obtain ⟨W2, hW2⟩ : ∃ W2, ((((((W1.setCell ⟨w.heap.size, 0, none⟩ (.int .i64 r.k)).setCell ⟨w.heap.size, 1, none⟩ (.bool r.b)).setCell ⟨w.heap.size, 2, none⟩ (.int .i64 r.i)).setCell ⟨w.heap.size, 3, none⟩ (.string r.s)).setCell ⟨w.heap.size, 4, none⟩ (.slice an ln cn)).setCell ⟨w.heap.size, 5, none⟩ (.slice al ll cl)) = W2 := ⟨_, rfl⟩
 obtain ⟨q1, q2, q3, q4⟩ := set6 _ _ _ _ _ _ v1 hW2
 have m2 : W2.heap[w.heap.size + 1]? = some (.cells #[.int .i64 0] 29 (0, 0)) := (q2 _ (by omega)).trans m1
 have e0 : W2.cell? ⟨w.heap.size + 1, 0, none⟩ = some (.int .i64 0) := by simp [World.cell?, m2]
 have ef := frozen_box m2 0
 obtain ⟨W3, hW3⟩ : ∃ W3, W2.setCell ⟨w.heap.size + 1, 0, none⟩ (.int .i64 0) = W3 := ⟨_, rfl⟩
 have m3 : W3.heap[w.heap.size + 1]? = some (.cells #[.int .i64 0] 29 (0, 0)) := by rw [<- hW3]; simp [World.setCell, Array.getElem?_modify, m2]
 have o3 : ∀ b, b ≠ w.heap.size + 1 -> W3.heap[b]? = W2.heap[b]? := fun b hb => by rw [<- hW3, Below.heap_setCell _ _ _ _ (by simpa using hb)]
 have v3 : W3.heap[w.heap.size]? = some (.cells #[.int .i64 r.k, .bool r.b, .int .i64 r.i, .string r.s, .slice an ln cn, .slice al ll cl] 46 (0, 0)) := (o3 _ (by omega)).trans q1
 have HE : Hid (Base.In false (fun b => b < K) W3 m (vl r.k r.b r.i r.s (.slice an ln cn) (.slice al ll cl)) r /\ Km M nilS w W3) := by
  refine ⟨hin.keep fun b hb _ => ?_, ?_, fun b hb h1 h2 => ?_⟩
  ·rw [o3 b (by have : b < K := hb; omega), q2 b (by have : b < K := hb; omega)]
  ·rw [<- hW3]
   exact (q4 _ _ (by omega) hk1.below).setCell (p := ⟨w.heap.size + 1, 0, none⟩) (by show M <= w.heap.size + 1; omega) _
  ·rw [o3 b (by omega), q2 b (by omega), hk1.other b hb h1 h2]
 obtain ⟨c0, c1', c2, c3, c4, c5⟩ := six_box v3
 have p0 : W3.cell? ⟨w.heap.size + 1, 0, none⟩ = some (.int .i64 0) := by simp [World.cell?, m3]
 clear hin q1 q2 q3 q4 m2 m3 v3 o3 v1 m1 k1 hk1 c1
 go_wp2_with fail
 refine leaves_cons (f := 78) (args := #[.pointer (some ⟨w.heap.size, 0, none⟩), .pointer (some ⟨w.heap.size + 1, 0, none⟩)]) (by simp) (by simp [go_sem]) ?_
 refine (catch_idle ⟨w.heap.size, 0, none⟩ ⟨w.heap.size + 1, 0, none⟩ W3).mono ?_
 rintro e u' w5 ⟨rfl, rfl, rfl⟩
 simp [Leaves, settle, results, results64, go_sem, c0, c1', c2, c3, c4, c5, p0]
 exact HE.out
end Go.Proofs.YthjbknncbhkinaaGreatDoor.MCd
namespace Go.Proofs.YthjbknncbhkinaaGreatDoor.MCo
open Go.RowKit Base VSm VRs MBx MCd
theorem code_ok {m : Nat} {w : World} {r : C} {a1 a2 a3 : Option Addr} {n1 n2 n3 c1 c2 c3 : Nat} (cR : ∀ W, Below w.heap.size w W -> Mc w.heap.size m W (w.heap.size + 2) (.slice a2 n2 c2) (.slice a3 n3 c3) nilS [] -> Calls prog 66 #[ptr (w.heap.size + 2), .slice a1 n1 c1] W fun e w' => ∃ u, e = .returned u /\ Base.In false (fun b => b < w.heap.size) w' m u r /\ Km (w.heap.size + 2) nilS W w') :
  Calls prog 42 #[.slice a1 n1 c1, .slice a2 n2 c2, .slice a3 n3 c3] w fun e w' => ∃ u, e = .returned (.tuple #[u, .int .i64 0]) /\ Base.In false (fun b => b < w.heap.size) w' m u r /\ Below w.heap.size w w' := by
 have hmf : ∀ (fn : Fn) (first cap : Array Value) (w : World), (Instr.makeFunc fn first cap).run prog w = .ok (.func fn first cap) w := fun _ _ _ _ => rfl
 obtain ⟨W, hW⟩ : ∃ W, ((w.alloc (.cells #[.slice a1 n1 c1] 27)).alloc (.cells #[.int .i64 0, .bool false, .int .i64 0, .string ⟨#[]⟩, .slice none 0 0, .slice none 0 0] 46)).alloc (.cells #[.slice a2 n2 c2, .slice a3 n3 c3, nilS] 90) = W := ⟨_, rfl⟩
 have bW : Below w.heap.size w W := by rw [<- hW]; exact (((Below.refl _ w).alloc (Nat.le_refl _) _).alloc (by simp) _).alloc (by simp <;> omega) _
 have sW : W.heap.size = w.heap.size + 3 := by rw [<- hW]; simp
 have z0 : W.heap[w.heap.size]? = some (.cells #[.slice a1 n1 c1] 27 (0, 0)) := by rw [<- hW, Below.heap_alloc _ _ _ (by simp <;> omega), Below.heap_alloc _ _ _ (by simp), heap_alloc_new]
 have z1 : W.heap[w.heap.size + 1]? = some (.cells #[.int .i64 0, .bool false, .int .i64 0, .string ⟨#[]⟩, .slice none 0 0, .slice none 0 0] 46 (0, 0)) := by
  rw [<- hW, Below.heap_alloc _ _ _ (by simp)]
  have := heap_alloc_new (w.alloc (.cells #[.slice a1 n1 c1] 27)) (.cells #[.int .i64 0, .bool false, .int .i64 0, .string ⟨#[]⟩, .slice none 0 0, .slice none 0 0] 46)
  rwa [World.size_alloc] at this
 have z2 : W.heap[w.heap.size + 2]? = some (.cells #[.slice a2 n2 c2, .slice a3 n3 c3, nilS] 90 (0, 0)) := by
  rw [<- hW]
  have := heap_alloc_new ((w.alloc (.cells #[.slice a1 n1 c1] 27)).alloc (.cells #[.int .i64 0, .bool false, .int .i64 0, .string ⟨#[]⟩, .slice none 0 0, .slice none 0 0] 46)) (.cells #[.slice a2 n2 c2, .slice a3 n3 c3, nilS] 90)
  rwa [World.size_alloc, World.size_alloc] at this
 have mW : Mc w.heap.size m W (w.heap.size + 2) (.slice a2 n2 c2) (.slice a3 n3 c3) nilS [] := ⟨z2, by omega, [], ⟨World.ownsRow_nil _ _ _ _, fun u hu => by cases hu⟩, rfl, fun j hj => by cases hj⟩
 have cK := caught_ok (K := w.heap.size) (m := m) (M := w.heap.size + 2) (B := w.heap.size) (w := W) (r := r) (by omega) (by omega) (fun W1 b1 => code1_c ⟨_, _, _, rfl⟩ (by omega) (by have := b1.size; omega) ((b1.block w.heap.size (by omega)).trans z0) fun W2 b2 => cR W2 ((bW.trans (b1.mono (by omega))).trans (b2.mono (by have := b1.size; omega))) ((mW.below b1).below b2))
 have HB : Hid (Below w.heap.size w W) := bW
 have HZ : Hid _ := z1
 have HW : Hid (_ = W) := hW
 clear cR bW z0 z1 z2 mW hW
 go_enter func42, ntmps42
 go_wp2_with fail
 rw [HW.out]
 refine cK.mono ?_
 rintro e W1 ⟨u, rfl, hin, k1⟩
 obtain ⟨an, ln, cn, al, ll, cl, rfl⟩ := in_shape hin
 have y1 := (k1.other (w.heap.size + 1) (by omega) (by omega) (fun e => by cases e)).trans HZ.out
 obtain ⟨W9, hW9⟩ : ∃ W9, (((((W1.setCell ⟨w.heap.size + 1, 0, none⟩ (.int .i64 r.k)).setCell ⟨w.heap.size + 1, 1, none⟩ (.bool r.b)).setCell ⟨w.heap.size + 1, 2, none⟩ (.int .i64 r.i)).setCell ⟨w.heap.size + 1, 3, none⟩ (.string r.s)).setCell ⟨w.heap.size + 1, 4, none⟩ (.slice an ln cn)).setCell ⟨w.heap.size + 1, 5, none⟩ (.slice al ll cl) = W9 := ⟨_, rfl⟩
 obtain ⟨q1, q2, q3, q4⟩ := set6 _ _ _ _ _ _ y1 hW9
 have HE : Hid (Base.In false (fun b => b < w.heap.size) W9 m (vl r.k r.b r.i r.s (.slice an ln cn) (.slice al ll cl)) r /\ Below w.heap.size w W9) := ⟨hin.keep fun b hb _ => q2 b (by have : b < w.heap.size := hb; omega), q4 _ _ (by omega) (HB.out.trans (k1.below.mono (by omega)))⟩
 have HQ1 : Hid _ := q1
 obtain ⟨v0', v1', v2', v3', v4', v5'⟩ := six_box y1
 have g0 := frozen_box y1 0
 have g1 := frozen_box y1 1
 have g2 := frozen_box y1 2
 have g3 := frozen_box y1 3
 have g4 := frozen_box y1 4
 have g5 := frozen_box y1 5
 clear hin k1 y1 q1 q2 q3 q4 cK
 go_wp2_with fail
 try rw [hW9]
 refine bodyPost_ret (Part.res_row_tmp rfl _ W9 (w.heap.size + 1) 46 _ (0, 0) _ rfl HQ1.out underlying46 rfl (by kernel_rfl)) rfl ?_
 exact ⟨_, rfl, HE.out⟩
end Go.Proofs.YthjbknncbhkinaaGreatDoor.MCo
namespace Go.Proofs.YthjbknncbhkinaaGreatDoor.MPl
open Base VPure CPu
def sec (T : List ByteArray) (o a : Int) (p : List C) : C × List C := if o = 7 then (strC (T.getD a.toNat ⟨#[]⟩), p) else if o = 9 then (intC a, p) else if o = 10 \/ o = 11 then (zerC, p) else (p.getLastD zerC, p.dropLast)
def dop (T : List ByteArray) (S : List C) (o a : Int) (p : List C) : Except Nat (List C) :=
 if o = 1 then .ok (p ++ [nulC])
 else if o = 2 \/ o = 3 then .ok (p ++ [booC (decide (o = 3))])
 else if o = 4 then .ok (p ++ [intC a])
 else if o = 5 then .ok (p ++ [strC (T.getD a.toNat ⟨#[]⟩)])
 else if o = 6 then .ok (p ++ [S.getD a.toNat zerC])
 else if o = 29 then (if (p.getLastD zerC).k = 2 then .ok p else .error 1101)
 else bnd (pr2 o ((sec T o a p).2.getLastD zerC) (sec T o a p).1) fun v => .ok ((sec T o a p).2.dropLast ++ [v])
def ins (T : List ByteArray) (S : List C) (i : Nat) (x : Ins) (p : List C) : Except Nat (Nat × List C) :=
 if x.1 = 30 \/ x.1 = 31 then (if (p.getLastD zerC).k = 2 then (if (p.getLastD zerC).b = decide (x.1 = 31) then .ok (x.2.toNat, p) else .ok (i + 1, p.dropLast)) else .error 1101)
 else if x.1 = 32 then (if (p.getLastD zerC).k = 2 then .ok (if (p.getLastD zerC).b = true then i + 1 else x.2.toNat, p.dropLast) else .error 1101)
 else if x.1 = 33 then .ok (x.2.toNat, p)
 else bnd (dop T S x.1 x.2 p) fun p' => .ok (i + 1, p')
def mrun (L : List Ins) (T : List ByteArray) (S : List C) : Nat -> Nat -> List C -> Except Nat C
 | 0, _, p => .ok (p.getLastD zerC)
 | f + 1, i, p => match L[i]? with
  | none => .ok (p.getLastD zerC)
  | some x => bnd (ins T S i x p) fun r => mrun L T S f r.1 r.2
theorem last_snoc (q : List C) (c : C) : (q ++ [c]).getLastD zerC = c := by simp
theorem drop_snoc (q : List C) (c : C) : (q ++ [c]).dropLast = q := by simp
theorem snoc_of {p : List C} (h : 1 <= p.length) : ∃ q c, p = q ++ [c] := by
 have hn : p ≠ [] := fun e => by subst e; simp at h
 exact ⟨p.dropLast, p.getLast hn, (List.dropLast_concat_getLast hn).symm⟩
theorem dop_len {T : List ByteArray} {S : List C} {o a : Int} {p p' : List C} (h1 : 1 <= o) (h2 : o <= 29) (hn : nd o <= p.length) (h : dop T S o a p = .ok p') : (p'.length : Int) = p.length - nd o + 1 := by
 have hb : ∀ (b : Bool), decide (o <= 6) = b -> b = decide (o <= 6) := fun b h => h.symm
 unfold dop at h
 split at h
 ·next e => subst e; cases h; simp [show nd 1 = 0 from by decide]
 split at h
 ·next e =>
  cases h
  have : nd o = 0 := by rcases e with rfl | rfl <;> decide
  simp [this]
 split at h
 ·next e => subst e; cases h; simp [show nd 4 = 0 from by decide]
 split at h
 ·next e => subst e; cases h; simp [show nd 5 = 0 from by decide]
 split at h
 ·next e => subst e; cases h; simp [show nd 6 = 0 from by decide]
 split at h
 ·next e =>
  subst e
  split at h
  ·cases h
   have : nd 29 = 1 := by decide
   rw [this]
   omega
  ·cases h
 next e1 e2 e3 e4 e5 e6 =>
  cases hp : pr2 o ((sec T o a p).2.getLastD zerC) (sec T o a p).1 with
  | error n => rw [hp] at h; cases h
  | ok v =>
   rw [hp] at h
   have h : (Except.ok ((sec T o a p).2.dropLast ++ [v]) : Except Nat (List C)) = .ok p' := h
   cases h
   by_cases hs : o = 7 \/ o = 9 \/ o = 10 \/ o = 11
   ·have hnd : nd o = 1 := by rcases hs with rfl | rfl | rfl | rfl <;> decide
    have hse : (sec T o a p).2 = p := by
     unfold sec
     rcases hs with rfl | rfl | rfl | rfl <;> rfl
    rw [hnd] at hn ⊢
    rw [hse]
    simp
    omega
   ·have hnd : nd o = 2 := by
     have a1 : decide (o <= 6) = false := by simp; omega
     have a2 : (o == 33) = false := by simp; omega
     have a3 : ((o == 8) || (decide (12 <= o) && decide (o <= 28))) = true := by
      by_cases h8 : o = 8
      ·subst h8; decide
      ·have b1 : decide (12 <= o) = true := by simp; omega
       have b2 : decide (o <= 28) = true := by simp; omega
       simp [b1, b2]
     unfold nd
     rw [a1, a2, a3]
     rfl
    have hse : (sec T o a p).2 = p.dropLast := by
     unfold sec
     rw [if_neg (by omega), if_neg (by omega), if_neg (by omega)]
    rw [hnd] at hn ⊢
    rw [hse]
    simp
    omega
end Go.Proofs.YthjbknncbhkinaaGreatDoor.MPl
namespace Go.Proofs.YthjbknncbhkinaaGreatDoor.VPm
open Go.RowKit Base VPure VSm VJn VRs VPk
theorem an_boo {K m : Nat} {w w' : World} {e : Ending} {x : Except Nat Int} {f : Int -> Bool} (h : An w w' e (fun c : Bool => v0 2 c 0 ⟨#[]⟩) (bnd x fun c => .ok (f c))) : VR K (m + 1) w (bnd x fun c => .ok (booC (f c))) e w' := by
 cases x with
 | error c => exact ⟨h.2, h.1⟩
 | ok c => exact ⟨h.2, _, h.1, in_boo _ _ _ _⟩
theorem pair23 : PairOk 23 := by
 intro K m w va vb a b hK hT hva hvb hwf
 obtain ⟨an, ln, cn, al, ll, cl, rfl⟩ := in_shape hva
 obtain ⟨bn, mn, dn, bl, ml, dl, rfl⟩ := in_shape hvb
 exact (VPo.pair_Less _ _ _ _ _ _ _ _ _ _ _ _ w).mono fun e w' h => an_boo h
theorem pair24 : PairOk 24 := by
 intro K m w va vb a b hK hT hva hvb hwf
 obtain ⟨an, ln, cn, al, ll, cl, rfl⟩ := in_shape hva
 obtain ⟨bn, mn, dn, bl, ml, dl, rfl⟩ := in_shape hvb
 exact (VPo.pair_Most _ _ _ _ _ _ _ _ _ _ _ _ w).mono fun e w' h => an_boo h
theorem pair25 : PairOk 25 := by
 intro K m w va vb a b hK hT hva hvb hwf
 obtain ⟨an, ln, cn, al, ll, cl, rfl⟩ := in_shape hva
 obtain ⟨bn, mn, dn, bl, ml, dl, rfl⟩ := in_shape hvb
 exact (VPq.pair_More _ _ _ _ _ _ _ _ _ _ _ _ _ _ _ _ _ _ _ _ w).mono fun e w' h => an_boo h
theorem pair26 : PairOk 26 := by
 intro K m w va vb a b hK hT hva hvb hwf
 obtain ⟨an, ln, cn, al, ll, cl, rfl⟩ := in_shape hva
 obtain ⟨bn, mn, dn, bl, ml, dl, rfl⟩ := in_shape hvb
 exact (VPq.pair_Least _ _ _ _ _ _ _ _ _ _ _ _ _ _ _ _ _ _ _ _ w).mono fun e w' h => an_boo h
theorem in_any {K m : Nat} {w : World} {v : Value} {c : C} (h : Base.In false (fun b => b < K) w m v c) : Base.In false All w m v c := h.weak (fun _ _ => trivial) false id _ (Nat.le_refl _)
theorem pair27 : PairOk 27 := by
 intro K m w va vb a b hK hT hva hvb hwf
 obtain ⟨an, ln, cn, al, ll, cl, rfl⟩ := in_shape hva
 obtain ⟨bn, mn, dn, bl, ml, dl, rfl⟩ := in_shape hvb
 exact (VPs.pair_Same _ _ _ _ _ _ _ _ _ _ _ _ w (Eq.same a b) fun W hW => Same.same_c ((in_any hva).below hW) ((in_any hvb).below hW)).mono fun e w' h => ⟨h.2, _, h.1, in_boo _ _ _ _⟩
theorem pair28 : PairOk 28 := by
 intro K m w va vb a b hK hT hva hvb hwf
 obtain ⟨an, ln, cn, al, ll, cl, rfl⟩ := in_shape hva
 obtain ⟨bn, mn, dn, bl, ml, dl, rfl⟩ := in_shape hvb
 exact (VPs.pair_Other _ _ _ _ _ _ _ _ _ _ _ _ w (Eq.same a b) fun W hW => Same.same_c ((in_any hva).below hW) ((in_any hvb).below hW)).mono fun e w' h => ⟨h.2, _, h.1, in_boo _ _ _ _⟩
theorem pair10 : PairOk 10 := by
 intro K m w va vb a b hK hT hva hvb hwf
 obtain ⟨an, ln, cn, al, ll, cl, rfl⟩ := in_shape hva
 obtain ⟨bn, mn, dn, bl, ml, dl, rfl⟩ := in_shape hvb
 have ha := in_rng hva
 refine (VNg.pair_Neg _ _ _ _ _ _ _ _ _ _ _ _ _ _ _ _ _ _ _ _ w (wh 16 0 a.i).1 (wh 16 0 a.i).2 (fun _ W => ?_)).mono ?_
 ·exact WhA.sub 0 a.i (by omega) (by omega) ha.1 ha.2 W
 ·intro e w' h
  exact an_vr (fun c hc => by rw [tw_ok hc]; exact wh_rng (by decide)) h
theorem pair7 : PairOk 7 := by
 intro K m w va vb a b hK hT hva hvb hwf
 exact VPt.pair7 hK hva hvb hwf.1
theorem pair8 : PairOk 8 := by
 intro K m w va vb a b hK hT hva hvb hwf
 exact VPt.pair8 hK hva hvb hwf.1
theorem pair11 : PairOk 11 := by
 intro K m w va vb a b hK hT hva hvb hwf
 obtain ⟨an, ln, cn, al, ll, cl, rfl⟩ := in_shape hva
 obtain ⟨bn, mn, dn, bl, ml, dl, rfl⟩ := in_shape hvb
 refine (VBi.pair_11 _ _ _ _ _ _ _ _ _ _ _ _ w).mono fun e w' h => ?_
 have h : An w w' e (fun c : Bool => v0 2 c 0 ⟨#[]⟩) (notT a.k a.b) := h
 show VR K (m + 1) w (mapB (notT a.k a.b)) e w'
 revert h
 generalize notT a.k a.b = x
 intro h
 cases x with
 | error c => exact ⟨h.2, h.1⟩
 | ok c => exact ⟨h.2, _, h.1, in_boo _ _ _ _⟩
theorem tx_ok {k1 k2 x c : Int} (h : twX k1 k2 x = .ok c) : c = x := by
 unfold twX at h
 by_cases h1 : k1 = 3
 ·rw [if_pos h1] at h
  by_cases h2 : k2 = 3
  ·rw [if_pos h2] at h; injection h with h; exact h.symm
  ·rw [if_neg h2] at h; cases h
 ·rw [if_neg h1] at h; cases h
theorem pair20 : PairOk 20 := by
 intro K m w va vb a b hK hT hva hvb hwf
 obtain ⟨an, ln, cn, al, ll, cl, rfl⟩ := in_shape hva
 obtain ⟨bn, mn, dn, bl, ml, dl, rfl⟩ := in_shape hvb
 exact (VBi.pair_20 _ _ _ _ _ _ _ _ _ _ _ _ w).mono fun e w' h => an_vr (fun c hc => by rw [tx_ok hc]; exact VBi.bit_rng _ _ _) h
theorem pair21 : PairOk 21 := by
 intro K m w va vb a b hK hT hva hvb hwf
 obtain ⟨an, ln, cn, al, ll, cl, rfl⟩ := in_shape hva
 obtain ⟨bn, mn, dn, bl, ml, dl, rfl⟩ := in_shape hvb
 exact (VBi.pair_21 _ _ _ _ _ _ _ _ _ _ _ _ w).mono fun e w' h => an_vr (fun c hc => by rw [tx_ok hc]; exact VBi.bit_rng _ _ _) h
theorem pair22 : PairOk 22 := by
 intro K m w va vb a b hK hT hva hvb hwf
 obtain ⟨an, ln, cn, al, ll, cl, rfl⟩ := in_shape hva
 obtain ⟨bn, mn, dn, bl, ml, dl, rfl⟩ := in_shape hvb
 exact (VBi.pair_22 _ _ _ _ _ _ _ _ _ _ _ _ w).mono fun e w' h => an_vr (fun c hc => by rw [tx_ok hc]; exact VBi.bit_rng _ _ _) h
theorem pair9 : PairOk 9 := by
 intro K m w va vb a b hK hT hva hvb hwf
 show Calls prog 90 #[.int .i64 9, va, vb] w fun e w' => VR K (m + 1) w (cal a b.i) e w'
 have ha := in_any hva
 have hs := ha.shape
 obtain ⟨m', nv, lv, -, rfl, -, hir, hsz, hn1, hl1⟩ := hva.shape
 obtain ⟨an, cn, rfl, -⟩ := hn1.out
 obtain ⟨al, cl, rfl, -, -, hl, -⟩ := hl1.out
 obtain ⟨bn, mn, dn, bl, ml, dl, rfl⟩ := in_shape hvb
 obtain ⟨k2, b2, i2, s2, n2, l2⟩ := b
 simp only [C.k, C.b, C.i, C.s]
 have tI : ∀ n : Int, ∀ c, tunI n a.k a.i = .ok c -> -9223372036854775808 <= c /\ c <= 9223372036854775807 := fun n c hc => by
  unfold tunI at hc
  by_cases h : a.k = 3
  ·rw [if_pos h] at hc; injection hc with hc; rw [<- hc]; exact VTo.tun_rng _ _
  ·rw [if_neg h] at hc; cases hc
 by_cases g1 : i2 = 1
 ·subst g1
  refine (VCa.pair_9i _ _ _ _ _ _ _ _ _ _ _ _ w (lenI a.k a.s a.l.length) (fun W _ => VCa.call_1 _ _ _ _ _ _ _ _ _ _ _ _ _ _ _ _ _ _ _ W)).mono fun e w' h => an_vr (fun c hc => ?_) h
  unfold lenI at hc
  by_cases h4 : a.k = 4
  ·rw [if_pos h4] at hc; injection hc with hc; omega
  ·rw [if_neg h4] at hc
   by_cases h5 : a.k = 5 \/ a.k = 6
   ·rw [if_pos h5] at hc; injection hc with hc; omega
   ·rw [if_neg h5] at hc; cases hc
 by_cases g2 : i2 = 2
 ·subst g2
  refine (VCa.pair_9s _ _ _ _ _ _ _ _ _ _ _ _ w (txt a) (fun W hW => VCa.call_2 _ _ _ _ _ _ _ _ _ _ _ _ _ _ _ _ _ _ _ W (ha.below hW) (hT.below hW))).mono fun e w' h => ?_
  have hle : ∀ x, txt a = .ok x -> x.size <= 140737488351232 := fun x hx => txt_le ha hx
  show VR K (m + 1) w (mapS (txt a)) e w'
  revert h hle
  generalize txt a = x
  intro h hle
  cases x with
  | error c => exact ⟨h.2, h.1⟩
  | ok c => exact ⟨h.2, _, h.1, in_str _ _ _ (hle c rfl)⟩
 by_cases g3 : i2 = 3
 ·subst g3
  exact (VCa.pair_9i _ _ _ _ _ _ _ _ _ _ _ _ w (tunI 3 a.k a.i) (fun W _ => VCa.call_3 _ _ _ _ _ _ _ _ _ _ _ _ _ _ _ _ _ _ _ W)).mono fun e w' h => an_vr (tI 3) h
 by_cases g4 : i2 = 4
 ·subst g4
  exact (VCa.pair_9i _ _ _ _ _ _ _ _ _ _ _ _ w (tunI 4 a.k a.i) (fun W _ => VCa.call_4 _ _ _ _ _ _ _ _ _ _ _ _ _ _ _ _ _ _ _ W)).mono fun e w' h => an_vr (tI 4) h
 by_cases g5 : i2 = 5
 ·subst g5
  exact (VCa.pair_9i _ _ _ _ _ _ _ _ _ _ _ _ w (tunI 5 a.k a.i) (fun W _ => VCa.call_5 _ _ _ _ _ _ _ _ _ _ _ _ _ _ _ _ _ _ _ W)).mono fun e w' h => an_vr (tI 5) h
 by_cases g6 : i2 = 6
 ·subst g6
  exact (VCa.pair_9i _ _ _ _ _ _ _ _ _ _ _ _ w (tunI 6 a.k a.i) (fun W _ => VCa.call_6 _ _ _ _ _ _ _ _ _ _ _ _ _ _ _ _ _ _ _ W)).mono fun e w' h => an_vr (tI 6) h
 by_cases g7 : i2 = 7
 ·subst g7
  exact (VCa.pair_9i _ _ _ _ _ _ _ _ _ _ _ _ w (tunI 7 a.k a.i) (fun W _ => VCa.call_7 _ _ _ _ _ _ _ _ _ _ _ _ _ _ _ _ _ _ _ W)).mono fun e w' h => an_vr (tI 7) h
 have et : tunI 8 a.k a.i = tunI i2 a.k a.i := by
  unfold tunI tun
  rw [if_neg g3, if_neg g4, if_neg g5, if_neg g6, if_neg g7]
  rfl
 have ec : cal a i2 = mapI (tunI i2 a.k a.i) := by unfold cal; rw [if_neg g1, if_neg g2]
 rw [ec, <- et]
 exact (VCa.pair_9i _ _ _ _ _ _ _ _ _ _ _ _ w (tunI 8 a.k a.i) (fun W _ => VCa.call_8 _ _ _ _ _ _ _ _ _ _ _ _ _ _ _ _ _ _ _ _ W g1 g2 g3 g4 g5 g6 g7)).mono fun e w' h => an_vr (tI 8) h
end Go.Proofs.YthjbknncbhkinaaGreatDoor.VPm
