import Derived.Test.YthjbknncbhkinaaGreatDoorPS12
import Derived.Test.YthjbknncbhkinaaGreatDoorPS17
import Derived.Test.YthjbknncbhkinaaGreatDoorPS18
import Derived.Test.YthjbknncbhkinaaGreatDoorPS44
open Go.Proofs.Tryz
set_option linter.unusedVariables false
set_option maxRecDepth 20000
set_option maxHeartbeats 6400000
namespace Go.Proofs.YthjbknncbhkinaaGreatDoor.JVr
open Go.RowKit Base VSm VRs
open VPure hiding evL
abbrev clo (Pv : Value) : Value := .func (Fn.func 46) #[Pv] #[]
abbrev xv (o i : Int) (s : ByteArray) (lv : Value) : Value := .agg #[.int .i64 o, .int .i64 i, .string s, lv]
def Bd (K m : Nat) (w : World) (Pv : Value) (ρ : Int -> Option C) : Prop := ∀ W, Below w.heap.size w W -> ∀ (o i : Int) (s : ByteArray) (lv : Value), s.size <= 140737488351232 -> Calls prog 46 #[Pv, xv o i s lv] W fun e w' => Below W.heap.size W w' /\
 ∃ k b j t an ln cn al ll cl, e = .returned (.tuple #[vl k b j t (.slice an ln cn) (.slice al ll cl), .bool (ρ i).isSome]) /\ ∀ c, ρ i = some c -> Base.In false (fun b => b < K) w' m (vl k b j t (.slice an ln cn) (.slice al ll cl)) c
theorem Bd.below {K m : Nat} {w w' : World} {Pv : Value} {ρ : Int -> Option C} (h : Bd K m w Pv ρ) (hb : Below w.heap.size w w') : Bd K m w' Pv ρ := fun W hW => h W (hb.trans (hW.mono hb.size))
theorem variable_c {K m : Nat} {w : World} {Pv : Value} {ρ : Int -> Option C} (hK : K <= w.heap.size) (hB : Bd K m w Pv ρ) (o i : Int) (s : ByteArray) (lv : Value) (hs : s.size <= 140737488351232) :
  Calls prog 87 #[.agg #[clo Pv], xv o i s lv] w fun e w' => VR K m w (match ρ i with
   | none => .error 1100
   | some c => .ok c) e w' := by
 obtain ⟨W0, hW0, hs0, hb0, hk, hx, hr⟩ := three w #[clo Pv] #[.int .i64 o, .int .i64 i, .string s, lv] 97 24
 have kc : W0.cell? ⟨w.heap.size, 0, none⟩ = some (clo Pv) := by simp [World.cell?, hk]
 obtain ⟨x0, x1, x2, x3⟩ := XBase.four_box hx
 have cB := hB W0 hb0 o i s lv hs
 have HR : Hid (W0.heap[w.heap.size + 2]? = some (.cells #[.int .i64 0, .bool false, .int .i64 0, .string ⟨#[]⟩, .slice none 0 0, .slice none 0 0] 46 (0, 0))) := hr
 have HB : Hid (Below w.heap.size w W0) := hb0
 clear hk hx hr hb0 hB
 obtain ⟨U, hU⟩ : ∃ U, (match ρ i with | none => (.error 1100 : Ans) | some c => .ok c) = U := ⟨_, rfl⟩
 rw [hU]
 go_enter func87, ntmps87
 go_wp2_with fail
 try rw [hW0]
 refine cB.mono ?_
 rintro e W1 ⟨hb1, k, b, j, t, an, ln, cn, al, ll, cl, rfl, hin⟩
 have hs1 := hb1.size
 have HR1 : Hid (W1.heap[w.heap.size + 2]? = some (.cells #[.int .i64 0, .bool false, .int .i64 0, .string ⟨#[]⟩, .slice none 0 0, .slice none 0 0] 46 (0, 0))) := (hb1.block _ (by omega)).trans HR.out
 have HB1 : Hid (Below w.heap.size w W1) := HB.out.trans (hb1.mono HB.out.size)
 clear hb1 cB HR HB kc x0 x1 x2 x3 hW0
 obtain ⟨W2, hW2⟩ : ∃ W2, W1.alloc (.cells #[.int .i64 0, .bool false, .int .i64 0, .string ⟨#[]⟩, .slice none 0 0, .slice none 0 0] 46) = W2 := ⟨_, rfl⟩
 have hn : W2.heap[W1.heap.size]? = some (.cells #[.int .i64 0, .bool false, .int .i64 0, .string ⟨#[]⟩, .slice none 0 0, .slice none 0 0] 46 (0, 0)) := by rw [<- hW2]; exact heap_alloc_new W1 _
 have hb2 : Below W1.heap.size W1 W2 := by rw [<- hW2]; exact (Below.refl _ W1).alloc (Nat.le_refl _) _
 obtain ⟨n0, n1, n2, n3, n4, n5⟩ := six_box hn
 have nf0 := frozen_box hn 0
 have nf1 := frozen_box hn 1
 have nf2 := frozen_box hn 2
 have nf3 := frozen_box hn 3
 have nf4 := frozen_box hn 4
 have nf5 := frozen_box hn 5
 obtain ⟨W3, hW3⟩ : ∃ W3, ((((((W2.setCell ⟨W1.heap.size, 0, none⟩ (.int .i64 k)).setCell ⟨W1.heap.size, 1, none⟩ (.bool b)).setCell ⟨W1.heap.size, 2, none⟩ (.int .i64 j)).setCell ⟨W1.heap.size, 3, none⟩ (.string t)).setCell ⟨W1.heap.size, 4, none⟩ (.slice an ln cn)).setCell ⟨W1.heap.size, 5, none⟩ (.slice al ll cl)) = W3 := ⟨_, rfl⟩
 obtain ⟨a1, a2, a3, a4⟩ := set6 _ _ _ _ _ _ hn hW3
 have hb3 : Below w.heap.size w W3 := a4 _ _ (by omega) (HB1.out.trans (hb2.mono HB1.out.size))
 have hr3 : W3.heap[w.heap.size + 2]? = some (.cells #[.int .i64 0, .bool false, .int .i64 0, .string ⟨#[]⟩, .slice none 0 0, .slice none 0 0] 46 (0, 0)) := (a2 _ (by omega)).trans ((hb2.block _ (by omega)).trans HR1.out)
 obtain ⟨g0, g1, g2, g3, g4, g5⟩ := six_box a1
 have hr := hr3
 obtain ⟨r0, r1, r2, r3, r4, r5⟩ := six_box hr
 have rf0 := frozen_box hr 0
 have rf1 := frozen_box hr 1
 have rf2 := frozen_box hr 2
 have rf3 := frozen_box hr 3
 have rf4 := frozen_box hr 4
 have rf5 := frozen_box hr 5
 have HB3 : Hid (Below w.heap.size w W3) := hb3
 have HK3 : Hid (Below W1.heap.size W1 W3) := a4 _ _ (Nat.le_refl _) hb2
 have HRR : Hid (W3.heap[w.heap.size + 2]? = some (.cells #[.int .i64 0, .bool false, .int .i64 0, .string ⟨#[]⟩, .slice none 0 0, .slice none 0 0] 46 (0, 0))) := hr3
 clear a1 a2 a3 a4 hb2 hb3 hr3 hn hr HR1
 cases hρ : ρ i with
 | none =>
  rw [hρ] at hU
  subst hU
  clear hin hρ
  go_wp2_with fail
  exact ⟨rfl, HB3.out, rfl⟩
 | some c =>
  have HI : Hid (Base.In false (fun b => b < K) W1 m (vl k b j t (.slice an ln cn) (.slice al ll cl)) c) := hin c hρ
  rw [hρ] at hU
  subst hU
  clear hin hρ
  go_wp2_with fail
  obtain ⟨W9, hW9⟩ : ∃ W9, ((((((W3.setCell ⟨w.heap.size + 2, 0, none⟩ (.int .i64 k)).setCell ⟨w.heap.size + 2, 1, none⟩ (.bool b)).setCell ⟨w.heap.size + 2, 2, none⟩ (.int .i64 j)).setCell ⟨w.heap.size + 2, 3, none⟩ (.string t)).setCell ⟨w.heap.size + 2, 4, none⟩ (.slice an ln cn)).setCell ⟨w.heap.size + 2, 5, none⟩ (.slice al ll cl)) = W9 := ⟨_, rfl⟩
  rw [hW9]
  obtain ⟨q1, q2, q3, q4⟩ := set6 _ _ _ _ _ _ HRR.out hW9
  refine bodyPost_ret (results_cell_row rfl _ W9 (w.heap.size + 2) 46 _ (0, 0) _ rfl q1 underlying46 rfl (by kernel_rfl)) rfl ?_
  exact ⟨q4 _ _ (by omega) HB3.out, _, rfl, in_low HI.out (q4 _ _ (by omega) (HK3.out.mono (by omega)))⟩
end Go.Proofs.YthjbknncbhkinaaGreatDoor.JVr
namespace Go.Proofs.YthjbknncbhkinaaGreatDoor.JSe
open Tak
open Go.RowKit Base EPure JPure VSm VIn VRs JVr
open VPure hiding evL
def Kd (K m : Nat) (w : World) (Pv : Value) (ρ : Int -> Option C) (a : Option Addr) (j : Nat) (x : Ex) : Prop := ∃ g o0 y0 y1 y2 y3 y4 y5, a = some ⟨g, o0, none⟩ /\ g < w.heap.size /\ ∀ W, Below w.heap.size w W ->
 (W.cell? ⟨g, o0 + 4 * j, none⟩ = some (.int .i64 y0) /\ W.cell? ⟨g, o0 + (4 * j + 1), none⟩ = some (.int .i64 y1) /\ W.cell? ⟨g, o0 + (4 * j + 2), none⟩ = some (.string y2) /\ W.cell? ⟨g, o0 + (4 * j + 3), none⟩ = some (.slice y3 y4 y5)) /\
 Calls prog 70 #[.agg #[clo Pv], xv y0 y1 y2 (.slice y3 y4 y5)] W fun e w' => VR K m W (ev ρ x) e w'
theorem Kd.below {K m : Nat} {w w' : World} {Pv : Value} {ρ : Int -> Option C} {a : Option Addr} {j : Nat} {x : Ex} (h : Kd K m w Pv ρ a j x) (hb : Below w.heap.size w w') : Kd K m w' Pv ρ a j x := by
 obtain ⟨g, o0, y0, y1, y2, y3, y4, y5, h1, h2, h3⟩ := h
 exact ⟨g, o0, y0, y1, y2, y3, y4, y5, h1, Nat.lt_of_lt_of_le h2 hb.size, fun W hW => h3 W (hb.trans (hW.mono hb.size))⟩
theorem second_c {Kk m : Nat} {w : World} {Pv : Value} {ρ : Int -> Option C} (hKk : Kk <= w.heap.size) (o i : Int) (s : ByteArray) {a : Option Addr} {cap : Nat} {l : List Ex} (hl : l.length <= cap) (hc : cap <= 9223372036854775807) (h2 : 2 <= l.length) (n7 : o ≠ 7) (n9 : o ≠ 9) (n10 : o ≠ 10) (n11 : o ≠ 11) {x : Ex} (hk1 : Kd Kk m w Pv ρ a 1 x) :
  Calls prog 91 #[.agg #[clo Pv], xv o i s (.slice a l.length cap)] w fun e w' => VR Kk m w (ev ρ x) e w' := by
 obtain ⟨g, o0, y0, y1, y2, y3, y4, y5, rfl, hg, hk1⟩ := hk1
 simp only [Nat.reduceMul, Nat.reduceAdd] at hk1
 obtain ⟨W0, hW0, hs0, hb0, hk, hx, hr⟩ := three w #[clo Pv] #[.int .i64 o, .int .i64 i, .string s, (.slice (some ⟨g, o0, none⟩) l.length cap)] 97 24
 have kc : W0.cell? ⟨w.heap.size, 0, none⟩ = some (clo Pv) := by simp [World.cell?, hk]
 obtain ⟨x0, x1, x2, x3⟩ := XBase.four_box hx
 have HK1 : Hid _ := hk1
 obtain ⟨⟨m0, m1, m2, m3⟩, cV⟩ := hk1 W0.drew (bel_d hb0 (Below.refl _ _))
 have HR : Hid (W0.heap[w.heap.size + 2]? = some (.cells #[.int .i64 0, .bool false, .int .i64 0, .string ⟨#[]⟩, .slice none 0 0, .slice none 0 0] 46 (0, 0))) := hr
 have HKx : Hid (W0.heap[w.heap.size]? = some (.cells #[clo Pv] 97 (0, 0))) := hk
 have HXx : Hid (W0.heap[w.heap.size + 1]? = some (.cells #[.int .i64 o, .int .i64 i, .string s, (.slice (some ⟨g, o0, none⟩) l.length cap)] 24 (0, 0))) := hx
 have HB : Hid (Below w.heap.size w W0) := hb0
 have hsD : W0.drew.heap.size = w.heap.size + 3 := by simp [hs0]
 have d7 : (o == 7) = false := by simp [n7]
 have d9 : (o == 9) = false := by simp [n9]
 have d10 : (o == 10) = false := by simp [n10]
 have d11 : (o == 11) = false := by simp [n11]
 have b1 : (1 : Int) < (l.length : Int) := by omega
 have b2 : decide ((1 : Int) < (l.length : Int)) = true := decide_eq_true b1
 generalize ev ρ x = U at *
 clear hk hx hr hb0 hk1 n7 n9 n10 n11
 go_enter func91, ntmps91
 go_wp2_with fail
 try rw [hW0]
 refine wp_region_held_drew (S := fun w' => w'.cell? ⟨w.heap.size, 0, none⟩ = some (clo Pv) /\ (w'.cell? ⟨w.heap.size + 1, 0, none⟩ = some (.int .i64 o) /\ w'.cell? ⟨w.heap.size + 1, 1, none⟩ = some (.int .i64 i) /\ w'.cell? ⟨w.heap.size + 1, 2, none⟩ = some (.string s) /\ w'.cell? ⟨w.heap.size + 1, 3, none⟩ = some (.slice (some ⟨g, o0, none⟩) l.length cap)) /\ (w'.cell? ⟨g, o0 + 4, none⟩ = some (.int .i64 y0) /\ w'.cell? ⟨g, o0 + 5, none⟩ = some (.int .i64 y1) /\ w'.cell? ⟨g, o0 + 6, none⟩ = some (.string y2) /\ w'.cell? ⟨g, o0 + 7, none⟩ = some (.slice y3 y4 y5))) (by kernel_rfl) (by first | assumption | go_keep) (fun hHeld => ?_)
 refine tkH 0 rfl ?_; try simp only [ptH]
 refine tkH 1 rfl ?_; try simp only [ptH]
 refine tkH 2 rfl ?_; try simp only [ptH]
 refine tkH 3 rfl ?_; try simp only [ptH]
 refine tkH 4 rfl ?_; try simp only [ptH]
 refine rdH [5] ?_
 refine alH rfl fun K hK => ?_
 go_simp
 refine cV.mono ?_
 rintro e W1 ⟨hb1, hA⟩
 cases U with
 | error c =>
  obtain rfl := hA
  exact ⟨rfl, bel_d HB.out hb1, rfl⟩
 | ok c =>
  obtain ⟨u, rfl, hin⟩ := hA
  obtain ⟨an, ln, cn, al, ll, cl, rfl⟩ := in_shape hin
  have kc1 : W1.cell? ⟨w.heap.size, 0, none⟩ = some (clo Pv) := by have := (hb1.block w.heap.size (by rw [hsD]; omega)).trans HKx.out; simp [World.cell?, this]
  obtain ⟨v0, v1, v2, v3⟩ := XBase.four_box ((hb1.block (w.heap.size + 1) (by rw [hsD]; omega)).trans HXx.out)
  obtain ⟨⟨w0, w1, w2, w3⟩, -⟩ := HK1.out W1 (bel_d HB.out hb1)
  have hr := (hb1.block (w.heap.size + 2) (by rw [hsD]; omega)).trans HR.out
  obtain ⟨r0, r1, r2, r3, r4, r5⟩ := six_box hr
  have rf0 := frozen_box hr 0
  have rf1 := frozen_box hr 1
  have rf2 := frozen_box hr 2
  have rf3 := frozen_box hr 3
  have rf4 := frozen_box hr 4
  have rf5 := frozen_box hr 5
  have HB1 : Hid (Below w.heap.size w W1) := bel_d HB.out hb1
  have HR1 : Hid (W1.heap[w.heap.size + 2]? = some (.cells #[.int .i64 0, .bool false, .int .i64 0, .string ⟨#[]⟩, .slice none 0 0, .slice none 0 0] 46 (0, 0))) := hr
  have HI : Hid (Base.In false (fun b => b < Kk) W1 m (vl c.k c.b c.i c.s (.slice an ln cn) (.slice al ll cl)) c) := hin
  generalize c.k = ck at *
  generalize c.b = cb at *
  generalize c.i = ci at *
  generalize c.s = cs at *
  clear hb1 hin cV hr
  go_wp2_with fail
  refine hK.out _ _ (by first | assumption | go_keep) (fun hHeld => ?_)
  clear hK K
  try simp only [ptH]
  obtain ⟨W9, hW9⟩ : ∃ W9, ((((((W1.setCell ⟨w.heap.size + 2, 0, none⟩ (.int .i64 ck)).setCell ⟨w.heap.size + 2, 1, none⟩ (.bool cb)).setCell ⟨w.heap.size + 2, 2, none⟩ (.int .i64 ci)).setCell ⟨w.heap.size + 2, 3, none⟩ (.string cs)).setCell ⟨w.heap.size + 2, 4, none⟩ (.slice an ln cn)).setCell ⟨w.heap.size + 2, 5, none⟩ (.slice al ll cl)) = W9 := ⟨_, rfl⟩
  obtain ⟨q1, q2, q3, q4⟩ := set6 _ _ _ _ _ _ HR1.out hW9
  have kx : ∀ (B j : Nat) (u : Value), B ≠ w.heap.size + 2 -> W1.cell? ⟨B, j, none⟩ = some u -> W9.cell? ⟨B, j, none⟩ = some u := fun B j u hne h => (World.cell?_of_block (w := W1) (q2 _ hne)).trans h
  have e0 := kx _ _ _ (by omega) kc1
  have e1 := kx _ _ _ (by omega) v0
  have e2 := kx _ _ _ (by omega) v1
  have e3 := kx _ _ _ (by omega) v2
  have e4 := kx _ _ _ (by omega) v3
  have e5 := kx _ _ _ (by omega) w0
  have e6 := kx _ _ _ (by omega) w1
  have e7 := kx _ _ _ (by omega) w2
  have e8 := kx _ _ _ (by omega) w3
  clear kx
  refine rdH [6] ?_
  refine alH rfl fun K hK => ?_
  go_simp
  try rw [hW9]
  refine hK.out _ _ (by first | assumption | go_keep) (fun hHeld => ?_)
  clear hK K
  try simp only [ptH]
  refine dnH ?_
  go_wp2_with fail
  refine bodyPost_ret (results_cell_row rfl _ W9 (w.heap.size + 2) 46 _ (0, 0) _ rfl q1 underlying46 rfl (by kernel_rfl)) rfl ?_
  exact ⟨q4 _ _ (by omega) HB1.out, _, rfl, in_low HI.out (q4 _ _ (by omega) (Below.refl _ _))⟩
end Go.Proofs.YthjbknncbhkinaaGreatDoor.JSe
namespace Go.Proofs.YthjbknncbhkinaaGreatDoor.JLo
open Tak
open Go.RowKit Base EPure JPure VSm VIn VRs JVr JSe
open VPure hiding evL
theorem Kd.two {K m : Nat} {w : World} {Pv : Value} {ρ : Int -> Option C} {g o0 : Nat} {j : Nat} {x : Ex} (h : Kd K m w Pv ρ (some ⟨g, o0, none⟩) j x) : ∃ y0 y1 y2 y3 y4 y5, ∀ W, Below w.heap.size w W ->
 (W.cell? ⟨g, o0 + 4 * j, none⟩ = some (.int .i64 y0) /\ W.cell? ⟨g, o0 + (4 * j + 1), none⟩ = some (.int .i64 y1) /\ W.cell? ⟨g, o0 + (4 * j + 2), none⟩ = some (.string y2) /\ W.cell? ⟨g, o0 + (4 * j + 3), none⟩ = some (.slice y3 y4 y5)) /\
 Calls prog 70 #[.agg #[clo Pv], xv y0 y1 y2 (.slice y3 y4 y5)] W fun e w' => VR K m W (ev ρ x) e w' := by
 obtain ⟨g', o', y0, y1, y2, y3, y4, y5, e, -, h3⟩ := h
 injection e with e
 injection e with e1 e2
 subst e1 e2
 exact ⟨y0, y1, y2, y3, y4, y5, h3⟩
theorem logic_c {Kk m : Nat} {w : World} {Pv : Value} {ρ : Int -> Option C} (hKk : Kk <= w.heap.size) (o i : Int) (s : ByteArray) {a : Option Addr} {cap : Nat} {l : List Ex} (hl : l.length <= cap) (hc : cap <= 9223372036854775807) (h2 : 2 <= l.length) (ho : (o == 30) = decide (o = 30)) {x y : Ex} (hk0 : Kd Kk (m + 1) w Pv ρ a 0 x) (hk1 : Kd Kk (m + 1) w Pv ρ a 1 y) :
  Calls prog 88 #[.agg #[clo Pv], xv o i s (.slice a l.length cap)] w fun e w' => VR Kk (m + 1) w (bnd (bnd (ev ρ x) isT) fun b => if b = decide (o = 30) then .ok (booC (decide (o = 30))) else bnd (bnd (ev ρ y) isT) fun c => .ok (booC c)) e w' := by
 obtain ⟨g, o0, y0, y1, y2, y3, y4, y5, rfl, hg, hk0⟩ := hk0
 obtain ⟨z0, z1, z2, z3, z4, z5, hk1⟩ := Kd.two hk1
 simp only [Nat.reduceMul, Nat.reduceAdd, Nat.mul_zero, Nat.zero_add, Nat.add_zero] at hk0 hk1
 obtain ⟨W0, hW0, hs0, hb0, hk, hx, hr⟩ := three w #[clo Pv] #[.int .i64 o, .int .i64 i, .string s, (.slice (some ⟨g, o0, none⟩) l.length cap)] 97 24
 have kc : W0.cell? ⟨w.heap.size, 0, none⟩ = some (clo Pv) := by simp [World.cell?, hk]
 obtain ⟨x0, x1, x2, x3⟩ := XBase.four_box hx
 have HK0 : Hid _ := hk0
 have HK1 : Hid _ := hk1
 have HBW0 : Hid (Below w.heap.size w W0) := hb0
 have kk := hk
 have xx := hx
 have rr := hr
 have HKx : Hid (W0.heap[w.heap.size]? = some (.cells #[clo Pv] 97 (0, 0))) := kk
 have HXx : Hid (W0.heap[w.heap.size + 1]? = some (.cells #[.int .i64 o, .int .i64 i, .string s, (.slice (some ⟨g, o0, none⟩) l.length cap)] 24 (0, 0))) := xx
 have HR : Hid (W0.heap[w.heap.size + 2]? = some (.cells #[.int .i64 0, .bool false, .int .i64 0, .string ⟨#[]⟩, .slice none 0 0, .slice none 0 0] 46 (0, 0))) := rr
 obtain ⟨⟨m0, m1, m2, m3⟩, cV⟩ := hk0 W0.drew (bel_d hb0 (Below.refl _ _))
 have hsD : W0.drew.heap.size = w.heap.size + 3 := by simp [hs0]
 have b0 : (0 : Int) < (l.length : Int) := by omega
 have b1 : (1 : Int) < (l.length : Int) := by omega
 have b2 : decide ((0 : Int) < (l.length : Int)) = true := decide_eq_true b0
 have b3 : decide ((1 : Int) < (l.length : Int)) = true := decide_eq_true b1
 obtain ⟨D, hD⟩ : ∃ D, decide (o = 30) = D := ⟨_, rfl⟩
 rw [hD] at ho ⊢
 obtain ⟨U, hU⟩ : ∃ U, (bnd (bnd (ev ρ x) isT) fun b => if b = D then .ok (booC D) else bnd (bnd (ev ρ y) isT) fun c => .ok (booC c)) = U := ⟨_, rfl⟩
 rw [hU]
 generalize ev ρ x = X at *
 generalize ev ρ y = Y at *
 generalize l.length = n at *
 have b4 : 0 < n := by omega
 have b5 : 1 < n := by omega
 have b6 : ¬ n = 0 := by omega
 clear hk hx hr hb0 hk0 hk1 hD kk xx rr
 go_enter func88, ntmps88
 go_wp2_with fail
 try rw [hW0]
 refine wp_region_held_drew (S := fun w' => w'.cell? ⟨w.heap.size, 0, none⟩ = some (clo Pv) /\ (w'.cell? ⟨w.heap.size + 1, 0, none⟩ = some (.int .i64 o) /\ w'.cell? ⟨w.heap.size + 1, 1, none⟩ = some (.int .i64 i) /\ w'.cell? ⟨w.heap.size + 1, 2, none⟩ = some (.string s) /\ w'.cell? ⟨w.heap.size + 1, 3, none⟩ = some (.slice (some ⟨g, o0, none⟩) n cap)) /\ (w'.cell? ⟨g, o0, none⟩ = some (.int .i64 y0) /\ w'.cell? ⟨g, o0 + 1, none⟩ = some (.int .i64 y1) /\ w'.cell? ⟨g, o0 + 2, none⟩ = some (.string y2) /\ w'.cell? ⟨g, o0 + 3, none⟩ = some (.slice y3 y4 y5))) (by kernel_rfl) (by first | assumption | go_keep) (fun hHeld => ?_)
 refine tkH 0 rfl ?_; try simp only [ptH]
 refine tkH 1 rfl ?_; try simp only [ptH]
 refine tkH 2 rfl ?_; try simp only [ptH]
 refine tkH 3 rfl ?_; try simp only [ptH]
 refine tkH 4 rfl ?_; try simp only [ptH]
 refine tkH 7 rfl ?_; try simp only [ptH]
 refine tkH 8 rfl ?_; try simp only [ptH]
 refine tkH 9 rfl ?_; try simp only [ptH]
 refine rdH [5] ?_
 refine alH rfl fun K hK => ?_
 go_simp
 refine cV.mono ?_
 rintro e W1 ⟨hb1, hA⟩
 cases X with
 | error c =>
  obtain rfl := hA
  obtain rfl := hU
  exact ⟨rfl, bel_d HBW0.out hb1, rfl⟩
 | ok c =>
  obtain ⟨u, rfl, hin⟩ := hA
  obtain ⟨an, ln, cn, al, ll, cl, rfl⟩ := in_shape hin
  have kk := (hb1.block w.heap.size (by rw [hsD]; omega)).trans HKx.out
  have xx := (hb1.block (w.heap.size + 1) (by rw [hsD]; omega)).trans HXx.out
  have rr := (hb1.block (w.heap.size + 2) (by rw [hsD]; omega)).trans HR.out
  have HBW1 : Hid (Below w.heap.size w W1) := bel_d HBW0.out hb1
  have hs1 : w.heap.size + 3 <= W1.heap.size := by have := hb1.size; rw [hsD] at this; exact this
  have uk : W1.cell? ⟨w.heap.size, 0, none⟩ = some (clo Pv) := by simp [World.cell?, kk]
  obtain ⟨u0, u1, u2, u3⟩ := XBase.four_box xx
  obtain ⟨⟨u4, u5, u6, u7⟩, -⟩ := HK0.out W1 HBW1.out
  have HKx1 : Hid (W1.heap[w.heap.size]? = some (.cells #[clo Pv] 97 (0, 0))) := kk
  have HXx1 : Hid (W1.heap[w.heap.size + 1]? = some (.cells #[.int .i64 o, .int .i64 i, .string s, (.slice (some ⟨g, o0, none⟩) n cap)] 24 (0, 0))) := xx
  have HR1 : Hid (W1.heap[w.heap.size + 2]? = some (.cells #[.int .i64 0, .bool false, .int .i64 0, .string ⟨#[]⟩, .slice none 0 0, .slice none 0 0] 46 (0, 0))) := rr
  have cT := isTrue_c c.k c.b c.i c.s (.slice an ln cn) (.slice al ll cl) W1
  clear kk xx rr hb1 hin cV
  go_wp2_with fail
  refine hK.out _ _ (by first | assumption | go_keep) (fun hHeld => ?_)
  clear hK K
  try simp only [ptH]
  refine rdH [6] ?_
  refine alH rfl fun K hK => ?_
  go_simp
  refine cT.mono ?_
  intro e W2 hA
  by_cases hck : c.k = 2
  ·rw [if_pos hck] at hA
   obtain ⟨rfl, hb2⟩ := hA
   have e1 : isT c = .ok c.b := if_pos hck
   have e2 : bnd (.ok c : Ans) isT = .ok c.b := e1
   rw [e2] at hU
   have kk := (hb2.block w.heap.size (by omega)).trans HKx1.out
   have xx := (hb2.block (w.heap.size + 1) (by omega)).trans HXx1.out
   have rr := (hb2.block (w.heap.size + 2) (by omega)).trans HR1.out
   have HBW2 : Hid (Below w.heap.size w W2) := HBW1.out.trans (hb2.mono HBW1.out.size)
   have hs2 : w.heap.size + 3 <= W2.heap.size := Nat.le_trans hs1 hb2.size
   have tk : W2.cell? ⟨w.heap.size, 0, none⟩ = some (clo Pv) := by simp [World.cell?, kk]
   obtain ⟨t0, t1, t2, t3⟩ := XBase.four_box xx
   obtain ⟨⟨t4, t5, t6, t7⟩, -⟩ := HK0.out W2 HBW2.out
   have HKx2 : Hid (W2.heap[w.heap.size]? = some (.cells #[clo Pv] 97 (0, 0))) := kk
   have HXx2 : Hid (W2.heap[w.heap.size + 1]? = some (.cells #[.int .i64 o, .int .i64 i, .string s, (.slice (some ⟨g, o0, none⟩) n cap)] 24 (0, 0))) := xx
   have HR2 : Hid (W2.heap[w.heap.size + 2]? = some (.cells #[.int .i64 0, .bool false, .int .i64 0, .string ⟨#[]⟩, .slice none 0 0, .slice none 0 0] 46 (0, 0))) := rr
   generalize c.b = cb at *
   clear hb2 cT e1 e2 hck kk xx rr
   go_wp2_with fail
   refine hK.out _ _ (by first | assumption | go_keep) (fun hHeld => ?_)
   clear hK K
   try simp only [ptH]
   refine tkH 10 rfl ?_; try simp only [ptH]
   refine dnH ?_
   clear hHeld
   by_cases hbd : cb = D
   ·subst hbd
    have hU : (if cb = cb then .ok (booC cb) else bnd (bnd Y isT) fun c => .ok (booC c)) = U := hU
    rw [if_pos rfl] at hU
    obtain rfl := hU
    have cR := truth_c cb W2
    have dq : (cb == cb) = true := by simp
    try rw [dq]
    clear dq HK0 HK1
    go_wp2_with fail
    refine cR.mono ?_
    rintro e W3 ⟨rfl, hb3⟩
    have hr := (hb3.block (w.heap.size + 2) (by omega)).trans HR2.out
    have HB3 : Hid (Below w.heap.size w W3) := HBW2.out.trans (hb3.mono HBW2.out.size)
    clear hb3 cR
    obtain ⟨r0, r1, r2, r3, r4, r5⟩ := six_box hr
    have rf0 := frozen_box hr 0
    have rf1 := frozen_box hr 1
    have rf2 := frozen_box hr 2
    have rf3 := frozen_box hr 3
    have rf4 := frozen_box hr 4
    have rf5 := frozen_box hr 5
    go_wp2_with fail
    obtain ⟨W9, hW9⟩ : ∃ W9, ((((((W3.setCell ⟨w.heap.size + 2, 0, none⟩ (.int .i64 2)).setCell ⟨w.heap.size + 2, 1, none⟩ (.bool cb)).setCell ⟨w.heap.size + 2, 2, none⟩ (.int .i64 0)).setCell ⟨w.heap.size + 2, 3, none⟩ (.string ⟨#[]⟩)).setCell ⟨w.heap.size + 2, 4, none⟩ (.slice none 0 0)).setCell ⟨w.heap.size + 2, 5, none⟩ (.slice none 0 0)) = W9 := ⟨_, rfl⟩
    rw [hW9]
    obtain ⟨q1, q2, q3, q4⟩ := set6 _ _ _ _ _ _ hr hW9
    refine bodyPost_ret (results_cell_row rfl _ W9 (w.heap.size + 2) 46 _ (0, 0) _ rfl q1 underlying46 rfl (by kernel_rfl)) rfl ?_
    exact ⟨q4 _ _ (by omega) HB3.out, _, rfl, in_boo _ _ m cb⟩
   ·have hU : (if cb = D then .ok (booC D) else bnd (bnd Y isT) fun c => .ok (booC c)) = U := hU
    rw [if_neg hbd] at hU
    have dq : (cb == D) = false := by simp [hbd]
    try rw [dq]
    obtain ⟨⟨n4, n5, n6, n7⟩, cY⟩ := HK1.out W2.drew (bel_d HBW2.out (Below.refl _ _))
    have hsE : w.heap.size + 3 <= W2.drew.heap.size := by simpa using hs2
    clear hbd
    go_wp2_with fail
    refine wp_region_held_drew (S := fun w' => w'.cell? ⟨w.heap.size, 0, none⟩ = some (clo Pv) /\ (w'.cell? ⟨w.heap.size + 1, 0, none⟩ = some (.int .i64 o) /\ w'.cell? ⟨w.heap.size + 1, 1, none⟩ = some (.int .i64 i) /\ w'.cell? ⟨w.heap.size + 1, 2, none⟩ = some (.string s) /\ w'.cell? ⟨w.heap.size + 1, 3, none⟩ = some (.slice (some ⟨g, o0, none⟩) n cap)) /\ (w'.cell? ⟨g, o0 + 4, none⟩ = some (.int .i64 z0) /\ w'.cell? ⟨g, o0 + 5, none⟩ = some (.int .i64 z1) /\ w'.cell? ⟨g, o0 + 6, none⟩ = some (.string z2) /\ w'.cell? ⟨g, o0 + 7, none⟩ = some (.slice z3 z4 z5))) (by kernel_rfl) (by first | assumption | go_keep) (fun hHeld => ?_)
    refine tkH 0 rfl ?_; try simp only [ptH]
    refine tkH 1 rfl ?_; try simp only [ptH]
    refine tkH 2 rfl ?_; try simp only [ptH]
    refine tkH 3 rfl ?_; try simp only [ptH]
    refine tkH 4 rfl ?_; try simp only [ptH]
    refine rdH [5] ?_
    refine alH rfl fun K hK => ?_
    go_simp
    refine cY.mono ?_
    rintro e W3 ⟨hb3, hA⟩
    cases Y with
    | error c2 =>
     obtain rfl := hA
     obtain rfl := hU
     exact ⟨rfl, bel_d HBW2.out hb3, rfl⟩
    | ok c2 =>
     obtain ⟨u2, rfl, hin⟩ := hA
     obtain ⟨an, ln, cn, al, ll, cl, rfl⟩ := in_shape hin
     have kk := (hb3.block w.heap.size (by omega)).trans HKx2.out
     have xx := (hb3.block (w.heap.size + 1) (by omega)).trans HXx2.out
     have rr := (hb3.block (w.heap.size + 2) (by omega)).trans HR2.out
     have HBW3 : Hid (Below w.heap.size w W3) := bel_d HBW2.out hb3
     have hs3 : w.heap.size + 3 <= W3.heap.size := Nat.le_trans hsE hb3.size
     have rk : W3.cell? ⟨w.heap.size, 0, none⟩ = some (clo Pv) := by simp [World.cell?, kk]
     obtain ⟨r0, r1, r2, r3⟩ := XBase.four_box xx
     obtain ⟨⟨r4, r5, r6, r7⟩, -⟩ := HK1.out W3 HBW3.out
     have HKx3 : Hid (W3.heap[w.heap.size]? = some (.cells #[clo Pv] 97 (0, 0))) := kk
     have HXx3 : Hid (W3.heap[w.heap.size + 1]? = some (.cells #[.int .i64 o, .int .i64 i, .string s, (.slice (some ⟨g, o0, none⟩) n cap)] 24 (0, 0))) := xx
     have HR3 : Hid (W3.heap[w.heap.size + 2]? = some (.cells #[.int .i64 0, .bool false, .int .i64 0, .string ⟨#[]⟩, .slice none 0 0, .slice none 0 0] 46 (0, 0))) := rr
     have cT := isTrue_c c2.k c2.b c2.i c2.s (.slice an ln cn) (.slice al ll cl) W3
     clear kk xx rr hb3 hin cY
     go_wp2_with fail
     refine hK.out _ _ (by first | assumption | go_keep) (fun hHeld => ?_)
     clear hK K
     try simp only [ptH]
     refine rdH [6] ?_
     refine alH rfl fun K hK => ?_
     go_simp
     refine cT.mono ?_
     intro e W4 hA
     by_cases hck : c2.k = 2
     ·rw [if_pos hck] at hA
      obtain ⟨rfl, hb4⟩ := hA
      have e1 : isT c2 = .ok c2.b := if_pos hck
      have e2 : bnd (.ok c2 : Ans) isT = .ok c2.b := e1
      rw [e2] at hU
      obtain rfl := hU
      have kk := (hb4.block w.heap.size (by omega)).trans HKx3.out
      have xx := (hb4.block (w.heap.size + 1) (by omega)).trans HXx3.out
      have rr := (hb4.block (w.heap.size + 2) (by omega)).trans HR3.out
      have HBW4 : Hid (Below w.heap.size w W4) := HBW3.out.trans (hb4.mono HBW3.out.size)
      have hs4 : w.heap.size + 3 <= W4.heap.size := Nat.le_trans hs3 hb4.size
      have qk : W4.cell? ⟨w.heap.size, 0, none⟩ = some (clo Pv) := by simp [World.cell?, kk]
      obtain ⟨q0, q1, q2, q3⟩ := XBase.four_box xx
      obtain ⟨⟨q4, q5, q6, q7⟩, -⟩ := HK1.out W4 HBW4.out
      have HKx4 : Hid (W4.heap[w.heap.size]? = some (.cells #[clo Pv] 97 (0, 0))) := kk
      have HXx4 : Hid (W4.heap[w.heap.size + 1]? = some (.cells #[.int .i64 o, .int .i64 i, .string s, (.slice (some ⟨g, o0, none⟩) n cap)] 24 (0, 0))) := xx
      have HR4 : Hid (W4.heap[w.heap.size + 2]? = some (.cells #[.int .i64 0, .bool false, .int .i64 0, .string ⟨#[]⟩, .slice none 0 0, .slice none 0 0] 46 (0, 0))) := rr
      obtain ⟨cb2, hcb2⟩ : ∃ t, c2.b = t := ⟨_, rfl⟩
      rw [hcb2]
      have HCB : Hid (c2.b = cb2) := hcb2
      have cR := truth_c cb2 W4
      clear hb4 cT e1 e2 hck kk xx rr hcb2
      go_wp2_with fail
      refine hK.out _ _ (by first | assumption | go_keep) (fun hHeld => ?_)
      clear hK K
      try simp only [ptH]
      refine rdH [7] ?_
      refine alH rfl fun K hK => ?_
      go_simp
      refine cR.mono ?_
      rintro e W5 ⟨rfl, hb5⟩
      have kk := (hb5.block w.heap.size (by omega)).trans HKx4.out
      have xx := (hb5.block (w.heap.size + 1) (by omega)).trans HXx4.out
      have rr := (hb5.block (w.heap.size + 2) (by omega)).trans HR4.out
      have HBW5 : Hid (Below w.heap.size w W5) := HBW4.out.trans (hb5.mono HBW4.out.size)
      have hs5 : w.heap.size + 3 <= W5.heap.size := Nat.le_trans hs4 hb5.size
      have pk : W5.cell? ⟨w.heap.size, 0, none⟩ = some (clo Pv) := by simp [World.cell?, kk]
      obtain ⟨p0, p1, p2, p3⟩ := XBase.four_box xx
      obtain ⟨⟨p4, p5, p6, p7⟩, -⟩ := HK1.out W5 HBW5.out
      have hr := rr
      obtain ⟨a0, a1, a2, a3, a4, a5⟩ := six_box hr
      have af0 := frozen_box hr 0
      have af1 := frozen_box hr 1
      have af2 := frozen_box hr 2
      have af3 := frozen_box hr 3
      have af4 := frozen_box hr 4
      have af5 := frozen_box hr 5
      have HR5 : Hid (W5.heap[w.heap.size + 2]? = some (.cells #[.int .i64 0, .bool false, .int .i64 0, .string ⟨#[]⟩, .slice none 0 0, .slice none 0 0] 46 (0, 0))) := rr
      clear hb5 cR kk xx rr hr
      go_wp2_with fail
      refine hK.out _ _ (by first | assumption | go_keep) (fun hHeld => ?_)
      clear hK K
      try simp only [ptH]
      obtain ⟨W9, hW9⟩ : ∃ W9, ((((((W5.setCell ⟨w.heap.size + 2, 0, none⟩ (.int .i64 2)).setCell ⟨w.heap.size + 2, 1, none⟩ (.bool cb2)).setCell ⟨w.heap.size + 2, 2, none⟩ (.int .i64 0)).setCell ⟨w.heap.size + 2, 3, none⟩ (.string ⟨#[]⟩)).setCell ⟨w.heap.size + 2, 4, none⟩ (.slice none 0 0)).setCell ⟨w.heap.size + 2, 5, none⟩ (.slice none 0 0)) = W9 := ⟨_, rfl⟩
      obtain ⟨g1, g2, g3, g4⟩ := set6 _ _ _ _ _ _ HR5.out hW9
      have kx : ∀ (B j : Nat) (u : Value), B ≠ w.heap.size + 2 -> W5.cell? ⟨B, j, none⟩ = some u -> W9.cell? ⟨B, j, none⟩ = some u := fun B j u hne h => (World.cell?_of_block (w := W5) (g2 _ hne)).trans h
      have f0 := kx _ _ _ (by omega) pk
      have f1 := kx _ _ _ (by omega) p0
      have f2 := kx _ _ _ (by omega) p1
      have f3 := kx _ _ _ (by omega) p2
      have f4 := kx _ _ _ (by omega) p3
      have f5 := kx _ _ _ (by omega) p4
      have f6 := kx _ _ _ (by omega) p5
      have f7 := kx _ _ _ (by omega) p6
      have f8 := kx _ _ _ (by omega) p7
      clear kx
      refine rdH [8] ?_
      refine alH rfl fun K hK => ?_
      go_simp
      try rw [hW9]
      refine hK.out _ _ (by first | assumption | go_keep) (fun hHeld => ?_)
      clear hK K
      try simp only [ptH]
      refine dnH ?_
      go_wp2_with fail
      refine bodyPost_ret (results_cell_row rfl _ W9 (w.heap.size + 2) 46 _ (0, 0) _ rfl g1 underlying46 rfl (by kernel_rfl)) rfl ?_
      exact ⟨g4 _ _ (by omega) HBW5.out, _, rfl, by rw [HCB.out]; exact in_boo _ _ m cb2⟩
     ·rw [if_neg hck] at hA
      obtain ⟨rfl, hb4⟩ := hA
      have e1 : isT c2 = .error 1101 := if_neg hck
      have e2 : bnd (.ok c2 : Ans) isT = .error 1101 := e1
      rw [e2] at hU
      obtain rfl := hU
      exact ⟨rfl, HBW3.out.trans (hb4.mono HBW3.out.size), rfl⟩
  ·rw [if_neg hck] at hA
   obtain ⟨rfl, hb2⟩ := hA
   have e1 : isT c = .error 1101 := if_neg hck
   have e2 : bnd (.ok c : Ans) isT = .error 1101 := e1
   rw [e2] at hU
   obtain rfl := hU
   exact ⟨rfl, HBW1.out.trans (hb2.mono HBW1.out.size), rfl⟩
end Go.Proofs.YthjbknncbhkinaaGreatDoor.JLo
