import Derived.Test.YthjbknncbhkinaaGreatDoorPS12
import Derived.Test.YthjbknncbhkinaaGreatDoorPS45
open Go.Proofs.Tryz
set_option linter.unusedVariables false
set_option maxRecDepth 20000
set_option maxHeartbeats 6400000
namespace Go.Proofs.YthjbknncbhkinaaGreatDoor.JCh
open Tak
open Go.RowKit Base EPure JPure VSm VIn VRs JVr JSe JLo
open VPure hiding evL
theorem choice_c {Kk m : Nat} {w : World} {Pv : Value} {ρ : Int -> Option C} (hKk : Kk <= w.heap.size) (o i : Int) (s : ByteArray) {a : Option Addr} {cap : Nat} {l : List Ex} (hl : l.length <= cap) (hc : cap <= 9223372036854775807) (h2 : 3 <= l.length) {x y z : Ex} (hk0 : Kd Kk (m + 1) w Pv ρ a 0 x) (hk1 : Kd Kk (m + 1) w Pv ρ a 1 y) (hk2 : Kd Kk (m + 1) w Pv ρ a 2 z) :
  Calls prog 89 #[.agg #[clo Pv], xv o i s (.slice a l.length cap)] w fun e w' => VR Kk (m + 1) w (bnd (bnd (ev ρ x) isT) fun b => if b = true then ev ρ y else ev ρ z) e w' := by
 obtain ⟨g, o0, y0, y1, y2, y3, y4, y5, rfl, hg, hk0⟩ := hk0
 obtain ⟨z0, z1, z2, z3, z4, z5, hk1⟩ := Kd.two hk1
 obtain ⟨v0, v1, v2, v3, v4, v5, hk2⟩ := Kd.two hk2
 simp only [Nat.reduceMul, Nat.reduceAdd, Nat.mul_zero, Nat.zero_add, Nat.add_zero] at hk0 hk1 hk2
 obtain ⟨W0, hW0, hs0, hb0, hk, hx, hr⟩ := three w #[clo Pv] #[.int .i64 o, .int .i64 i, .string s, (.slice (some ⟨g, o0, none⟩) l.length cap)] 97 24
 have kc : W0.cell? ⟨w.heap.size, 0, none⟩ = some (clo Pv) := by simp [World.cell?, hk]
 obtain ⟨x0, x1, x2, x3⟩ := XBase.four_box hx
 have HK0 : Hid _ := hk0
 have HK1 : Hid _ := hk1
 have HK2 : Hid _ := hk2
 have HBW0 : Hid (Below w.heap.size w W0) := hb0
 have kk := hk
 have xx := hx
 have rr := hr
 have HKx : Hid (W0.heap[w.heap.size]? = some (.cells #[clo Pv] 97 (0, 0))) := kk
 have HXx : Hid (W0.heap[w.heap.size + 1]? = some (.cells #[.int .i64 o, .int .i64 i, .string s, (.slice (some ⟨g, o0, none⟩) l.length cap)] 24 (0, 0))) := xx
 have HR : Hid (W0.heap[w.heap.size + 2]? = some (.cells #[.int .i64 0, .bool false, .int .i64 0, .string ⟨#[]⟩, .slice none 0 0, .slice none 0 0] 46 (0, 0))) := rr
 obtain ⟨⟨m0, m1, m2, m3⟩, cV⟩ := hk0 W0.drew (bel_d hb0 (Below.refl _ _))
 have hsD : W0.drew.heap.size = w.heap.size + 3 := by simp [hs0]
 have b0 : (0 : Int) < (l.length : Int) := by omega
 have b0' : decide ((0 : Int) < (l.length : Int)) = true := decide_eq_true b0
 have b1 : (1 : Int) < (l.length : Int) := by omega
 have b1' : decide ((1 : Int) < (l.length : Int)) = true := decide_eq_true b1
 have b2 : (2 : Int) < (l.length : Int) := by omega
 have b2' : decide ((2 : Int) < (l.length : Int)) = true := decide_eq_true b2
 obtain ⟨U, hU⟩ : ∃ U, (bnd (bnd (ev ρ x) isT) fun b => if b = true then ev ρ y else ev ρ z) = U := ⟨_, rfl⟩
 rw [hU]
 generalize ev ρ x = X at *
 generalize ev ρ y = Y at *
 generalize ev ρ z = Z at *
 generalize l.length = n at *
 have b4 : 0 < n := by omega
 have b5 : 1 < n := by omega
 have b7 : 2 < n := by omega
 have b6 : ¬ n = 0 := by omega
 clear hk hx hr hb0 hk0 hk1 hk2 kk xx rr
 go_enter func89, ntmps89
 go_wp2_with fail
 try rw [hW0]
 refine wp_region_held_drew (S := fun w' => w'.cell? ⟨w.heap.size, 0, none⟩ = some (clo Pv) /\ (w'.cell? ⟨w.heap.size + 1, 0, none⟩ = some (.int .i64 o) /\ w'.cell? ⟨w.heap.size + 1, 1, none⟩ = some (.int .i64 i) /\ w'.cell? ⟨w.heap.size + 1, 2, none⟩ = some (.string s) /\ w'.cell? ⟨w.heap.size + 1, 3, none⟩ = some (.slice (some ⟨g, o0, none⟩) n cap)) /\ (w'.cell? ⟨g, o0, none⟩ = some (.int .i64 y0) /\ w'.cell? ⟨g, o0 + 1, none⟩ = some (.int .i64 y1) /\ w'.cell? ⟨g, o0 + 2, none⟩ = some (.string y2) /\ w'.cell? ⟨g, o0 + 3, none⟩ = some (.slice y3 y4 y5))) (by kernel_rfl) (by first | assumption | go_keep) (fun hHeld => ?_)
 refine tkH 0 rfl ?_; try simp only [ptH]
 refine tkH 1 rfl ?_; try simp only [ptH]
 refine tkH 2 rfl ?_; try simp only [ptH]
 refine tkH 3 rfl ?_; try simp only [ptH]
 refine tkH 4 rfl ?_; try simp only [ptH]
 refine rdH [5] ?_
 refine alH rfl fun K hK => ?_
 go_simp
 refine cV.mono ?_
 rintro e W1 ⟨hb1, hA⟩
 cases X with
 | error c =>
  obtain rfl := hA
  obtain rfl := hU
  exact ⟨rfl, bel_d HBW0.out hb1, rfl⟩
 | ok c =>
  obtain ⟨u, rfl, hin⟩ := hA
  obtain ⟨an, ln, cn, al, ll, cl, rfl⟩ := in_shape hin
  have kk := (hb1.block w.heap.size (by rw [hsD]; omega)).trans HKx.out
  have xx := (hb1.block (w.heap.size + 1) (by rw [hsD]; omega)).trans HXx.out
  have rr := (hb1.block (w.heap.size + 2) (by rw [hsD]; omega)).trans HR.out
  have HBW1 : Hid (Below w.heap.size w W1) := bel_d HBW0.out hb1
  have hs1 : w.heap.size + 3 <= W1.heap.size := by have := hb1.size; rw [hsD] at this; exact this
  have uk : W1.cell? ⟨w.heap.size, 0, none⟩ = some (clo Pv) := by simp [World.cell?, kk]
  obtain ⟨u0, u1, u2, u3⟩ := XBase.four_box xx
  obtain ⟨⟨u4, u5, u6, u7⟩, -⟩ := HK0.out W1 HBW1.out
  have HKx1 : Hid (W1.heap[w.heap.size]? = some (.cells #[clo Pv] 97 (0, 0))) := kk
  have HXx1 : Hid (W1.heap[w.heap.size + 1]? = some (.cells #[.int .i64 o, .int .i64 i, .string s, (.slice (some ⟨g, o0, none⟩) n cap)] 24 (0, 0))) := xx
  have HR1 : Hid (W1.heap[w.heap.size + 2]? = some (.cells #[.int .i64 0, .bool false, .int .i64 0, .string ⟨#[]⟩, .slice none 0 0, .slice none 0 0] 46 (0, 0))) := rr
  have cT := isTrue_c c.k c.b c.i c.s (.slice an ln cn) (.slice al ll cl) W1
  clear kk xx rr hb1 hin cV
  go_wp2_with fail
  refine hK.out _ _ (by first | assumption | go_keep) (fun hHeld => ?_)
  clear hK K
  try simp only [ptH]
  refine rdH [6] ?_
  refine alH rfl fun K hK => ?_
  go_simp
  refine cT.mono ?_
  intro e W2 hA
  by_cases hck : c.k = 2
  ·rw [if_pos hck] at hA
   obtain ⟨rfl, hb2⟩ := hA
   have e1 : isT c = .ok c.b := if_pos hck
   have e2 : bnd (.ok c : Ans) isT = .ok c.b := e1
   rw [e2] at hU
   have kk := (hb2.block w.heap.size (by omega)).trans HKx1.out
   have xx := (hb2.block (w.heap.size + 1) (by omega)).trans HXx1.out
   have rr := (hb2.block (w.heap.size + 2) (by omega)).trans HR1.out
   have HBW2 : Hid (Below w.heap.size w W2) := HBW1.out.trans (hb2.mono HBW1.out.size)
   have hs2 : w.heap.size + 3 <= W2.heap.size := Nat.le_trans hs1 hb2.size
   have tk : W2.cell? ⟨w.heap.size, 0, none⟩ = some (clo Pv) := by simp [World.cell?, kk]
   obtain ⟨t0, t1, t2, t3⟩ := XBase.four_box xx
   obtain ⟨⟨t4, t5, t6, t7⟩, -⟩ := HK0.out W2 HBW2.out
   have HKx2 : Hid (W2.heap[w.heap.size]? = some (.cells #[clo Pv] 97 (0, 0))) := kk
   have HXx2 : Hid (W2.heap[w.heap.size + 1]? = some (.cells #[.int .i64 o, .int .i64 i, .string s, (.slice (some ⟨g, o0, none⟩) n cap)] 24 (0, 0))) := xx
   have HR2 : Hid (W2.heap[w.heap.size + 2]? = some (.cells #[.int .i64 0, .bool false, .int .i64 0, .string ⟨#[]⟩, .slice none 0 0, .slice none 0 0] 46 (0, 0))) := rr
   generalize c.b = cb at *
   clear hb2 cT e1 e2 hck kk xx rr
   go_wp2_with fail
   refine hK.out _ _ (by first | assumption | go_keep) (fun hHeld => ?_)
   clear hK K
   try simp only [ptH]
   refine dnH ?_
   clear hHeld
   cases cb with
   | true =>
    have hU : (if true = true then Y else Z) = U := hU
    simp only [if_true] at hU
    obtain ⟨⟨n4, n5, n6, n7⟩, cY⟩ := HK1.out W2.drew (bel_d HBW2.out (Below.refl _ _))
    have hsE : w.heap.size + 3 <= W2.drew.heap.size := by simpa using hs2
    go_wp2_with fail
    refine wp_region_held_drew (S := fun w' => w'.cell? ⟨w.heap.size, 0, none⟩ = some (clo Pv) /\ (w'.cell? ⟨w.heap.size + 1, 0, none⟩ = some (.int .i64 o) /\ w'.cell? ⟨w.heap.size + 1, 1, none⟩ = some (.int .i64 i) /\ w'.cell? ⟨w.heap.size + 1, 2, none⟩ = some (.string s) /\ w'.cell? ⟨w.heap.size + 1, 3, none⟩ = some (.slice (some ⟨g, o0, none⟩) n cap)) /\ (w'.cell? ⟨g, o0 + 4, none⟩ = some (.int .i64 z0) /\ w'.cell? ⟨g, o0 + 5, none⟩ = some (.int .i64 z1) /\ w'.cell? ⟨g, o0 + 6, none⟩ = some (.string z2) /\ w'.cell? ⟨g, o0 + 7, none⟩ = some (.slice z3 z4 z5))) (by kernel_rfl) (by first | assumption | go_keep) (fun hHeld => ?_)
    refine tkH 0 rfl ?_; try simp only [ptH]
    refine tkH 1 rfl ?_; try simp only [ptH]
    refine tkH 2 rfl ?_; try simp only [ptH]
    refine tkH 3 rfl ?_; try simp only [ptH]
    refine tkH 4 rfl ?_; try simp only [ptH]
    refine rdH [5] ?_
    refine alH rfl fun K hK => ?_
    go_simp
    refine cY.mono ?_
    rintro e W3 ⟨hb3, hA⟩
    cases Y with
    | error c2 =>
     obtain rfl := hA
     obtain rfl := hU
     exact ⟨rfl, bel_d HBW2.out hb3, rfl⟩
    | ok c2 =>
     obtain rfl := hU
     obtain ⟨u2, rfl, hin⟩ := hA
     obtain ⟨an, ln, cn, al, ll, cl, rfl⟩ := in_shape hin
     have kk := (hb3.block w.heap.size (by omega)).trans HKx2.out
     have xx := (hb3.block (w.heap.size + 1) (by omega)).trans HXx2.out
     have rr := (hb3.block (w.heap.size + 2) (by omega)).trans HR2.out
     have HBW3 : Hid (Below w.heap.size w W3) := bel_d HBW2.out hb3
     have hs3 : w.heap.size + 3 <= W3.heap.size := Nat.le_trans hsE hb3.size
     have rk : W3.cell? ⟨w.heap.size, 0, none⟩ = some (clo Pv) := by simp [World.cell?, kk]
     obtain ⟨r0, r1, r2, r3⟩ := XBase.four_box xx
     obtain ⟨⟨r4, r5, r6, r7⟩, -⟩ := HK1.out W3 HBW3.out
     have hr := rr
     obtain ⟨a0, a1, a2, a3, a4, a5⟩ := six_box hr
     have af0 := frozen_box hr 0
     have af1 := frozen_box hr 1
     have af2 := frozen_box hr 2
     have af3 := frozen_box hr 3
     have af4 := frozen_box hr 4
     have af5 := frozen_box hr 5
     have HR3 : Hid (W3.heap[w.heap.size + 2]? = some (.cells #[.int .i64 0, .bool false, .int .i64 0, .string ⟨#[]⟩, .slice none 0 0, .slice none 0 0] 46 (0, 0))) := rr
     have HI : Hid (Base.In false (fun b => b < Kk) W3 (m + 1) (vl c2.k c2.b c2.i c2.s (.slice an ln cn) (.slice al ll cl)) c2) := hin
     generalize c2.k = ck at *
     generalize c2.b = cb at *
     generalize c2.i = ci at *
     generalize c2.s = cs at *
     clear kk xx rr hr hb3 hin cY
     go_wp2_with fail
     refine hK.out _ _ (by first | assumption | go_keep) (fun hHeld => ?_)
     clear hK K
     try simp only [ptH]
     obtain ⟨W9, hW9⟩ : ∃ W9, ((((((W3.setCell ⟨w.heap.size + 2, 0, none⟩ (.int .i64 ck)).setCell ⟨w.heap.size + 2, 1, none⟩ (.bool cb)).setCell ⟨w.heap.size + 2, 2, none⟩ (.int .i64 ci)).setCell ⟨w.heap.size + 2, 3, none⟩ (.string cs)).setCell ⟨w.heap.size + 2, 4, none⟩ (.slice an ln cn)).setCell ⟨w.heap.size + 2, 5, none⟩ (.slice al ll cl)) = W9 := ⟨_, rfl⟩
     obtain ⟨g1, g2, g3, g4⟩ := set6 _ _ _ _ _ _ HR3.out hW9
     have kx : ∀ (B j : Nat) (u : Value), B ≠ w.heap.size + 2 -> W3.cell? ⟨B, j, none⟩ = some u -> W9.cell? ⟨B, j, none⟩ = some u := fun B j u hne h => (World.cell?_of_block (w := W3) (g2 _ hne)).trans h
     have f0 := kx _ _ _ (by omega) rk
     have f1 := kx _ _ _ (by omega) r0
     have f2 := kx _ _ _ (by omega) r1
     have f3 := kx _ _ _ (by omega) r2
     have f4 := kx _ _ _ (by omega) r3
     have f5 := kx _ _ _ (by omega) r4
     have f6 := kx _ _ _ (by omega) r5
     have f7 := kx _ _ _ (by omega) r6
     have f8 := kx _ _ _ (by omega) r7
     clear kx
     refine rdH [6] ?_
     refine alH rfl fun K hK => ?_
     go_simp
     try rw [hW9]
     refine hK.out _ _ (by first | assumption | go_keep) (fun hHeld => ?_)
     clear hK K
     try simp only [ptH]
     refine dnH ?_
     go_wp2_with fail
     refine bodyPost_ret (results_cell_row rfl _ W9 (w.heap.size + 2) 46 _ (0, 0) _ rfl g1 underlying46 rfl (by kernel_rfl)) rfl ?_
     exact ⟨g4 _ _ (by omega) HBW3.out, _, rfl, in_low HI.out (g4 _ _ (by omega) (Below.refl _ _))⟩
   | false =>
    have hU : (if false = true then Y else Z) = U := hU
    simp only [Bool.false_eq_true, if_false] at hU
    obtain ⟨⟨n4, n5, n6, n7⟩, cY⟩ := HK2.out W2.drew (bel_d HBW2.out (Below.refl _ _))
    have hsE : w.heap.size + 3 <= W2.drew.heap.size := by simpa using hs2
    go_wp2_with fail
    refine wp_region_held_drew (S := fun w' => w'.cell? ⟨w.heap.size, 0, none⟩ = some (clo Pv) /\ (w'.cell? ⟨w.heap.size + 1, 0, none⟩ = some (.int .i64 o) /\ w'.cell? ⟨w.heap.size + 1, 1, none⟩ = some (.int .i64 i) /\ w'.cell? ⟨w.heap.size + 1, 2, none⟩ = some (.string s) /\ w'.cell? ⟨w.heap.size + 1, 3, none⟩ = some (.slice (some ⟨g, o0, none⟩) n cap)) /\ (w'.cell? ⟨g, o0 + 8, none⟩ = some (.int .i64 v0) /\ w'.cell? ⟨g, o0 + 9, none⟩ = some (.int .i64 v1) /\ w'.cell? ⟨g, o0 + 10, none⟩ = some (.string v2) /\ w'.cell? ⟨g, o0 + 11, none⟩ = some (.slice v3 v4 v5))) (by kernel_rfl) (by first | assumption | go_keep) (fun hHeld => ?_)
    refine tkH 0 rfl ?_; try simp only [ptH]
    refine tkH 1 rfl ?_; try simp only [ptH]
    refine tkH 2 rfl ?_; try simp only [ptH]
    refine tkH 3 rfl ?_; try simp only [ptH]
    refine tkH 4 rfl ?_; try simp only [ptH]
    refine rdH [5] ?_
    refine alH rfl fun K hK => ?_
    go_simp
    refine cY.mono ?_
    rintro e W3 ⟨hb3, hA⟩
    cases Z with
    | error c2 =>
     obtain rfl := hA
     obtain rfl := hU
     exact ⟨rfl, bel_d HBW2.out hb3, rfl⟩
    | ok c2 =>
     obtain rfl := hU
     obtain ⟨u2, rfl, hin⟩ := hA
     obtain ⟨an, ln, cn, al, ll, cl, rfl⟩ := in_shape hin
     have kk := (hb3.block w.heap.size (by omega)).trans HKx2.out
     have xx := (hb3.block (w.heap.size + 1) (by omega)).trans HXx2.out
     have rr := (hb3.block (w.heap.size + 2) (by omega)).trans HR2.out
     have HBW3 : Hid (Below w.heap.size w W3) := bel_d HBW2.out hb3
     have hs3 : w.heap.size + 3 <= W3.heap.size := Nat.le_trans hsE hb3.size
     have rk : W3.cell? ⟨w.heap.size, 0, none⟩ = some (clo Pv) := by simp [World.cell?, kk]
     obtain ⟨r0, r1, r2, r3⟩ := XBase.four_box xx
     obtain ⟨⟨r4, r5, r6, r7⟩, -⟩ := HK2.out W3 HBW3.out
     have hr := rr
     obtain ⟨a0, a1, a2, a3, a4, a5⟩ := six_box hr
     have af0 := frozen_box hr 0
     have af1 := frozen_box hr 1
     have af2 := frozen_box hr 2
     have af3 := frozen_box hr 3
     have af4 := frozen_box hr 4
     have af5 := frozen_box hr 5
     have HR3 : Hid (W3.heap[w.heap.size + 2]? = some (.cells #[.int .i64 0, .bool false, .int .i64 0, .string ⟨#[]⟩, .slice none 0 0, .slice none 0 0] 46 (0, 0))) := rr
     have HI : Hid (Base.In false (fun b => b < Kk) W3 (m + 1) (vl c2.k c2.b c2.i c2.s (.slice an ln cn) (.slice al ll cl)) c2) := hin
     generalize c2.k = ck at *
     generalize c2.b = cb at *
     generalize c2.i = ci at *
     generalize c2.s = cs at *
     clear kk xx rr hr hb3 hin cY
     go_wp2_with fail
     refine hK.out _ _ (by first | assumption | go_keep) (fun hHeld => ?_)
     clear hK K
     try simp only [ptH]
     obtain ⟨W9, hW9⟩ : ∃ W9, ((((((W3.setCell ⟨w.heap.size + 2, 0, none⟩ (.int .i64 ck)).setCell ⟨w.heap.size + 2, 1, none⟩ (.bool cb)).setCell ⟨w.heap.size + 2, 2, none⟩ (.int .i64 ci)).setCell ⟨w.heap.size + 2, 3, none⟩ (.string cs)).setCell ⟨w.heap.size + 2, 4, none⟩ (.slice an ln cn)).setCell ⟨w.heap.size + 2, 5, none⟩ (.slice al ll cl)) = W9 := ⟨_, rfl⟩
     obtain ⟨g1, g2, g3, g4⟩ := set6 _ _ _ _ _ _ HR3.out hW9
     have kx : ∀ (B j : Nat) (u : Value), B ≠ w.heap.size + 2 -> W3.cell? ⟨B, j, none⟩ = some u -> W9.cell? ⟨B, j, none⟩ = some u := fun B j u hne h => (World.cell?_of_block (w := W3) (g2 _ hne)).trans h
     have f0 := kx _ _ _ (by omega) rk
     have f1 := kx _ _ _ (by omega) r0
     have f2 := kx _ _ _ (by omega) r1
     have f3 := kx _ _ _ (by omega) r2
     have f4 := kx _ _ _ (by omega) r3
     have f5 := kx _ _ _ (by omega) r4
     have f6 := kx _ _ _ (by omega) r5
     have f7 := kx _ _ _ (by omega) r6
     have f8 := kx _ _ _ (by omega) r7
     clear kx
     refine rdH [6] ?_
     refine alH rfl fun K hK => ?_
     go_simp
     try rw [hW9]
     refine hK.out _ _ (by first | assumption | go_keep) (fun hHeld => ?_)
     clear hK K
     try simp only [ptH]
     refine dnH ?_
     go_wp2_with fail
     refine bodyPost_ret (results_cell_row rfl _ W9 (w.heap.size + 2) 46 _ (0, 0) _ rfl g1 underlying46 rfl (by kernel_rfl)) rfl ?_
     exact ⟨g4 _ _ (by omega) HBW3.out, _, rfl, in_low HI.out (g4 _ _ (by omega) (Below.refl _ _))⟩
  ·rw [if_neg hck] at hA
   obtain ⟨rfl, hb2⟩ := hA
   have e1 : isT c = .error 1101 := if_neg hck
   have e2 : bnd (.ok c : Ans) isT = .error 1101 := e1
   rw [e2] at hU
   obtain rfl := hU
   exact ⟨rfl, HBW1.out.trans (hb2.mono HBW1.out.size), rfl⟩
end Go.Proofs.YthjbknncbhkinaaGreatDoor.JCh
namespace Go.Proofs.YthjbknncbhkinaaGreatDoor.JVl
open Go.RowKit Base EPure JPure VSm VRs JVr JSe JLo
open VPure hiding evL
theorem value1 {Kk m : Nat} {w : World} {Pv : Value} (i : Int) (s : ByteArray) (lv : Value) :
  Calls prog 70 #[.agg #[clo Pv], xv 1 i s lv] w fun e w' => VR Kk (m + 1) w (.ok nulC) e w' := by
 obtain ⟨W0, hW0, hs0, hb0, hk, hx, hr⟩ := three w #[clo Pv] #[.int .i64 1, .int .i64 i, .string s, lv] 97 24
 have kc : W0.cell? ⟨w.heap.size, 0, none⟩ = some (clo Pv) := by simp [World.cell?, hk]
 obtain ⟨x0, x1, x2, x3⟩ := XBase.four_box hx
 have HB : Hid (Below w.heap.size w W0) := hb0
 obtain ⟨r0, r1, r2, r3, r4, r5⟩ := six_box hr
 have rf0 := frozen_box hr 0
 have rf1 := frozen_box hr 1
 have rf2 := frozen_box hr 2
 have rf3 := frozen_box hr 3
 have rf4 := frozen_box hr 4
 have rf5 := frozen_box hr 5
 have HR : Hid (W0.heap[w.heap.size + 2]? = some (.cells #[.int .i64 0, .bool false, .int .i64 0, .string ⟨#[]⟩, .slice none 0 0, .slice none 0 0] 46 (0, 0))) := hr
 clear hk hx hb0 hr
 go_enter func70, ntmps70
 go_wp2_with fail
 try rw [hW0]
 obtain ⟨W9, hW9⟩ : ∃ W9, ((((((W0.setCell ⟨w.heap.size + 2, 0, none⟩ (.int .i64 1)).setCell ⟨w.heap.size + 2, 1, none⟩ (.bool false)).setCell ⟨w.heap.size + 2, 2, none⟩ (.int .i64 0)).setCell ⟨w.heap.size + 2, 3, none⟩ (.string ⟨#[]⟩)).setCell ⟨w.heap.size + 2, 4, none⟩ (.slice none 0 0)).setCell ⟨w.heap.size + 2, 5, none⟩ (.slice none 0 0)) = W9 := ⟨_, rfl⟩
 rw [hW9]
 obtain ⟨q1, q2, q3, q4⟩ := set6 _ _ _ _ _ _ HR.out hW9
 refine bodyPost_ret (results_cell_row rfl _ W9 (w.heap.size + 2) 46 _ (0, 0) _ rfl q1 underlying46 rfl (by kernel_rfl)) rfl ?_
 exact ⟨q4 _ _ (by omega) HB.out, _, rfl, in_nul _ _ m⟩
theorem value2 {Kk m : Nat} {w : World} {Pv : Value} (i : Int) (s : ByteArray) (lv : Value) :
  Calls prog 70 #[.agg #[clo Pv], xv 2 i s lv] w fun e w' => VR Kk (m + 1) w (.ok (booC false)) e w' := by
 obtain ⟨W0, hW0, hs0, hb0, hk, hx, hr⟩ := three w #[clo Pv] #[.int .i64 2, .int .i64 i, .string s, lv] 97 24
 have kc : W0.cell? ⟨w.heap.size, 0, none⟩ = some (clo Pv) := by simp [World.cell?, hk]
 obtain ⟨x0, x1, x2, x3⟩ := XBase.four_box hx
 have HR : Hid (W0.heap[w.heap.size + 2]? = some (.cells #[.int .i64 0, .bool false, .int .i64 0, .string ⟨#[]⟩, .slice none 0 0, .slice none 0 0] 46 (0, 0))) := hr
 have HB : Hid (Below w.heap.size w W0) := hb0
 clear hk hx hb0
 have cC := truth_c false W0
 clear hr
 go_enter func70, ntmps70
 go_wp2_with fail
 try rw [hW0]
 refine cC.mono ?_
 rintro e W1 ⟨rfl, hb1⟩
 have hr := (hb1.block (w.heap.size + 2) (by omega)).trans HR.out
 have HB1 : Hid (Below w.heap.size w W1) := HB.out.trans (hb1.mono HB.out.size)
 clear hb1 cC HR HB kc x0 x1 x2 x3 hW0
 obtain ⟨r0, r1, r2, r3, r4, r5⟩ := six_box hr
 have rf0 := frozen_box hr 0
 have rf1 := frozen_box hr 1
 have rf2 := frozen_box hr 2
 have rf3 := frozen_box hr 3
 have rf4 := frozen_box hr 4
 have rf5 := frozen_box hr 5
 go_wp2_with fail
 obtain ⟨W9, hW9⟩ : ∃ W9, ((((((W1.setCell ⟨w.heap.size + 2, 0, none⟩ (.int .i64 2)).setCell ⟨w.heap.size + 2, 1, none⟩ (.bool false)).setCell ⟨w.heap.size + 2, 2, none⟩ (.int .i64 0)).setCell ⟨w.heap.size + 2, 3, none⟩ (.string ⟨#[]⟩)).setCell ⟨w.heap.size + 2, 4, none⟩ (.slice none 0 0)).setCell ⟨w.heap.size + 2, 5, none⟩ (.slice none 0 0)) = W9 := ⟨_, rfl⟩
 rw [hW9]
 obtain ⟨q1, q2, q3, q4⟩ := set6 _ _ _ _ _ _ hr hW9
 refine bodyPost_ret (results_cell_row rfl _ W9 (w.heap.size + 2) 46 _ (0, 0) _ rfl q1 underlying46 rfl (by kernel_rfl)) rfl ?_
 exact ⟨q4 _ _ (by omega) HB1.out, _, rfl, in_boo _ _ m false⟩
theorem value3 {Kk m : Nat} {w : World} {Pv : Value} (i : Int) (s : ByteArray) (lv : Value) :
  Calls prog 70 #[.agg #[clo Pv], xv 3 i s lv] w fun e w' => VR Kk (m + 1) w (.ok (booC true)) e w' := by
 obtain ⟨W0, hW0, hs0, hb0, hk, hx, hr⟩ := three w #[clo Pv] #[.int .i64 3, .int .i64 i, .string s, lv] 97 24
 have kc : W0.cell? ⟨w.heap.size, 0, none⟩ = some (clo Pv) := by simp [World.cell?, hk]
 obtain ⟨x0, x1, x2, x3⟩ := XBase.four_box hx
 have HR : Hid (W0.heap[w.heap.size + 2]? = some (.cells #[.int .i64 0, .bool false, .int .i64 0, .string ⟨#[]⟩, .slice none 0 0, .slice none 0 0] 46 (0, 0))) := hr
 have HB : Hid (Below w.heap.size w W0) := hb0
 clear hk hx hb0
 have cC := truth_c true W0
 clear hr
 go_enter func70, ntmps70
 go_wp2_with fail
 try rw [hW0]
 refine cC.mono ?_
 rintro e W1 ⟨rfl, hb1⟩
 have hr := (hb1.block (w.heap.size + 2) (by omega)).trans HR.out
 have HB1 : Hid (Below w.heap.size w W1) := HB.out.trans (hb1.mono HB.out.size)
 clear hb1 cC HR HB kc x0 x1 x2 x3 hW0
 obtain ⟨r0, r1, r2, r3, r4, r5⟩ := six_box hr
 have rf0 := frozen_box hr 0
 have rf1 := frozen_box hr 1
 have rf2 := frozen_box hr 2
 have rf3 := frozen_box hr 3
 have rf4 := frozen_box hr 4
 have rf5 := frozen_box hr 5
 go_wp2_with fail
 obtain ⟨W9, hW9⟩ : ∃ W9, ((((((W1.setCell ⟨w.heap.size + 2, 0, none⟩ (.int .i64 2)).setCell ⟨w.heap.size + 2, 1, none⟩ (.bool true)).setCell ⟨w.heap.size + 2, 2, none⟩ (.int .i64 0)).setCell ⟨w.heap.size + 2, 3, none⟩ (.string ⟨#[]⟩)).setCell ⟨w.heap.size + 2, 4, none⟩ (.slice none 0 0)).setCell ⟨w.heap.size + 2, 5, none⟩ (.slice none 0 0)) = W9 := ⟨_, rfl⟩
 rw [hW9]
 obtain ⟨q1, q2, q3, q4⟩ := set6 _ _ _ _ _ _ hr hW9
 refine bodyPost_ret (results_cell_row rfl _ W9 (w.heap.size + 2) 46 _ (0, 0) _ rfl q1 underlying46 rfl (by kernel_rfl)) rfl ?_
 exact ⟨q4 _ _ (by omega) HB1.out, _, rfl, in_boo _ _ m true⟩
theorem value4 {Kk m : Nat} {w : World} {Pv : Value} (i : Int) (s : ByteArray) (lv : Value) (hi : -9223372036854775808 <= i /\ i <= 9223372036854775807) :
  Calls prog 70 #[.agg #[clo Pv], xv 4 i s lv] w fun e w' => VR Kk (m + 1) w (.ok (intC i)) e w' := by
 obtain ⟨W0, hW0, hs0, hb0, hk, hx, hr⟩ := three w #[clo Pv] #[.int .i64 4, .int .i64 i, .string s, lv] 97 24
 have kc : W0.cell? ⟨w.heap.size, 0, none⟩ = some (clo Pv) := by simp [World.cell?, hk]
 obtain ⟨x0, x1, x2, x3⟩ := XBase.four_box hx
 have HR : Hid (W0.heap[w.heap.size + 2]? = some (.cells #[.int .i64 0, .bool false, .int .i64 0, .string ⟨#[]⟩, .slice none 0 0, .slice none 0 0] 46 (0, 0))) := hr
 have HB : Hid (Below w.heap.size w W0) := hb0
 clear hk hx hb0
 have cC := number_c i W0
 clear hr
 go_enter func70, ntmps70
 go_wp2_with fail
 try rw [hW0]
 refine cC.mono ?_
 rintro e W1 ⟨rfl, hb1⟩
 have hr := (hb1.block (w.heap.size + 2) (by omega)).trans HR.out
 have HB1 : Hid (Below w.heap.size w W1) := HB.out.trans (hb1.mono HB.out.size)
 clear hb1 cC HR HB kc x0 x1 x2 x3 hW0
 obtain ⟨r0, r1, r2, r3, r4, r5⟩ := six_box hr
 have rf0 := frozen_box hr 0
 have rf1 := frozen_box hr 1
 have rf2 := frozen_box hr 2
 have rf3 := frozen_box hr 3
 have rf4 := frozen_box hr 4
 have rf5 := frozen_box hr 5
 go_wp2_with fail
 obtain ⟨W9, hW9⟩ : ∃ W9, ((((((W1.setCell ⟨w.heap.size + 2, 0, none⟩ (.int .i64 3)).setCell ⟨w.heap.size + 2, 1, none⟩ (.bool false)).setCell ⟨w.heap.size + 2, 2, none⟩ (.int .i64 i)).setCell ⟨w.heap.size + 2, 3, none⟩ (.string ⟨#[]⟩)).setCell ⟨w.heap.size + 2, 4, none⟩ (.slice none 0 0)).setCell ⟨w.heap.size + 2, 5, none⟩ (.slice none 0 0)) = W9 := ⟨_, rfl⟩
 rw [hW9]
 obtain ⟨q1, q2, q3, q4⟩ := set6 _ _ _ _ _ _ hr hW9
 refine bodyPost_ret (results_cell_row rfl _ W9 (w.heap.size + 2) 46 _ (0, 0) _ rfl q1 underlying46 rfl (by kernel_rfl)) rfl ?_
 exact ⟨q4 _ _ (by omega) HB1.out, _, rfl, in_int _ _ m hi⟩
theorem value5 {Kk m : Nat} {w : World} {Pv : Value} (i : Int) (s : ByteArray) (lv : Value) (hs : s.size <= 140737488351232) :
  Calls prog 70 #[.agg #[clo Pv], xv 5 i s lv] w fun e w' => VR Kk (m + 1) w (.ok (strC s)) e w' := by
 obtain ⟨W0, hW0, hs0, hb0, hk, hx, hr⟩ := three w #[clo Pv] #[.int .i64 5, .int .i64 i, .string s, lv] 97 24
 have kc : W0.cell? ⟨w.heap.size, 0, none⟩ = some (clo Pv) := by simp [World.cell?, hk]
 obtain ⟨x0, x1, x2, x3⟩ := XBase.four_box hx
 have HR : Hid (W0.heap[w.heap.size + 2]? = some (.cells #[.int .i64 0, .bool false, .int .i64 0, .string ⟨#[]⟩, .slice none 0 0, .slice none 0 0] 46 (0, 0))) := hr
 have HB : Hid (Below w.heap.size w W0) := hb0
 clear hk hx hb0
 have cC := text_c s W0
 clear hr
 go_enter func70, ntmps70
 go_wp2_with fail
 try rw [hW0]
 refine cC.mono ?_
 rintro e W1 ⟨rfl, hb1⟩
 have hr := (hb1.block (w.heap.size + 2) (by omega)).trans HR.out
 have HB1 : Hid (Below w.heap.size w W1) := HB.out.trans (hb1.mono HB.out.size)
 clear hb1 cC HR HB kc x0 x1 x2 x3 hW0
 obtain ⟨r0, r1, r2, r3, r4, r5⟩ := six_box hr
 have rf0 := frozen_box hr 0
 have rf1 := frozen_box hr 1
 have rf2 := frozen_box hr 2
 have rf3 := frozen_box hr 3
 have rf4 := frozen_box hr 4
 have rf5 := frozen_box hr 5
 go_wp2_with fail
 obtain ⟨W9, hW9⟩ : ∃ W9, ((((((W1.setCell ⟨w.heap.size + 2, 0, none⟩ (.int .i64 4)).setCell ⟨w.heap.size + 2, 1, none⟩ (.bool false)).setCell ⟨w.heap.size + 2, 2, none⟩ (.int .i64 0)).setCell ⟨w.heap.size + 2, 3, none⟩ (.string s)).setCell ⟨w.heap.size + 2, 4, none⟩ (.slice none 0 0)).setCell ⟨w.heap.size + 2, 5, none⟩ (.slice none 0 0)) = W9 := ⟨_, rfl⟩
 rw [hW9]
 obtain ⟨q1, q2, q3, q4⟩ := set6 _ _ _ _ _ _ hr hW9
 refine bodyPost_ret (results_cell_row rfl _ W9 (w.heap.size + 2) 46 _ (0, 0) _ rfl q1 underlying46 rfl (by kernel_rfl)) rfl ?_
 exact ⟨q4 _ _ (by omega) HB1.out, _, rfl, in_str _ _ m hs⟩
theorem value6 {Kk m : Nat} {w : World} {Pv : Value} {ρ : Int -> Option C} (hKk : Kk <= w.heap.size) (hB : Bd Kk m w Pv ρ) (i : Int) (s : ByteArray) (lv : Value) (hs : s.size <= 140737488351232) :
  Calls prog 70 #[.agg #[clo Pv], xv 6 i s lv] w fun e w' => VR Kk m w (match ρ i with | none => (.error 1100 : Ans) | some c => .ok c) e w' := by
 obtain ⟨W0, hW0, hs0, hb0, hk, hx, hr⟩ := three w #[clo Pv] #[.int .i64 6, .int .i64 i, .string s, lv] 97 24
 have kc : W0.cell? ⟨w.heap.size, 0, none⟩ = some (clo Pv) := by simp [World.cell?, hk]
 obtain ⟨x0, x1, x2, x3⟩ := XBase.four_box hx
 have hB0 := hB.below hb0
 have HR : Hid (W0.heap[w.heap.size + 2]? = some (.cells #[.int .i64 0, .bool false, .int .i64 0, .string ⟨#[]⟩, .slice none 0 0, .slice none 0 0] 46 (0, 0))) := hr
 have HB : Hid (Below w.heap.size w W0) := hb0
 clear hk hx hb0
 have cC0 := variable_c (w := W0) (by omega) hB0 6 i s lv hs
 clear hr
 obtain ⟨U, hU⟩ : ∃ U, (match ρ i with | none => (.error 1100 : Ans) | some c => .ok c) = U := ⟨_, rfl⟩
 rw [hU]
 have cC : Calls prog 87 #[.agg #[clo Pv], xv 6 i s lv] W0 fun e w' => VR Kk m W0 U e w' := by rw [<- hU]; exact cC0
 clear cC0 hU hB hB0
 go_enter func70, ntmps70
 go_wp2_with fail
 try rw [hW0]
 refine cC.mono ?_
 rintro e W1 ⟨hb1, hA⟩
 clear cC
 cases U with
 | error c =>
  obtain rfl := hA
  exact ⟨rfl, HB.out.trans (hb1.mono HB.out.size), rfl⟩
 | ok c =>
  obtain ⟨u, rfl, hin⟩ := hA
  obtain ⟨an, ln, cn, al, ll, cl, rfl⟩ := in_shape hin
  have hr := (hb1.block (w.heap.size + 2) (by omega)).trans HR.out
  have HB1 : Hid (Below w.heap.size w W1) := HB.out.trans (hb1.mono HB.out.size)
  have HI : Hid _ := hin
  clear hb1 HR HB kc x0 x1 x2 x3 hW0 hin
  obtain ⟨r0, r1, r2, r3, r4, r5⟩ := six_box hr
  have rf0 := frozen_box hr 0
  have rf1 := frozen_box hr 1
  have rf2 := frozen_box hr 2
  have rf3 := frozen_box hr 3
  have rf4 := frozen_box hr 4
  have rf5 := frozen_box hr 5
  go_wp2_with fail
  obtain ⟨W9, hW9⟩ : ∃ W9, ((((((W1.setCell ⟨w.heap.size + 2, 0, none⟩ (.int .i64 c.k)).setCell ⟨w.heap.size + 2, 1, none⟩ (.bool c.b)).setCell ⟨w.heap.size + 2, 2, none⟩ (.int .i64 c.i)).setCell ⟨w.heap.size + 2, 3, none⟩ (.string c.s)).setCell ⟨w.heap.size + 2, 4, none⟩ (.slice an ln cn)).setCell ⟨w.heap.size + 2, 5, none⟩ (.slice al ll cl)) = W9 := ⟨_, rfl⟩
  rw [hW9]
  obtain ⟨q1, q2, q3, q4⟩ := set6 _ _ _ _ _ _ hr hW9
  refine bodyPost_ret (results_cell_row rfl _ W9 (w.heap.size + 2) 46 _ (0, 0) _ rfl q1 underlying46 rfl (by kernel_rfl)) rfl ?_
  exact ⟨q4 _ _ (by omega) HB1.out, _, rfl, in_low HI.out (q4 _ _ (by omega) (Below.refl _ _))⟩
theorem value29 {Kk m : Nat} {w : World} {Pv : Value} {ρ : Int -> Option C} (hKk : Kk <= w.heap.size) (i : Int) (s : ByteArray) {a : Option Addr} {cap : Nat} {l : List Ex} (hl : l.length <= cap) (hc : cap <= 9223372036854775807) (h2 : 2 <= l.length) {x y : Ex} (hk0 : Kd Kk (m + 1) w Pv ρ a 0 x) (hk1 : Kd Kk (m + 1) w Pv ρ a 1 y) :
  Calls prog 70 #[.agg #[clo Pv], xv 29 i s (.slice a l.length cap)] w fun e w' => VR Kk (m + 1) w (bnd (bnd (ev ρ x) isT) fun b => if b = false then .ok (booC false) else bnd (bnd (ev ρ y) isT) fun c => .ok (booC c)) e w' := by
 obtain ⟨W0, hW0, hs0, hb0, hk, hx, hr⟩ := three w #[clo Pv] #[.int .i64 29, .int .i64 i, .string s, (.slice a l.length cap)] 97 24
 have kc : W0.cell? ⟨w.heap.size, 0, none⟩ = some (clo Pv) := by simp [World.cell?, hk]
 obtain ⟨x0, x1, x2, x3⟩ := XBase.four_box hx
 have hb00 := hb0
 have HR : Hid (W0.heap[w.heap.size + 2]? = some (.cells #[.int .i64 0, .bool false, .int .i64 0, .string ⟨#[]⟩, .slice none 0 0, .slice none 0 0] 46 (0, 0))) := hr
 have HB : Hid (Below w.heap.size w W0) := hb0
 clear hk hx hb0
 have cC0 := logic_c (w := W0) (by omega) 29 i s hl hc h2 (by decide) (hk0.below hb00) (hk1.below hb00)
 clear hr hb00
 obtain ⟨U, hU⟩ : ∃ U, (bnd (bnd (ev ρ x) isT) fun b => if b = false then .ok (booC false) else bnd (bnd (ev ρ y) isT) fun c => .ok (booC c)) = U := ⟨_, rfl⟩
 rw [hU]
 have cC : Calls prog 88 #[.agg #[clo Pv], xv 29 i s (.slice a l.length cap)] W0 fun e w' => VR Kk (m + 1) W0 U e w' := by rw [<- hU]; exact cC0
 clear cC0 hU hk0 hk1
 go_enter func70, ntmps70
 go_wp2_with fail
 try rw [hW0]
 refine cC.mono ?_
 rintro e W1 ⟨hb1, hA⟩
 clear cC
 cases U with
 | error c =>
  obtain rfl := hA
  exact ⟨rfl, HB.out.trans (hb1.mono HB.out.size), rfl⟩
 | ok c =>
  obtain ⟨u, rfl, hin⟩ := hA
  obtain ⟨an, ln, cn, al, ll, cl, rfl⟩ := in_shape hin
  have hr := (hb1.block (w.heap.size + 2) (by omega)).trans HR.out
  have HB1 : Hid (Below w.heap.size w W1) := HB.out.trans (hb1.mono HB.out.size)
  have HI : Hid _ := hin
  clear hb1 HR HB kc x0 x1 x2 x3 hW0 hin
  obtain ⟨r0, r1, r2, r3, r4, r5⟩ := six_box hr
  have rf0 := frozen_box hr 0
  have rf1 := frozen_box hr 1
  have rf2 := frozen_box hr 2
  have rf3 := frozen_box hr 3
  have rf4 := frozen_box hr 4
  have rf5 := frozen_box hr 5
  go_wp2_with fail
  obtain ⟨W9, hW9⟩ : ∃ W9, ((((((W1.setCell ⟨w.heap.size + 2, 0, none⟩ (.int .i64 c.k)).setCell ⟨w.heap.size + 2, 1, none⟩ (.bool c.b)).setCell ⟨w.heap.size + 2, 2, none⟩ (.int .i64 c.i)).setCell ⟨w.heap.size + 2, 3, none⟩ (.string c.s)).setCell ⟨w.heap.size + 2, 4, none⟩ (.slice an ln cn)).setCell ⟨w.heap.size + 2, 5, none⟩ (.slice al ll cl)) = W9 := ⟨_, rfl⟩
  rw [hW9]
  obtain ⟨q1, q2, q3, q4⟩ := set6 _ _ _ _ _ _ hr hW9
  refine bodyPost_ret (results_cell_row rfl _ W9 (w.heap.size + 2) 46 _ (0, 0) _ rfl q1 underlying46 rfl (by kernel_rfl)) rfl ?_
  exact ⟨q4 _ _ (by omega) HB1.out, _, rfl, in_low HI.out (q4 _ _ (by omega) (Below.refl _ _))⟩
theorem value30 {Kk m : Nat} {w : World} {Pv : Value} {ρ : Int -> Option C} (hKk : Kk <= w.heap.size) (i : Int) (s : ByteArray) {a : Option Addr} {cap : Nat} {l : List Ex} (hl : l.length <= cap) (hc : cap <= 9223372036854775807) (h2 : 2 <= l.length) {x y : Ex} (hk0 : Kd Kk (m + 1) w Pv ρ a 0 x) (hk1 : Kd Kk (m + 1) w Pv ρ a 1 y) :
  Calls prog 70 #[.agg #[clo Pv], xv 30 i s (.slice a l.length cap)] w fun e w' => VR Kk (m + 1) w (bnd (bnd (ev ρ x) isT) fun b => if b = true then .ok (booC true) else bnd (bnd (ev ρ y) isT) fun c => .ok (booC c)) e w' := by
 obtain ⟨W0, hW0, hs0, hb0, hk, hx, hr⟩ := three w #[clo Pv] #[.int .i64 30, .int .i64 i, .string s, (.slice a l.length cap)] 97 24
 have kc : W0.cell? ⟨w.heap.size, 0, none⟩ = some (clo Pv) := by simp [World.cell?, hk]
 obtain ⟨x0, x1, x2, x3⟩ := XBase.four_box hx
 have hb00 := hb0
 have HR : Hid (W0.heap[w.heap.size + 2]? = some (.cells #[.int .i64 0, .bool false, .int .i64 0, .string ⟨#[]⟩, .slice none 0 0, .slice none 0 0] 46 (0, 0))) := hr
 have HB : Hid (Below w.heap.size w W0) := hb0
 clear hk hx hb0
 have cC0 := logic_c (w := W0) (by omega) 30 i s hl hc h2 (by decide) (hk0.below hb00) (hk1.below hb00)
 clear hr hb00
 obtain ⟨U, hU⟩ : ∃ U, (bnd (bnd (ev ρ x) isT) fun b => if b = true then .ok (booC true) else bnd (bnd (ev ρ y) isT) fun c => .ok (booC c)) = U := ⟨_, rfl⟩
 rw [hU]
 have cC : Calls prog 88 #[.agg #[clo Pv], xv 30 i s (.slice a l.length cap)] W0 fun e w' => VR Kk (m + 1) W0 U e w' := by rw [<- hU]; exact cC0
 clear cC0 hU hk0 hk1
 go_enter func70, ntmps70
 go_wp2_with fail
 try rw [hW0]
 refine cC.mono ?_
 rintro e W1 ⟨hb1, hA⟩
 clear cC
 cases U with
 | error c =>
  obtain rfl := hA
  exact ⟨rfl, HB.out.trans (hb1.mono HB.out.size), rfl⟩
 | ok c =>
  obtain ⟨u, rfl, hin⟩ := hA
  obtain ⟨an, ln, cn, al, ll, cl, rfl⟩ := in_shape hin
  have hr := (hb1.block (w.heap.size + 2) (by omega)).trans HR.out
  have HB1 : Hid (Below w.heap.size w W1) := HB.out.trans (hb1.mono HB.out.size)
  have HI : Hid _ := hin
  clear hb1 HR HB kc x0 x1 x2 x3 hW0 hin
  obtain ⟨r0, r1, r2, r3, r4, r5⟩ := six_box hr
  have rf0 := frozen_box hr 0
  have rf1 := frozen_box hr 1
  have rf2 := frozen_box hr 2
  have rf3 := frozen_box hr 3
  have rf4 := frozen_box hr 4
  have rf5 := frozen_box hr 5
  go_wp2_with fail
  obtain ⟨W9, hW9⟩ : ∃ W9, ((((((W1.setCell ⟨w.heap.size + 2, 0, none⟩ (.int .i64 c.k)).setCell ⟨w.heap.size + 2, 1, none⟩ (.bool c.b)).setCell ⟨w.heap.size + 2, 2, none⟩ (.int .i64 c.i)).setCell ⟨w.heap.size + 2, 3, none⟩ (.string c.s)).setCell ⟨w.heap.size + 2, 4, none⟩ (.slice an ln cn)).setCell ⟨w.heap.size + 2, 5, none⟩ (.slice al ll cl)) = W9 := ⟨_, rfl⟩
  rw [hW9]
  obtain ⟨q1, q2, q3, q4⟩ := set6 _ _ _ _ _ _ hr hW9
  refine bodyPost_ret (results_cell_row rfl _ W9 (w.heap.size + 2) 46 _ (0, 0) _ rfl q1 underlying46 rfl (by kernel_rfl)) rfl ?_
  exact ⟨q4 _ _ (by omega) HB1.out, _, rfl, in_low HI.out (q4 _ _ (by omega) (Below.refl _ _))⟩
theorem value31 {Kk m : Nat} {w : World} {Pv : Value} {ρ : Int -> Option C} (hKk : Kk <= w.heap.size) (i : Int) (s : ByteArray) {a : Option Addr} {cap : Nat} {l : List Ex} (hl : l.length <= cap) (hc : cap <= 9223372036854775807) (h2 : 3 <= l.length) {x y z : Ex} (hk0 : Kd Kk (m + 1) w Pv ρ a 0 x) (hk1 : Kd Kk (m + 1) w Pv ρ a 1 y) (hk2 : Kd Kk (m + 1) w Pv ρ a 2 z) :
  Calls prog 70 #[.agg #[clo Pv], xv 31 i s (.slice a l.length cap)] w fun e w' => VR Kk (m + 1) w (bnd (bnd (ev ρ x) isT) fun b => if b = true then ev ρ y else ev ρ z) e w' := by
 obtain ⟨W0, hW0, hs0, hb0, hk, hx, hr⟩ := three w #[clo Pv] #[.int .i64 31, .int .i64 i, .string s, (.slice a l.length cap)] 97 24
 have kc : W0.cell? ⟨w.heap.size, 0, none⟩ = some (clo Pv) := by simp [World.cell?, hk]
 obtain ⟨x0, x1, x2, x3⟩ := XBase.four_box hx
 have hb00 := hb0
 have HR : Hid (W0.heap[w.heap.size + 2]? = some (.cells #[.int .i64 0, .bool false, .int .i64 0, .string ⟨#[]⟩, .slice none 0 0, .slice none 0 0] 46 (0, 0))) := hr
 have HB : Hid (Below w.heap.size w W0) := hb0
 clear hk hx hb0
 have cC0 := JCh.choice_c (w := W0) (by omega) 31 i s hl hc h2 (hk0.below hb00) (hk1.below hb00) (hk2.below hb00)
 clear hr hb00
 obtain ⟨U, hU⟩ : ∃ U, (bnd (bnd (ev ρ x) isT) fun b => if b = true then ev ρ y else ev ρ z) = U := ⟨_, rfl⟩
 rw [hU]
 have cC : Calls prog 89 #[.agg #[clo Pv], xv 31 i s (.slice a l.length cap)] W0 fun e w' => VR Kk (m + 1) W0 U e w' := by rw [<- hU]; exact cC0
 clear cC0 hU hk0 hk1 hk2
 go_enter func70, ntmps70
 go_wp2_with fail
 try rw [hW0]
 refine cC.mono ?_
 rintro e W1 ⟨hb1, hA⟩
 clear cC
 cases U with
 | error c =>
  obtain rfl := hA
  exact ⟨rfl, HB.out.trans (hb1.mono HB.out.size), rfl⟩
 | ok c =>
  obtain ⟨u, rfl, hin⟩ := hA
  obtain ⟨an, ln, cn, al, ll, cl, rfl⟩ := in_shape hin
  have hr := (hb1.block (w.heap.size + 2) (by omega)).trans HR.out
  have HB1 : Hid (Below w.heap.size w W1) := HB.out.trans (hb1.mono HB.out.size)
  have HI : Hid _ := hin
  clear hb1 HR HB kc x0 x1 x2 x3 hW0 hin
  obtain ⟨r0, r1, r2, r3, r4, r5⟩ := six_box hr
  have rf0 := frozen_box hr 0
  have rf1 := frozen_box hr 1
  have rf2 := frozen_box hr 2
  have rf3 := frozen_box hr 3
  have rf4 := frozen_box hr 4
  have rf5 := frozen_box hr 5
  go_wp2_with fail
  obtain ⟨W9, hW9⟩ : ∃ W9, ((((((W1.setCell ⟨w.heap.size + 2, 0, none⟩ (.int .i64 c.k)).setCell ⟨w.heap.size + 2, 1, none⟩ (.bool c.b)).setCell ⟨w.heap.size + 2, 2, none⟩ (.int .i64 c.i)).setCell ⟨w.heap.size + 2, 3, none⟩ (.string c.s)).setCell ⟨w.heap.size + 2, 4, none⟩ (.slice an ln cn)).setCell ⟨w.heap.size + 2, 5, none⟩ (.slice al ll cl)) = W9 := ⟨_, rfl⟩
  rw [hW9]
  obtain ⟨q1, q2, q3, q4⟩ := set6 _ _ _ _ _ _ hr hW9
  refine bodyPost_ret (results_cell_row rfl _ W9 (w.heap.size + 2) 46 _ (0, 0) _ rfl q1 underlying46 rfl (by kernel_rfl)) rfl ?_
  exact ⟨q4 _ _ (by omega) HB1.out, _, rfl, in_low HI.out (q4 _ _ (by omega) (Below.refl _ _))⟩
end Go.Proofs.YthjbknncbhkinaaGreatDoor.JVl
