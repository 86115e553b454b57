import Derived.Defers
import Derived.Recover
import Derived.Test.YtghnhkagkngjcaaGreatDoorPN17
set_option linter.unusedVariables false
set_option maxRecDepth 20000
set_option maxHeartbeats 3200000
namespace Go.Proofs.YtghnhkagkngjcaaGreatDoor.ECo
open Go.RowKit Base UBase EPure ERd ESk ETk EChr ECh ESc EAdv EDn EGx EBt EPa EPt
open XBase (four_box frozen_box Rg)
def chk5 (t a : Ex) : A Ex → A Ex
 | .error e => .error e
 | .ok (b, g5) => .ok (nd 31 [t, a, b], g5)
def chk4 (C : P) (t a : Ex) : Except F Sr → A Ex
 | .error e => .error e
 | .ok g4 => chk5 t a (C g4)
def chk3 (s : ByteArray) (C : P) (t : Ex) : A Ex → A Ex
 | .error e => .error e
 | .ok (a, g3) => chk4 C t a (tak s [58] g3)
def chk2 (s : ByteArray) (C : P) (t : Ex) : Except F Sr → A Ex
 | .error e => .error e
 | .ok g2 => chk3 s C t (C g2)
def chk1 (s : ByteArray) (C : P) : A Ex → A Ex
 | .error e => .error e
 | .ok (t, g1) => if is g1.tk [63] = true then chk2 s C t (adv s g1.a g1.r) else .ok (t, g1)
theorem chc_eq (s : ByteArray) (S C : P) (g : Sr) : chc s S C g = chk1 s C (lev s S 11 g) := by
 unfold chc chk1 chk2 chk3 chk4 chk5
 rfl
theorem choice_c {s : ByteArray} {n : Nat} {S C : P} (hn : n ≤ 100) (hL : LvI s 0 n (lev s S 11)) (hDS : Dn s (lev s S 11)) (hC : ChI s (n + 1) C) (hD : Dn s C) : ChI s n (chc s S C) := by
 intro w R g h ho
 have hRlt := h.er.lt
 have G0 := Gx.start h ho
 obtain ⟨W0, hW0⟩ : ∃ W0, w.alloc (.cells #[.int .i64 0, .int .i64 0, .string ⟨#[]⟩, .slice none 0 0] 24) = W0 := ⟨_, rfl⟩
 rw [hW0] at G0
 rw [chc_eq]
 obtain ⟨X, hX⟩ : ∃ X, lev s S 11 g = X := ⟨_, rfl⟩
 rw [hX]
 have HX : Hid (lev s S 11 g = X) := hX
 obtain ⟨U, hU⟩ : ∃ U, chk1 s C X = U := ⟨_, rfl⟩
 rw [hU]
 have HU : Hid (chk1 s C X = U) := hU
 have cL := hL W0 R g G0.es G0.ok
 rw [hX, show ((0 : Nat) : Int) = 0 from rfl] at cL
 unfold ptr at cL ⊢
 clear h hX hU
 go_enter Tryz.func57, Tryz.ntmps57
 go_wp2_with fail
 refine cL.mono ?_
 intro e W1 hT
 clear cL hW0
 cases X with
 | error f =>
  obtain ⟨K1, rfl⟩ := hT
  have hU : Except.error f = U := HU.out
  subst hU
  exact ⟨rfl, G0.kr.trans K1, rfl⟩
 | ok p =>
  obtain ⟨x, g1⟩ := p
  obtain ⟨K1, ⟨m, a, c, rfl, hin⟩, E1⟩ := hT
  have G1 := G0.step hRlt K1 E1 (hDS _ _ _ G0.ok HX.out).1
  have l0 := G0.lt
  have s1 := K1.below.size
  obtain ⟨W2, hW2⟩ : ∃ W2, W1.alloc (.cells #[.int .i64 x.o, .int .i64 x.i, .string x.s, .slice a x.l.length c] 24) = W2 := ⟨_, rfl⟩
  have b2 : Below W1.heap.size W1 W2 := by rw [← hW2]; exact (Below.refl _ W1).alloc (Nat.le_refl _) _
  have q2 : W2.heap[W1.heap.size]? = some (.cells #[.int .i64 x.o, .int .i64 x.i, .string x.s, .slice a x.l.length c] 24 (0, 0)) := by rw [← hW2]; exact heap_alloc_new W1 _
  have s2 : W2.heap.size = W1.heap.size + 1 := by rw [← hW2]; simp
  have G2 := G1.below hRlt b2
  have hin2 := hin.below b2
  obtain ⟨k3, k4, k5, k6⟩ := Es.cells G2.es
  obtain ⟨B, hB⟩ : ∃ B, W1.heap.size = B := ⟨_, rfl⟩
  rw [hB] at q2 s2 hin2 s1
  have HBE : Hid (W1.heap.size = B) := hB
  have HIN2 : Hid (XBase.In false (XBase.Rg W0.heap.size B) W2 m (.agg #[.int .i64 x.o, .int .i64 x.i, .string x.s, .slice a x.l.length c]) x) := hin2
  have HQ2 : Hid (W2.heap[B]? = some (.cells #[.int .i64 x.o, .int .i64 x.i, .string x.s, .slice a x.l.length c] 24 (0, 0))) := q2
  have HG2 : Hid (Gx w W2 R s g1) := G2
  have HN0 : Hid (w.heap.size < W0.heap.size ∧ W0.heap.size ≤ B ∧ W2.heap.size = B + 1) := ⟨l0, s1, s2⟩
  clear G1 K1 E1 hin hin2 b2 hB G0 l0 s1 s2
  cases hb : is g1.tk [63] with
  | false =>
   have hU : Except.ok (x, g1) = U := by
    rw [← HU.out]
    unfold chk1
    dsimp only
    rw [if_neg (by simp [hb])]
   subst hU
   have cI := is_b hb W2
   obtain ⟨c0, c1, c2, c3⟩ := four_box q2
   clear hb q2 G2
   go_wp2_with fail
   rw [HBE.out]
   clear hW2
   refine cI.mono ?_
   rintro e W3 ⟨rfl, b3⟩
   have G3 := HG2.out.below hRlt b3
   obtain ⟨n0, n1, n2⟩ := HN0.out
   have s3 := b3.size
   have q3 := (b3.block B (by omega)).trans HQ2.out
   have hin3 : XBase.In false (XBase.Rg W0.heap.size W3.heap.size) W3 m (.agg #[.int .i64 x.o, .int .i64 x.i, .string x.s, .slice a x.l.length c]) x := in_rg (HIN2.out.below b3) (Nat.le_refl _) (by omega)
   clear c0 c1 c2 c3 k3 k4 k5 k6
   obtain ⟨c0, c1, c2, c3⟩ := four_box q3
   obtain ⟨d0, d1, d2, d3⟩ := four_box G3.box
   have f0 := XBase.frozen_box G3.box 0
   have f1 := XBase.frozen_box G3.box 1
   have f2 := XBase.frozen_box G3.box 2
   have f3 := XBase.frozen_box G3.box 3
   obtain ⟨W5, hW5⟩ : ∃ W5, ((((W3.setCell ⟨w.heap.size, 0, none⟩ (.int .i64 x.o)).setCell ⟨w.heap.size, 1, none⟩ (.int .i64 x.i)).setCell ⟨w.heap.size, 2, none⟩ (.string x.s)).setCell ⟨w.heap.size, 3, none⟩ (.slice a x.l.length c)) = W5 := ⟨_, rfl⟩
   obtain ⟨p1, p2⟩ := G3.fin hRlt hin3 n0 hW5
   obtain ⟨y0, y1, y2, y3⟩ := four_box p1
   have HP2 : Hid (PR w W5 R s (.returned (.agg #[.int .i64 x.o, .int .i64 x.i, .string x.s, .slice a x.l.length c])) (.ok (x, g1))) := p2
   clear p1 p2 G3 hin3 q3 cI b3
   go_wp2_with fail
   refine bodyPost_ret (v := .agg #[.int .i64 x.o, .int .i64 x.i, .string x.s, .slice a x.l.length c]) (by simp [results, Tryz.results57, go_sem, y0, y1, y2, y3]) rfl ?_
   exact HP2.out
  | true =>
   have hkk := is_k hb
   obtain ⟨X2, hX2⟩ : ∃ X2, adv s g1.a g1.r = X2 := ⟨_, rfl⟩
   have HX2 : Hid (adv s g1.a g1.r = X2) := hX2
   have HU2 : Hid (chk2 s C x X2 = U) := by
    show _ = _
    rw [← HU.out]
    unfold chk1
    dsimp only
    rw [if_pos hb, hX2]
   have cI := is_b hb W2
   clear hb q2 G2 hX2 HU
   go_wp2_with fail
   rw [HBE.out]
   clear hW2
   refine cI.mono ?_
   rintro e W3 ⟨rfl, b3⟩
   have G3 := HG2.out.below hRlt b3
   obtain ⟨n0, n1, n2⟩ := HN0.out
   have s3 := b3.size
   have q3 := (b3.block B (by omega)).trans HQ2.out
   have hin3 := HIN2.out.below b3
   have cA := adv_c G3.es G3.ok.r
   rw [HX2.out] at cA
   unfold ptr at cA
   clear cI k3 k4 k5 k6 b3 HG2 HIN2 HQ2
   go_wp2_with fail
   refine cA.mono ?_
   intro e W4 hA
   clear cA
   cases X2 with
   | error f =>
    obtain ⟨K4, rfl⟩ := hA
    have hU : Except.error f = U := HU2.out
    subst hU
    exact ⟨rfl, G3.kr.trans K4, rfl⟩
   | ok g2 =>
    obtain ⟨K4, ⟨z, rfl⟩, E4⟩ := hA
    have G4 := G3.step hRlt K4 E4 (adv_mu G3.ok hkk HX2.out).1
    have s4 := K4.below.size
    have q4 := (K4.other B (by omega) (by omega)).trans q3
    have hin4 := in_kr hin3 K4 (by omega)
    have cC := hC W4 R g2 G4.es G4.ok
    obtain ⟨X3, hX3⟩ : ∃ X3, C g2 = X3 := ⟨_, rfl⟩
    have HX3 : Hid (C g2 = X3) := hX3
    have HU3 : Hid (chk3 s C x X3 = U) := by
     show _ = _
     rw [← hX3]
     exact HU2.out
    rw [hX3] at cC
    unfold ptr at cC
    clear K4 E4 G3 q3 hin3 hX3 HU2
    go_wp2_with fail
    refine cC.mono ?_
    intro e W5 hC5
    clear cC
    cases X3 with
    | error f =>
     obtain ⟨K5, rfl⟩ := hC5
     have hU : Except.error f = U := HU3.out
     subst hU
     exact ⟨rfl, G4.kr.trans K5, rfl⟩
    | ok p =>
     obtain ⟨y, g3⟩ := p
     obtain ⟨K5, ⟨m', a', c', rfl, hiny⟩, E5⟩ := hC5
     have G5 := G4.step hRlt K5 E5 (hD _ _ _ G4.ok HX3.out).1
     have s5 := K5.below.size
     have q5 := (K5.other B (by omega) (by omega)).trans q4
     have hin5 := in_kr hin4 K5 (by omega)
     obtain ⟨W6, hW6⟩ : ∃ W6, W5.alloc (.cells #[.int .i64 y.o, .int .i64 y.i, .string y.s, .slice a' y.l.length c'] 24) = W6 := ⟨_, rfl⟩
     have b6 : Below W5.heap.size W5 W6 := by rw [← hW6]; exact (Below.refl _ W5).alloc (Nat.le_refl _) _
     have p6 : W6.heap[W5.heap.size]? = some (.cells #[.int .i64 y.o, .int .i64 y.i, .string y.s, .slice a' y.l.length c'] 24 (0, 0)) := by rw [← hW6]; exact heap_alloc_new W5 _
     have s6 : W6.heap.size = W5.heap.size + 1 := by rw [← hW6]; simp
     have G6 := G5.below hRlt b6
     have q6 := (b6.block B (by omega)).trans q5
     have hin6 := hin5.below b6
     have hiny6 := hiny.below b6
     have cT := take_c G6.es G6.ok.r [58]
     obtain ⟨X4, hX4⟩ : ∃ X4, tak s [58] g3 = X4 := ⟨_, rfl⟩
     have HX4 : Hid (tak s [58] g3 = X4) := hX4
     have HU4 : Hid (chk4 C x y X4 = U) := by
      show _ = _
      rw [← hX4]
      exact HU3.out
     rw [hX4] at cT
     unfold ptr at cT
     obtain ⟨D, hDD⟩ : ∃ D, W5.heap.size = D := ⟨_, rfl⟩
     have HDE : Hid (W5.heap.size = D) := hDD
     rw [hDD] at p6 s6 hiny6 s5
     clear K5 E5 G5 G4 q4 q5 hin4 hin5 hiny b6 hX4 HU3 hDD
     go_wp2_with fail
     rw [HDE.out]
     refine cT.mono ?_
     intro e W7 hT7
     clear cT hW6
     cases X4 with
     | error f =>
      obtain ⟨K7, rfl⟩ := hT7
      have hU : Except.error f = U := HU4.out
      subst hU
      exact ⟨rfl, G6.kr.trans K7, rfl⟩
     | ok g4 =>
      obtain ⟨K7, ⟨z7, rfl⟩, E7⟩ := hT7
      have G7 := G6.step hRlt K7 E7 (tak_mu G6.ok HX4.out).1
      have s7 := K7.below.size
      have q7 := (K7.other B (by omega) (by omega)).trans q6
      have p7 := (K7.other D (by omega) (by omega)).trans p6
      have hin7 := in_kr hin6 K7 (by omega)
      have hiny7 := in_kr hiny6 K7 (by omega)
      have G7d : Gx w W7.drew R s g4 := G7.below hRlt (Below.refl _ W7).drew
      have cC := hC W7.drew R g4 G7d.es G7d.ok
      obtain ⟨X5, hX5⟩ : ∃ X5, C g4 = X5 := ⟨_, rfl⟩
      have HX5 : Hid (C g4 = X5) := hX5
      have HU5 : Hid (chk5 x y X5 = U) := by
       show _ = _
       rw [← hX5]
       exact HU4.out
      rw [hX5, show ((n + 1 : Nat) : Int) = (n : Int) + 1 from by omega] at cC
      unfold ptr at cC
      have hwk : IntKind.i64.wrap ((n : Int) + 1) = (n : Int) + 1 := by rw [IntKind.wrap_i64]; omega
      obtain ⟨j0, j1, j2, j3⟩ := four_box q7
      obtain ⟨j4, j5, j6, j7⟩ := four_box p7
      have HG7 : Hid (Gx w W7.drew R s g4) := G7d
      have HQ7 : Hid (W7.heap[B]? = some (.cells #[.int .i64 x.o, .int .i64 x.i, .string x.s, .slice a x.l.length c] 24 (0, 0))) := q7
      have HP7 : Hid (W7.heap[D]? = some (.cells #[.int .i64 y.o, .int .i64 y.i, .string y.s, .slice a' y.l.length c'] 24 (0, 0))) := p7
      have HI7 : Hid (XBase.In false (XBase.Rg W0.heap.size B) W7 m (.agg #[.int .i64 x.o, .int .i64 x.i, .string x.s, .slice a x.l.length c]) x) := hin7
      have HJ7 : Hid (XBase.In false (XBase.Rg W4.heap.size D) W7 m' (.agg #[.int .i64 y.o, .int .i64 y.i, .string y.s, .slice a' y.l.length c']) y) := hiny7
      have hx7 : R < w.heap.size := hRlt
      have hz7 : w.heap.size < W0.heap.size ∧ W0.heap.size ≤ B ∧ B < D ∧ B < W4.heap.size ∧ W4.heap.size ≤ D ∧ D < W7.heap.size := ⟨by omega, by omega, by omega, by omega, by omega, by omega⟩
      clear K7 E7 G7 G7d G6 q6 p6 q7 p7 hin6 hiny6 hin7 hiny7 hX5 HU4
      obtain ⟨z0, z1, z2, z3, z4, z5⟩ := hz7
      have S7 : (W7.drew.cell? ⟨B, 0, none⟩ = some (.int .i64 x.o) ∧ W7.drew.cell? ⟨B, 1, none⟩ = some (.int .i64 x.i) ∧ W7.drew.cell? ⟨B, 2, none⟩ = some (.string x.s) ∧ W7.drew.cell? ⟨B, 3, none⟩ = some (.slice a x.l.length c)) ∧ W7.drew.cell? ⟨D, 0, none⟩ = some (.int .i64 y.o) ∧ W7.drew.cell? ⟨D, 1, none⟩ = some (.int .i64 y.i) ∧ W7.drew.cell? ⟨D, 2, none⟩ = some (.string y.s) ∧ W7.drew.cell? ⟨D, 3, none⟩ = some (.slice a' y.l.length c') := ⟨four_box (show W7.drew.heap[B]? = _ from HQ7.out), four_box (show W7.drew.heap[D]? = _ from HP7.out)⟩
      cases X5 with
      | error f =>
       have hU : Except.error f = U := HU5.out
       subst hU
       go_wp2_with fail
       refine wp_region_held_drew (S := (fun w' => (w'.cell? ⟨B, 0, none⟩ = some (.int .i64 x.o) ∧ w'.cell? ⟨B, 1, none⟩ = some (.int .i64 x.i) ∧ w'.cell? ⟨B, 2, none⟩ = some (.string x.s) ∧ w'.cell? ⟨B, 3, none⟩ = some (.slice a x.l.length c)) ∧ w'.cell? ⟨D, 0, none⟩ = some (.int .i64 y.o) ∧ w'.cell? ⟨D, 1, none⟩ = some (.int .i64 y.i) ∧ w'.cell? ⟨D, 2, none⟩ = some (.string y.s) ∧ w'.cell? ⟨D, 3, none⟩ = some (.slice a' y.l.length c'))) (by kernel_rfl) ?_ (fun hHeld => ?_)
       ·exact S7
       clear S7
       refine wpAnyH_take (i := 0) (v := ?_) rfl (by kernel_rfl) (by kernel_rfl) (by kernel_rfl) (fun _ _ _ h => h) (Or.inl ⟨by rfl, ?_⟩) (by assumption) ?_
       rotate_left 1
       ·intro w hSw; (try dsimp only at hSw); go_simp; first | done | with_reducible rfl
       try simp only [Act.put, zA, zB, zD, zE, zF]
       refine wpAnyH_take (i := 1) (v := ?_) rfl (by kernel_rfl) (by kernel_rfl) (by kernel_rfl) (fun _ _ _ h => h) (Or.inl ⟨by rfl, ?_⟩) (by assumption) ?_
       rotate_left 1
       ·intro w hSw; (try dsimp only at hSw); go_simp; first | done | with_reducible rfl
       try simp only [Act.put, zA, zB, zC, zD, zE, zF]
       refine wpAnyH_take (i := 2) (v := ?_) rfl (by kernel_rfl) (by kernel_rfl) (by kernel_rfl) (fun _ _ _ h => h) (Or.inl ⟨by rfl, ?_⟩) (by assumption) ?_
       rotate_left 1
       ·intro w hSw; (try dsimp only at hSw); go_simp; first | done | with_reducible rfl
       try simp only [Act.put, zA, zB, zC, zD, zE, zF]
       refine wpAnyH_take (i := 3) (v := ?_) rfl (by kernel_rfl) (by kernel_rfl) (by kernel_rfl) (fun _ _ _ h => h) (Or.inl ⟨by rfl, ?_⟩) (by assumption) ?_
       rotate_left 1
       ·intro w hSw; (try dsimp only at hSw); go_simp; first | done | with_reducible rfl
       try simp only [Act.put, zA, zB, zC, zD, zE, zF]
       refine wpAnyH_take (i := 4) (v := ?_) rfl (by kernel_rfl) (by kernel_rfl) (by kernel_rfl) (fun _ _ _ h => h) (Or.inl ⟨by rfl, ?_⟩) (by assumption) ?_
       rotate_left 1
       ·intro w hSw; (try dsimp only at hSw); go_simp; first | done | with_reducible rfl
       try simp only [Act.put, zA, zB, zC, zD, zE, zF]
       refine wpAnyH_ready (rs := [5]) (by kernel_rfl) (by simp) ?_
       refine AllReadyH.cons rfl (fun K hK => ?_) AllReadyH.nil
       go_simp
       try rw [hwk]
       refine cC.mono ?_
       rintro e W8 ⟨K8, rfl⟩
       exact ⟨rfl, HG7.out.kr.trans K8, rfl⟩
      | ok p =>
       obtain ⟨v, g5⟩ := p
       have hU : Except.ok (nd 31 [x, y, v], g5) = U := HU5.out
       subst hU
       go_wp2_with fail
       refine wp_region_held_drew (S := (fun w' => (w'.cell? ⟨B, 0, none⟩ = some (.int .i64 x.o) ∧ w'.cell? ⟨B, 1, none⟩ = some (.int .i64 x.i) ∧ w'.cell? ⟨B, 2, none⟩ = some (.string x.s) ∧ w'.cell? ⟨B, 3, none⟩ = some (.slice a x.l.length c)) ∧ w'.cell? ⟨D, 0, none⟩ = some (.int .i64 y.o) ∧ w'.cell? ⟨D, 1, none⟩ = some (.int .i64 y.i) ∧ w'.cell? ⟨D, 2, none⟩ = some (.string y.s) ∧ w'.cell? ⟨D, 3, none⟩ = some (.slice a' y.l.length c'))) (by kernel_rfl) ?_ (fun hHeld => ?_)
       ·exact S7
       clear S7
       refine wpAnyH_take (i := 0) (v := ?_) rfl (by kernel_rfl) (by kernel_rfl) (by kernel_rfl) (fun _ _ _ h => h) (Or.inl ⟨by rfl, ?_⟩) (by assumption) ?_
       rotate_left 1
       ·intro w hSw; (try dsimp only at hSw); go_simp; first | done | with_reducible rfl
       try simp only [Act.put, zA, zB, zD, zE, zF]
       refine wpAnyH_take (i := 1) (v := ?_) rfl (by kernel_rfl) (by kernel_rfl) (by kernel_rfl) (fun _ _ _ h => h) (Or.inl ⟨by rfl, ?_⟩) (by assumption) ?_
       rotate_left 1
       ·intro w hSw; (try dsimp only at hSw); go_simp; first | done | with_reducible rfl
       try simp only [Act.put, zA, zB, zC, zD, zE, zF]
       refine wpAnyH_take (i := 2) (v := ?_) rfl (by kernel_rfl) (by kernel_rfl) (by kernel_rfl) (fun _ _ _ h => h) (Or.inl ⟨by rfl, ?_⟩) (by assumption) ?_
       rotate_left 1
       ·intro w hSw; (try dsimp only at hSw); go_simp; first | done | with_reducible rfl
       try simp only [Act.put, zA, zB, zC, zD, zE, zF]
       refine wpAnyH_take (i := 3) (v := ?_) rfl (by kernel_rfl) (by kernel_rfl) (by kernel_rfl) (fun _ _ _ h => h) (Or.inl ⟨by rfl, ?_⟩) (by assumption) ?_
       rotate_left 1
       ·intro w hSw; (try dsimp only at hSw); go_simp; first | done | with_reducible rfl
       try simp only [Act.put, zA, zB, zC, zD, zE, zF]
       refine wpAnyH_take (i := 4) (v := ?_) rfl (by kernel_rfl) (by kernel_rfl) (by kernel_rfl) (fun _ _ _ h => h) (Or.inl ⟨by rfl, ?_⟩) (by assumption) ?_
       rotate_left 1
       ·intro w hSw; (try dsimp only at hSw); go_simp; first | done | with_reducible rfl
       try simp only [Act.put, zA, zB, zC, zD, zE, zF]
       refine wpAnyH_ready (rs := [5]) (by kernel_rfl) (by simp) ?_
       refine AllReadyH.cons rfl (fun K hK => ?_) AllReadyH.nil
       go_simp
       try rw [hwk]
       refine cC.mono ?_
       rintro e W8 ⟨K8, ⟨m8, a8, c8, rfl, hin8⟩, E8⟩
       have G8 := HG7.out.step hRlt K8 E8 (hD _ _ _ HG7.out.ok HX5.out).1
       have hd7 : W7.drew.heap.size = W7.heap.size := rfl
       have s8 := K8.below.size
       have q8 := (K8.other B (by omega) (by omega)).trans HQ7.out
       have p8 := (K8.other D (by omega) (by omega)).trans HP7.out
       have hxd : XBase.In false (XBase.Rg W0.heap.size B) W7.drew m (.agg #[.int .i64 x.o, .int .i64 x.i, .string x.s, .slice a x.l.length c]) x := HI7.out.below (Below.refl _ W7).drew
       have hyd : XBase.In false (XBase.Rg W4.heap.size D) W7.drew m' (.agg #[.int .i64 y.o, .int .i64 y.i, .string y.s, .slice a' y.l.length c']) y := HJ7.out.below (Below.refl _ W7).drew
       have hx8 := in_kr hxd K8 (by omega)
       have hy8 := in_kr hyd K8 (by omega)
       clear hxd hyd
       refine hK.out _ _ ?_ (fun hHeld => ?_)
       ·exact ⟨four_box q8, four_box p8⟩
       clear hK K
       try simp only [Act.put, zA, zB, zC, zD, zE, zF]
       refine wpAnyH_ready (rs := [6]) (by kernel_rfl) (by simp) ?_
       refine AllReadyH.cons rfl (fun K hK => ?_) AllReadyH.nil
       obtain ⟨W9, hW9⟩ : ∃ W9, W8.alloc (.cells #[.int .i64 x.o, .int .i64 x.i, .string x.s, .slice a x.l.length c, .int .i64 y.o, .int .i64 y.i, .string y.s, .slice a' y.l.length c', .int .i64 v.o, .int .i64 v.i, .string v.s, .slice a8 v.l.length c8] 24) = W9 := ⟨_, rfl⟩
       have b9 : Below W8.heap.size W8 W9 := by rw [← hW9]; exact (Below.refl _ W8).alloc (Nat.le_refl _) _
       have r9 : W9.heap[W8.heap.size]? = some (.cells #[.int .i64 x.o, .int .i64 x.i, .string x.s, .slice a x.l.length c, .int .i64 y.o, .int .i64 y.i, .string y.s, .slice a' y.l.length c', .int .i64 v.o, .int .i64 v.i, .string v.s, .slice a8 v.l.length c8] 24 (0, 0)) := by rw [← hW9]; exact heap_alloc_new W8 _
       have s9 : W9.heap.size = W8.heap.size + 1 := by rw [← hW9]; simp
       have q9 := (b9.block B (by omega)).trans q8
       have p9 := (b9.block D (by omega)).trans p8
       have cN := node_c 31 (some ⟨W8.heap.size, 0, none⟩) 3 3 W9
       go_simp
       refine hK.out _ _ ?_ (fun hHeld => ?_)
       ·exact ⟨four_box q9, four_box p9⟩
       clear hK K
       try simp only [Act.put, zA, zB, zC, zD, zE, zF]
       refine wpAnyH_ready (rs := [7]) (by kernel_rfl) (by simp) ?_
       refine AllReadyH.cons rfl (fun K hK => ?_) AllReadyH.nil
       go_simp
       refine cN.mono ?_
       rintro e W10 ⟨rfl, b10⟩
       have b810 := nx b9 b10
       have s10 := b10.size
       have G10 := G8.below hRlt b810
       have q10 := (b10.block B (by omega)).trans q9
       have p10 := (b10.block D (by omega)).trans p9
       obtain ⟨e0, e1, e2, e3⟩ := four_box G10.box
       have f0 := XBase.frozen_box G10.box 0
       have f1 := XBase.frozen_box G10.box 1
       have f2 := XBase.frozen_box G10.box 2
       have f3 := XBase.frozen_box G10.box 3
       refine hK.out _ _ ?_ (fun hHeld => ?_)
       ·exact ⟨four_box q10, four_box p10⟩
       clear hK K
       try simp only [Act.put, zA, zB, zC, zD, zE, zF]
       refine wpAnyH_ready (rs := [8]) (by kernel_rfl) (by simp) ?_
       refine AllReadyH.cons rfl (fun K hK => ?_) AllReadyH.nil
       obtain ⟨W11, hW11⟩ : ∃ W11, ((((W10.setCell ⟨w.heap.size, 0, none⟩ (.int .i64 31)).setCell ⟨w.heap.size, 1, none⟩ (.int .i64 0)).setCell ⟨w.heap.size, 2, none⟩ (.string ⟨#[]⟩)).setCell ⟨w.heap.size, 3, none⟩ (.slice (some ⟨W8.heap.size, 0, none⟩) 3 3)) = W11 := ⟨_, rfl⟩
       have hne11 : ∀ z, z ≠ w.heap.size → W11.heap[z]? = W10.heap[z]? := fun z hne => by rw [← hW11, Below.heap_setCell _ _ _ _ hne, Below.heap_setCell _ _ _ _ hne, Below.heap_setCell _ _ _ _ hne, Below.heap_setCell _ _ _ _ hne]
       have M : Nat := m + m' + m8
       have hx10 : XBase.In false (XBase.Rg W0.heap.size W10.heap.size) W10 (m + m' + m8) (.agg #[.int .i64 x.o, .int .i64 x.i, .string x.s, .slice a x.l.length c]) x := EKd.in_deep (in_rg (hx8.below b810) (Nat.le_refl _) (by omega)) (by omega)
       have hy10 : XBase.In false (XBase.Rg W0.heap.size W10.heap.size) W10 (m + m' + m8) (.agg #[.int .i64 y.o, .int .i64 y.i, .string y.s, .slice a' y.l.length c']) y := EKd.in_deep (in_rg (hy8.below b810) (by omega) (by omega)) (by omega)
       have hv10 : XBase.In false (XBase.Rg W0.heap.size W10.heap.size) W10 (m + m' + m8) (.agg #[.int .i64 v.o, .int .i64 v.i, .string v.s, .slice a8 v.l.length c8]) v := EKd.in_deep (in_rg (hin8.below b810) (by omega) (by omega)) (by omega)
       have hi10 := EKd.in_three ((b10.block _ (by omega)).trans r9) (show XBase.Rg W0.heap.size W10.heap.size W8.heap.size from ⟨by omega, by omega⟩) hx10 hy10 hv10 31 0 ⟨#[]⟩ (by omega) (by omega) (by decide)
       obtain ⟨p1, p2⟩ := EKd.made (l := [x, y, v]) G10 hRlt hi10 z0 hW11
       obtain ⟨y0, y1, y2, y3⟩ := four_box p1
       have HP2 : Hid (PR w W11 R s (.returned (.agg #[.int .i64 31, .int .i64 0, .string ⟨#[]⟩, .slice (some ⟨W8.heap.size, 0, none⟩) 3 3])) (.ok (.mk 31 0 ⟨#[]⟩ [x, y, v], g5))) := p2
       go_simp
       try rw [hW11]
       refine hK.out _ _ ?_ (fun hHeld => ?_)
       ·exact ⟨four_box ((hne11 B (by omega)).trans q10), four_box ((hne11 D (by omega)).trans p10)⟩
       clear hK K
       try simp only [Act.put, zA, zB, zC, zD, zE, zF]
       refine wpAnyH_done (by kernel_rfl) ?_ _
       clear hHeld p1 p2 hx10 hy10 hv10 hi10 G10 G8 b9 b10 b810 q8 q9 q10 p8 p9 p10 cN cC K8 E8 hin8 hx8 hy8 hW11 hW9 hne11 r9
       go_wp2_with fail
       refine bodyPost_ret (v := .agg #[.int .i64 31, .int .i64 0, .string ⟨#[]⟩, .slice (some ⟨W8.heap.size, 0, none⟩) 3 3]) (by simp [results, Tryz.results57, go_sem, y0, y1, y2, y3]) rfl ?_
       exact HP2.out
end Go.Proofs.YtghnhkagkngjcaaGreatDoor.ECo
namespace Go.Proofs.YtghnhkagkngjcaaGreatDoor.EAll
open Go.RowKit Base UBase EPure ERd ESk ETk EChr ECh ESc EAdv EDn EGx EBt EPa
open XBase (four_box frozen_box Rg)
theorem between_no {w : World} {R : Nat} {s : ByteArray} {g : Sr} {n : Nat} (h : Es w R s g.a g.r g.tk) (ho : SrOk s g) (o c : List UInt8) (hb : is g.tk o = false) :
  Calls Tryz.prog 159 #[ptr R, .string ⟨o.toArray⟩, .string ⟨c.toArray⟩, .int .i64 n] w fun e w' => PR w w' R s e (.error (ends g.tk)) := by
 have hRlt := h.er.lt
 have G0 := Gx.start h ho
 obtain ⟨W0, hW0⟩ : ∃ W0, w.alloc (.cells #[.int .i64 0, .int .i64 0, .string ⟨#[]⟩, .slice none 0 0] 24) = W0 := ⟨_, rfl⟩
 rw [hW0] at G0
 have cT := take_c G0.es ho.r o
 have hX : tak s o g = .error (ends g.tk) := by unfold tak; rw [if_neg (by simp [hb])]
 rw [hX] at cT
 unfold ptr at cT ⊢
 clear h hX
 go_enter Tryz.func159, Tryz.ntmps159
 go_wp2_with fail
 refine cT.mono ?_
 rintro e W1 ⟨K1, rfl⟩
 exact ⟨rfl, G0.kr.trans K1, rfl⟩
theorem word_no {w : World} {R : Nat} {s : ByteArray} {g : Sr} {n : Nat} (h : Es w R s g.a g.r g.tk) (ho : SrOk s g) (hk : g.tk.k = 0) :
  Calls Tryz.prog 157 #[ptr R, .int .i64 n] w fun e w' => PR w w' R s e (.error (ends g.tk)) := by
 have hRlt := h.er.lt
 have G0 := Gx.start h ho
 obtain ⟨W0, hW0⟩ : ∃ W0, w.alloc (.cells #[.int .i64 0, .int .i64 0, .string ⟨#[]⟩, .slice none 0 0] 24) = W0 := ⟨_, rfl⟩
 rw [hW0] at G0
 obtain ⟨k3, k4, k5, k6⟩ := Es.cells G0.es
 obtain ⟨W1, hW1⟩ : ∃ W1, W0.alloc (.cells #[.int .i64 g.tk.k, .string g.tk.t, .int .i64 g.tk.n, .int .i64 g.tk.a] 83) = W1 := ⟨_, rfl⟩
 have b1 : Below W0.heap.size W0 W1 := by rw [← hW1]; exact (Below.refl _ W0).alloc (Nat.le_refl _) _
 have q1 : W1.heap[W0.heap.size]? = some (.cells #[.int .i64 g.tk.k, .string g.tk.t, .int .i64 g.tk.n, .int .i64 g.tk.a] 83 (0, 0)) := by rw [← hW1]; exact heap_alloc_new W0 _
 have G1 := G0.below hRlt b1
 obtain ⟨m0, m1, m2, m3⟩ := four_box q1
 have e1 : (((g.tk.k : Nat) : Int) == 1) = false := by simp; omega
 have e2 : (((g.tk.k : Nat) : Int) == 2) = false := by simp; omega
 have e3 : (((g.tk.k : Nat) : Int) == 3) = false := by simp; omega
 have cB := between_no (n := n) G1.es G1.ok [40] [41] (ESd.is_end hk _)
 unfold ptr at cB ⊢
 clear h b1 G0 hk
 go_enter Tryz.func157, Tryz.ntmps157
 go_wp2_with fail
 refine cB.mono ?_
 rintro e W3 ⟨K3, rfl⟩
 exact ⟨rfl, G1.kr.trans K3, rfl⟩
theorem part_no {w : World} {R : Nat} {s : ByteArray} {g : Sr} {n : Nat} (h : Es w R s g.a g.r g.tk) (ho : SrOk s g) (hk : g.tk.k = 0) :
  Calls Tryz.prog 132 #[ptr R, .int .i64 n] w fun e w' => PR w w' R s e (.error (ends g.tk)) := by
 have hRlt := h.er.lt
 have G0 := Gx.start h ho
 obtain ⟨W0, hW0⟩ : ∃ W0, w.alloc (.cells #[.int .i64 0, .int .i64 0, .string ⟨#[]⟩, .slice none 0 0] 24) = W0 := ⟨_, rfl⟩
 rw [hW0] at G0
 have cW := word_no (n := n) G0.es G0.ok hk
 unfold ptr at cW ⊢
 clear h
 go_enter Tryz.func132, Tryz.ntmps132
 go_wp2_with fail
 refine cW.mono ?_
 rintro e W1 ⟨K1, rfl⟩
 exact ⟨rfl, G0.kr.trans K1, rfl⟩
theorem signed_no {w : World} {R : Nat} {s : ByteArray} {g : Sr} (h : Es w R s g.a g.r g.tk) (ho : SrOk s g) (hk : g.tk.k = 0) :
  Calls Tryz.prog 103 #[ptr R, .int .i64 33] w fun e w' => PR w w' R s e (.error (ends g.tk)) := by
 have hRlt := h.er.lt
 have G0 := Gx.start h ho
 obtain ⟨W0, hW0⟩ : ∃ W0, w.alloc (.cells #[.int .i64 0, .int .i64 0, .string ⟨#[]⟩, .slice none 0 0] 24) = W0 := ⟨_, rfl⟩
 rw [hW0] at G0
 have hb1 := ESd.is_end hk [45]
 have hb2 := ESd.is_end hk [33]
 have cG := begin_ok G0.es (n := 33) (by omega) (.inr hk)
 rw [show ((33 : Nat) : Int) = 33 from rfl] at cG
 have HK : Hid (g.tk.k = 0) := hk
 unfold ptr at cG ⊢
 clear h hk
 go_enter Tryz.func103, Tryz.ntmps103
 go_wp2_with fail
 refine cG.mono ?_
 rintro e W1 ⟨⟨z0, rfl⟩, b1⟩
 have G1 := G0.below hRlt b1
 obtain ⟨k3, k4, k5, k6⟩ := Es.cells G1.es
 have cI := is_b hb1 W1
 clear cG G0 b1 hW0
 go_wp2_with fail
 refine cI.mono ?_
 rintro e W2 ⟨rfl, b2⟩
 have G2 := G1.below hRlt b2
 clear cI G1 b2 k3 k4 k5 k6
 obtain ⟨k3, k4, k5, k6⟩ := Es.cells G2.es
 have cJ := is_b hb2 W2
 go_wp2_with fail
 refine cJ.mono ?_
 rintro e W3 ⟨rfl, b3⟩
 have G3 := G2.below hRlt b3
 clear cJ G2 b3 k3 k4 k5 k6
 have cP := part_no (n := 33) G3.es G3.ok HK.out
 rw [show ((33 : Nat) : Int) = 33 from rfl] at cP
 unfold ptr at cP
 go_wp2_with fail
 refine cP.mono ?_
 rintro e W4 ⟨K4, rfl⟩
 exact ⟨rfl, G3.kr.trans K4, rfl⟩
theorem ded_c (s : ByteArray) : SgI s 33 ded := by
 intro w R g h ho
 unfold ded
 by_cases hk : g.tk.k = 0
 ·rw [if_pos hk]; exact signed_no h ho hk
 ·rw [if_neg hk]; exact ESd.signed_deep h ho hk
theorem all (s : ByteArray) (hlast : ChI s 33 (lv2 s 0).2) : ∀ m n, n + m = 33 → SgI s n (lv2 s m).1 ∧ ChI s n (lv2 s m).2
 | 0, n, h => by
  obtain rfl : n = 33 := by omega
  exact ⟨ded_c s, hlast⟩
 | m + 1, n, h => by
  obtain ⟨h1, h2⟩ := all s hlast m (n + 1) (by omega)
  have d := lv2_dn s m
  have hs : SgI s n (lv2 s (m + 1)).1 := ESd.signed_c (by omega) h1 d.1 h2 d.2
  have hd : Dn s (lv2 s (m + 1)).1 := (lv2_dn s (m + 1)).1
  exact ⟨hs, ECo.choice_c (by omega) (ELw.level_c (by omega) hs hd 11 (by omega)) (lev_dn hd 11) h2 d.2⟩
theorem lev_ded (s : ByteArray) (g : Sr) : ∀ j, lev s ded j g = ded g
 | 0 => rfl
 | j + 1 => by
  rw [lev]
  dsimp only
  rw [lev_ded s g j]
  unfold ded
  by_cases hk : g.tk.k = 0
  ·rw [if_pos hk]
  ·rw [if_neg hk]
theorem last_c (s : ByteArray) : ChI s 33 (lv2 s 0).2 := by
 intro w R g h ho
 have hRlt := h.er.lt
 have G0 := Gx.start h ho
 obtain ⟨W0, hW0⟩ : ∃ W0, w.alloc (.cells #[.int .i64 0, .int .i64 0, .string ⟨#[]⟩, .slice none 0 0] 24) = W0 := ⟨_, rfl⟩
 rw [hW0] at G0
 have cL := ELw.level_c (n := 33) (by omega) (ded_c s) (ded_dn s) 11 (by omega) W0 R g G0.es G0.ok
 have e1 : lev s ded 11 g = ded g := lev_ded s g 11
 have e2 : (lv2 s 0).2 g = ded g := by
  show chc s ded ded g = ded g
  unfold chc
  rw [e1]
  unfold ded
  by_cases hk : g.tk.k = 0
  ·rw [if_pos hk]
  ·rw [if_neg hk]
 rw [e1, show ((11 - 11 : Nat) : Int) = 0 from rfl, show ((33 : Nat) : Int) = 33 from rfl] at cL
 rw [e2, show ((33 : Nat) : Int) = 33 from rfl]
 obtain ⟨f, hf⟩ : ∃ f, ded g = .error f := by
  unfold ded
  by_cases hk : g.tk.k = 0
  ·rw [if_pos hk]; exact ⟨_, rfl⟩
  ·rw [if_neg hk]; exact ⟨_, rfl⟩
 rw [hf] at cL ⊢
 unfold ptr at cL ⊢
 clear h e1 e2 hf
 go_enter Tryz.func57, Tryz.ntmps57
 go_wp2_with fail
 refine cL.mono ?_
 rintro e W1 ⟨K1, rfl⟩
 exact ⟨rfl, G0.kr.trans K1, rfl⟩
theorem choice_top (s : ByteArray) : ChI s 1 (lv2 s 32).2 := (all s (last_c s) 32 1 rfl).2
end Go.Proofs.YtghnhkagkngjcaaGreatDoor.EAll
namespace Go.Proofs.YtghnhkagkngjcaaGreatDoor.EDo
open Go.RowKit Base UBase EPure ERd ESk ETk EChr ECh ESc EAdv EDn EGx EAll
open XBase (four_box two_box frozen_box Rg)
theorem block_set {w : World} {B j : Nat} {cs : Array Value} {t : TypeId} {fz : Nat × Nat} (h : w.heap[B]? = some (.cells cs t fz)) (u : Value) : (w.setCell ⟨B, j, none⟩ u).heap[B]? = some (.cells (cs.setIfInBounds j u) t fz) := by
 simp [World.setCell, Array.getElem?_modify, h]
theorem set4 {W W' : World} {B : Nat} {t : TypeId} {y0 y1 y2 y3 : Value} (x0 x1 x2 x3 : Value) (h : W.heap[B]? = some (.cells #[y0, y1, y2, y3] t (0, 0))) (hW : ((((W.setCell ⟨B, 0, none⟩ x0).setCell ⟨B, 1, none⟩ x1).setCell ⟨B, 2, none⟩ x2).setCell ⟨B, 3, none⟩ x3) = W') :
  W'.heap[B]? = some (.cells #[x0, x1, x2, x3] t (0, 0)) ∧ (∀ b, b ≠ B → W'.heap[b]? = W.heap[b]?) ∧ W'.heap.size = W.heap.size ∧ ∀ w n, n ≤ B → Below n w W → Below n w W' := by
 subst hW
 refine ⟨set_box4 h, fun b hb => ?_, by simp [World.setCell], fun w n hn hb => ?_⟩
 ·rw [Below.heap_setCell _ _ _ _ hb, Below.heap_setCell _ _ _ _ hb, Below.heap_setCell _ _ _ _ hb, Below.heap_setCell _ _ _ _ hb]
 ·exact (((hb.setCell (p := ⟨B, 0, none⟩) hn x0).setCell (p := ⟨B, 1, none⟩) hn x1).setCell (p := ⟨B, 2, none⟩) hn x2).setCell (p := ⟨B, 3, none⟩) hn x3
theorem wp_tmps {P : Program} {c : Code} {Q : Exit → Act → World → Prop} {T : Array Value} (L : Array Value) {w : World} (e : T = L) (h : c.wp P Q { tmps := L, defers := [] } w) : c.wp P Q { tmps := T, defers := [] } w := by
 subst e; exact h
theorem as_no (w : World) : (Instr.typeAssert .nilIface 20 63 true).run Tryz.prog w = .ok (.tuple #[.agg #[.int .i64 0, .int .i64 0], .bool false]) w := by
 simp [Instr.typeAssert, run_underlying Tryz.underlying63, Tryz.zeroValue63]
theorem as_yes (v : Value) (w : World) : (Instr.typeAssert (.iface 63 v) 20 63 true).run Tryz.prog w = .ok (.tuple #[v, .bool true]) w := by
 simp [Instr.typeAssert, run_underlying Tryz.underlying63]
theorem catch_idle (p q : Addr) (w : World) :
  CallsD Tryz.prog 55 #[.pointer (some p), .pointer (some q)] .returning w fun e u' w' => e = .returned (.tuple #[]) ∧ u' = .returning ∧ Below w.heap.size w w' := by
 refine callsD_of_wpS Tryz.func55 rfl fun c₀ cs hu => ?_
 apply wpS_seq
 apply wpS_region
 simp [wpOpsS, go_sem, recoverD, hu, Tryz.ntmps55, Exit.thenS, as_no]
 refine wpS_of_wp ?_
 refine wp_tmps (#[.pointer (some p), .pointer (some q), .pointer (some ⟨w.heap.size, 0, none⟩), .bool false, .tuple #[.agg #[.int .i64 0, .int .i64 0], .bool false], .nilIface, .tuple #[.agg #[.int .i64 0, .int .i64 0], .bool false], .agg #[.int .i64 0, .int .i64 0], .bool false, undef, undef, undef]) (by kernel_rfl) ?_
 go_wp2
 cases c₀
 simp_all [bodyPostS, results, Tryz.results55]
 exact (Below.refl _ w).alloc (Nat.le_refl _) _
theorem catch_fault (V M : Nat) (c0 c1 : Int) (older : List PanicEntry) (w : World) (y0 y1 y2 y3 z0 z1 : Value) (hV : w.heap[V]? = some (.cells #[y0, y1, y2, y3] 24 (0, 0))) (hM : w.heap[M]? = some (.cells #[z0, z1] 63 (0, 0))) :
  CallsD Tryz.prog 55 #[.pointer (some ⟨V, 0, none⟩), .pointer (some ⟨M, 0, none⟩)] (.panicking ({ v := .iface 63 (.agg #[.int .i64 c0, .int .i64 c1]), recovered := false } :: older)) w fun e u' w' => e = .returned (.tuple #[]) ∧
   u' = .panicking ({ v := .iface 63 (.agg #[.int .i64 c0, .int .i64 c1]), recovered := true } :: older) ∧ w'.heap[V]? = some (.cells #[.int .i64 0, .int .i64 0, .string ⟨#[]⟩, .slice none 0 0] 24 (0, 0)) ∧
    w'.heap[M]? = some (.cells #[.int .i64 c0, .int .i64 c1] 63 (0, 0)) ∧ ∀ n, n ≤ V → n ≤ M → Below n w w' := by
 have hVl : V < w.heap.size := (Array.getElem?_eq_some_iff.1 hV).1
 have hMl : M < w.heap.size := (Array.getElem?_eq_some_iff.1 hM).1
 have hVM : V ≠ M := fun e => by subst e; rw [hV] at hM; simp at hM
 obtain ⟨W, hW⟩ : ∃ W, w.alloc (.cells #[.int .i64 c0, .int .i64 c1] 63) = W := ⟨_, rfl⟩
 have hV1 : W.heap[V]? = some (.cells #[y0, y1, y2, y3] 24 (0, 0)) := by rw [← hW, Below.heap_alloc _ _ _ hVl]; exact hV
 have hM1 : W.heap[M]? = some (.cells #[z0, z1] 63 (0, 0)) := by rw [← hW, Below.heap_alloc _ _ _ hMl]; exact hM
 have hF1 : W.heap[w.heap.size]? = some (.cells #[.int .i64 c0, .int .i64 c1] 63 (0, 0)) := by rw [← hW]; exact heap_alloc_new w _
 have hB : Below w.heap.size w W := by rw [← hW]; exact (Below.refl _ w).alloc (Nat.le_refl _) _
 obtain ⟨d0, d1, d2, d3⟩ := four_box hV1
 have f0 := XBase.frozen_box hV1 0
 have f1 := XBase.frozen_box hV1 1
 have f2 := XBase.frozen_box hV1 2
 have f3 := XBase.frozen_box hV1 3
 have e0 : W.cell? ⟨M, 0, none⟩ = some z0 := (two_box hM1).1
 have e1 : W.cell? ⟨M, 1, none⟩ = some z1 := (two_box hM1).2
 have g0 := XBase.frozen_box hM1 0
 have g1 := XBase.frozen_box hM1 1
 have a0 : W.cell? ⟨w.heap.size, 0, none⟩ = some (.int .i64 c0) := (two_box hF1).1
 have a1 : W.cell? ⟨w.heap.size, 1, none⟩ = some (.int .i64 c1) := (two_box hF1).2
 have n1 : V ≠ M := hVM
 have n2 : M ≠ V := hVM.symm
 have n3 : V ≠ w.heap.size := by omega
 have n4 : w.heap.size ≠ V := by omega
 have n5 : M ≠ w.heap.size := by omega
 have n6 : w.heap.size ≠ M := by omega
 refine callsD_of_wpS Tryz.func55 rfl fun c₀ cs hu => ?_
 apply wpS_seq
 apply wpS_region
 simp [wpOpsS, go_sem, recoverD, hu, Tryz.ntmps55, Exit.thenS, as_yes]
 refine wpS_of_wp ?_
 rw [hW]
 refine wp_tmps (#[.pointer (some ⟨V, 0, none⟩), .pointer (some ⟨M, 0, none⟩), .pointer (some ⟨w.heap.size, 0, none⟩), .bool true, .tuple #[.agg #[.int .i64 c0, .int .i64 c1], .bool true], .iface 63 (.agg #[.int .i64 c0, .int .i64 c1]), .tuple #[.agg #[.int .i64 c0, .int .i64 c1], .bool true], .agg #[.int .i64 c0, .int .i64 c1], .bool true, undef, undef, undef]) (by kernel_rfl) ?_
 have HV1 : Hid (W.heap[V]? = some (.cells #[y0, y1, y2, y3] 24 (0, 0))) := hV1
 have HM1 : Hid (W.heap[M]? = some (.cells #[z0, z1] 63 (0, 0))) := hM1
 have HB : Hid (Below w.heap.size w W) := hB
 clear hV1 hM1 hF1 hB hV hM hW hVM
 go_wp2_with fail
 go_region
 obtain ⟨W6, hW6⟩ : ∃ W6, ((((W.setCell ⟨V, 0, none⟩ (.int .i64 0)).setCell ⟨V, 1, none⟩ (.int .i64 0)).setCell ⟨V, 2, none⟩ (.string ⟨#[]⟩)).setCell ⟨V, 3, none⟩ (.slice none 0 0)) = W6 := ⟨_, rfl⟩
 rw [hW6]
 obtain ⟨q1, q2, q3, q4⟩ := set4 _ _ _ _ HV1.out hW6
 have m1 := (q2 M n2).trans HM1.out
 refine ⟨rfl, _, rfl, .tuple #[], results_none rfl _ _ _, rfl, rfl, ?_, ?_, fun n hV hM => (((q4 _ n hV (HB.out.mono (by omega))).setCell (p := ⟨M, 0, none⟩) hM _).setCell (p := ⟨M, 1, none⟩) hM _).drew⟩
 ·show ((W6.setCell ⟨M, 0, none⟩ _).setCell ⟨M, 1, none⟩ _).heap[V]? = _
  rw [Below.heap_setCell _ _ _ _ n1, Below.heap_setCell _ _ _ _ n1]
  exact q1
 ·show ((W6.setCell ⟨M, 0, none⟩ _).setCell ⟨M, 1, none⟩ _).heap[M]? = _
  rw [block_set (block_set m1 _) _]
  rfl
end Go.Proofs.YtghnhkagkngjcaaGreatDoor.EDo
