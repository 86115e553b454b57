/- A tree's nodes made: contract of build. -/
import Derived.Test.YtnpamcgbnimdkaaDArena
namespace Go.Proofs.Ytnpamcgbnimdkaa.DBuild
open Go.RowKit Go.Proofs.Ytnpamcgbnimdkaa.TBase Go.Proofs.Ytnpamcgbnimdkaa.DBase Go.Proofs.Ytnpamcgbnimdkaa.DJoin Go.Proofs.Ytnpamcgbnimdkaa.DLink Go.Proofs.Ytnpamcgbnimdkaa.DNeed Go.Proofs.Ytnpamcgbnimdkaa.DKids Go.Proofs.Ytnpamcgbnimdkaa.DCell Go.Proofs.Ytnpamcgbnimdkaa.DNew Go.Proofs.Ytnpamcgbnimdkaa.DArena
set_option linter.unusedVariables false

def Builds (m : Nat) : Prop := ∀ (v : Value) (t : T) (w : World) (B p gc n : Nat) (q : Nat → Int) (s : St) (fv : Value) (V : Nat → Value), In false (Nt p gc) w m v t → Ar w B p gc n q s fv V → 1 + nds t.l ≤ s.L.length →
    Calls Try.prog 46 #[.pointer (some ⟨p, 0, none⟩), v] w fun e w' => e = .returned (.int .i64 (s.L.headD 0 : Nat)) ∧ Kp p gc w w' ∧ ∃ fv' V', Ar w' B p gc n q (bld t s) fv' V'
theorem take_snoc (l : List T) (j : Nat) (h : j < l.length) : l.take (j + 1) = l.take j ++ [l[j]] := List.take_succ_eq_append_getElem h
theorem nds_take (l : List T) (j : Nat) (h : j < l.length) : nds (l.take j) + (1 + nds l[j].l) ≤ nds l := by
  have e := nds_append (l.take (j + 1)) (l.drop (j + 1))
  rw [List.take_append_drop, take_snoc l j h, nds_append, nds_cons] at e
  simp only [nds] at e
  omega
theorem head_mem {L : List Nat} (h : 0 < L.length) : L.headD 0 ∈ L := by
  cases L with
  | nil => simp at h
  | cons a r => simp
set_option maxRecDepth 20000 in
set_option maxHeartbeats 1600000 in
theorem build_of (m : Nat) (hm : Builds m) : Builds (m + 1) := by
  intro v t w B p gc n q s fv V hin har hlen
  obtain ⟨g, x, nn, l⟩ := t
  obtain ⟨nv, lv, rfl, hg, hx, hax, hil⟩ := in_iff.1 hin
  obtain ⟨a, cap, rfl, hlc, hcm, hl80, hnil, hL⟩ := hil
  obtain ⟨a1, c1, rfl, -⟩ := id hax
  obtain ⟨sa, sA, sL⟩ := s
  cases sL with
  | nil => simp at hlen
  | cons h L =>
    have hlt : h < n := har.hh h (by simp)
    have hf := har.fr
    rw [show hl (h :: L).reverse = hl L.reverse ++ [(h : Int)] by simp [hl]] at hf
    obtain ⟨fa, fc, rfl⟩ := hf.shape
    obtain ⟨hpop, hk, gf, rfl, hcell, hcap1, hcap2⟩ := oi_pop hf
    rw [hk] at har hf hcap1
    have hNL : (hl L.reverse).length = L.length := by simp [hl]
    have hNb : L.length + 1 ≤ 9223372036854775807 := by
      rw [hNL] at hcap1
      unfold maxLen at hcap2
      omega
    rw [hNL] at hpop hcell har hf hcap1
    have hlen' : nds l ≤ L.length := by
      have : 1 + nds l ≤ L.length + 1 := hlen
      omega
    obtain ⟨N, hN⟩ : ∃ N, L.length = N := ⟨_, rfl⟩
    rw [hN] at hpop hcell har hf hcap1 hNb
    rw [Nat.zero_add] at hcell
    have hN1 : ((N + 1 : Nat) : Int) - 1 = (N : Int) := by omega
    have k1 := har.bx.at1
    have k1' := har.bx.at0
    have hpl := har.bx.lt
    have hgl := har.cr.lt
    have f1 : w.frozen? ⟨p, 1, none⟩ = false := frozen_box har.bx 1
    have hfl : gf < w.heap.size := cell_lt hcell
    have HIN : Hid (Ax false (Nt p gc) w (.slice a1 nn.length c1) nn) := hax
    have HAR : Hid (Ar w B p gc n q ⟨sa, sA, h :: L⟩ (.slice (some ⟨gf, 0, none⟩) (N + 1) fc) V) := har
    have HPOP : Hid (Oi w B (.slice (some ⟨gf, 0, none⟩) N fc) (hl L.reverse)) := hpop
    have HL : Hid (LAt false (Nt p gc) w m a cap l) := hL
    have HN : Hid (L.length = N) := hN
    have HLN : Hid (nds l ≤ L.length) := hlen'
    clear hax har hpop hL hN hlen hlen' hin hf hk hNL hcap2
    have hc1 : N ≤ fc := by omega
    go_enter Try.func46, Try.ntmps46
    go_wp2_with fail
    obtain ⟨W0, hW0⟩ : ∃ W0, w.setCell ⟨p, 1, none⟩ (.slice (some ⟨gf, 0, none⟩) N fc) = W0 := ⟨_, rfl⟩
    obtain ⟨W1, hW1⟩ : ∃ W1, W0.alloc (.cells #[.string g, .string x, .slice a1 nn.length c1, .slice a l.length cap] 28) = W1 := ⟨_, rfl⟩
    rw [hW0, hW1]
    have z0 : W0.heap.size = w.heap.size := by rw [← hW0]; simp [World.setCell]
    have A0 : Ar W0 B p gc n q ⟨sa, sA, L⟩ (.slice (some ⟨gf, 0, none⟩) N fc) V := by rw [← hW0]; exact HAR.out.pop (fun y hy => HAR.out.hh y (by simp [hy])) HPOP.out
    have g1 : w.grownBy W0 (some p) := by rw [← hW0]; exact grown_set (World.grownBy.refl _ _) _ _
    have b0 : Below W0.heap.size W0 W1 := by rw [← hW1]; exact (Below.refl _ W0).alloc (Nat.le_refl _) _
    have A1 := A0.below b0
    have z1 : W1.heap.size = w.heap.size + 1 := by rw [← hW1, ← z0]; simp
    have kp1 : Kp p gc w W1 := (Kp.of_grownP g1).trans (.of_below b0)
    have y1 : W1.heap[w.heap.size]? = some (.cells #[.string g, .string x, .slice a1 nn.length c1, .slice a l.length cap] 28 (0, 0)) := by rw [← z0, ← hW1]; exact heap_alloc_new W0 _
    obtain ⟨t0, t1, t2, t3⟩ := four_box y1
    have k0 := A1.bx.at0
    have cd := detached_c (w := W1.drew) (g := g) (s := x) (n := nn) (nv := .slice a1 nn.length c1) (a := a) (k := l.length) (cap := cap) ((HIN.out.keep kp1.keep).plain.below (Below.refl _ W1).drew)
    have HF : Hid (∀ w4, Below W1.drew.heap.size W1.drew w4 → w4.cell? ⟨p, 0, none⟩ = some (.slice (some ⟨gc, 0, none⟩) n n) ∧ Ar w4 B p gc n q ⟨sa, sA, L⟩ (.slice (some ⟨gf, 0, none⟩) N fc) V ∧ w4.heap[w.heap.size]? = some (.cells #[.string g, .string x, .slice a1 nn.length c1, .slice a l.length cap] 28 (0, 0)) ∧ Kp p gc w w4 ∧ W1.heap.size ≤ w4.heap.size) := by
      intro w4 b4
      have b4' : Below W1.heap.size W1 w4 := (Below.refl _ W1).drew.trans b4
      have A4 := A1.below b4'
      exact ⟨A4.bx.at0, A4, (b4'.block _ (by omega)).trans y1, kp1.trans (.of_below b4'), b4'.size⟩
    have hne1 : p ≠ gc := ne_of A1.bx A1.cr
    have hne2 : gc ≠ p := fun e => hne1 e.symm
    have hne3 : w.heap.size ≠ gc := by omega
    have hne4 : gc ≠ w.heap.size := by omega
    have HA1 : Hid (Ar W1 B p gc n q ⟨sa, sA, L⟩ (.slice (some ⟨gf, 0, none⟩) N fc) V) := A1
    clear A0 A1 hW1 hW0 b0 g1 y1 kp1 k1 k1' f1 hcell z0
    go_region_held3 (fun w' => w'.cell? ⟨p, 0, none⟩ = some (.slice (some ⟨gc, 0, none⟩) n n) ∧ w'.cell? ⟨w.heap.size, 0, none⟩ = some (.string g) ∧ w'.cell? ⟨w.heap.size, 1, none⟩ = some (.string x) ∧ w'.cell? ⟨w.heap.size, 2, none⟩ = some (.slice a1 nn.length c1) ∧ w'.cell? ⟨w.heap.size, 3, none⟩ = some (.slice a l.length cap)) (go_keep) (first | (go_at_call 63; refine cd.mono ?_; rintro e w4 ⟨ub, um, uq, rfl, hu, b4⟩; obtain ⟨zz, A4, y4, kp4, s4⟩ := HF.out w4 b4; obtain ⟨v0, v1, v2, v3⟩ := four_box y4; have hc4 := A4.cr; have n0 := hc4.at hlt (k := 0) (by omega); rw [Nat.add_zero] at n0; have e0 := hc4.frozen (h * 9); have n1 := hc4.at hlt (k := 1) (by omega); have e1 := hc4.frozen (h * 9 + 1); have n2 := hc4.at hlt (k := 2) (by omega); have e2 := hc4.frozen (h * 9 + 2); have n3 := hc4.at hlt (k := 3) (by omega); have e3 := hc4.frozen (h * 9 + 3); have n4 := hc4.at hlt (k := 4) (by omega); have e4 := hc4.frozen (h * 9 + 4); have n5 := hc4.at hlt (k := 5) (by omega); have e5 := hc4.frozen (h * 9 + 5); have n6 := hc4.at hlt (k := 6) (by omega); have e6 := hc4.frozen (h * 9 + 6); have n7 := hc4.at hlt (k := 7) (by omega); have e7 := hc4.frozen (h * 9 + 7); have n8 := hc4.at hlt (k := 8) (by omega); have e8 := hc4.frozen (h * 9 + 8); have HA4 : Hid (Ar w4 B p gc n q ⟨sa, sA, L⟩ (.slice (some ⟨gf, 0, none⟩) N fc) V) := A4; have HU : Hid (OwnA w4 W1.drew.heap.size (.slice ub um uq) nn) := hu; clear hc4 A4 hu cd) | fail)
    rename_i hHeld
    clear hHeld
    obtain ⟨W5, hW5⟩ : ∃ W5, (((((((((w4.setCell ⟨gc, h * 9, none⟩ (.bool true)).setCell ⟨gc, h * 9 + 1, none⟩ (.string g)).setCell ⟨gc, h * 9 + 2, none⟩ (.string x)).setCell ⟨gc, h * 9 + 3, none⟩ (.slice ub um uq)).setCell ⟨gc, h * 9 + 4, none⟩ (.int .i64 (-1))).setCell ⟨gc, h * 9 + 5, none⟩ (.int .i64 (-1))).setCell ⟨gc, h * 9 + 6, none⟩ (.int .i64 (-1))).setCell ⟨gc, h * 9 + 7, none⟩ (.int .i64 (-1))).setCell ⟨gc, h * 9 + 8, none⟩ (.int .i64 (-1))) = W5 := ⟨_, rfl⟩
    rw [hW5]
    have hc5 : Cr W5 gc n (up (mp V sa) h { freshN (.mk g x nn l) with av := .slice ub um uq }) := by rw [← hW5]; exact HA4.out.cr.putAll hlt { freshN (.mk g x nn l) with av := .slice ub um uq }
    have hg5 : w4.grownBy W5 (some gc) := by rw [← hW5]; exact grown_set (grown_set (grown_set (grown_set (grown_set (grown_set (grown_set (grown_set (grown_set (World.grownBy.refl _ _) _ _) _ _) _ _) _ _) _ _) _ _) _ _) _ _) _ _
    have A5 : Ar W5 B p gc n q (tk ⟨sa, sA, h :: L⟩ (.mk g x nn l)) (.slice (some ⟨gf, 0, none⟩) N fc) (pt V h (.slice ub um uq)) := by
      refine HA4.out.cell hlt (freshN (.mk g x nn l)) (fun k e => by cases e) (.slice ub um uq) nn (ownA_mono HU.out (by have := HA1.out.lp; have := HA1.out.bx.lt; show B ≤ W1.heap.size; omega)) (fun k hk b hb he => ?_) hc5 hg5
      have q1 := (World.ownsRow.lt HU.out b hb).1
      have q2 := (World.ownsRow.lt (HA1.out.ats k hk) b he).2
      have : W1.drew.heap.size = W1.heap.size := rfl
      omega
    have kp5 : Kp p gc w W5 := kp4.trans (.of_grown hg5)
    have t5 : W5.cell? ⟨w.heap.size, 3, none⟩ = some (.slice a l.length cap) := by
      have l4 : w.heap.size < w4.heap.size := (Array.getElem?_eq_some_iff.1 y4).1
      exact (four_box ((hg5.block w.heap.size l4 (fun e => hne3 (Option.some.inj e))).trans y4)).2.2.2
    have HA5 : Hid (Ar W5 B p gc n q (tk ⟨sa, sA, h :: L⟩ (.mk g x nn l)) (.slice (some ⟨gf, 0, none⟩) N fc) (pt V h (.slice ub um uq))) := A5
    clear A5 hc5 hg5 hW5 n0 n1 n2 n3 n4 n5 n6 n7 n8 e0 e1 e2 e3 e4 e5 e6 e7 e8 HA4 HU y4 zz v0 v1 v2 v3 t0 t1 t2 t3 k0 HF HA1 kp4 s4 b4 z1
    have hS : (tk ⟨sa, sA, h :: L⟩ (.mk g x nn l)).L = L := rfl
    have hB : bld (.mk g x nn l) ⟨sa, sA, h :: L⟩ = bldL l h (tk ⟨sa, sA, h :: L⟩ (.mk g x nn l)) := rfl
    obtain ⟨S0, hS0⟩ : ∃ S0, tk ⟨sa, sA, h :: L⟩ (.mk g x nn l) = S0 := ⟨_, rfl⟩
    rw [hS0] at HA5 hS hB
    have HB : Hid (bld (.mk g x nn l) ⟨sa, sA, h :: L⟩ = bldL l h S0) := hB
    clear hS0 hB
    go_wp2_with fail
    go_loopw [42] (fun i wr => ∃ (j : Nat) (fv' : Value) (V' : Nat → Value), i = .int .i64 j ∧ j ≤ l.length ∧ Ar wr B p gc n q (bldL (l.take j) h S0) fv' V' ∧ Kp p gc w wr) (fun i _ => l.length - (intOf i).toNat)
    case atStart => exact ⟨0, _, _, rfl, Nat.zero_le _, by rw [List.take_zero, bldL_nil]; exact HA5.out, kp5⟩
    case round =>
      obtain ⟨j, fv', V', rfl, hj, hA, hkp⟩ := hrel
      by_cases hjl : j < l.length
      · obtain ⟨ge, oe, u, rfl, hSg, hu, hin⟩ := elem_at HL.out hjl
        have hu := hkp.keep.four hSg hu
        have hin := hin.keep hkp.keep
        obtain ⟨v0, v1, v2, v3, rfl, d0, d1, d2, d3⟩ := hu
        obtain ⟨m', b1, c2, b2, c3, hmm, rfl, rfl, rfl, rfl, -, -, -, -⟩ := hin.kinds
        obtain ⟨W6, hW6⟩ : ∃ W6, wr.alloc (.cells #[.string l[j].g, .string l[j].s, .slice b1 l[j].n.length c2, .slice b2 l[j].l.length c3] 28) = W6 := ⟨_, rfl⟩
        have b6 : Below wr.heap.size wr W6 := by rw [← hW6]; exact (Below.refl _ wr).alloc (Nat.le_refl _) _
        have A6 := hA.below b6
        have hL6 : (bldL (l.take j) h S0).L = L.drop (nds (l.take j)) := by rw [bldL_L, hS]
        have hlen6 : 1 + nds l[j].l ≤ (bldL (l.take j) h S0).L.length := by
          have h1 := nds_take l j hjl
          have h2 := HLN.out
          rw [hL6, List.length_drop]
          omega
        have cb := hm _ l[j] W6 B p gc n q _ _ _ (hin.below b6) A6 hlen6
        have hz : (bldL (l.take j) h S0).L.headD 0 < n := A6.hh _ (head_mem (by omega))
        obtain ⟨z, hz0⟩ : ∃ z, (bldL (l.take j) h S0).L.headD 0 = z := ⟨_, rfl⟩
        rw [hz0] at cb hz
        have HK : Hid (∀ w7 fv7 V7, Ar w7 B p gc n q (bld l[j] (bldL (l.take j) h S0)) fv7 V7 → Calls Try.prog 52 #[.pointer (some ⟨p, 0, none⟩), .int .i64 h, .int .i64 z, .int .i64 (-1)] w7 fun e w' => (∃ r, e = .returned r) ∧ Ar w' B p gc n q (bldL (l.take (j + 1)) h S0) fv7 V7 ∧ Kp p gc w7 w') := by
          intro w7 fv7 V7 A7
          refine (link_c A7.bx A7.cr h z none hlt hz (fun k e => by cases e) (A7.la h) A7.hn).mono ?_
          rintro e w' ⟨hr, hc, hg⟩
          refine ⟨hr, ?_, .of_grown hg⟩
          rw [take_snoc l j hjl, bldL_snoc]
          unfold kid
          rw [hz0]
          exact A7.link hz hc hg
        have HKW : Hid (Kp p gc w W6) := hkp.trans (.of_below b6)
        have HW6 : Hid (wr.alloc (.cells #[.string l[j].g, .string l[j].s, .slice b1 l[j].n.length c2, .slice b2 l[j].l.length c3] 28) = W6) := hW6
        clear hin A6 hA hL6 hlen6 hz0 hW6 b6 hkp kp5 HA5 HLN hm hmm
        go_wp2_with (first
          | (rw [HW6.out]; go_at_call 46; refine cb.mono ?_; rintro e w7 ⟨rfl, kp7, fv7, V7, A7⟩; have cl := HK.out w7 fv7 V7 A7; have HKP7 : Hid (Kp p gc w w7) := HKW.out.trans kp7; clear A7 kp7 cb)
          | (go_at_call 52; refine cl.mono ?_; rintro e w8 ⟨⟨r8, rfl⟩, A8, kp8⟩; have HA8 : Hid (Ar w8 B p gc n q (bldL (l.take (j + 1)) h S0) fv7 V7) := A8; clear A8 cl))
        go_roundw
        case rel => exact ⟨j + 1, _, _, by go_num, by omega, HA8.out, HKP7.out.trans kp8⟩
        case measure => simp only [intOf]; omega
      · obtain rfl : j = l.length := by omega
        have hnlt : decide ((l.length : Int) < (l.length : Int)) = false := by simp
        have HA : Hid (Ar wr B p gc n q (bldL (l.take l.length) h S0) fv' V') := hA
        clear hA HA5
        go_wp2_with fail
        go_ret
        have q := HA.out
        rw [List.take_length] at q
        exact ⟨rfl, hkp, _, _, by rw [HB.out]; exact q⟩
theorem builds : ∀ m, Builds m
  | 0 => fun v t w B p gc n q s fv V hin => by rw [In] at hin; exact hin.elim
  | m + 1 => build_of m (builds m)
end Go.Proofs.Ytnpamcgbnimdkaa.DBuild
