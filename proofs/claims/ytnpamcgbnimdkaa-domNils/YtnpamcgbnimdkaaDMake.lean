/- A tree built, or refused: contract of Build. -/
import Derived.Test.YtnpamcgbnimdkaaDBuild
import Derived.Test.YtnpamcgbnimdkaaTMeas
namespace Go.Proofs.Ytnpamcgbnimdkaa.DMake
open Go.RowKit Go.Proofs.Ytnpamcgbnimdkaa.TBase Go.Proofs.Ytnpamcgbnimdkaa.TMay Go.Proofs.Ytnpamcgbnimdkaa.TVisit Go.Proofs.Ytnpamcgbnimdkaa.TMeas Go.Proofs.Ytnpamcgbnimdkaa.DBase Go.Proofs.Ytnpamcgbnimdkaa.DJoin Go.Proofs.Ytnpamcgbnimdkaa.DLink Go.Proofs.Ytnpamcgbnimdkaa.DNeed Go.Proofs.Ytnpamcgbnimdkaa.DKids Go.Proofs.Ytnpamcgbnimdkaa.DCell Go.Proofs.Ytnpamcgbnimdkaa.DNew Go.Proofs.Ytnpamcgbnimdkaa.DArena Go.Proofs.Ytnpamcgbnimdkaa.DBuild
set_option linter.unusedVariables false

/-- A counter set. -/
def uq (q : Nat → Int) (i : Nat) (v : Int) : Nat → Int := fun k => if k = i then v else q k
theorem Bx.cnt {w : World} {p gc n : Nat} {fv : Value} {q : Nat → Int} (h : Bx w p gc n fv q) (i : Nat) (hi : i < 7) (v : Int) : Bx (w.setCell ⟨p, 2 + i, none⟩ (.int .i64 v)) p gc n fv (uq q i v) := by
  unfold Bx at h ⊢
  rw [block_set h]
  match i, hi with
  | 0, _ | 1, _ | 2, _ | 3, _ | 4, _ | 5, _ | 6, _ => rfl
theorem Ar.cnt {w : World} {B p gc n : Nat} {q : Nat → Int} {s : St} {fv : Value} {V : Nat → Value} (h : Ar w B p gc n q s fv V) (i : Nat) (hi : i < 7) (v : Int) : Ar (w.setCell ⟨p, 2 + i, none⟩ (.int .i64 v)) B p gc n (uq q i v) s fv V := by
  have hne := ne_of h.bx h.cr
  have kp : Kp p gc w (w.setCell ⟨p, 2 + i, none⟩ (.int .i64 v)) := .of_grownP (grown_set (World.grownBy.refl _ _) _ _)
  exact ⟨Bx.cnt h.bx i hi v, h.cr.keep (Below.heap_setCell _ _ _ _ (fun e => hne e.symm)), oi_kp h.bx h.cr h.fr kp, fun k hk => ownA_kp h.bx h.cr (h.ats k hk) kp, h.ds, h.lp, h.lg, h.hn, h.hh, h.la⟩
theorem Bx.atc {w : World} {p gc n : Nat} {fv : Value} {q : Nat → Int} (h : Bx w p gc n fv q) (i : Nat) (hi : i < 7) : w.cell? ⟨p, 2 + i, none⟩ = some (.int .i64 (q i)) := by
  unfold Bx at h
  simp only [World.cell?, h]
  match i, hi with
  | 0, _ | 1, _ | 2, _ | 3, _ | 4, _ | 5, _ | 6, _ => rfl
/-- How many nodes a list that may be holds. -/
theorem vis_nds : ∀ (l : List T) (d k e : Nat), (vis l d k e).2.2 = 0 → (vis l d k e).1 = k + nds l
  | [], d, k, e, _ => by rw [vis, nds]; rfl
  | .mk g s n l :: r, d, k, e, h => by
    rw [vis] at h ⊢
    by_cases h1 : flt (.mk g s n l) d (k + 1) = 0
    · rw [if_pos h1] at h ⊢
      by_cases h2 : (vis l (d + 1) (k + 1) (max e d)).2.2 = 0
      · rw [if_pos h2] at h ⊢
        rw [vis_nds r _ _ _ h, vis_nds l _ _ _ h2, nds]
        omega
      · rw [if_neg h2] at h
        exact (h2 h).elim
    · rw [if_neg h1] at h
      exact (h1 h).elim
theorem ct_nds (l : List T) (h : ck l = 0) : ct l = nds l := by
  rw [ct, if_pos h, vis_nds l 1 0 0 h, Nat.zero_add]
theorem nds_one (t : T) : nds [t] = 1 + nds t.l := by
  rw [nds_cons, nds, Nat.add_zero]
/-- One tree as a list. -/
theorem one_in {w : World} {m B : Nat} {x0 x1 x2 x3 : Value} {t : T} (h : In false All w m (.agg #[x0, x1, x2, x3]) t) (hb : w.heap[B]? = some (.cells #[x0, x1, x2, x3] 28 (0, 0))) : InL false All w m (.slice (some ⟨B, 0, none⟩) 1 1) [t] := by
  refine ⟨_, 1, rfl, by simp, by omega, by simp, (fun e => by cases e), .inr ⟨B, 0, rfl, trivial, fun j hj => ?_, fun e => by cases e⟩⟩
  have : j = 0 := by simpa using hj
  subst this
  obtain ⟨e0, e1, e2, e3⟩ := four_box hb
  exact ⟨_, ⟨_, _, _, _, rfl, e0, e1, e2, e3⟩, h⟩
theorem Build_nil (g x : ByteArray) (a1 a2 : Option Addr) (k1 c1 k2 c2 : Nat) (w : World) : Calls Try.prog 15 #[.pointer none, .agg #[.string g, .string x, .slice a1 k1 c1, .slice a2 k2 c2]] w fun e w' => e = .returned (.tuple #[.int .i64 0, .int .i64 1]) ∧ Below w.heap.size w w' := by
  go_enter Try.func15, Try.ntmps15
  go_wp2_with fail
  refine bodyPost_ret (v := .tuple #[.int .i64 0, .int .i64 1]) (by simp [results, Try.results15, go_sem]) rfl ⟨rfl, (Below.refl _ w).alloc (Nat.le_refl _) _⟩
/-- What Build answers, and what it leaves. -/
def bC (t : T) (s : St) : Int := if ck [t] = 0 then if s.L.length < nds [t] then 802 else 0 else 801
def bS (t : T) (s : St) : St := if bC t s = 0 then bld t s else s
def bQ (t : T) (s : St) (q : Nat → Int) : Nat → Int := if bC t s = 0 then uq q 0 (q 0 + (nds [t] : Nat)) else q
def bH (t : T) (s : St) : Int := if bC t s = 0 then (s.L.headD 0 : Nat) else 0
set_option maxRecDepth 20000 in
set_option maxHeartbeats 1600000 in
theorem Build_c {w : World} {B p gc n : Nat} {q : Nat → Int} {s : St} {fv : Value} {V : Nat → Value} {m : Nat} {v : Value} {t : T} (hin : In false (Nt p gc) w m v t) (har : Ar w B p gc n q s fv V) (hq0 : 0 ≤ q 0) (hq1 : q 0 ≤ 4611686018427387904) :
    Calls Try.prog 15 #[.pointer (some ⟨p, 0, none⟩), v] w fun e w' => e = .returned (.tuple #[.int .i64 (bH t s), .int .i64 (bC t s)]) ∧ Kp p gc w w' ∧ ∃ fv' V', Ar w' B p gc n (bQ t s q) (bS t s) fv' V' := by
  obtain ⟨x0, x1, x2, x3, rfl, -⟩ := hin.four
  obtain ⟨m', a1, c1, a2, c2, hm, rfl, rfl, rfl, rfl, -, -, -, -⟩ := hin.kinds
  obtain ⟨W1, hW1⟩ : ∃ W1, (w.alloc (.cells #[.string t.g, .string t.s, .slice a1 t.n.length c1, .slice a2 t.l.length c2] 28)).alloc (.cells #[.string t.g, .string t.s, .slice a1 t.n.length c1, .slice a2 t.l.length c2] 28) = W1 := ⟨_, rfl⟩
  have b1 : Below w.heap.size w W1 := by rw [← hW1]; exact ((Below.refl _ w).alloc (Nat.le_refl _) _).alloc (by simp) _
  have z1 : W1.heap.size = w.heap.size + 2 := by rw [← hW1]; simp
  have y0 : W1.heap[w.heap.size]? = some (.cells #[.string t.g, .string t.s, .slice a1 t.n.length c1, .slice a2 t.l.length c2] 28 (0, 0)) := by rw [← hW1, Below.heap_alloc _ _ _ (by simp), heap_alloc_new]
  have y1 : W1.heap[w.heap.size + 1]? = some (.cells #[.string t.g, .string t.s, .slice a1 t.n.length c1, .slice a2 t.l.length c2] 28 (0, 0)) := by
    have := heap_alloc_new (w.alloc (.cells #[.string t.g, .string t.s, .slice a1 t.n.length c1, .slice a2 t.l.length c2] 28)) (.cells #[.string t.g, .string t.s, .slice a1 t.n.length c1, .slice a2 t.l.length c2] 28)
    rwa [hW1, World.size_alloc] at this
  have hl1 := one_in (hin.plain.below b1) y1
  have c1c := check_c m _ [t] W1 hl1
  have A1 := har.below b1
  have hpl := har.bx.lt
  have hne : w.heap.size ≠ p := by omega
  have HW1 : Hid ((w.alloc (.cells #[.string t.g, .string t.s, .slice a1 t.n.length c1, .slice a2 t.l.length c2] 28)).alloc (.cells #[.string t.g, .string t.s, .slice a1 t.n.length c1, .slice a2 t.l.length c2] 28) = W1) := hW1
  have H1 : Hid (∀ w2, Below W1.heap.size W1 w2 → InL false All w2 m (.slice (some ⟨w.heap.size + 1, 0, none⟩) 1 1) [t] ∧ Ar w2 B p gc n q s fv V ∧ w2.heap[w.heap.size]? = some (.cells #[.string t.g, .string t.s, .slice a1 t.n.length c1, .slice a2 t.l.length c2] 28 (0, 0)) ∧ Kp p gc w w2 ∧ w.heap.size < w2.heap.size) := by
    intro w2 b2
    have := b2.size
    exact ⟨hl1.below b2, A1.below b2, (b2.block _ (by omega)).trans y0, (Kp.of_below b1).trans (.of_below b2), by omega⟩
  have HIN : Hid (In false (Nt p gc) w m (.agg #[.string t.g, .string t.s, .slice a1 t.n.length c1, .slice a2 t.l.length c2]) t) := hin
  by_cases hck : ck [t] = 0
  · have hct := ct_nds [t] hck
    have hok := (ck_ok [t]).2.1
    rw [hct] at hok
    rw [hck] at c1c
    by_cases hfull : s.L.length < nds [t]
    · have hC : bC t s = 802 := by rw [bC, if_pos hck, if_pos hfull]
      have hR : bH t s = 0 ∧ bS t s = s ∧ bQ t s q = q := by simp [bH, bS, bQ, hC]
      rw [hC, hR.1, hR.2.1, hR.2.2]
      obtain ⟨fa, fc, rfl⟩ := har.fr.shape
      have hlen : (hl s.L.reverse).length = s.L.length := by simp [hl]
      rw [hlen] at H1 har A1
      have H2 : Hid (∀ w2, Below W1.heap.size W1 w2 → ∀ w3, Below w2.heap.size w2 w3 → Ar w3 B p gc n q s (.slice fa s.L.length fc) V ∧ Kp p gc w w3) := by
        intro w2 b2 w3 b3
        obtain ⟨-, q2, -, q4, -⟩ := H1.out w2 b2
        exact ⟨q2.below b3, q4.trans (.of_below b3)⟩
      have H3 : Hid (∀ w2, Below W1.heap.size W1 w2 → Calls Try.prog 45 #[.slice (some ⟨w.heap.size + 1, 0, none⟩) 1 1] w2 fun r w' => r = .returned (.int .i64 (nds [t] : Nat)) ∧ Below w2.heap.size w2 w') := by
        intro w2 b2
        have := count_c m _ [t] w2 (H1.out w2 b2).1
        rwa [hct] at this
      have hd : decide ((s.L.length : Int) < ((nds [t] : Nat) : Int)) = true := decide_eq_true (by omega)
      clear hct hck hC hR hl1 A1 y0 y1 hW1 b1 hin har
      generalize nds [t] = K at *
      generalize s.L.length = N at *
      go_enter Try.func15, Try.ntmps15
      go_wp2_with (first
        | (rw [HW1.out]; go_at_call 44; refine c1c.mono ?_; rintro e w2 ⟨rfl, b2⟩; have c2c := H3.out w2 b2; clear c1c)
        | (go_at_call 45; refine c2c.mono ?_; rintro e w3 ⟨rfl, b3⟩; obtain ⟨A3, kp3⟩ := H2.out w2 b2 w3 b3; have k1 := A3.bx.at1; have HA3 : Hid (Ar w3 B p gc n q s (.slice fa N fc) V) := A3; clear A3 c2c))
      refine bodyPost_ret (v := .tuple #[.int .i64 0, .int .i64 802]) (by simp [results, Try.results15, go_sem]) rfl ⟨rfl, kp3, _, _, HA3.out⟩
    · have hC : bC t s = 0 := by rw [bC, if_pos hck, if_neg hfull]
      have hR : bH t s = (s.L.headD 0 : Nat) ∧ bS t s = bld t s ∧ bQ t s q = uq q 0 (q 0 + (nds [t] : Nat)) := by simp [bH, bS, bQ, hC]
      rw [hC, hR.1, hR.2.1, hR.2.2]
      obtain ⟨fa, fc, rfl⟩ := har.fr.shape
      have hlen : (hl s.L.reverse).length = s.L.length := by simp [hl]
      rw [hlen] at H1 har A1
      have hno := nds_one t
      have H3 : Hid (∀ w2, Below W1.heap.size W1 w2 → Calls Try.prog 45 #[.slice (some ⟨w.heap.size + 1, 0, none⟩) 1 1] w2 fun r w' => r = .returned (.int .i64 (nds [t] : Nat)) ∧ Below w2.heap.size w2 w') := by
        intro w2 b2
        have := count_c m _ [t] w2 (H1.out w2 b2).1
        rwa [hct] at this
      have hd : decide ((s.L.length : Int) < ((nds [t] : Nat) : Int)) = false := decide_eq_false (by omega)
      have H2 : Hid (∀ w2, Below W1.heap.size W1 w2 → ∀ w3, Below w2.heap.size w2 w3 → w3.cell? ⟨p, 1, none⟩ = some (.slice fa s.L.length fc) ∧ w3.cell? ⟨p, 2, none⟩ = some (.int .i64 (q 0)) ∧ w3.frozen? ⟨p, 2, none⟩ = false ∧ ∃ W4, w3.setCell ⟨p, 2, none⟩ (.int .i64 (q 0 + (nds [t] : Nat))) = W4 ∧ w3.heap[w.heap.size]? = some (.cells #[.string t.g, .string t.s, .slice a1 t.n.length c1, .slice a2 t.l.length c2] 28 (0, 0)) ∧ Kp p gc w W4 ∧ Calls Try.prog 46 #[.pointer (some ⟨p, 0, none⟩), .agg #[.string t.g, .string t.s, .slice a1 t.n.length c1, .slice a2 t.l.length c2]] W4 fun e w' => e = .returned (.int .i64 (s.L.headD 0 : Nat)) ∧ Kp p gc W4 w' ∧ ∃ fv' V', Ar w' B p gc n (uq q 0 (q 0 + (nds [t] : Nat))) (bld t s) fv' V') := by
        intro w2 b2 w3 b3
        obtain ⟨-, q2, q3, q4, q5⟩ := H1.out w2 b2
        have A3 := q2.below b3
        have A4 := Ar.cnt A3 0 (by omega) (q 0 + (nds [t] : Nat))
        have kp : Kp p gc w (w3.setCell ⟨p, 2, none⟩ (.int .i64 (q 0 + (nds [t] : Nat)))) := (q4.trans (.of_below b3)).trans (.of_grownP (grown_set (World.grownBy.refl _ _) _ _))
        refine ⟨A3.bx.at1, Bx.atc A3.bx 0 (by omega), frozen_box A3.bx 2, _, rfl, (b3.block _ q5).trans q3, kp, ?_⟩
        exact builds m _ t _ B p gc n _ s _ V (HIN.out.keep kp.keep) A4 (by omega)
      clear hct hck hC hR hl1 A1 y0 y1 hW1 b1 hin har HIN H1 hno
      generalize nds [t] = K at *
      generalize s.L.length = N at *
      generalize s.L.headD 0 = Z at *
      generalize q 0 = Q at *
      go_enter Try.func15, Try.ntmps15
      go_wp2_with (first
        | (rw [HW1.out]; go_at_call 44; refine c1c.mono ?_; rintro e w2 ⟨rfl, b2⟩; have c2c := H3.out w2 b2; clear c1c)
        | (go_at_call 45; refine c2c.mono ?_; rintro e w3 ⟨rfl, b3⟩; obtain ⟨k1, k2, k3, W4, hW4, y4, kp4, c4c⟩ := H2.out w2 b2 w3 b3; obtain ⟨t0, t1, t2, t3⟩ := four_box y4; have HW4 : Hid (w3.setCell ⟨p, 2, none⟩ (.int .i64 (Q + (K : Nat))) = W4) := hW4; clear c2c hW4 y4)
        | (rw [HW4.out]; go_at_call 46; refine c4c.mono ?_; rintro e w5 ⟨rfl, kp5, fv5, V5, A5⟩; have HA5 : Hid (∃ fv' V', Ar w5 B p gc n (uq q 0 (Q + (K : Nat))) (bld t s) fv' V') := ⟨fv5, V5, A5⟩; clear A5 c4c))
      refine bodyPost_ret (v := .tuple #[.int .i64 Z, .int .i64 0]) (by simp [results, Try.results15, go_sem]) rfl ⟨rfl, kp4.trans kp5, HA5.out⟩
  · have hC : bC t s = 801 := by rw [bC, if_neg hck]
    have hR : bH t s = 0 ∧ bS t s = s ∧ bQ t s q = q := by simp [bH, bS, bQ, hC]
    rw [hC, hR.1, hR.2.1, hR.2.2]
    have hd : (((ck [t] : Nat) : Int) == 0) = false := by simp; omega
    clear hck hC hR hl1 A1 y0 y1 hW1 b1 hin har
    generalize ck [t] = K at *
    go_enter Try.func15, Try.ntmps15
    go_wp2_with (first
      | (rw [HW1.out]; go_at_call 44; refine c1c.mono ?_; rintro e w2 ⟨rfl, b2⟩; obtain ⟨-, A2, -, kp2, -⟩ := H1.out w2 b2; have HA2 : Hid (Ar w2 B p gc n q s fv V) := A2; clear A2 c1c))
    refine bodyPost_ret (v := .tuple #[.int .i64 0, .int .i64 801]) (by simp [results, Try.results15, go_sem]) rfl ⟨rfl, kp2, _, _, HA2.out⟩
end Go.Proofs.Ytnpamcgbnimdkaa.DMake
