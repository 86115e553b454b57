/- Trees that are the same, as the document has it: contract of its Same. -/
import Derived.Test.YtonoalbhpligfaaTSame
import Derived.Test.YtonoalbhpligfaaTAttrs
import Derived.Laws.StructEq
import Derived.Deep.RegionWith
namespace Go.Proofs.Ytonoalbhpligfaa.RSame
open Go.RowKit Go.Proofs.Ytonoalbhpligfaa.TBase Go.Proofs.Ytonoalbhpligfaa.TPure Go.Proofs.Ytonoalbhpligfaa.TMay Go.Proofs.Ytonoalbhpligfaa.TAttrs Go.Proofs.Ytonoalbhpligfaa.TSame
set_option linter.unusedVariables false

def RSames (m : Nat) : Prop := ∀ (u v : Value) (L M : List T) (w : World), InL false All w m u L → InL false All w m v M →
    Calls Try.prog 21 #[u, v] w fun e w' => e = .returned (.bool (sm L M)) ∧ ∃ k, w' = w.drewN k
theorem quiet_k {P : Program} {f : FuncId} {args : Array Value} {w : World} {k a : Nat} {v : Value} (h : Calls P f args (w.drewN (k + a)) fun e w' => e = .returned v ∧ ∃ m, w' = (w.drewN (k + a)).drewN m) :
    Calls P f args (w.drewN (k + a)) fun e w'' => e = .returned v ∧ ∃ n, w'' = w.drewN (k + n) :=
  h.mono fun _ _ ⟨he, m, hm⟩ => ⟨he, a + m, by rw [hm, World.drewN_drewN, Nat.add_assoc]⟩
theorem dB (w : World) (k : Nat) : Below w.heap.size w (w.drewN k) := drewN_below (Below.refl _ _) k
set_option maxRecDepth 20000 in
set_option maxHeartbeats 3200000 in
theorem rsame_of (m : Nat) (ih : ∀ m', m = m' + 1 → RSames m') : RSames m := by
  intro u v L M w hu hv
  obtain ⟨a, cap, rfl, hlc, hcm, hlen, hnil, hN⟩ := hu
  obtain ⟨a', cap', rfl, hlc', hcm', hlen', hnil', hN'⟩ := hv
  have H : Hid (∀ m', m = m' + 1 → RSames m') := ih
  have HN : Hid (LAt false All w m a cap L) := hN
  have HN' : Hid (LAt false All w m a' cap' M) := hN'
  clear ih hN hN'
  by_cases hl : L.length = M.length
  · have HI := sm_iff hl
    generalize sm L M = R at *
    have HH : Hid (R = true ↔ ∀ j (h1 : j < L.length) (h2 : j < M.length), s1 L[j] M[j] = true) := HI
    have Hl : Hid (L.length = M.length) := hl
    rw [← hl]
    rw [← hl] at hlc' hlen'
    clear HI hl
    go_enter Try.func21, Try.ntmps21
    go_wp2_with fail
    go_loopw [5] (fun i wr => ∃ q k : Nat, q ≤ L.length ∧ i = .int .i64 q ∧ (∀ j (h1 : j < L.length) (h2 : j < M.length), j < q → s1 L[j] M[j] = true) ∧ wr = w.drewN k) (fun i _ => L.length - (intOf i).toNat)
    case atStart => exact ⟨0, 0, by omega, rfl, fun j _ _ h => by omega, rfl⟩
    case round =>
      obtain ⟨q, k, hq, rfl, hall, rfl⟩ := hrel
      have HA : Hid (∀ j (h1 : j < L.length) (h2 : j < M.length), j < q → s1 L[j] M[j] = true) := hall
      clear hall
      by_cases hlt : q < L.length
      · have hlt2 : q < M.length := by have := Hl.out; omega
        obtain ⟨g, o, x, rfl, -, hx, hin⟩ := elem_at HN.out hlt
        obtain ⟨g', o', y, rfl, -, hy, hin'⟩ := elem_at HN'.out hlt2
        obtain ⟨x0, x1, x2, x3, rfl, d0, d1, d2, d3⟩ := hx
        obtain ⟨y0, y1, y2, y3, rfl, e0, e1, e2, e3⟩ := hy
        obtain ⟨m1, p1, p2, p3, p4, hm1, rfl, rfl, rfl, rfl, -, -, hna, hla⟩ := hin.kinds
        obtain ⟨m2, q1, q2, q3, q4, hm2, rfl, rfl, rfl, rfl, -, -, hna', hla'⟩ := hin'.kinds
        obtain rfl : m1 = m2 := by omega
        have f0 := fun k => below_cell d0 (dB w k)
        have f1 := fun k => below_cell d1 (dB w k)
        have f2 := fun k => below_cell d2 (dB w k)
        have f3 := fun k => below_cell d3 (dB w k)
        have j0 := fun k => below_cell e0 (dB w k)
        have j1 := fun k => below_cell e1 (dB w k)
        have j2 := fun k => below_cell e2 (dB w k)
        have j3 := fun k => below_cell e3 (dB w k)
        clear d0 d1 d2 d3 e0 e1 e2 e3 hin hin'
        have hs1 : s1 L[q] M[q] = ((L[q].g.toList == M[q].g.toList) && ((L[q].s.toList == M[q].s.toList) && (sa L[q].n M[q].n && sm L[q].l M[q].l))) := rfl
        have c21 := fun k => H.out m1 hm1 _ _ L[q].l M[q].l (w.drewN k) (hla.below (dB w k)) (hla'.below (dB w k))
        obtain ⟨n, hn⟩ : ∃ n, L[q].n = n := ⟨_, rfl⟩
        obtain ⟨n', hn'⟩ : ∃ n, M[q].n = n := ⟨_, rfl⟩
        rw [hn] at hs1 hna f2
        rw [hn'] at hs1 hna' j2
        have Hs1 : Hid (s1 L[q] M[q] = ((L[q].g.toList == M[q].g.toList) && ((L[q].s.toList == M[q].s.toList) && (sa n n' && sm L[q].l M[q].l)))) := hs1
        clear hs1 hn hn' hla hla'
        have hRf : s1 L[q] M[q] = false → R = false := fun h => by
          cases R with
          | false => rfl
          | true =>
            have := HH.out.1 rfl q hlt hlt2
            rw [h] at this
            cases this
        have HRf : Hid (s1 L[q] M[q] = false → R = false) := hRf
        clear hRf
        have F0 := f0 k
        have F1 := f1 k
        have F2 := f2 k
        have J0 := j0 k
        have J1 := j1 k
        have J2 := j2 k
        cases h1 : (L[q].g.toList == M[q].g.toList) with
        | false =>
          have hR : R = false := HRf.out (by rw [Hs1.out, h1]; rfl)
          subst hR
          clear HH HRf
          go_wp2_with fail
          go_quiet (fail)
          go_wp2_with fail
          go_ret
          exact ⟨rfl, k + nq, by simp⟩
        | true =>
          cases h2 : (L[q].s.toList == M[q].s.toList) with
          | false =>
            have hR : R = false := HRf.out (by rw [Hs1.out, h1, h2]; rfl)
            subst hR
            clear HH HRf
            go_wp2_with fail
            go_quiet (fail)
            go_wp2_with fail
            go_ret
            exact ⟨rfl, k + nq, by simp⟩
          | true =>
            by_cases h3 : n.length = n'.length
            · have HI2 := sa_iff h3
              obtain ⟨aa, cc, E1, hk1, hk2, hk3, -, hk5, hNA⟩ := hna
              cases E1
              obtain ⟨aa', cc', E2, hj1, hj2, hj3, -, hj5, hNA'⟩ := hna'
              cases E2
              have HNA : Hid (NAt false All w p1 p2 n) := hNA
              have HNA' : Hid (NAt false All w q1 q2 n') := hNA'
              have H3 : Hid (n.length = n'.length) := h3
              rw [← h3] at j2 J2 hj1 hj3
              obtain ⟨S, hS⟩ : ∃ S, sa n n' = S := ⟨_, rfl⟩
              rw [hS] at HI2
              have HI3 : Hid (S = true ↔ ∀ j (h1 : j < n.length) (h2 : j < n'.length), ea n[j] n'[j] = true) := HI2
              have hsx := Hs1.out
              rw [h1, h2, hS] at hsx
              have Hsx : Hid (s1 L[q] M[q] = (true && (true && (S && sm L[q].l M[q].l)))) := hsx
              clear hNA hNA' h3 HI2 hS hsx Hs1
              go_wp2_with fail
              go_quiet (fail)
              go_wp2_with fail
              go_loopw [6] (fun i wr => ∃ p k2 : Nat, p ≤ n.length ∧ i = .int .i64 p ∧ (∀ j (h1 : j < n.length) (h2 : j < n'.length), j < p → ea n[j] n'[j] = true) ∧ wr = w.drewN k2) (fun i _ => n.length - (intOf i).toNat)
              case atStart => exact ⟨0, k + nq, by omega, rfl, fun j _ _ h => by omega, by first | rfl | rw [World.drewN_drewN]⟩
              case round =>
                obtain ⟨p, k2, hp, rfl, hall2, rfl⟩ := hrel
                have HB : Hid (∀ j (h1 : j < n.length) (h2 : j < n'.length), j < p → ea n[j] n'[j] = true) := hall2
                clear hall2
                have G2 := f2 k2
                have G3 := f3 k2
                have K2 := j2 k2
                have K3 := j3 k2
                by_cases hlp : p < n.length
                · have hlp2 : p < n'.length := by have := H3.out; omega
                  obtain ⟨g1, o1, rfl, -, t0, t1⟩ := attr_at HNA.out hlp
                  obtain ⟨g2, o2, rfl, -, r0, r1⟩ := attr_at HNA'.out hlp2
                  have hea : ea n[p] n'[p] = ((n[p].1.toList == n'[p].1.toList) && (n[p].2.toList == n'[p].2.toList)) := rfl
                  obtain ⟨X1, hX1⟩ : ∃ X, n[p].1 = X := ⟨_, rfl⟩
                  obtain ⟨X2, hX2⟩ : ∃ X, n[p].2 = X := ⟨_, rfl⟩
                  obtain ⟨Y1, hY1⟩ : ∃ X, n'[p].1 = X := ⟨_, rfl⟩
                  obtain ⟨Y2, hY2⟩ : ∃ X, n'[p].2 = X := ⟨_, rfl⟩
                  rw [hX1] at t0 hea
                  rw [hX2] at t1 hea
                  rw [hY1] at r0 hea
                  rw [hY2] at r1 hea
                  have Hea : Hid (ea n[p] n'[p] = ((X1.toList == Y1.toList) && (X2.toList == Y2.toList))) := hea
                  clear hea hX1 hX2 hY1 hY2
                  have hSf : ea n[p] n'[p] = false → R = false := fun h => HRf.out (by
                    have : S = false := by
                      cases S with
                      | false => rfl
                      | true =>
                        have := HI3.out.1 rfl p hlp hlp2
                        rw [h] at this
                        cases this
                    rw [Hsx.out, this]
                    rfl)
                  have HSf : Hid (ea n[p] n'[p] = false → R = false) := hSf
                  clear hSf
                  cases z1 : (X1.toList == Y1.toList) with
                  | false =>
                    have hR : R = false := HSf.out (by rw [Hea.out, z1]; rfl)
                    subst hR
                    clear HH HRf HSf
                    go_wp2_with fail
                    go_quiet (fail)
                    go_wp2_with fail
                    go_ret
                    exact ⟨rfl, k2 + nq, by first | rfl | rw [World.drewN_drewN]⟩
                  | true =>
                    cases z2 : (X2.toList == Y2.toList) with
                    | false =>
                      have hR : R = false := HSf.out (by rw [Hea.out, z1, z2]; rfl)
                      subst hR
                      clear HH HRf HSf
                      go_wp2_with fail
                      go_quiet (fail)
                      go_wp2_with fail
                      go_ret
                      exact ⟨rfl, k2 + nq, by first | rfl | rw [World.drewN_drewN]⟩
                    | true =>
                      go_wp2_with fail
                      go_quiet (fail)
                      go_wp2_with fail
                      go_roundw
                      case rel =>
                        refine ⟨p + 1, k2 + nq, by omega, by go_num, fun j u1 u2 hj => ?_, by first | rfl | rw [World.drewN_drewN]⟩
                        by_cases e : j = p
                        · subst e
                          rw [Hea.out, z1, z2]
                          rfl
                        · exact HB.out j u1 u2 (by omega)
                      case measure => simp only [intOf]; omega
                · have hlp' : decide ((p : Int) < (n.length : Int)) = false := by simp; omega
                  have hS : S = true := HI3.out.2 fun j u1 u2 => HB.out j u1 u2 (by omega)
                  have hsx := Hsx.out
                  rw [hS] at hsx
                  have c21 := fun a => c21 (k2 + a)
                  obtain ⟨Z, hZ⟩ : ∃ Z, sm L[q].l M[q].l = Z := ⟨_, rfl⟩
                  rw [hZ] at c21 hsx
                  have Hsy : Hid (s1 L[q] M[q] = Z) := by rw [hsx]; simp [Hid]
                  clear hS hsx hZ HI3 Hsx
                  cases Z with
                  | true =>
                    go_wp2_with fail
                    go_quiet ((go_at_call 21; exact quiet_k (c21 _)))
                    go_wp2_with fail
                    go_roundw
                    case rel =>
                      refine ⟨q + 1, k2 + nq, by omega, by go_num, fun j u1 u2 hj => ?_, by first | rfl | rw [World.drewN_drewN]⟩
                      by_cases e : j = q
                      · subst e
                        exact Hsy.out
                      · exact HA.out j u1 u2 (by omega)
                    case measure => simp only [intOf]; omega
                  | false =>
                    have hR : R = false := HRf.out Hsy.out
                    subst hR
                    clear HH HRf
                    go_wp2_with fail
                    go_quiet ((go_at_call 21; exact quiet_k (c21 _)))
                    go_wp2_with fail
                    go_ret
                    exact ⟨rfl, k2 + nq, by first | rfl | rw [World.drewN_drewN]⟩
            · have h3' : ((n.length : Int) == (n'.length : Int)) = false := by simp; omega
              have hR : R = false := HRf.out (by rw [Hs1.out, h1, h2, sa_len h3]; rfl)
              subst hR
              clear HH HRf
              go_wp2_with fail
              go_quiet (fail)
              go_wp2_with fail
              go_ret
              exact ⟨rfl, k + nq, by simp⟩
      · have hlt' : decide ((q : Int) < (L.length : Int)) = false := by simp; omega
        have hR : R = true := HH.out.2 fun j h1 h2 => HA.out j h1 h2 (by omega)
        subst hR
        clear HH
        go_wp2_with fail
        go_ret
        exact ⟨rfl, k, rfl⟩
  · rw [sm_len hl]
    have hne : ((L.length : Int) == (M.length : Int)) = false := by simp; omega
    clear HN HN' H
    generalize L.length = n1 at *
    generalize M.length = n2 at *
    go_enter Try.func21, Try.ntmps21
    go_wp2_with fail
    go_ret
    exact ⟨rfl, 0, rfl⟩
theorem rsames : ∀ m, RSames m := by
  intro m
  induction m with
  | zero => exact rsame_of 0 (fun m' h => by omega)
  | succ m ih => exact rsame_of (m + 1) (fun m' h => Nat.succ.inj h ▸ ih)
theorem rsame_c (m : Nat) (u v : Value) (L M : List T) (w : World) (hu : InL false All w m u L) (hv : InL false All w m v M) :
    Calls Try.prog 21 #[u, v] w fun e w' => e = .returned (.bool (sm L M)) ∧ Below w.heap.size w w' :=
  (rsames m u v L M w hu hv).mono fun e w' h => ⟨h.1, by obtain ⟨k, rfl⟩ := h.2; exact dB w k⟩
end Go.Proofs.Ytonoalbhpligfaa.RSame
