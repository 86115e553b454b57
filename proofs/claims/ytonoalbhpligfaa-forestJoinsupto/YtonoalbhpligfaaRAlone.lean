/- What a tree alone may be, as the document has it: contract of Alone. -/
import Derived.Test.YtonoalbhpligfaaTMay
namespace Go.Proofs.Ytonoalbhpligfaa.RAlone
open Go.RowKit Go.Proofs.Ytonoalbhpligfaa.TBase Go.Proofs.Ytonoalbhpligfaa.TPure Go.Proofs.Ytonoalbhpligfaa.TAttrs Go.Proofs.Ytonoalbhpligfaa.TMay
set_option linter.unusedVariables false

set_option maxRecDepth 20000 in
set_option maxHeartbeats 1600000 in
theorem ralone_attrs (g s : ByteArray) (a1 a2 : Option Addr) (c1 c2 n2 : Nat) (n : List (ByteArray × ByteArray)) (w : World) (hg : g.size ≤ 140737488351232) (hge : g.toList.isEmpty = false) (hw : UBase.word g 45 = true) (hse : s.toList.isEmpty = true)
    (h : Ax false All w (.slice a1 n.length c1) n) :
    Calls Try.prog 45 #[.agg #[.string g, .string s, .slice a1 n.length c1, .slice a2 n2 c2]] w fun e w' => e = .returned (.bool (attrsOK n)) ∧ Below w.heap.size w w' := by
  have c58 := UWord.rtag_c g (by omega) (w.alloc (.cells #[.string g, .string s, .slice a1 n.length c1, .slice a2 n2 c2] 37))
  rw [hw] at c58
  obtain ⟨a, cap, E, hlc, hm, hlen, hsz, hnil, hN⟩ := h
  cases E
  go_enter Try.func45, Try.ntmps45
  go_wp2_with (first | (go_at_call 58; refine c58.mono ?_; rintro e w1 ⟨rfl, rfl⟩))
  go_loopw [3] (fun i wr => ∃ q : Nat, q ≤ n.length ∧ i = .int .i64 q ∧ (∀ j (h : j < n.length), j < q → aok n j h = true) ∧ Below (w.heap.size + 1) (w.alloc (.cells #[.string g, .string s, .slice a1 n.length c1, .slice a2 n2 c2] 37)) wr) (fun i _ => n.length - (intOf i).toNat)
  case atStart => exact ⟨0, by omega, rfl, fun j _ h => by omega, Below.refl _ _⟩
  case round =>
    obtain ⟨q, hq, rfl, hall, hb⟩ := hrel
    obtain ⟨x0, x1, x2, x3⟩ := four_box (box_at hb)
    have hbw := below_box hb
    by_cases hlt : q < n.length
    · have hn := hsz n[q] (List.getElem_mem hlt)
      obtain ⟨g1, o, rfl, -, hc, hd⟩ := attr_at hN hlt
      have hc := below_cell hc hbw
      have hd := below_cell hd hbw
      have HA : Hid (∀ j (h : j < n.length), j < q → aok n j h = true) := hall
      clear hall
      obtain ⟨x, hx⟩ : ∃ x, n[q].1 = x := ⟨_, rfl⟩
      obtain ⟨y, hy⟩ : ∃ y, n[q].2 = y := ⟨_, rfl⟩
      rw [hx] at hc hn
      rw [hy] at hd hn
      have Hx : Hid (n[q].1 = x) := hx
      have Hy : Hid (n[q].2 = y) := hy
      clear hx hy
      have c58 := fun w => UWord.rtag_c x (by omega) w
      have c57 := fun w => good_c y (by omega) w
      cases e1 : UBase.word x 45 with
      | false =>
        rw [e1] at c58
        go_wp2_with fail
        go_quiet ((go_at_call 58; exact Calls.quiet_of_same (c58 _)))
        go_wp2_with fail
        go_ret
        exact ⟨by rw [attrsOK_false hlt (aok_no1 (by rw [Hx.out]; exact e1))]; rfl, drewN_below hbw nq⟩
      | true =>
        rw [e1] at c58
        cases e2 : tg y with
        | false =>
          rw [e2] at c57
          go_wp2_with fail
          go_quiet (first | (go_at_call 58; exact Calls.quiet_of_same (c58 _)) | (go_at_call 57; exact Calls.quiet_of_same (c57 _)))
          go_wp2_with fail
          go_ret
          exact ⟨by rw [attrsOK_false hlt (aok_no2 (by rw [Hy.out]; exact e2))]; rfl, drewN_below hbw nq⟩
        | true =>
          rw [e2] at c57
          cases q with
          | zero =>
            rw [Nat.zero_mul, Nat.add_zero] at hc hd
            go_wp2_with fail
            go_quiet (first | (go_at_call 58; exact Calls.quiet_of_same (c58 _)) | (go_at_call 57; exact Calls.quiet_of_same (c57 _)))
            go_wp2_with fail
            go_roundw
            case rel =>
              refine ⟨1, by omega, by go_num, fun j hj hj1 => ?_, drewN_below hb nq⟩
              obtain rfl : j = 0 := by omega
              exact aok_yes0 (by rw [Hx.out]; exact e1) (by rw [Hy.out]; exact e2)
            case measure => simp only [intOf]; omega
          | succ j =>
            obtain ⟨g', o', E, -, hp, -⟩ := attr_at hN (show j < n.length by omega)
            obtain ⟨rfl, rfl⟩ : g1 = g' ∧ o = o' := by cases E; exact ⟨rfl, rfl⟩
            have hp := below_cell hp hbw
            obtain ⟨p, hp'⟩ : ∃ p, (n[j]'(by omega)).1 = p := ⟨_, rfl⟩
            rw [hp'] at hp
            have Hp : Hid ((n[j]'(by omega)).1 = p) := hp'
            clear hp' E
            cases e3 : Op.bytesLess p.toList x.toList with
            | false =>
              go_wp2_with fail
              go_quiet (first | (go_at_call 58; exact Calls.quiet_of_same (c58 _)) | (go_at_call 57; exact Calls.quiet_of_same (c57 _)))
              go_wp2_with fail
              go_ret
              exact ⟨by rw [attrsOK_false hlt (aok_no3 (by rw [Hx.out, Hp.out]; exact e3))]; rfl, drewN_below hbw nq⟩
            | true =>
              go_wp2_with fail
              go_quiet (first | (go_at_call 58; exact Calls.quiet_of_same (c58 _)) | (go_at_call 57; exact Calls.quiet_of_same (c57 _)))
              go_wp2_with fail
              go_roundw
              case rel =>
                refine ⟨j + 2, by omega, by go_num, fun i hi hi1 => ?_, drewN_below hb nq⟩
                by_cases ei : i = j + 1
                · subst ei
                  exact aok_yes (by rw [Hx.out]; exact e1) (by rw [Hy.out]; exact e2) (by rw [Hx.out, Hp.out]; exact e3)
                · exact HA.out i hi (by omega)
              case measure => simp only [intOf]; omega
    · have hlt' : decide ((q : Int) < (n.length : Int)) = false := by simp; omega
      go_wp2_with fail
      go_ret
      exact ⟨by rw [attrsOK_true fun i hi => hall i hi (by omega)]; rfl, hbw⟩
set_option maxHeartbeats 800000 in
theorem ralone_c (m : Nat) (v : Value) (c : T) (w : World) (h : In false All w m v c) :
    Calls Try.prog 45 #[v] w fun e w' => e = .returned (.bool (alone c)) ∧ Below w.heap.size w w' := by
  obtain ⟨m', nv, lv, -, rfl, hg, hs, hn, hl⟩ := h.shape
  have hn0 := hn
  obtain ⟨a1, c1, rfl, hk1, hk2, hk3, -⟩ := hn
  obtain ⟨a2, c2, rfl, hj1, hj2, hj3, -⟩ := hl
  have c57 := good_c c.s (by omega) (w.alloc (.cells #[.string c.g, .string c.s, .slice a1 c.n.length c1, .slice a2 c.l.length c2] 37))
  have c58 := UWord.rtag_c c.g (by omega) (w.alloc (.cells #[.string c.g, .string c.s, .slice a1 c.n.length c1, .slice a2 c.l.length c2] 37))
  have cA := fun h1 h2 h3 => ralone_attrs c.g c.s a1 a2 c1 c2 c.l.length c.n w hg h1 h2 h3 hn0
  unfold alone
  clear hn0 h
  generalize c.n.length = n1 at *
  generalize c.l.length = n2 at *
  generalize UBase.word c.g 45 = b1 at *
  generalize attrsOK c.n = b2 at *
  generalize tg c.s = b3 at *
  generalize c.g = g at *
  generalize c.s = s at *
  have b0 := bx (w := w) (o := .cells #[.string g, .string s, .slice a1 n1 c1, .slice a2 n2 c2] 37)
  cases hge : g.toList.isEmpty with
  | true =>
    rw [if_pos rfl]
    clear cA
    by_cases h1 : n1 = 0
    · subst h1
      by_cases h2 : n2 = 0
      · subst h2
        go_enter Try.func45, Try.ntmps45
        go_wp2_with (first | (go_at_call 57; refine c57.mono ?_; rintro e w1 ⟨rfl, rfl⟩))
        go_ret
        exact ⟨by simp, b0⟩
      · have h2' : ((n2 : Int) == 0) = false := by simp; omega
        go_enter Try.func45, Try.ntmps45
        go_wp2_with fail
        go_ret
        exact ⟨by simp [h2], b0⟩
    · have h1' : ((n1 : Int) == 0) = false := by simp; omega
      go_enter Try.func45, Try.ntmps45
      go_wp2_with fail
      go_ret
      exact ⟨by simp [h1], b0⟩
  | false =>
    rw [if_neg (by simp)]
    cases b1 with
    | false =>
      clear cA
      go_enter Try.func45, Try.ntmps45
      go_wp2_with (first | (go_at_call 58; refine c58.mono ?_; rintro e w1 ⟨rfl, rfl⟩))
      go_ret
      exact ⟨by simp, b0⟩
    | true =>
      cases hse : s.toList.isEmpty with
      | false =>
        clear cA
        go_enter Try.func45, Try.ntmps45
        go_wp2_with (first | (go_at_call 58; refine c58.mono ?_; rintro e w1 ⟨rfl, rfl⟩))
        go_ret
        exact ⟨by simp, b0⟩
      | true => exact cA hge rfl hse
end Go.Proofs.Ytonoalbhpligfaa.RAlone
