/- What attributes may be: contract of attrsMayBe. -/
import Derived.Test.YtnpamcgbnimdkaaTPure
import Derived.Deep.QuietTactic
import Derived.BigQuiet
namespace Go.Proofs.Ytnpamcgbnimdkaa.TAttrs
open Go.RowKit Go.Proofs.Ytnpamcgbnimdkaa.TBase Go.Proofs.Ytnpamcgbnimdkaa.TPure
set_option linter.unusedVariables false

theorem drewN_below {n : Nat} {w w' : World} (h : Below n w w') (k : Nat) : Below n w (w'.drewN k) := h.trans ⟨rfl, rfl, rfl, by simp, fun _ _ => by simp⟩
theorem aok_no1 {n : List (ByteArray × ByteArray)} {i : Nat} {h : i < n.length} (h1 : UBase.word n[i].1 45 = false) : aok n i h = false := by simp [aok, h1]
theorem aok_no2 {n : List (ByteArray × ByteArray)} {i : Nat} {h : i < n.length} (h1 : tg n[i].2 = false) : aok n i h = false := by simp [aok, h1]
theorem aok_no3 {n : List (ByteArray × ByteArray)} {i : Nat} {h : i + 1 < n.length} (h1 : lt (n[i]'(by omega)).1 n[i + 1].1 = false) : aok n (i + 1) h = false := by simp [aok, h1]
theorem aok_yes0 {n : List (ByteArray × ByteArray)} {h : 0 < n.length} (h1 : UBase.word n[0].1 45 = true) (h2 : tg n[0].2 = true) : aok n 0 h = true := by simp [aok, h1, h2]
theorem aok_yes {n : List (ByteArray × ByteArray)} {i : Nat} {h : i + 1 < n.length} (h1 : UBase.word n[i + 1].1 45 = true) (h2 : tg n[i + 1].2 = true) (h3 : lt (n[i]'(by omega)).1 n[i + 1].1 = true) : aok n (i + 1) h = true := by simp [aok, h1, h2, h3]
set_option maxRecDepth 20000 in
set_option maxHeartbeats 800000 in
theorem attrs_c (v : Value) (n : List (ByteArray × ByteArray)) (w : World) (h : Ax false All w v n) :
    Calls Try.prog 97 #[v] w fun e w' => e = .returned (.bool (attrsOK n)) ∧ Below w.heap.size w w' := by
  obtain ⟨a, cap, rfl, hlc, hm, hlen, hsz, hnil, hN⟩ := h
  go_enter Try.func97, Try.ntmps97
  go_wp2_with fail
  go_loopw [7] (fun i wr => ∃ q : Nat, q ≤ n.length ∧ i = .int .i64 q ∧ (∀ j (h : j < n.length), j < q → aok n j h = true) ∧ Below w.heap.size w wr) (fun i _ => n.length - (intOf i).toNat)
  case atStart => exact ⟨0, by omega, rfl, fun j _ h => by omega, Below.refl _ _⟩
  case round =>
    obtain ⟨q, hq, rfl, hall, hb⟩ := hrel
    by_cases hlt : q < n.length
    · have hn := hsz n[q] (List.getElem_mem hlt)
      obtain ⟨g, o, rfl, -, hc, hd⟩ := attr_at hN hlt
      have hc := below_cell hc hb
      have hd := below_cell hd hb
      have HA : Hid (∀ j (h : j < n.length), j < q → aok n j h = true) := hall
      clear hall
      obtain ⟨x, hx⟩ : ∃ x, n[q].1 = x := ⟨_, rfl⟩
      obtain ⟨y, hy⟩ : ∃ y, n[q].2 = y := ⟨_, rfl⟩
      rw [hx] at hc hn
      rw [hy] at hd hn
      have Hx : Hid (n[q].1 = x) := hx
      have Hy : Hid (n[q].2 = y) := hy
      clear hx hy
      have b0 : Below wr.heap.size wr (wr.alloc (.cells #[.string x, .string y] 95)) := (Below.refl _ _).alloc (Nat.le_refl _) _
      have k0 := (two_box (heap_alloc_new wr (.cells #[.string x, .string y] 95))).1
      have c67 := UWord.tag_c x (by omega) (wr.alloc (.cells #[.string x, .string y] 95))
      have c66 := short_c y (by omega) (wr.alloc (.cells #[.string x, .string y] 95))
      cases e1 : UBase.word x 45 with
      | false =>
        rw [e1] at c67
        go_wp2_with (first | (go_at_call 58; refine c67.mono ?_; rintro e w' ⟨rfl, rfl⟩))
        go_ret
        exact ⟨by rw [attrsOK_false hlt (aok_no1 (by rw [Hx.out]; exact e1))]; rfl, nx hb b0⟩
      | true =>
        rw [e1] at c67
        cases e2 : tg y with
        | false =>
          rw [e2] at c66
          go_wp2_with (first | (go_at_call 58; refine c67.mono ?_; rintro e w' ⟨rfl, rfl⟩) | (go_at_call 59; refine c66.mono ?_; rintro e w1 ⟨rfl, b1⟩))
          go_ret
          exact ⟨by rw [attrsOK_false hlt (aok_no2 (by rw [Hy.out]; exact e2))]; rfl, nx (nx hb b0) b1⟩
        | true =>
          rw [e2] at c66
          cases q with
          | zero =>
            rw [Nat.zero_mul, Nat.add_zero] at hc hd
            go_wp2_with (first | (go_at_call 58; refine c67.mono ?_; rintro e w' ⟨rfl, rfl⟩) | (go_at_call 59; refine c66.mono ?_; rintro e w1 ⟨rfl, b1⟩))
            go_quiet (fail)
            go_wp2_with fail
            go_roundw
            all_goals first
              | (case rel =>
                  refine ⟨1, by omega, by go_num, fun j hj hj1 => ?_, drewN_below (nx (nx hb b0) b1) nq⟩
                  obtain rfl : j = 0 := by omega
                  exact aok_yes0 (by rw [Hx.out]; exact e1) (by rw [Hy.out]; exact e2))
              | (case measure => simp only [intOf]; omega)
          | succ j =>
            obtain ⟨g', o', E, -, hp, -⟩ := attr_at hN (show j < n.length by omega)
            obtain ⟨rfl, rfl⟩ : g = g' ∧ o = o' := by cases E; exact ⟨rfl, rfl⟩
            have hp := below_cell hp (nx hb b0)
            obtain ⟨p, hp'⟩ : ∃ p, (n[j]'(by omega)).1 = p := ⟨_, rfl⟩
            rw [hp'] at hp
            have Hp : Hid ((n[j]'(by omega)).1 = p) := hp'
            clear hp' E
            have hge := cmpB_ge p x
            have c59 := fun w => cmp_c p x w
            generalize cmpB p x = cc at *
            cases e3 : lt p x with
            | false =>
              rw [e3] at hge
              have hge : decide ((0 : Int) ≤ cc) = true := hge
              go_wp2_with (first | (go_at_call 58; refine c67.mono ?_; rintro e w' ⟨rfl, rfl⟩) | (go_at_call 59; refine c66.mono ?_; rintro e w1 ⟨rfl, b1⟩; have hp1 := below_cell hp b1; have k01 := below_cell k0 b1))
              go_quiet ((go_at_call 80; exact Calls.quiet_of_same (c59 _)))
              go_wp2_with fail
              go_ret
              exact ⟨by rw [attrsOK_false hlt (aok_no3 (by rw [Hx.out, Hp.out]; exact e3))]; rfl, drewN_below (nx (nx hb b0) b1) nq⟩
            | true =>
              rw [e3] at hge
              have hge : decide ((0 : Int) ≤ cc) = false := hge
              go_wp2_with (first | (go_at_call 58; refine c67.mono ?_; rintro e w' ⟨rfl, rfl⟩) | (go_at_call 59; refine c66.mono ?_; rintro e w1 ⟨rfl, b1⟩; have hp1 := below_cell hp b1; have k01 := below_cell k0 b1))
              go_quiet ((go_at_call 80; exact Calls.quiet_of_same (c59 _)))
              go_wp2_with fail
              go_roundw
              all_goals first
                | (case rel =>
                    refine ⟨j + 2, by omega, by go_num, fun i hi hi1 => ?_, drewN_below (nx (nx hb b0) b1) nq⟩
                    by_cases ei : i = j + 1
                    · subst ei
                      exact aok_yes (by rw [Hx.out]; exact e1) (by rw [Hy.out]; exact e2) (by rw [Hx.out, Hp.out]; exact e3)
                    · exact HA.out i hi (by omega))
                | (case measure => simp only [intOf]; omega)
    · have hlt' : decide ((q : Int) < (n.length : Int)) = false := by simp; omega
      go_wp2_with fail
      go_ret
      exact ⟨by rw [attrsOK_true fun i hi => hall i hi (by omega)]; rfl, hb⟩
end Go.Proofs.Ytnpamcgbnimdkaa.TAttrs
