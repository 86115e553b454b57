/- A node placed, or refused: contract of Place. -/
import Derived.Test.YtnpamcgbnimdkaaDMake
import Derived.Test.YtnpamcgbnimdkaaDAsk
namespace Go.Proofs.Ytnpamcgbnimdkaa.DPlace
open Go.RowKit Go.Proofs.Ytnpamcgbnimdkaa.TBase Go.Proofs.Ytnpamcgbnimdkaa.DBase Go.Proofs.Ytnpamcgbnimdkaa.DJoin Go.Proofs.Ytnpamcgbnimdkaa.DLink Go.Proofs.Ytnpamcgbnimdkaa.DNeed Go.Proofs.Ytnpamcgbnimdkaa.DKids Go.Proofs.Ytnpamcgbnimdkaa.DAsk Go.Proofs.Ytnpamcgbnimdkaa.DCell Go.Proofs.Ytnpamcgbnimdkaa.DNew Go.Proofs.Ytnpamcgbnimdkaa.DArena Go.Proofs.Ytnpamcgbnimdkaa.DBuild Go.Proofs.Ytnpamcgbnimdkaa.DMake
set_option linter.unusedVariables false

theorem lk_laB (a : Nat → Nd) (y x k : Nat) (b : Option Nat) : (lk a y x b k).la = if b = none ∧ k = y then some x else (a k).la := by
  have e : (up a x { a x with pa := some y } k).la = (a k).la := by
    unfold up
    split
    · next h => subst h; rfl
    · rfl
  rw [lk, jn_la, jn_la, e]
  simp
theorem Ar.linkB {w w' : World} {B p gc n : Nat} {q : Nat → Int} {s : St} {fv : Value} {V : Nat → Value} (h : Ar w B p gc n q s fv V) {y x : Nat} {b : Option Nat} (hx : x < n) (hc : Cr w' gc n (lk (mp V s.a) y x b)) (hg : w.grownBy w' (some gc)) : Ar w' B p gc n q ⟨lk s.a y x b, s.A, s.L⟩ fv V := by
  have hne := ne_of h.bx h.cr
  refine ⟨Bx.grown h.bx hne hg, by rw [← mp_lk]; exact hc, oi_kp h.bx h.cr h.fr (.of_grown hg), fun k hk => ownA_kp h.bx h.cr (h.ats k hk) (.of_grown hg), h.ds, h.lp, h.lg, h.hn, h.hh, fun k => ?_⟩
  show Ok n (lk s.a y x b k).la
  rw [lk_laB]
  split
  · exact fun j e => by cases e; exact hx
  · exact h.la k
theorem anc_mp (V : Nat → Value) (a : Nat → Nd) (n : Nat) : ∀ (us : List Nat) (o : Option Nat), Anc a n o us → Anc (mp V a) n o us
  | [], o, h => h
  | k :: r, o, h => ⟨h.1, h.2.1, anc_mp V a n r _ h.2.2⟩
/-- Two handles in a row of their own. -/
theorem two_oi (w : World) (y x : Int) : Oi (w.alloc (.cells #[.int .i64 y, .int .i64 x] 3)) w.heap.size (.slice (some ⟨w.heap.size, 0, none⟩) 2 2) [y, x] :=
  ⟨rfl, .inr ⟨w.heap.size, 2, _, rfl, Nat.le_refl _, heap_alloc_new w _, Nat.le_refl _, by unfold maxLen; omega, rfl, rfl⟩⟩
theorem Place_nil (y x b : Int) (w : World) : Calls Try.prog 17 #[.pointer none, .int .i64 y, .int .i64 x, .int .i64 b] w fun e w' => e = .returned (.int .i64 1) ∧ Below w.heap.size w w' := by
  have c48 := ahead_nil (w := w.alloc (.cells #[.int .i64 y, .int .i64 x] 3)) (B := w.heap.size) (by simp) (two_oi w y x) (by simp) b
  have b0 : Below w.heap.size w (w.alloc (.cells #[.int .i64 y, .int .i64 x] 3)) := (Below.refl _ w).alloc (Nat.le_refl _) _
  go_enter Try.func17, Try.ntmps17
  go_wp2_with (first | (go_at_call 48; refine c48.mono ?_; rintro e w1 ⟨rfl, b1⟩))
  go_ret
  exact ⟨rfl, b0.trans b1⟩
/-- What stands ahead may stand there. -/
def ah (a : Nat → Nd) (y : Nat) (b : Option Nat) : Bool := match b with
  | none => true
  | some k => en (a k).pa == (y : Int)
def plC (a : Nat → Nd) (y x : Nat) (b : Option Nat) (us : List Nat) : Int :=
  if tx a y = true then 804 else if x = 0 then 808 else if (a x).pa ≠ none then 805 else if x ∈ us then 807 else if ah a y b = true then 0 else 806
theorem isAh {w : World} {B p gc n : Nat} {q : Nat → Int} {s : St} {fv : Value} {V : Nat → Value} (h : Ar w B p gc n q s fv V) (y : Nat) (b : Option Nat) (hb : Ok n b) : Calls Try.prog 51 #[.pointer (some ⟨p, 0, none⟩), .int .i64 (en b), .int .i64 y] w fun e w' => e = .returned (.bool (ah s.a y b)) ∧ w = w' := by
  cases b with
  | none => exact isAhead_end _ _ _
  | some k => exact isAhead_c h.bx h.cr (hb k rfl) h.hn
set_option maxRecDepth 20000 in
set_option maxHeartbeats 1600000 in
theorem Place_c {w : World} {B p gc n : Nat} {q : Nat → Int} {s : St} {fv : Value} {V : Nat → Value} (har : Ar w B p gc n q s fv V) {y x : Nat} {b : Option Nat} (hy : y < n) (hx : x < n) (hb : Ok n b) (hnd : nd s.a n (DAsk.ask [(y : Int), (x : Int)] (en b)) = 0) {us : List Nat} (hu : Anc s.a n (some y) us) (hus : us.Nodup) (hla : Ok n (lkA s.a y b)) (hq0 : 0 ≤ q 1) (hq1 : q 1 ≤ 4611686018427387904) :
    Calls Try.prog 17 #[.pointer (some ⟨p, 0, none⟩), .int .i64 y, .int .i64 x, .int .i64 (en b)] w fun e w' => e = .returned (.int .i64 (plC s.a y x b us)) ∧ Kp p gc w w' ∧ Ar w' B p gc n (if plC s.a y x b us = 0 then uq q 1 (q 1 + 1) else q) (if plC s.a y x b us = 0 then ⟨lk s.a y x b, s.A, s.L⟩ else s) fv V := by
  have hpl := har.bx.lt
  have hgl := har.cr.lt
  obtain ⟨W1, hW1⟩ : ∃ W1, w.alloc (.cells #[.int .i64 (y : Int), .int .i64 (x : Int)] 3) = W1 := ⟨_, rfl⟩
  have b1 : Below w.heap.size w W1 := by rw [← hW1]; exact (Below.refl _ w).alloc (Nat.le_refl _) _
  have A1 := har.below b1
  have ho : Oi W1 w.heap.size (.slice (some ⟨w.heap.size, 0, none⟩) 2 2) [(y : Int), (x : Int)] := by rw [← hW1]; exact two_oi w y x
  have c48 := ahead_c A1.bx A1.cr A1.hn (B := w.heap.size) hpl hgl b1.size ho (by simp) (en b)
  rw [show nd (mp V s.a) n (DAsk.ask [(y : Int), (x : Int)] (en b)) = nd s.a n (DAsk.ask [(y : Int), (x : Int)] (en b)) from rfl, hnd] at c48
  have HW1 : Hid (w.alloc (.cells #[.int .i64 (y : Int), .int .i64 (x : Int)] 3) = W1) := hW1
  have H2 : Hid (∀ w2, Below w.heap.size W1 w2 → Below w.heap.size w w2 ∧ w2.cell? ⟨p, 0, none⟩ = some (.slice (some ⟨gc, 0, none⟩) n n) ∧ w2.cell? ⟨gc, x * 9 + 4, none⟩ = some (.int .i64 (en (s.a x).pa)) ∧ Calls Try.prog 49 #[.pointer (some ⟨p, 0, none⟩), .int .i64 y] w2 (fun e w' => e = .returned (.bool (tx s.a y)) ∧ w2 = w') ∧ Calls Try.prog 50 #[.pointer (some ⟨p, 0, none⟩), .int .i64 y, .int .i64 x] w2 (fun e w' => e = .returned (.bool (decide (x ∈ us))) ∧ w2 = w') ∧ Calls Try.prog 51 #[.pointer (some ⟨p, 0, none⟩), .int .i64 (en b), .int .i64 y] w2 (fun e w' => e = .returned (.bool (ah s.a y b)) ∧ w2 = w') ∧ Calls Try.prog 52 #[.pointer (some ⟨p, 0, none⟩), .int .i64 y, .int .i64 x, .int .i64 (en b)] w2 (fun e w' => (∃ r, e = .returned r) ∧ Kp p gc w w' ∧ w'.cell? ⟨p, 3, none⟩ = some (.int .i64 (q 1)) ∧ w'.frozen? ⟨p, 3, none⟩ = false ∧ Hid (Ar (w'.setCell ⟨p, 3, none⟩ (.int .i64 (q 1 + 1))) B p gc n (uq q 1 (q 1 + 1)) ⟨lk s.a y x b, s.A, s.L⟩ fv V)) ∧ Hid (Ar w2 B p gc n q s fv V)) := by
    intro w2 b2
    have b3 : Below w.heap.size w w2 := b1.trans b2
    have A2 := har.below b3
    refine ⟨b3, A2.bx.at0, A2.cr.at hx (k := 4) (by omega), isText_c A2.bx A2.cr hy A2.hn, within_c A2.bx A2.cr A2.hn (anc_mp V s.a n us _ hu) hus, isAh A2 y b hb, ?_, A2⟩
    refine (link_c A2.bx A2.cr y x b hy hx hb (by cases b <;> exact hla) A2.hn).mono ?_
    rintro e w' ⟨hr, hc, hg⟩
    have A3 := Ar.linkB A2 hx hc hg
    exact ⟨hr, (Kp.of_below b3).trans (.of_grown hg), Bx.atc A3.bx 1 (by omega), frozen_box A3.bx 3, Ar.cnt A3 1 (by omega) (q 1 + 1)⟩
  clear hW1 b1 A1 ho har hla hu hnd hus
  obtain ⟨eb, heb⟩ : ∃ eb, en b = eb := ⟨_, rfl⟩
  rw [heb] at c48 H2 ⊢
  have HP : Hid (plC s.a y x b us = if tx s.a y = true then 804 else if x = 0 then 808 else if (s.a x).pa ≠ none then 805 else if x ∈ us then 807 else if ah s.a y b = true then 0 else 806) := rfl
  have a48 : True := trivial
  by_cases h1 : tx s.a y = true
  · have hC : plC s.a y x b us = 804 := by rw [HP.out, if_pos h1]
    rw [hC]
    rw [if_neg (by decide), if_neg (by decide)]
    clear hC HP
    go_enter Try.func17, Try.ntmps17
    go_wp2_with (first
      | (rw [HW1.out]; go_at_call 48; refine c48.mono ?_; rintro e w2 ⟨rfl, b2⟩; obtain ⟨b3, k0, k4, c49, c50, c51, c52, HA2⟩ := H2.out w2 b2; rw [h1] at c49; clear c50 c51 c52; clear c48 b2)
      | (go_at_call 49; refine c49.mono ?_; rintro e w3 ⟨rfl, rfl⟩; clear c49))
    go_ret
    exact ⟨rfl, .of_below b3, HA2.out⟩
  · have h1' : tx s.a y = false := by simpa using h1
    by_cases h2 : x = 0
    · have hC : plC s.a y x b us = 808 := by rw [HP.out, if_neg h1, if_pos h2]
      have d2 : ((x : Int) == 0) = true := by simp [h2]
      clear h2
      rw [hC]
      rw [if_neg (by decide), if_neg (by decide)]
      clear hC HP
      go_enter Try.func17, Try.ntmps17
      go_wp2_with (first
        | (rw [HW1.out]; go_at_call 48; refine c48.mono ?_; rintro e w2 ⟨rfl, b2⟩; obtain ⟨b3, k0, k4, c49, c50, c51, c52, HA2⟩ := H2.out w2 b2; rw [h1'] at c49; clear c50 c51 c52; clear c48 b2)
        | (go_at_call 49; refine c49.mono ?_; rintro e w3 ⟨rfl, rfl⟩; clear c49))
      go_ret
      exact ⟨rfl, .of_below b3, HA2.out⟩
    · have d2 : ((x : Int) == 0) = false := by simp; omega
      by_cases h3 : (s.a x).pa ≠ none
      · have hC : plC s.a y x b us = 805 := by rw [HP.out, if_neg h1, if_neg h2, if_pos h3]
        obtain ⟨k, hk⟩ := Option.ne_none_iff_exists'.1 h3
        have ek : ((k : Int) == -1) = false := by simp
        rw [hC]
        rw [if_neg (by decide), if_neg (by decide)]
        clear hC HP
        go_enter Try.func17, Try.ntmps17
        go_wp2_with (first
          | (rw [HW1.out]; go_at_call 48; refine c48.mono ?_; rintro e w2 ⟨rfl, b2⟩; obtain ⟨b3, k0, k4, c49, c50, c51, c52, HA2⟩ := H2.out w2 b2; rw [h1'] at c49; rw [hk, en_some] at k4; clear c50 c51 c52; clear c48 b2)
          | (go_at_call 49; refine c49.mono ?_; rintro e w3 ⟨rfl, rfl⟩; clear c49))
        go_ret
        exact ⟨rfl, .of_below b3, HA2.out⟩
      · have h3' : (s.a x).pa = none := by simpa using h3
        by_cases h4 : x ∈ us
        · have hC : plC s.a y x b us = 807 := by rw [HP.out, if_neg h1, if_neg h2, if_neg h3, if_pos h4]
          have h4' : decide (x ∈ us) = true := decide_eq_true h4
          rw [hC]
          rw [if_neg (by decide), if_neg (by decide)]
          clear hC HP
          go_enter Try.func17, Try.ntmps17
          go_wp2_with (first
            | (rw [HW1.out]; go_at_call 48; refine c48.mono ?_; rintro e w2 ⟨rfl, b2⟩; obtain ⟨b3, k0, k4, c49, c50, c51, c52, HA2⟩ := H2.out w2 b2; rw [h1'] at c49; rw [h3', en_none] at k4; rw [h4'] at c50; clear c51 c52; clear c48 b2)
            | (go_at_call 49; refine c49.mono ?_; rintro e w3 ⟨rfl, rfl⟩; clear c49)
            | (go_at_call 50; refine c50.mono ?_; rintro e w3 ⟨rfl, rfl⟩; clear c50))
          go_ret
          exact ⟨rfl, .of_below b3, HA2.out⟩
        · have h4' : decide (x ∈ us) = false := decide_eq_false h4
          by_cases h5 : ah s.a y b = true
          · have hC : plC s.a y x b us = 0 := by rw [HP.out, if_neg h1, if_neg h2, if_neg h3, if_neg h4, if_pos h5]
            rw [hC]
            rw [if_pos rfl, if_pos rfl]
            clear hC HP
            go_enter Try.func17, Try.ntmps17
            go_wp2_with (first
              | (rw [HW1.out]; go_at_call 48; refine c48.mono ?_; rintro e w2 ⟨rfl, b2⟩; obtain ⟨b3, k0, k4, c49, c50, c51, c52, HA2⟩ := H2.out w2 b2; rw [h1'] at c49; rw [h3', en_none] at k4; rw [h4'] at c50; rw [h5] at c51; clear c48 b2)
              | (go_at_call 49; refine c49.mono ?_; rintro e w3 ⟨rfl, rfl⟩; clear c49)
              | (go_at_call 50; refine c50.mono ?_; rintro e w3 ⟨rfl, rfl⟩; clear c50)
              | (go_at_call 51; refine c51.mono ?_; rintro e w3 ⟨rfl, rfl⟩; clear c51)
              | (go_at_call 52; refine c52.mono ?_; rintro e w5 ⟨⟨r5, rfl⟩, kp5, k5, f5, HA5⟩; clear c52))
            go_ret
            exact ⟨rfl, kp5.trans (.of_grownP (grown_set (World.grownBy.refl _ _) _ _)), HA5.out⟩
          · have hC : plC s.a y x b us = 806 := by rw [HP.out, if_neg h1, if_neg h2, if_neg h3, if_neg h4, if_neg h5]
            have h5' : ah s.a y b = false := by simpa using h5
            rw [hC]
            rw [if_neg (by decide), if_neg (by decide)]
            clear hC HP
            go_enter Try.func17, Try.ntmps17
            go_wp2_with (first
              | (rw [HW1.out]; go_at_call 48; refine c48.mono ?_; rintro e w2 ⟨rfl, b2⟩; obtain ⟨b3, k0, k4, c49, c50, c51, c52, HA2⟩ := H2.out w2 b2; rw [h1'] at c49; rw [h3', en_none] at k4; rw [h4'] at c50; rw [h5'] at c51; clear c52; clear c48 b2)
              | (go_at_call 49; refine c49.mono ?_; rintro e w3 ⟨rfl, rfl⟩; clear c49)
              | (go_at_call 50; refine c50.mono ?_; rintro e w3 ⟨rfl, rfl⟩; clear c50)
              | (go_at_call 51; refine c51.mono ?_; rintro e w3 ⟨rfl, rfl⟩; clear c51))
            go_ret
            exact ⟨rfl, .of_below b3, HA2.out⟩
end Go.Proofs.Ytnpamcgbnimdkaa.DPlace
