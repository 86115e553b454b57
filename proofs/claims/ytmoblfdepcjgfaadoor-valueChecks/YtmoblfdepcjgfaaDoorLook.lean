/- The reference's Check, Depth and Count, over what it says of a value alone. -/
import Derived.Test.YtmoblfdepcjgfaaDoorTally
namespace Go.Proofs.YtmoblfdepcjgfaaDoor.Look
open Go.RowKit Go.Proofs.YtmoblfdepcjgfaaDoor.Base Go.Proofs.YtmoblfdepcjgfaaDoor.Fault Go.Proofs.YtmoblfdepcjgfaaDoor.Walk Go.Proofs.YtmoblfdepcjgfaaDoor.Measure Go.Proofs.YtmoblfdepcjgfaaDoor.Shallow Go.Proofs.YtmoblfdepcjgfaaDoor.Tally
set_option linter.unusedVariables false

/-- The first fault among parts in row, from a number on. -/
def er : Nat → List (Nat × C) → Int
  | _, [] => 0
  | k, (d, c) :: r => if ft c d (k + 1 : Nat) = 0 then er (k + 1) r else ft c d (k + 1 : Nat)
theorem er_ms : ∀ (L : List (Nat × C)) (D k : Nat), (ms D k L).2.2 = er k L := by
  intro L
  induction L with
  | nil => intro D k; rfl
  | cons x r ih =>
    intro D k
    obtain ⟨d, c⟩ := x
    rw [ms, er]
    by_cases e : ft c d (k + 1 : Nat) = 0
    · rw [if_pos e, if_pos e, ih]
    · rw [if_neg e, if_neg e]
theorem er_append : ∀ (A B : List (Nat × C)) (k : Nat), er k (A ++ B) = if er k A = 0 then er (k + A.length) B else er k A := by
  intro A
  induction A with
  | nil => intro B k; simp [er]
  | cons x r ih =>
    intro B k
    obtain ⟨d, c⟩ := x
    rw [List.cons_append, er, er]
    by_cases e : ft c d (k + 1 : Nat) = 0
    · rw [if_pos e, if_pos e, ih, List.length_cons, show k + 1 + r.length = k + (r.length + 1) by omega]
    · rw [if_neg e, if_neg e, if_neg e]
theorem er_len : ∀ (L : List (Nat × C)) (k : Nat), k ≤ 16384 → er k L = 0 → k + L.length ≤ 16384 := by
  intro L
  induction L with
  | nil => intro k h _; simpa using h
  | cons x r ih =>
    intro k h he
    obtain ⟨d, c⟩ := x
    rw [er] at he
    by_cases e : ft c d (k + 1 : Nat) = 0
    · rw [if_pos e] at he
      have := (ft_le e).1
      have := ih (k + 1) (by omega) he
      simp only [List.length_cons]
      omega
    · rw [if_neg e] at he; exact absurd he e
theorem known_c (k : Int) (w : World) : Calls Tryd.prog 56 #[.int .i64 k] w fun e w' => e = .returned (.bool (decide (1 ≤ k ∧ k ≤ 6))) ∧ w = w' := by
  by_cases h1 : 1 ≤ k
  · by_cases h2 : k ≤ 6
    · have e : decide (1 ≤ k ∧ k ≤ 6) = true := decide_eq_true ⟨h1, h2⟩
      rw [e]
      go_enter Tryd.func56, Tryd.ntmps56
      go_wp2_with fail
      go_ret
      exact ⟨rfl, rfl⟩
    · have e : decide (1 ≤ k ∧ k ≤ 6) = false := decide_eq_false (by omega)
      have h2' : decide (k ≤ 6) = false := decide_eq_false h2
      rw [e]
      go_enter Tryd.func56, Tryd.ntmps56
      go_wp2_with fail
      go_ret
      exact ⟨rfl, rfl⟩
  · have e : decide (1 ≤ k ∧ k ≤ 6) = false := decide_eq_false (by omega)
    have h1' : decide (1 ≤ k) = false := decide_eq_false h1
    rw [e]
    go_enter Tryd.func56, Tryd.ntmps56
    go_wp2_with fail
    go_ret
    exact ⟨rfl, rfl⟩
/-- What the reference says of a value alone. -/
def AloneIs : Prop := ∀ (m : Nat) (v : Value) (c : C) (w : World), In false All w m v c → 1 ≤ c.k → c.k ≤ 6 → Calls Tryd.prog 57 #[v] w fun e w' => e = .returned (.bool (fm c)) ∧ Below w.heap.size w w'
def LookIs (m : Nat) : Prop := ∀ (v : Value) (c : C) (k d : Nat) (w : World), In false All w m v c → k ≤ 16384 → d ≤ 25 →
    Calls Tryd.prog 37 #[v, .int .i64 k, .int .i64 d] w fun e w' => (∃ K : Int, e = .returned (.tuple #[.int .i64 K, .int .i64 (er k (pl d c))]) ∧ (er k (pl d c) = 0 → K = ((k + (pl d c).length : Nat) : Int))) ∧ Below w.heap.size w w'
set_option maxRecDepth 20000 in
set_option maxHeartbeats 1600000 in
theorem look_c (AL : AloneIs) : ∀ m, LookIs m := by
  intro m
  induction m with
  | zero => intro v c k d w h; rw [In] at h; exact h.elim
  | succ m ih =>
    intro v c k d w h hk hd
    have hin := h
    obtain ⟨m', nv, lv, hm, rfl, -, -, -, hn, hl⟩ := h.shape
    obtain rfl : m = m' := by omega
    obtain ⟨a2, c2, rfl, hlc, hcm, hlen, hnil, hL⟩ := hl.out
    obtain ⟨a1, c1, rfl, nlc, ncm, nlen, -, nnil, -⟩ := hn.out
    obtain ⟨kk, b, i, s, n, l⟩ := c
    simp only [C.k, C.b, C.i, C.s, C.n, C.l] at *
    have hpl : pl d (.mk kk b i s n l) = (d, .mk kk b i s n l) :: plL (d + 1) l := by rw [pl]
    rw [hpl]
    have her : er k ((d, .mk kk b i s n l) :: plL (d + 1) l) = if ft (.mk kk b i s n l) d (k + 1 : Nat) = 0 then er (k + 1) (plL (d + 1) l) else ft (.mk kk b i s n l) d (k + 1 : Nat) := by rw [er]
    have hft : ft (.mk kk b i s n l) d (k + 1 : Nat) = if 16384 < ((k + 1 : Nat) : Int) then 503 else if 24 < (d : Int) then 502 else if kk < 1 ∨ 6 < kk then 500 else if fm (.mk kk b i s n l) = true then 0 else 501 := rfl
    obtain ⟨W0, hW0⟩ : ∃ W0, w.alloc (.cells #[.int .i64 kk, .bool b, .int .i64 i, .string s, .slice a1 n.length c1, .slice a2 l.length c2] 25) = W0 := ⟨_, rfl⟩
    have b0 : Below w.heap.size w W0 := by rw [← hW0]; exact (Below.refl _ w).alloc (Nat.le_refl _) _
    have hs0 : w.heap.size < W0.heap.size := by rw [← hW0]; simp
    have hx0 : W0.heap[w.heap.size]? = some (.cells #[.int .i64 kk, .bool b, .int .i64 i, .string s, .slice a1 n.length c1, .slice a2 l.length c2] 25 (0, 0)) := by rw [← hW0, heap_alloc_new]
    obtain ⟨k0, k1, k2, k3, k4, k5⟩ := six_box hx0
    by_cases h1 : 16384 ≤ k
    · have e : er k ((d, .mk kk b i s n l) :: plL (d + 1) l) = 503 := by rw [her, show ft (.mk kk b i s n l) d (k + 1 : Nat) = 503 by rw [hft, if_pos (by omega)]]; rfl
      rw [e]
      have h1' : decide ((16384 : Int) ≤ (k : Int)) = true := decide_eq_true (by omega)
      clear her hft e hin hn hl hL
      go_enter Tryd.func37, Tryd.ntmps37
      go_wp2_with fail
      go_ret2
      exact ⟨⟨_, rfl, fun h => by omega⟩, b0⟩
    have h1' : decide ((16384 : Int) ≤ (k : Int)) = false := decide_eq_false (by omega)
    by_cases h2 : 24 < d
    · have e : er k ((d, .mk kk b i s n l) :: plL (d + 1) l) = 502 := by rw [her, show ft (.mk kk b i s n l) d (k + 1 : Nat) = 502 by rw [hft, if_neg (by omega), if_pos (by omega)]]; rfl
      rw [e]
      have h2' : decide ((24 : Int) < (d : Int)) = true := decide_eq_true (by omega)
      clear her hft e hin hn hl hL
      go_enter Tryd.func37, Tryd.ntmps37
      go_wp2_with fail
      go_ret2
      exact ⟨⟨_, rfl, fun h => by omega⟩, b0⟩
    have h2' : decide ((24 : Int) < (d : Int)) = false := decide_eq_false (by omega)
    by_cases h3 : ¬ (1 ≤ kk ∧ kk ≤ 6)
    · have e : er k ((d, .mk kk b i s n l) :: plL (d + 1) l) = 500 := by rw [her, show ft (.mk kk b i s n l) d (k + 1 : Nat) = 500 by rw [hft, if_neg (by omega), if_neg (by omega), if_pos (by omega)]]; rfl
      rw [e]
      have c56 := known_c kk W0
      rw [decide_eq_false h3] at c56
      clear her hft e hin hn hl hL
      go_enter Tryd.func37, Tryd.ntmps37
      go_wp2_with (go_at_call 56; refine c56.mono ?_; rintro e w' ⟨rfl, rfl⟩)
      go_ret2
      exact ⟨⟨_, rfl, fun h => by omega⟩, b0⟩
    have h3 : 1 ≤ kk ∧ kk ≤ 6 := Decidable.of_not_not h3
    have c56 := known_c kk W0
    rw [decide_eq_true h3] at c56
    have c57 := AL _ _ _ W0 (hin.below b0) h3.1 h3.2
    cases h4 : fm (.mk kk b i s n l) with
    | false =>
      have e : er k ((d, .mk kk b i s n l) :: plL (d + 1) l) = 501 := by rw [her, show ft (.mk kk b i s n l) d (k + 1 : Nat) = 501 by rw [hft, if_neg (by omega), if_neg (by omega), if_neg (by omega), h4]; rfl]; rfl
      rw [e]
      rw [h4] at c57
      clear her hft e hin hn hl hL
      go_enter Tryd.func37, Tryd.ntmps37
      go_wp2_with (first
        | (go_at_call 56; refine c56.mono ?_; rintro e w' ⟨rfl, rfl⟩)
        | (go_at_call 57; refine c57.mono ?_; rintro e w1 ⟨rfl, b1⟩))
      go_ret2
      exact ⟨⟨_, rfl, fun h => by omega⟩, nx b0 b1⟩
    | true =>
      have e : er k ((d, .mk kk b i s n l) :: plL (d + 1) l) = er (k + 1) (plL (d + 1) l) := by rw [her, show ft (.mk kk b i s n l) d (k + 1 : Nat) = 0 by rw [hft, if_neg (by omega), if_neg (by omega), if_neg (by omega), h4]; rfl]; rfl
      rw [e]
      rw [h4] at c57
      have HE : Hid (∀ q (hq : q < l.length), er (k + 1) (plL (d + 1) (l.take (q + 1))) = if er (k + 1) (plL (d + 1) (l.take q)) = 0 then er (k + 1 + (plL (d + 1) (l.take q)).length) (pl (d + 1) l[q]) else er (k + 1) (plL (d + 1) (l.take q))) := fun q hq => by
        rw [plL_take _ _ _ hq, er_append]
      have HW : Hid (∀ q, er (k + 1) (plL (d + 1) (l.take q)) ≠ 0 → er (k + 1) (plL (d + 1) l) = er (k + 1) (plL (d + 1) (l.take q))) := fun q hq => by
        conv => lhs; rw [← List.take_append_drop q l, plL_append, er_append, if_neg hq]
      have HN : Hid (∀ q (hq : q < l.length), (plL (d + 1) (l.take (q + 1))).length = (plL (d + 1) (l.take q)).length + (pl (d + 1) l[q]).length) := fun q hq => by
        rw [plL_take _ _ _ hq, List.length_append]
      have HLn : Hid (∀ q, er (k + 1) (plL (d + 1) (l.take q)) = 0 → k + 1 + (plL (d + 1) (l.take q)).length ≤ 16384) := fun q hq => er_len _ _ (by omega) hq
      have HL : Hid (LAt false All w m a2 c2 l) := hL
      have IH : Hid (LookIs m) := ih
      have XA : Hid (∀ w', Below W0.heap.size W0 w' → w'.heap[w.heap.size]? = some (.cells #[.int .i64 kk, .bool b, .int .i64 i, .string s, .slice a1 n.length c1, .slice a2 l.length c2] 25 (0, 0))) := fun w' hb' => (hb'.block _ hs0).trans hx0
      clear her hft e hin hn hl hL ih AL hx0 h4
      go_enter Tryd.func37, Tryd.ntmps37
      go_wp2_with (first
        | (go_at_call 56; refine c56.mono ?_; rintro e w' ⟨rfl, rfl⟩)
        | (go_at_call 57; refine c57.mono ?_; rintro e w1 ⟨rfl, b1⟩; clear k0 k1 k2 k3 k4 k5))
      go_loopw [1, 8] (fun mm ii wr => ∃ q : Nat, q ≤ l.length ∧ ii = .int .i64 q ∧ mm = .int .i64 (k + 1 + (plL (d + 1) (l.take q)).length : Nat) ∧ er (k + 1) (plL (d + 1) (l.take q)) = 0 ∧ Below W0.heap.size W0 wr) (fun mm ii _ => l.length - (intOf ii).toNat)
      case atStart => exact ⟨0, by omega, rfl, by simp [plL], by simp [plL, er], b1⟩
      case round =>
        obtain ⟨q, hq, rfl, rfl, he0, hbr⟩ := hrel
        obtain ⟨k0, k1, k2, k3, k4, k5⟩ := six_box (XA.out wr hbr)
        have hm1 := HLn.out q he0
        by_cases hlt : q < l.length
        · obtain ⟨g, o, x, rfl, -, hx, hin⟩ := elem_at HL.out hlt
          have hx := six_below hx (nx b0 hbr)
          have c37 := IH.out x l[q] (k + 1 + (plL (d + 1) (l.take q)).length) (d + 1) wr (hin.below (nx b0 hbr)) hm1 (by omega)
          obtain ⟨x0, x1, x2, x3, x4, x5, rfl, d0, d1, d2, d3, d4, d5⟩ := hx
          have hE := HE.out q hlt
          rw [if_pos he0] at hE
          have hNq := HN.out q hlt
          have hWq := HW.out (q + 1)
          have hE' : Hid (er (k + 1) (plL (d + 1) (l.take (q + 1))) = er (k + 1 + (plL (d + 1) (l.take q)).length) (pl (d + 1) l[q])) := hE
          have hN' : Hid ((plL (d + 1) (l.take (q + 1))).length = (plL (d + 1) (l.take q)).length + (pl (d + 1) l[q]).length) := hNq
          have hW' : Hid (er (k + 1) (plL (d + 1) (l.take (q + 1))) ≠ 0 → er (k + 1) (plL (d + 1) l) = er (k + 1) (plL (d + 1) (l.take (q + 1)))) := hWq
          clear hE hNq hWq he0 hin
          have hd1 : (0 : Int) ≤ (d : Int) := by omega
          have hd2 : (d : Int) ≤ 24 := by omega
          rw [Int.natCast_add d 1] at c37
          obtain ⟨M, hM⟩ : ∃ M, k + 1 + (plL (d + 1) (l.take q)).length = M := ⟨_, rfl⟩
          have hM' : Hid (k + 1 + (plL (d + 1) (l.take q)).length = M) := hM
          rw [hM] at c37 hm1 ⊢
          clear hM
          go_wp2_with fail
          refine c37.mono ?_
          rintro e w2 ⟨⟨K, rfl, hK⟩, b2⟩
          clear c37 d0 d1 d2 d3 d4 d5 k0 k1 k2 k3 k4 k5
          by_cases hz : er M (pl (d + 1) l[q]) = 0
          · have hKe := hK hz
            clear hK
            rw [hz]
            subst hKe
            have hz' : Hid (er M (pl (d + 1) l[q]) = 0) := hz
            clear hz
            go_wp2_with fail
            go_roundw
            case rel =>
              refine ⟨q + 1, by omega, by go_num, ?_, ?_, nx hbr b2⟩
              · rw [hN'.out, ← hM'.out]; simp; omega
              · rw [hE'.out, hM'.out]; exact hz'.out
            case measure => simp only [intOf]; omega
          · have hne : (er M (pl (d + 1) l[q]) != 0) = true := by simp [hz]
            have hEq : er M (pl (d + 1) l[q]) = er (k + 1) (plL (d + 1) l) := by
              rw [hW'.out (by rw [hE'.out, hM'.out]; exact hz), hE'.out, hM'.out]
            have hEq' : Hid (er M (pl (d + 1) l[q]) = er (k + 1) (plL (d + 1) l)) := hEq
            clear hK hEq
            generalize er M (pl (d + 1) l[q]) = E at *
            go_wp2_with fail
            go_ret2
            refine ⟨⟨K, ?_, fun h => absurd (hEq'.out.trans h) hz⟩, nx b0 (nx hbr b2)⟩
            rw [← hEq'.out]
            rfl
        · obtain rfl : q = l.length := by omega
          rw [List.take_length] at he0 hm1 ⊢
          have HE0 : Hid (er (k + 1) (plL (d + 1) l) = 0) := he0
          have hMh : Hid (∀ x : Nat, x = k + 1 + (plL (d + 1) l).length → (x : Int) = ((k + ((d, C.mk kk b i s n l) :: plL (d + 1) l).length : Nat) : Int)) := fun x hx => by subst hx; simp; omega
          obtain ⟨M, hM⟩ : ∃ M, k + 1 + (plL (d + 1) l).length = M := ⟨_, rfl⟩
          have hfin := hMh.out M hM.symm
          rw [hM] at hm1 ⊢
          have hf : Hid ((M : Int) = ((k + ((d, C.mk kk b i s n l) :: plL (d + 1) l).length : Nat) : Int)) := hfin
          clear hM hfin hMh he0
          go_wp2_with fail
          go_ret2
          exact ⟨⟨_, by rw [HE0.out]; rfl, fun _ => hf.out⟩, nx b0 hbr⟩
end Go.Proofs.YtmoblfdepcjgfaaDoor.Look
