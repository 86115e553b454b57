/- Which expressions, parts and rows of parts may be (package shape). -/
import Derived.Test.YtenhljiibfdckaaKBase
import Derived.Test.YtenhljiibfdckaaSBe
import Derived.Test.YtenhljiibfdckaaSTx
namespace Go.Proofs.Ytenhljiibfdckaa.KSh
open Go.RowKit Go.Proofs.Ytenhljiibfdckaa.Base Go.Proofs.Ytenhljiibfdckaa.EPure Go.Proofs.Ytenhljiibfdckaa.KBase
open Go.Proofs.Ytenhljiibfdckaa.XBase (four_box two_box frozen_box Rg Four)
open Go.Proofs.Ytenhljiibfdckaa.SFit (ne ret_bool Lf lfv)
open Go.Proofs.Ytenhljiibfdckaa.STx (tg tmb_c)
set_option linter.unusedVariables false

/-- A resolved leaf that may be. -/
def rlf (o i : Int) (t : ByteArray) : Bool := if o = 6 then t.size == 0 else (i == 0) && tg t
/-- A resolved expression that may be. -/
def rsv (x : Ex) : Bool := decide (0 ≤ SBe.bhL rlf [x] 1024)
set_option maxRecDepth 20000 in
set_option maxHeartbeats 1600000 in
theorem leaf_c : Lf 58 rlf := by
  refine ⟨fun args w => by go_simp, ?_⟩
  intro o i t a n c w ho ht
  have b0 : Below w.heap.size w (w.alloc (.cells #[.int .i64 o, .int .i64 i, .string t, .slice a n c] 35)) := (Below.refl _ w).alloc (Nat.le_refl _) _
  have hne := ne t
  by_cases h6 : o = 6
  · have e : rlf o i t = (t.size == 0) := by unfold rlf; rw [if_pos h6]
    rw [e]
    obtain ⟨z, hz⟩ : ∃ z, (t.size == 0) = z := ⟨_, rfl⟩
    rw [hz] at hne ⊢
    subst h6
    clear e hz ho
    go_enter Try.func58, Try.ntmps58
    go_wp2_with fail
    go_ret
    exact ⟨ret_bool rfl, b0⟩
  · obtain rfl : o = 5 := by omega
    have e : rlf 5 i t = ((i == 0) && tg t) := rfl
    rw [e]
    have cT := tmb_c t ht (w.alloc (.cells #[.int .i64 5, .int .i64 i, .string t, .slice a n c] 35))
    obtain ⟨z, hz⟩ : ∃ z, tg t = z := ⟨_, rfl⟩
    rw [hz] at cT ⊢
    clear e hz ho h6
    cases hi : (i == 0) with
    | true =>
      rw [Bool.true_and]
      go_enter Try.func58, Try.ntmps58
      go_wp2_with fail
      refine cT.mono ?_
      rintro e W1 ⟨rfl, b1⟩
      go_wp2_with fail
      go_ret
      exact ⟨rfl, nx b0 b1⟩
    | false =>
      rw [Bool.false_and]
      go_enter Try.func58, Try.ntmps58
      go_wp2_with fail
      go_ret
      exact ⟨rfl, b0⟩
set_option maxRecDepth 20000 in
theorem resolved_c {m : Nat} {w : World} {v : Value} {x : Ex} (hin : XBase.In false (fun _ => True) w m v x) :
    Calls Try.prog 48 #[v] w fun e w' => e = .returned (.bool (rsv x)) ∧ Below w.heap.size w w' := by
  obtain ⟨m', lv, rfl, rfl, -⟩ := hin.shape
  have b0 : Below w.heap.size w (w.alloc (.cells #[.int .i64 x.o, .int .i64 x.i, .string x.s, lv] 35)) := (Below.refl _ w).alloc (Nat.le_refl _) _
  have cB := SBe.tree_c leaf_c (r := 1024) (hin.below b0) (by omega) (by omega)
  obtain ⟨Z, hZ⟩ : ∃ Z, rsv x = Z := ⟨_, rfl⟩
  have hZ' : decide (0 ≤ SBe.bhL rlf [x] 1024) = Z := hZ
  rw [hZ'] at cB
  rw [hZ]
  clear hZ hZ'
  go_enter Try.func48, Try.ntmps48
  go_wp2_with fail
  refine cB.mono ?_
  rintro e W1 ⟨rfl, b1⟩
  go_wp2_with fail
  go_ret
  exact ⟨rfl, nx b0 b1⟩
/-- The zero expression. -/
def nn (x : Ex) : Bool := (x.o == 0) && ((x.i == 0) && ((x.s.size == 0) && ((x.l.length : Int) == 0)))
set_option maxRecDepth 20000 in
set_option maxHeartbeats 1600000 in
theorem none_c {w : World} {x : Ex} {a : Option Addr} {cap : Nat} (hl : x.l.length ≤ 140737488351232) :
    Calls Try.prog 65 #[.agg #[.int .i64 x.o, .int .i64 x.i, .string x.s, .slice a x.l.length cap]] w fun e w' => e = .returned (.bool (nn x)) ∧ Below w.heap.size w w' := by
  have b0 : Below w.heap.size w (w.alloc (.cells #[.int .i64 x.o, .int .i64 x.i, .string x.s, .slice a x.l.length cap] 35)) := (Below.refl _ w).alloc (Nat.le_refl _) _
  unfold nn
  have hne := ne x.s
  obtain ⟨o, ho⟩ : ∃ o, x.o = o := ⟨_, rfl⟩
  obtain ⟨i, hi⟩ : ∃ i, x.i = i := ⟨_, rfl⟩
  obtain ⟨s, hs⟩ : ∃ s, x.s = s := ⟨_, rfl⟩
  obtain ⟨n, hn⟩ : ∃ n, x.l.length = n := ⟨_, rfl⟩
  rw [ho, hi, hs, hn] at b0
  rw [hn] at hl
  rw [hs] at hne
  rw [ho, hi, hs, hn]
  clear ho hi hs hn
  suffices H : ∀ (x0 x1 x2 x3 : Bool), (o == 0) = x0 → (i == 0) = x1 → s.toList.isEmpty = x2 → ((n : Int) == 0) = x3 → Calls Try.prog 65 #[.agg #[.int .i64 o, .int .i64 i, .string s, .slice a n cap]] w fun e w' => e = .returned (.bool (x0 && (x1 && (x2 && x3)))) ∧ Below w.heap.size w w' by
    have := H _ _ _ _ rfl rfl rfl rfl
    rw [hne] at this
    exact this
  clear hne
  intro x0 x1 x2 x3 h0 h1 h2 h3
  cases x0
  all_goals try cases x1
  all_goals try cases x2
  all_goals
    go_enter Try.func65, Try.ntmps65
    go_wp2_with fail
    go_ret
    exact ⟨ret_bool rfl, b0⟩
/-- A part that may be, whatever its expression. -/
def vOk (c : Pt) : Bool := if c.b = true then c.p.size == 0 else tg c.p && nn c.e
theorem six_new {w : World} (v0 v1 v2 v3 v4 v5 : Value) (t : TypeId) : ∃ W, w.alloc (.cells #[v0, v1, v2, v3, v4, v5] t) = W ∧ Below w.heap.size w W ∧ W.heap.size = w.heap.size + 1 ∧ W.heap[w.heap.size]? = some (.cells #[v0, v1, v2, v3, v4, v5] t (0, 0)) :=
  ⟨_, rfl, (Below.refl _ w).alloc (Nat.le_refl _) _, by simp, heap_alloc_new w _⟩
set_option maxRecDepth 20000 in
set_option maxHeartbeats 1600000 in
theorem value_c {w : World} {u : Value} {c : Pt} {S : Nat → Prop} {r : Bool} (hin : InP r S w u c) :
    Calls Try.prog 60 #[u] w fun e w' => e = .returned (.bool (vOk c)) ∧ Below w.heap.size w w' := by
  obtain ⟨m, e0, e1, e2, e3, rfl, hp, hx⟩ := hin
  obtain ⟨m', a, cap, rfl, rfl, rfl, rfl, rfl, -, -, -, hl⟩ := hx.kinds
  obtain ⟨aa, cc, hsl, -, -, hl, -, -⟩ := hl
  cases hsl
  obtain ⟨p, b, x⟩ := c
  dsimp only at hp hx hl ⊢
  obtain ⟨W0, hW0, b0, hs0, q0⟩ := six_new (w := w) (.string p) (.bool b) (.int .i64 x.o) (.int .i64 x.i) (.string x.s) (.slice a x.l.length cap) 44
  obtain ⟨k0, k1, k2, k3, k4, k5⟩ := six_box q0
  have HB0 : Hid (Below w.heap.size w W0) := b0
  have HQ0 : Hid (W0.heap[w.heap.size]? = some (.cells #[.string p, .bool b, .int .i64 x.o, .int .i64 x.i, .string x.s, .slice a x.l.length cap] 44 (0, 0))) := q0
  have hne := ne p
  clear b0 q0 hx
  cases b with
  | true =>
    have e : vOk ⟨p, true, x⟩ = (p.size == 0) := rfl
    rw [e]
    obtain ⟨z, hz⟩ : ∃ z, (p.size == 0) = z := ⟨_, rfl⟩
    rw [hz] at hne ⊢
    clear e hz
    go_enter Try.func60, Try.ntmps60
    go_wp2_with fail
    try rw [hW0]
    go_ret
    exact ⟨ret_bool rfl, HB0.out⟩
  | false =>
    have e : vOk ⟨p, false, x⟩ = (tg p && nn x) := rfl
    rw [e]
    have cT := tmb_c p hp W0
    have cN := fun W => none_c (w := W) (x := x) (a := a) (cap := cap) (by omega)
    obtain ⟨y, hy⟩ : ∃ y, nn x = y := ⟨_, rfl⟩
    rw [hy] at cN ⊢
    clear e hy
    cases hz : tg p with
    | true =>
      rw [hz] at cT
      rw [Bool.true_and]
      go_enter Try.func60, Try.ntmps60
      go_wp2_with fail
      try rw [hW0]
      refine cT.mono ?_
      rintro e W1 ⟨rfl, b1⟩
      obtain ⟨j0, j1, j2, j3, j4, j5⟩ := six_box ((b1.block w.heap.size (by omega)).trans HQ0.out)
      have HB1 : Hid (Below w.heap.size w W1) := nx HB0.out b1
      clear b1 cT
      go_wp2_with fail
      refine (cN _).mono ?_
      rintro e W2 ⟨rfl, b2⟩
      have HB2 : Hid (Below w.heap.size w W2) := nx HB1.out b2
      clear b2
      go_wp2_with fail
      go_ret
      exact ⟨rfl, HB2.out⟩
    | false =>
      rw [hz] at cT
      rw [Bool.false_and]
      go_enter Try.func60, Try.ntmps60
      go_wp2_with fail
      try rw [hW0]
      refine cT.mono ?_
      rintro e W1 ⟨rfl, b1⟩
      have HB1 : Hid (Below w.heap.size w W1) := nx HB0.out b1
      clear b1 cT
      go_wp2_with fail
      go_ret
      exact ⟨rfl, HB1.out⟩
end Go.Proofs.Ytenhljiibfdckaa.KSh
