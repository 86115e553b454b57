/- Resolved expressions that may be: the document's own answer (stencilref15.node, small, Expr). -/
import Derived.Test.YthjbknncbhkinaaGreatDoorKBase
import Derived.Test.YthjbknncbhkinaaGreatDoorSBe
import Derived.Test.YthjbknncbhkinaaGreatDoorSTx
import Derived.Test.YthjbknncbhkinaaGreatDoorKQp
namespace Go.Proofs.YthjbknncbhkinaaGreatDoor.KSh
open Go.RowKit Go.Proofs.YthjbknncbhkinaaGreatDoor.Base Go.Proofs.YthjbknncbhkinaaGreatDoor.EPure Go.Proofs.YthjbknncbhkinaaGreatDoor.KBase
open Go.Proofs.YthjbknncbhkinaaGreatDoor.XBase (four_box two_box frozen_box Rg Four)
open Go.Proofs.YthjbknncbhkinaaGreatDoor.SFit (ne ret_bool Lf lfv)
open Go.Proofs.YthjbknncbhkinaaGreatDoor.STx (tg tmb_c)
set_option linter.unusedVariables false

/-- A resolved leaf that may be. -/
def rlf (o i : Int) (t : ByteArray) : Bool := if o = 6 then t.size == 0 else (i == 0) && tg t
/-- A resolved expression that may be. -/
def rsv (x : Ex) : Bool := decide (0 ≤ SBe.bhL rlf [x] 1024)
set_option maxRecDepth 20000 in
set_option maxHeartbeats 1600000 in
theorem leaf_c : Lf 49 rlf := by
  refine ⟨fun args w => by go_simp, ?_⟩
  intro o i t a n c w ho ht
  have b0 : Below w.heap.size w (w.alloc (.cells #[.int .i64 o, .int .i64 i, .string t, .slice a n c] 24)) := (Below.refl _ w).alloc (Nat.le_refl _) _
  have hne := ne t
  by_cases h6 : o = 6
  · have e : rlf o i t = (t.size == 0) := by unfold rlf; rw [if_pos h6]
    rw [e]
    obtain ⟨z, hz⟩ : ∃ z, (t.size == 0) = z := ⟨_, rfl⟩
    rw [hz] at hne ⊢
    subst h6
    clear e hz ho
    go_enter Tryz.func49, Tryz.ntmps49
    go_wp2_with fail
    go_ret
    exact ⟨ret_bool rfl, b0⟩
  · obtain rfl : o = 5 := by omega
    have e : rlf 5 i t = ((i == 0) && tg t) := rfl
    rw [e]
    have cT := tmb_c t ht (w.alloc (.cells #[.int .i64 5, .int .i64 i, .string t, .slice a n c] 24))
    obtain ⟨z, hz⟩ : ∃ z, tg t = z := ⟨_, rfl⟩
    rw [hz] at cT ⊢
    clear e hz ho h6
    cases hi : (i == 0) with
    | true =>
      rw [Bool.true_and]
      go_enter Tryz.func49, Tryz.ntmps49
      go_wp2_with fail
      refine cT.mono ?_
      rintro e W1 ⟨rfl, b1⟩
      go_wp2_with fail
      go_ret
      exact ⟨rfl, nx b0 b1⟩
    | false =>
      rw [Bool.false_and]
      go_enter Tryz.func49, Tryz.ntmps49
      go_wp2_with fail
      go_ret
      exact ⟨rfl, b0⟩
set_option maxRecDepth 20000 in
theorem resolved_c {m : Nat} {w : World} {v : Value} {x : Ex} (hin : XBase.In false (fun _ => True) w m v x) :
    Calls Tryz.prog 27 #[v] w fun e w' => e = .returned (.bool (rsv x)) ∧ Below w.heap.size w w' := by
  obtain ⟨m', lv, rfl, rfl, -⟩ := hin.shape
  have b0 : Below w.heap.size w (w.alloc (.cells #[.int .i64 x.o, .int .i64 x.i, .string x.s, lv] 24)) := (Below.refl _ w).alloc (Nat.le_refl _) _
  have cB := SBe.tree_c leaf_c (r := 1024) (hin.below b0) (by omega) (by omega)
  obtain ⟨Z, hZ⟩ : ∃ Z, rsv x = Z := ⟨_, rfl⟩
  have hZ' : decide (0 ≤ SBe.bhL rlf [x] 1024) = Z := hZ
  rw [hZ'] at cB
  rw [hZ]
  clear hZ hZ'
  go_enter Tryz.func27, Tryz.ntmps27
  go_wp2_with fail
  refine cB.mono ?_
  rintro e W1 ⟨rfl, b1⟩
  go_wp2_with fail
  go_ret
  exact ⟨rfl, nx b0 b1⟩
/-- The zero expression. -/
def nn (x : Ex) : Bool := (x.o == 0) && ((x.i == 0) && ((x.s.size == 0) && ((x.l.length : Int) == 0)))
/-- A part that may be, whatever its expression. -/
def vOk (c : Pt) : Bool := if c.b = true then c.p.size == 0 else tg c.p && nn c.e
theorem six_new {w : World} (v0 v1 v2 v3 v4 v5 : Value) (t : TypeId) : ∃ W, w.alloc (.cells #[v0, v1, v2, v3, v4, v5] t) = W ∧ Below w.heap.size w W ∧ W.heap.size = w.heap.size + 1 ∧ W.heap[w.heap.size]? = some (.cells #[v0, v1, v2, v3, v4, v5] t (0, 0)) :=
  ⟨_, rfl, (Below.refl _ w).alloc (Nat.le_refl _) _, by simp, heap_alloc_new w _⟩
end Go.Proofs.YthjbknncbhkinaaGreatDoor.KSh

namespace Go.Proofs.YthjbknncbhkinaaGreatDoor.KRe
open Go.RowKit Go.Proofs.YthjbknncbhkinaaGreatDoor.Base Go.Proofs.YthjbknncbhkinaaGreatDoor.UBase Go.Proofs.YthjbknncbhkinaaGreatDoor.UValid Go.Proofs.YthjbknncbhkinaaGreatDoor.EPure Go.Proofs.YthjbknncbhkinaaGreatDoor.KBase Go.Proofs.YthjbknncbhkinaaGreatDoor.KSh
open Go.Proofs.YthjbknncbhkinaaGreatDoor.SFit (kd ret_bool ne)
open Go.Proofs.YthjbknncbhkinaaGreatDoor.STx (tg)
open Go.Proofs.YthjbknncbhkinaaGreatDoor.SBe (bhL bhL_nil bhL_no bhL_one bhL_cons bhL_le)
open Go.Proofs.YthjbknncbhkinaaGreatDoor.XBase (four_box)
set_option linter.unusedVariables false

/-- May a node be, but for its kids? -/
def nd1 (o i : Int) (t : ByteArray) (n : Nat) : Bool := decide ((n : Int) = kd o) && SFit.ft rlf o i t
theorem nd_var (i : Int) (t : ByteArray) (n : Nat) : nd1 6 i t n = ((t.size == 0) && ((n : Int) == 0)) := by
  have e : SFit.ft rlf 6 i t = (t.size == 0) := by unfold SFit.ft rlf; simp
  have k : kd 6 = 0 := by decide
  unfold nd1
  rw [e, k, Bool.and_comm]
  congr 1
theorem nd_str (i : Int) (t : ByteArray) (n : Nat) : nd1 5 i t n = ((i == 0) && (((n : Int) == 0) && tg t)) := by
  have e : SFit.ft rlf 5 i t = ((i == 0) && tg t) := by unfold SFit.ft rlf; simp
  have k : kd 5 = 0 := by decide
  unfold nd1
  rw [e, k]
  have : decide ((n : Int) = 0) = ((n : Int) == 0) := rfl
  rw [this]
  cases (i == 0) <;> cases ((n : Int) == 0) <;> rfl
set_option maxRecDepth 20000 in
set_option maxHeartbeats 1600000 in
theorem node_c {o i : Int} {t : ByteArray} {a : Option Addr} {n c : Nat} (ht : t.size ≤ 140737488351232) (hn : n ≤ 140737488351232) (w : World) :
    Calls Tryz.prog 74 #[.agg #[.int .i64 o, .int .i64 i, .string t, .slice a n c]] w fun e w' => e = .returned (.bool (nd1 o i t n)) ∧ Below w.heap.size w w' := by
  have b0 : Below w.heap.size w (w.alloc (.cells #[.int .i64 o, .int .i64 i, .string t, .slice a n c] 24)) := (Below.refl _ w).alloc (Nat.le_refl _) _
  have hne := ne t
  by_cases h6 : o = 6
  · subst h6
    rw [nd_var]
    suffices H : ∀ (x0 x1 : Bool), t.toList.isEmpty = x0 → ((n : Int) == 0) = x1 → Calls Tryz.prog 74 #[.agg #[.int .i64 6, .int .i64 i, .string t, .slice a n c]] w fun e w' => e = .returned (.bool (x0 && x1)) ∧ Below w.heap.size w w' by
      have := H _ _ rfl rfl
      rw [hne] at this
      exact this
    clear hne
    intro x0 x1 h0 h1
    cases x0
    all_goals
      go_enter Tryz.func74, Tryz.ntmps74
      go_wp2_with fail
      go_ret
      exact ⟨ret_bool rfl, b0⟩
  by_cases h5 : o = 5
  · subst h5
    rw [nd_str]
    have cG := fun W => KQv.good_c t ht W
    obtain ⟨z, hz⟩ : ∃ z, tg t = z := ⟨_, rfl⟩
    rw [hz] at cG ⊢
    clear hz hne h6
    cases h0 : (i == 0) with
    | false =>
      rw [Bool.false_and]
      go_enter Tryz.func74, Tryz.ntmps74
      go_wp2_with fail
      go_ret
      exact ⟨rfl, b0⟩
    | true =>
      rw [Bool.true_and]
      cases h1 : ((n : Int) == 0) with
      | false =>
        rw [Bool.false_and]
        go_enter Tryz.func74, Tryz.ntmps74
        go_wp2_with fail
        go_ret
        exact ⟨rfl, b0⟩
      | true =>
        rw [Bool.true_and]
        go_enter Tryz.func74, Tryz.ntmps74
        go_wp2_with fail
        refine (cG _).mono ?_
        rintro e W1 ⟨rfl, h9⟩
        obtain rfl := h9.symm
        go_wp2_with fail
        go_ret
        exact ⟨rfl, b0⟩
  · have e : nd1 o i t n = KQn.an o i t n := by unfold nd1 KQn.an; rw [KQn.ft_eq h5 h6]
    rw [e]
    have cA := fun W => KQp.alone_c (o := o) (i := i) (t := t) (a := a) (n := n) (c := c) ht h5 h6 W
    have e6 : (o == 6) = false := by simp [h6]
    have e5 : (o == 5) = false := by simp [h5]
    obtain ⟨z, hz⟩ : ∃ z, KQn.an o i t n = z := ⟨_, rfl⟩
    rw [hz] at cA ⊢
    clear e hz hne h5 h6
    go_enter Tryz.func74, Tryz.ntmps74
    go_wp2_with fail
    refine (cA _).mono ?_
    rintro e W1 ⟨rfl, b1⟩
    go_wp2_with fail
    go_ret
    exact ⟨rfl, nx b0 b1⟩
theorem one_no {o i : Int} {s : ByteArray} {l : List Ex} {r : Int} (h : r ≤ 0 ∨ nd1 o i s l.length = false) : bhL rlf [.mk o i s l] r = -1 := by
  refine bhL_no ?_
  rcases h with h | h
  · exact .inl h
  · right
    unfold nd1 at h
    rw [Bool.and_eq_false_iff] at h
    rcases h with h | h
    · left; simpa using h
    · exact .inr h
theorem one_yes {o i : Int} {s : ByteArray} {l : List Ex} {r : Int} (h1 : 0 < r) (h2 : nd1 o i s l.length = true) : bhL rlf [.mk o i s l] r = bhL rlf l (r - 1) := by
  refine bhL_one ?_
  unfold nd1 at h2
  rw [Bool.and_eq_true] at h2
  rintro (h | h | h)
  · omega
  · exact h (by simpa using h2.1)
  · rw [h] at h2
    cases h2.2
/-- What small answers: the room left, if all may be. -/
def SmI (m : Nat) : Prop := ∀ (w : World) (v : Value) (x : Ex) (n : Nat), XBase.In false (fun _ => True) w m v x → n ≤ 1024 →
    Calls Tryz.prog 55 #[v, .int .i64 n] w fun e w' => Below w.heap.size w w' ∧ ∃ (M : Nat) (B : Bool), e = .returned (.tuple #[.int .i64 M, .bool B]) ∧ M ≤ 1024 ∧ (B = true → bhL rlf [x] (1024 - (n : Int)) = 1024 - (M : Int)) ∧ (B = false → bhL rlf [x] (1024 - (n : Int)) < 0)
theorem neg_all (l : List Ex) {r : Int} (h : r = -1) : bhL rlf l r < 0 := by
  have := (bhL_le rlf _ l r (Nat.le_refl _) (by omega)).2
  omega
set_option maxRecDepth 20000 in
set_option maxHeartbeats 1600000 in
theorem small_step (m : Nat) (ih : ∀ m', m' < m → SmI m') : SmI m := by
  intro w v x n hin hn
  have Hih : Hid (∀ m', m' < m → SmI m') := ih
  obtain ⟨m', lv, rfl, rfl, -, -, hs, hl⟩ := hin.shape
  have HIN : Hid (XBase.InL false (fun _ => True) w m' lv x.l) := hl
  obtain ⟨a, cap, rfl, hlc, hcm, hlen, -, -⟩ := hl
  obtain ⟨W0, hW0⟩ : ∃ W0, w.alloc (.cells #[.int .i64 x.o, .int .i64 x.i, .string x.s, .slice a x.l.length cap] 24) = W0 := ⟨_, rfl⟩
  have b0 : Below w.heap.size w W0 := by rw [← hW0]; exact (Below.refl _ w).alloc (Nat.le_refl _) _
  have s0 : W0.heap.size = w.heap.size + 1 := by rw [← hW0]; simp
  have q0 : W0.heap[w.heap.size]? = some (.cells #[.int .i64 x.o, .int .i64 x.i, .string x.s, .slice a x.l.length cap] 24 (0, 0)) := by rw [← hW0]; exact heap_alloc_new w _
  obtain ⟨c0, c1, c2, c3⟩ := four_box q0
  have HB0 : Hid (Below w.heap.size w W0) := b0
  have HQ0 : Hid (W0.heap[w.heap.size]? = some (.cells #[.int .i64 x.o, .int .i64 x.i, .string x.s, .slice a x.l.length cap] 24 (0, 0))) := q0
  have cN := node_c (o := x.o) (i := x.i) (t := x.s) (a := a) (n := x.l.length) (c := cap) hs (by omega) W0
  have hno : ∀ r : Int, (r ≤ 0 ∨ nd1 x.o x.i x.s x.l.length = false) → bhL rlf [x] r = -1 := by
    intro r h
    obtain ⟨o, i, s, l⟩ := x
    exact one_no h
  have hyes : ∀ r : Int, 0 < r → nd1 x.o x.i x.s x.l.length = true → bhL rlf [x] r = bhL rlf x.l (r - 1) := by
    intro r h1 h2
    obtain ⟨o, i, s, l⟩ := x
    exact one_yes h1 h2
  have HNO : Hid (∀ r : Int, (r ≤ 0 ∨ nd1 x.o x.i x.s x.l.length = false) → bhL rlf [x] r = -1) := hno
  have HYES : Hid (∀ r : Int, 0 < r → nd1 x.o x.i x.s x.l.length = true → bhL rlf [x] r = bhL rlf x.l (r - 1)) := hyes
  have HW0 : Hid (w.alloc (.cells #[.int .i64 x.o, .int .i64 x.i, .string x.s, .slice a x.l.length cap] 24) = W0) := hW0
  clear b0 q0 ih hin hno hyes hW0
  by_cases hfull : 1024 ≤ n
  · have d : decide ((1024 : Int) ≤ (n : Int)) = true := by simp; omega
    have HF : Hid (bhL rlf [x] (1024 - (n : Int)) < 0) := by
      show _ < _
      rw [HNO.out _ (.inl (by omega))]
      omega
    clear cN HNO HYES
    go_enter Tryz.func55, Tryz.ntmps55
    go_wp2_with fail
    try rw [HW0.out]
    go_ret2
    exact ⟨HB0.out, n, false, rfl, hn, (fun h => by cases h), fun _ => HF.out⟩
  have d : decide ((1024 : Int) ≤ (n : Int)) = false := by simp; omega
  cases hz : nd1 x.o x.i x.s x.l.length with
  | false =>
    rw [hz] at cN
    have HF : Hid (bhL rlf [x] (1024 - (n : Int)) < 0) := by
      show _ < _
      rw [HNO.out _ (.inr hz)]
      omega
    clear HNO HYES hz
    go_enter Tryz.func55, Tryz.ntmps55
    go_wp2_with fail
    try rw [HW0.out]
    refine cN.mono ?_
    rintro e W1 ⟨rfl, b1⟩
    go_wp2_with fail
    go_ret2
    exact ⟨nx HB0.out b1, n, false, rfl, hn, (fun h => by cases h), fun _ => HF.out⟩
  | true =>
    rw [hz] at cN
    have HY : Hid (bhL rlf [x] (1024 - (n : Int)) = bhL rlf x.l (1024 - ((n + 1 : Nat) : Int))) := by
      show _ = _
      rw [HYES.out _ (by omega) hz]
      congr 1
      omega
    have hw1 : IntKind.i64.wrap ((n : Int) + 1) = (n : Int) + 1 := by rw [IntKind.wrap_i64]; omega
    obtain ⟨T, hT⟩ : ∃ T, bhL rlf [x] (1024 - (n : Int)) = T := ⟨_, rfl⟩
    rw [hT]
    rw [hT] at HY
    obtain ⟨l, hl⟩ : ∃ l, x.l = l := ⟨_, rfl⟩
    rw [hl] at HIN HQ0 HY hlc hlen HW0 c3 ⊢
    rw [hl] at cN
    clear HNO HYES hz hT hl
    go_enter Tryz.func55, Tryz.ntmps55
    go_wp2_with fail
    try rw [HW0.out]
    refine cN.mono ?_
    rintro e W1 ⟨rfl, b1⟩
    have HB1 : Hid (Below w.heap.size w W1) := nx HB0.out b1
    have HQ1 : Hid (W1.heap[w.heap.size]? = some (.cells #[.int .i64 x.o, .int .i64 x.i, .string x.s, .slice a l.length cap] 24 (0, 0))) := (b1.block w.heap.size (by omega)).trans HQ0.out
    clear b1 c0 c1 c2 c3 cN
    go_wp2_with fail
    go_loopw [1, 6, 7] (fun k b i wr => ∃ (q M : Nat) (B : Bool), i = .int .i64 q ∧ k = .int .i64 M ∧ b = .bool B ∧ q ≤ l.length ∧ M ≤ 1024 ∧ (B = true → T = bhL rlf (l.drop q) (1024 - (M : Int))) ∧ (B = false → T < 0) ∧ Below w.heap.size w wr ∧ wr.heap[w.heap.size]? = some (.cells #[.int .i64 x.o, .int .i64 x.i, .string x.s, .slice a l.length cap] 24 (0, 0))) (fun _ _ i _ => l.length - (intOf i).toNat)
    case atStart => exact ⟨0, n + 1, true, rfl, by simp, rfl, by omega, by omega, fun _ => HY.out, (fun h => by cases h), HB1.out, HQ1.out⟩
    case round =>
      clear HY HB1 HQ1 HB0 HQ0 HW0 s0
      obtain ⟨q, M, B, rfl, rfl, rfl, hq, hM, hR1, hR2, hb, hQ⟩ := hrel
      have HB : Hid (Below w.heap.size w wr) := hb
      have HQ : Hid (wr.heap[w.heap.size]? = some (.cells #[.int .i64 x.o, .int .i64 x.i, .string x.s, .slice a l.length cap] 24 (0, 0))) := hQ
      obtain ⟨c0, c1, c2, c3⟩ := four_box hQ
      have HR1 : Hid (B = true → T = bhL rlf (l.drop q) (1024 - (M : Int))) := hR1
      have HR2 : Hid (B = false → T < 0) := hR2
      clear hb hQ hR1 hR2
      by_cases hlt : q < l.length
      · have d0 : decide ((q : Int) < (l.length : Int)) = true := by simp; omega
        cases B with
        | false =>
          have HT : Hid (T < 0) := HR2.out rfl
          clear HR1 HR2
          go_wp2_with fail
          go_ret2
          exact ⟨HB.out, M, false, rfl, hM, (fun h => by cases h), fun _ => HT.out⟩
        | true =>
          have i0 : (0 : Int) ≤ (q : Int) := by omega
          have i1 : (q : Int) < (l.length : Int) := by omega
          have hinl := HIN.out.below HB.out
          obtain ⟨aa, cc, hsl, -, -, -, -, hLA⟩ := hinl
          cases hsl
          obtain ⟨g, of, u, rfl, -, hFour, hInq⟩ := XBase.elem_at hLA hlt
          obtain ⟨u0, u1, u2, u3', rfl, f0, f1, f2, f3⟩ := hFour
          have cS := Hih.out m' (by omega) wr _ _ M hInq hM
          have HD : Hid (T = bhL rlf (l.drop (q + 1)) (bhL rlf [l[q]] (1024 - (M : Int)))) := by
            show _ = _
            rw [HR1.out rfl, List.drop_eq_getElem_cons hlt, bhL_cons]
          obtain ⟨Y, hY⟩ : ∃ Y, bhL rlf [l[q]] (1024 - (M : Int)) = Y := ⟨_, rfl⟩
          rw [hY] at cS HD
          have hYlo : -1 ≤ Y := by rw [← hY]; exact (bhL_le rlf _ _ _ (Nat.le_refl _) (by omega)).1
          clear hLA hInq hY HR1 HR2
          go_wp2_with fail
          refine cS.mono ?_
          rintro e W2 ⟨b2, M2, B2, rfl, hM2, hA, hC⟩
          have HB2 : Hid (Below w.heap.size w W2) := nx HB.out b2
          have HQ2 : Hid _ := (b2.block w.heap.size (Array.getElem?_eq_some_iff.1 HQ.out).1).trans HQ.out
          have HA2 : Hid (B2 = true → T = bhL rlf (l.drop (q + 1)) (1024 - (M2 : Int))) := fun h => by rw [HD.out, hA h]
          have HC2 : Hid (B2 = false → T < 0) := fun h => by rw [HD.out]; exact neg_all _ (by have := hC h; omega)
          clear cS b2 hA hC HD
          go_wp2_with fail
          go_roundw
          case rel => exact ⟨q + 1, M2, B2, by go_num, rfl, rfl, by omega, hM2, HA2.out, HC2.out, HB2.out, HQ2.out⟩
          case measure => simp only [intOf]; omega
      · obtain rfl : q = l.length := by omega
        have d0 : decide ((l.length : Int) < (l.length : Int)) = false := by simp
        have HE : Hid (B = true → T = 1024 - (M : Int)) := fun h => by rw [HR1.out h, List.drop_length, bhL_nil]
        clear HR1
        go_wp2_with fail
        go_ret2
        exact ⟨HB.out, M, B, rfl, hM, HE.out, HR2.out⟩
theorem small_all (m : Nat) : SmI m := by
  induction m using Nat.strongRecOn with
  | _ m ih => exact small_step m ih
set_option maxRecDepth 20000 in
set_option maxHeartbeats 1600000 in
theorem expr_c {m : Nat} {w : World} {v : Value} {x : Ex} (hin : XBase.In false (fun _ => True) w m v x) :
    Calls Tryz.prog 30 #[v] w fun e w' => e = .returned (.bool (rsv x)) ∧ Below w.heap.size w w' := by
  obtain ⟨m', lv, rfl, rfl, -⟩ := hin.shape
  have b0 : Below w.heap.size w (w.alloc (.cells #[.int .i64 x.o, .int .i64 x.i, .string x.s, lv] 24)) := (Below.refl _ w).alloc (Nat.le_refl _) _
  have cS := small_all (m' + 1) _ _ _ 0 (hin.below b0) (by omega)
  have hr : rsv x = decide (0 ≤ bhL rlf [x] (1024 - ((0 : Nat) : Int))) := rfl
  rw [hr]
  obtain ⟨Y, hY⟩ : ∃ Y, bhL rlf [x] (1024 - ((0 : Nat) : Int)) = Y := ⟨_, rfl⟩
  rw [hY] at cS ⊢
  have HB0 : Hid (Below w.heap.size w (w.alloc (.cells #[.int .i64 x.o, .int .i64 x.i, .string x.s, lv] 24))) := b0
  clear hr hY b0
  go_enter Tryz.func30, Tryz.ntmps30
  go_wp2_with fail
  refine cS.mono ?_
  rintro e W1 ⟨b1, M, B, rfl, hM, hA, hC⟩
  have HE : Hid (B = decide (0 ≤ Y)) := by
    show _ = _
    cases B with
    | true => have := hA rfl; symm; exact decide_eq_true (by omega)
    | false => have := hC rfl; symm; exact decide_eq_false (by omega)
  clear hA hC
  go_wp2_with fail
  go_ret
  exact ⟨ret_bool HE.out, nx HB0.out b1⟩
end Go.Proofs.YthjbknncbhkinaaGreatDoor.KRe
