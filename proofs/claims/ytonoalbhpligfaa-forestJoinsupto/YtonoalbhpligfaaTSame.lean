/- Trees that are the same: contracts of sameAttr, EqualFunc, sameTree and Same. -/
import Derived.Test.YtonoalbhpligfaaTMay
namespace Go.Proofs.Ytonoalbhpligfaa.TSame
open Go.RowKit Go.Proofs.Ytonoalbhpligfaa.TBase Go.Proofs.Ytonoalbhpligfaa.TPure Go.Proofs.Ytonoalbhpligfaa.TMay
set_option linter.unusedVariables false

def ea (x y : ByteArray × ByteArray) : Bool := eqB x.1 y.1 && eqB x.2 y.2
def sa : List (ByteArray × ByteArray) → List (ByteArray × ByteArray) → Bool
  | [], [] => true
  | x :: L, y :: M => ea x y && sa L M
  | _, _ => false
def sm : List T → List T → Bool
  | [], [] => true
  | .mk g s n l :: cs, .mk g' s' n' l' :: ds => (eqB g g' && (eqB s s' && (sa n n' && sm l l'))) && sm cs ds
  | _, _ => false
def s1 (c d : T) : Bool := eqB c.g d.g && (eqB c.s d.s && (sa c.n d.n && sm c.l d.l))
theorem sm_cons (c d : T) (cs ds : List T) : sm (c :: cs) (d :: ds) = (s1 c d && sm cs ds) := by
  obtain ⟨g, s, n, l⟩ := c
  obtain ⟨g', s', n', l'⟩ := d
  rw [sm]
  rfl
theorem sm_nil : sm [] [] = true := by rw [sm]
theorem sa_iff {L M : List (ByteArray × ByteArray)} (h : L.length = M.length) : sa L M = true ↔ ∀ j (h1 : j < L.length) (h2 : j < M.length), ea L[j] M[j] = true := by
  induction L generalizing M with
  | nil =>
    cases M with
    | nil => simp [sa]
    | cons y M => simp at h
  | cons x L ih =>
    cases M with
    | nil => simp at h
    | cons y M =>
      rw [sa, Bool.and_eq_true, ih (by simpa using h)]
      constructor
      · rintro ⟨h1, h2⟩ j hj hk
        cases j with
        | zero => exact h1
        | succ j => exact h2 j (by simpa using hj) (by simpa using hk)
      · intro H
        exact ⟨H 0 (by simp) (by simp), fun j hj hk => H (j + 1) (by simpa using hj) (by simpa using hk)⟩
theorem sa_len {L M : List (ByteArray × ByteArray)} (h : L.length ≠ M.length) : sa L M = false := by
  induction L generalizing M with
  | nil =>
    cases M with
    | nil => simp at h
    | cons y M => rfl
  | cons x L ih =>
    cases M with
    | nil => rfl
    | cons y M =>
      rw [sa, ih (by simpa using h)]
      simp
theorem sm_iff {L M : List T} (h : L.length = M.length) : sm L M = true ↔ ∀ j (h1 : j < L.length) (h2 : j < M.length), s1 L[j] M[j] = true := by
  induction L generalizing M with
  | nil =>
    cases M with
    | nil => simp [sm]
    | cons y M => simp at h
  | cons x L ih =>
    cases M with
    | nil => simp at h
    | cons y M =>
      rw [sm_cons, Bool.and_eq_true, ih (by simpa using h)]
      constructor
      · rintro ⟨h1, h2⟩ j hj hk
        cases j with
        | zero => exact h1
        | succ j => exact h2 j (by simpa using hj) (by simpa using hk)
      · intro H
        exact ⟨H 0 (by simp) (by simp), fun j hj hk => H (j + 1) (by simpa using hj) (by simpa using hk)⟩
theorem sm_len {L M : List T} (h : L.length ≠ M.length) : sm L M = false := by
  induction L generalizing M with
  | nil =>
    cases M with
    | nil => simp at h
    | cons y M => obtain ⟨g, s, n, l⟩ := y; simp [sm]
  | cons x L ih =>
    cases M with
    | nil => obtain ⟨g, s, n, l⟩ := x; simp [sm]
    | cons y M =>
      rw [sm_cons, ih (by simpa using h)]
      simp
theorem sameA_c (x y : ByteArray × ByteArray) (w : World) :
    Calls Try.prog 50 #[.agg #[.string x.1, .string x.2], .agg #[.string y.1, .string y.2]] w fun r w' => r = .returned (.bool (ea x y)) ∧ Below w.heap.size w w' := by
  obtain ⟨x1, x2⟩ := x
  obtain ⟨y1, y2⟩ := y
  have c1 := fun w => cmp_c x1 y1 w
  have c2 := fun w => cmp_c x2 y2 w
  have h1 := cmpB_zero x1 y1
  have h2 := cmpB_zero x2 y2
  unfold ea
  simp only
  generalize cmpB x1 y1 = r1 at *
  generalize cmpB x2 y2 = r2 at *
  generalize eqB x1 y1 = b1 at *
  generalize eqB x2 y2 = b2 at *
  have b0 : Below w.heap.size w ((w.alloc (.cells #[.string x1, .string x2] 39)).alloc (.cells #[.string y1, .string y2] 39)) := bx.alloc (by simp) _
  cases b1 with
  | false =>
    go_enter Try.func50, Try.ntmps50
    go_wp2_with (first | (go_at_call 59; refine (c1 _).mono ?_; rintro e w' ⟨rfl, rfl⟩))
    go_ret
    exact ⟨rfl, b0⟩
  | true =>
    go_enter Try.func50, Try.ntmps50
    go_wp2_with fail
    refine (c1 _).mono ?_
    rintro e w' ⟨rfl, rfl⟩
    go_wp2_with fail
    refine (c2 _).mono ?_
    rintro e w' ⟨rfl, rfl⟩
    go_wp2_with fail
    go_ret
    exact ⟨by simp, b0⟩
set_option maxRecDepth 20000 in
theorem eqAttrs_c (u v : Value) (L M : List (ByteArray × ByteArray)) (w : World) (hu : Ax false All w u L) (hv : Ax false All w v M) :
    Calls Try.prog 49 #[u, v, .func (.func 50) #[] #[]] w fun r w' => r = .returned (.bool (sa L M)) ∧ Below w.heap.size w w' := by
  obtain ⟨a, cap, rfl, hlc, hm, hlen, hsz, hnil, hN⟩ := hu
  obtain ⟨a', cap', rfl, hlc', hm', hlen', hsz', hnil', hN'⟩ := hv
  by_cases hl : L.length = M.length
  · have HI := sa_iff hl
    generalize sa L M = R at *
    have HH : Hid (R = true ↔ ∀ j (h1 : j < L.length) (h2 : j < M.length), ea L[j] M[j] = true) := HI
    have Hl : Hid (L.length = M.length) := hl
    rw [← hl]
    rw [← hl] at hlc' hlen'
    clear HI hsz hsz' hl
    go_enter Try.func49, Try.ntmps49
    go_wp2_with fail
    go_loopw [17] (fun i wr => ∃ q : Nat, q ≤ L.length ∧ i = .int .i64 q ∧ (∀ j (h1 : j < L.length) (h2 : j < M.length), j < q → ea L[j] M[j] = true) ∧ Below w.heap.size w wr) (fun i _ => L.length - (intOf i).toNat)
    case atStart => exact ⟨0, by omega, rfl, fun j _ _ h => by omega, Below.refl _ _⟩
    case round =>
      obtain ⟨q, hq, rfl, hall, hb⟩ := hrel
      have HA : Hid (∀ j (h1 : j < L.length) (h2 : j < M.length), j < q → ea L[j] M[j] = true) := hall
      clear hall
      by_cases hlt : q < L.length
      · have hlt2 : q < M.length := by have := Hl.out; omega
        obtain ⟨g, o, rfl, -, hc, hd⟩ := attr_at hN hlt
        obtain ⟨g', o', rfl, -, hc', hd'⟩ := attr_at hN' hlt2
        have hc := below_cell hc hb
        have hc' := below_cell hc' hb
        have hd := below_cell hd hb
        have hd' := below_cell hd' hb
        have b0 : Below wr.heap.size wr ((wr.alloc (.cells #[.string L[q].1, .string L[q].2] 39)).alloc (.cells #[.string M[q].1, .string M[q].2] 39)) := bx.alloc (by simp) _
        have e0 := two_below (show Two wr g' (o' + q * 2) M[q] from ⟨hc', hd'⟩) (bx (o := .cells #[.string L[q].1, .string L[q].2] 39))
        obtain ⟨e0, e1⟩ := e0
        have c50 := sameA_c L[q] M[q] ((wr.alloc (.cells #[.string L[q].1, .string L[q].2] 39)).alloc (.cells #[.string M[q].1, .string M[q].2] 39))
        obtain ⟨r, hr⟩ : ∃ r, ea L[q] M[q] = r := ⟨_, rfl⟩
        rw [hr] at c50
        have Hr : Hid (ea L[q] M[q] = r) := hr
        clear hr
        cases r with
        | true =>
          go_wp2_with fail
          refine c50.mono ?_
          rintro e w2 ⟨rfl, b2⟩
          go_wp2_with fail
          go_roundw
          case rel =>
            refine ⟨q + 1, by omega, by go_num, fun j h1 h2 hj => ?_, nx (nx hb b0) b2⟩
            by_cases e : j = q
            · subst e
              exact Hr.out
            · exact HA.out j h1 h2 (by omega)
          case measure => simp only [intOf]; omega
        | false =>
          have hR : R = false := by
            cases R with
            | false => rfl
            | true =>
              have := HH.out.1 rfl q hlt hlt2
              rw [Hr.out] at this
              cases this
          subst hR
          clear HH
          go_wp2_with fail
          refine c50.mono ?_
          rintro e w2 ⟨rfl, b2⟩
          go_wp2_with fail
          go_ret
          exact ⟨rfl, nx (nx hb b0) b2⟩
      · have hlt' : decide ((q : Int) < (L.length : Int)) = false := by simp; omega
        have hR : R = true := HH.out.2 fun j h1 h2 => HA.out j h1 h2 (by omega)
        subst hR
        clear HH
        go_wp2_with fail
        go_ret
        exact ⟨rfl, hb⟩
  · rw [sa_len hl]
    have hne : ((L.length : Int) == (M.length : Int)) = false := by simp; omega
    clear hN hN' hsz hsz'
    generalize L.length = n1 at *
    generalize M.length = n2 at *
    go_enter Try.func49, Try.ntmps49
    go_wp2_with fail
    go_ret
    exact ⟨rfl, Below.refl _ _⟩
def Sames (m : Nat) : Prop := ∀ (u v : Value) (c d : T) (w : World), In false All w m u c → In false All w m v d →
    Calls Try.prog 36 #[u, v] w fun e w' => e = .returned (.bool (s1 c d)) ∧ Below w.heap.size w w'
set_option maxRecDepth 20000 in
set_option maxHeartbeats 800000 in
theorem eqTrees_of (m : Nat) (hm : Sames m) (u v : Value) (L M : List T) (w : World) (hu : InL false All w m u L) (hv : InL false All w m v M) :
    Calls Try.prog 35 #[u, v, .func (.func 36) #[] #[]] w fun r w' => r = .returned (.bool (sm L M)) ∧ Below w.heap.size w w' := by
  obtain ⟨a, cap, rfl, hlc, hcm, hlen, hnil, hN⟩ := hu
  obtain ⟨a', cap', rfl, hlc', hcm', hlen', hnil', hN'⟩ := hv
  have Hm : Hid (Sames m) := hm
  clear hm
  by_cases hl : L.length = M.length
  · have HI := sm_iff hl
    generalize sm L M = R at *
    have HH : Hid (R = true ↔ ∀ j (h1 : j < L.length) (h2 : j < M.length), s1 L[j] M[j] = true) := HI
    have Hl : Hid (L.length = M.length) := hl
    rw [← hl]
    rw [← hl] at hlc' hlen'
    clear HI hl
    go_enter Try.func35, Try.ntmps35
    go_wp2_with fail
    go_loopw [17] (fun i wr => ∃ q : Nat, q ≤ L.length ∧ i = .int .i64 q ∧ (∀ j (h1 : j < L.length) (h2 : j < M.length), j < q → s1 L[j] M[j] = true) ∧ Below w.heap.size w wr) (fun i _ => L.length - (intOf i).toNat)
    case atStart => exact ⟨0, by omega, rfl, fun j _ _ h => by omega, Below.refl _ _⟩
    case round =>
      obtain ⟨q, hq, rfl, hall, hb⟩ := hrel
      have HA : Hid (∀ j (h1 : j < L.length) (h2 : j < M.length), j < q → s1 L[j] M[j] = true) := hall
      clear hall
      by_cases hlt : q < L.length
      · have hlt2 : q < M.length := by have := Hl.out; omega
        obtain ⟨g, o, x, rfl, -, hx, hin⟩ := elem_at hN hlt
        obtain ⟨g', o', y, rfl, -, hy, hin'⟩ := elem_at hN' hlt2
        have hx := four_below hx hb
        have hy := four_below hy hb
        have hin := hin.below hb
        have hin' := hin'.below hb
        obtain ⟨x0, x1, x2, x3, rfl, d0, d1, d2, d3⟩ := hx
        obtain ⟨y0, y1, y2, y3, rfl, e0, e1, e2, e3⟩ := hy
        obtain ⟨m1, p1, p2, p3, p4, -, rfl, rfl, rfl, rfl, -, -, -, -⟩ := hin.kinds
        obtain ⟨m2, q1, q2, q3, q4, -, rfl, rfl, rfl, rfl, -, -, -, -⟩ := hin'.kinds
        obtain ⟨O1, hO1⟩ : ∃ O1, Obj.cells #[.string L[q].g, .string L[q].s, .slice p1 L[q].n.length p2, .slice p3 L[q].l.length p4] 37 = O1 := ⟨_, rfl⟩
        have b1 : Below wr.heap.size wr (wr.alloc (.cells #[.string L[q].g, .string L[q].s, .slice p1 L[q].n.length p2, .slice p3 L[q].l.length p4] 37)) := bx
        have b0 : Below wr.heap.size wr ((wr.alloc (.cells #[.string L[q].g, .string L[q].s, .slice p1 L[q].n.length p2, .slice p3 L[q].l.length p4] 37)).alloc (.cells #[.string M[q].g, .string M[q].s, .slice q1 M[q].n.length q2, .slice q3 M[q].l.length q4] 37)) := bx.alloc (by simp) _
        have e0 := below_cell e0 b1
        have e1 := below_cell e1 b1
        have e2 := below_cell e2 b1
        have e3 := below_cell e3 b1
        have c50 := Hm.out _ _ L[q] M[q] _ (hin.below b0) (hin'.below b0)
        clear hin hin' hO1 O1
        obtain ⟨r, hr⟩ : ∃ r, s1 L[q] M[q] = r := ⟨_, rfl⟩
        rw [hr] at c50
        have Hr : Hid (s1 L[q] M[q] = r) := hr
        clear hr
        cases r with
        | true =>
          go_wp2_with fail
          refine c50.mono ?_
          rintro e w2 ⟨rfl, b2⟩
          go_wp2_with fail
          go_roundw
          case rel =>
            refine ⟨q + 1, by omega, by go_num, fun j h1 h2 hj => ?_, nx (nx hb b0) b2⟩
            by_cases e : j = q
            · subst e
              exact Hr.out
            · exact HA.out j h1 h2 (by omega)
          case measure => simp only [intOf]; omega
        | false =>
          have hR : R = false := by
            cases R with
            | false => rfl
            | true =>
              have := HH.out.1 rfl q hlt hlt2
              rw [Hr.out] at this
              cases this
          subst hR
          clear HH
          go_wp2_with fail
          refine c50.mono ?_
          rintro e w2 ⟨rfl, b2⟩
          go_wp2_with fail
          go_ret
          exact ⟨rfl, nx (nx hb b0) b2⟩
      · have hlt' : decide ((q : Int) < (L.length : Int)) = false := by simp; omega
        have hR : R = true := HH.out.2 fun j h1 h2 => HA.out j h1 h2 (by omega)
        subst hR
        clear HH
        go_wp2_with fail
        go_ret
        exact ⟨rfl, hb⟩
  · rw [sm_len hl]
    have hne : ((L.length : Int) == (M.length : Int)) = false := by simp; omega
    clear hN hN' Hm
    generalize L.length = n1 at *
    generalize M.length = n2 at *
    go_enter Try.func35, Try.ntmps35
    go_wp2_with fail
    go_ret
    exact ⟨rfl, Below.refl _ _⟩
theorem same_of (m : Nat) (hm : Sames m) (u v : Value) (L M : List T) (w : World) (hu : InL false All w m u L) (hv : InL false All w m v M) :
    Calls Try.prog 20 #[u, v] w fun r w' => r = .returned (.bool (sm L M)) ∧ Below w.heap.size w w' := by
  have c35 := eqTrees_of m hm u v L M w hu hv
  obtain ⟨a, cap, rfl, -⟩ := hu
  obtain ⟨a', cap', rfl, -⟩ := hv
  generalize L.length = n1 at *
  generalize M.length = n2 at *
  generalize sm L M = R at *
  go_enter Try.func20, Try.ntmps20
  go_wp2_with fail
  refine c35.mono ?_
  rintro e w1 ⟨rfl, b1⟩
  go_wp2_with fail
  go_ret
  exact ⟨rfl, b1⟩
set_option maxHeartbeats 800000 in
theorem tree_of (m : Nat) (hm : ∀ (u v : Value) (L M : List T) (w : World), InL false All w m u L → InL false All w m v M → Calls Try.prog 20 #[u, v] w fun r w' => r = .returned (.bool (sm L M)) ∧ Below w.heap.size w w') : Sames (m + 1) := by
  intro u v c d w hu hv
  obtain ⟨g, s, n, l⟩ := c
  obtain ⟨g', s', n', l'⟩ := d
  rw [in_iff] at hu hv
  obtain ⟨nv, lv, rfl, hg, hs, hn, hl⟩ := hu
  obtain ⟨nv', lv', rfl, -, -, hn', hl'⟩ := hv
  obtain ⟨W0, hW0⟩ : ∃ W0, (w.alloc (.cells #[.string g, .string s, nv, lv] 37)).alloc (.cells #[.string g', .string s', nv', lv'] 37) = W0 := ⟨_, rfl⟩
  have hb0 : Below w.heap.size w W0 := by rw [← hW0]; exact ((Below.refl _ w).alloc (Nat.le_refl _) _).alloc (by simp) _
  have hsz0 : W0.heap.size = w.heap.size + 2 := by rw [← hW0]; simp
  have hx0 : W0.heap[w.heap.size]? = some (.cells #[.string g, .string s, nv, lv] 37) := by
    rw [← hW0, Below.heap_alloc _ _ _ (by simp), heap_alloc_new]
  have hx1 : W0.heap[w.heap.size + 1]? = some (.cells #[.string g', .string s', nv', lv'] 37) := by
    have := heap_alloc_new (w.alloc (.cells #[.string g, .string s, nv, lv] 37)) (.cells #[.string g', .string s', nv', lv'] 37)
    rwa [hW0, World.size_alloc] at this
  have c49 := eqAttrs_c nv nv' n n' W0 (hn.below hb0) (hn'.below hb0)
  have hl2 := hl.below hb0
  have hl2' := hl'.below hb0
  obtain ⟨a1, c1, rfl, -⟩ := hn
  obtain ⟨a2, c2, rfl, -⟩ := hn'
  obtain ⟨a3, c3, rfl, -⟩ := id hl
  obtain ⟨a4, c4, rfl, -⟩ := id hl'
  obtain ⟨d0, d1, d2, d3⟩ := four_box hx0
  obtain ⟨e0, e1, e2, e3⟩ := four_box hx1
  have Hm : Hid (∀ (u v : Value) (L M : List T) (w : World), InL false All w m u L → InL false All w m v M → Calls Try.prog 20 #[u, v] w fun r w' => r = .returned (.bool (sm L M)) ∧ Below w.heap.size w w') := hm
  have e : s1 (.mk g s n l) (.mk g' s' n' l') = ((g.toList == g'.toList) && ((s.toList == s'.toList) && (sa n n' && sm l l'))) := rfl
  rw [e]
  clear e hm hl hl'
  cases h1 : (g.toList == g'.toList) with
  | false =>
    go_enter Try.func36, Try.ntmps36
    go_wp2_with fail
    go_ret
    exact ⟨by simp, hb0⟩
  | true =>
    cases h2 : (s.toList == s'.toList) with
    | false =>
      go_enter Try.func36, Try.ntmps36
      go_wp2_with fail
      go_ret
      exact ⟨by simp, hb0⟩
    | true =>
      cases h3 : sa n n' with
      | false =>
        rw [h3] at c49
        go_enter Try.func36, Try.ntmps36
        go_wp2_with fail
        refine c49.mono ?_
        rintro e w1 ⟨rfl, b1⟩
        go_wp2_with fail
        go_ret
        exact ⟨by simp, nx hb0 b1⟩
      | true =>
        rw [h3] at c49
        obtain ⟨R, hR⟩ : ∃ R, sm l l' = R := ⟨_, rfl⟩
        rw [hR]
        have HR : Hid (sm l l' = R) := hR
        clear hR
        go_enter Try.func36, Try.ntmps36
        go_wp2_with fail
        refine c49.mono ?_
        rintro e w1 ⟨rfl, b1⟩
        have k3 := (four_box ((b1.block w.heap.size (by omega)).trans hx0)).2.2.2
        have j3 := (four_box ((b1.block (w.heap.size + 1) (by omega)).trans hx1)).2.2.2
        have c20 := Hm.out _ _ l l' w1 (hl2.below b1) (hl2'.below b1)
        rw [HR.out] at c20
        clear c49 hx0 hx1 hW0 hl2 hl2'
        go_wp2_with fail
        refine c20.mono ?_
        rintro e w2 ⟨rfl, b2⟩
        go_wp2_with fail
        go_ret
        exact ⟨by simp, nx (nx hb0 b1) b2⟩
theorem samesAll : ∀ m, Sames m := by
  intro m
  induction m with
  | zero => intro u v c d w h; rw [In] at h; exact h.elim
  | succ m ih => exact tree_of m (same_of m ih)
theorem same_c (m : Nat) (u v : Value) (L M : List T) (w : World) (hu : InL false All w m u L) (hv : InL false All w m v M) :
    Calls Try.prog 20 #[u, v] w fun r w' => r = .returned (.bool (sm L M)) ∧ Below w.heap.size w w' := same_of m (samesAll m) u v L M w hu hv
end Go.Proofs.Ytonoalbhpligfaa.TSame
