/- The reference's Check, Depth and Count: contracts. -/
import Derived.Test.YtmoblfdepcjgfaaDoorLook
namespace Go.Proofs.YtmoblfdepcjgfaaDoor.RMeasure
open Go.RowKit Go.Proofs.YtmoblfdepcjgfaaDoor.Base Go.Proofs.YtmoblfdepcjgfaaDoor.Fault Go.Proofs.YtmoblfdepcjgfaaDoor.Walk Go.Proofs.YtmoblfdepcjgfaaDoor.Measure Go.Proofs.YtmoblfdepcjgfaaDoor.Shallow Go.Proofs.YtmoblfdepcjgfaaDoor.Tally Go.Proofs.YtmoblfdepcjgfaaDoor.Look
set_option linter.unusedVariables false

theorem depL_append (a b : List C) : depL (a ++ b) = max (depL a) (depL b) := by
  induction a with
  | nil => simp [depL]
  | cons c cs ih => rw [List.cons_append, depL_cons, depL_cons, ih]; omega
theorem depL_take (l : List C) (q : Nat) (h : q < l.length) : depL (l.take (q + 1)) = max (depL (l.take q)) (dep l[q]) := by
  rw [List.take_add_one, List.getElem?_eq_getElem h, depL_append]
  show max _ (depL [l[q]]) = _
  rw [depL_cons, show depL [] = 0 by rw [depL]]
  omega
theorem mx_dep (n : Nat) : (∀ c, dep c ≤ n → mx (pl 1 c) = dep c) ∧ (∀ l, depL l ≤ n → mx (plL 1 l) = depL l) := by
  induction n with
  | zero =>
    refine ⟨fun c h => ?_, fun l h => ?_⟩
    · obtain ⟨k, b, i, s, n, l⟩ := c
      simp [dep] at h
    · cases l with
      | nil => simp [plL, mx, depL]
      | cons c cs =>
        obtain ⟨k, b, i, s, n, l⟩ := c
        simp [depL] at h
  | succ m ih =>
    have h1 : ∀ c, dep c ≤ m + 1 → mx (pl 1 c) = dep c := by
      intro c h
      rw [deep_all]
      obtain ⟨k, b, i, s, n, l⟩ := c
      rw [dep] at h ⊢
      show mx (plL 1 l) + 1 = _
      rw [ih.2 l (by omega)]
    refine ⟨h1, fun l => ?_⟩
    induction l with
    | nil => intro _; simp [plL, mx, depL]
    | cons c cs ihc =>
      intro h
      rw [depL_cons] at h ⊢
      rw [plL_cons, mx_append, h1 c (by omega), ihc (by omega)]
theorem mx_pl (c : C) : mx (pl 1 c) = dep c := (mx_dep _).1 c (Nat.le_refl _)
def DeepIs (m : Nat) : Prop := ∀ (v : Value) (c : C) (w : World), In false All w m v c → dep c ≤ 4096 → Calls Tryd.prog 38 #[v] w fun e w' => e = .returned (.int .i64 (dep c : Nat)) ∧ Below w.heap.size w w'
set_option maxRecDepth 20000 in
set_option maxHeartbeats 1600000 in
theorem deep_c : ∀ m, DeepIs m := by
  intro m
  induction m with
  | zero => intro v c w h; rw [In] at h; exact h.elim
  | succ m ih =>
    intro v c w h hdep
    obtain ⟨m', nv, lv, hm, rfl, -, -, -, hn, hl⟩ := h.shape
    obtain rfl : m = m' := by omega
    obtain ⟨a2, c2, rfl, hlc, hcm, hlen, hnil, hL⟩ := hl.out
    obtain ⟨a1, c1, rfl, nlc, ncm, nlen, -, nnil, -⟩ := hn.out
    obtain ⟨kk, b, i, s, n, l⟩ := c
    simp only [C.k, C.b, C.i, C.s, C.n, C.l] at *
    have hD : dep (.mk kk b i s n l) = depL l + 1 := by rw [dep]
    rw [hD] at hdep ⊢
    have HT : Hid (∀ q (h : q < l.length), depL (l.take (q + 1)) = max (depL (l.take q)) (dep l[q])) := depL_take l
    have HM : Hid (∀ q, depL (l.take q) ≤ depL l) := fun q => by
      conv => rhs; rw [← List.take_append_drop q l, depL_append]
      omega
    have HE : Hid (∀ q (h : q < l.length), dep l[q] ≤ depL l) := fun q hq => (depL_le (l := l) (q := depL l)).1 (Nat.le_refl _) q hq
    obtain ⟨W0, hW0⟩ : ∃ W0, w.alloc (.cells #[.int .i64 kk, .bool b, .int .i64 i, .string s, .slice a1 n.length c1, .slice a2 l.length c2] 25) = W0 := ⟨_, rfl⟩
    have b0 : Below w.heap.size w W0 := by rw [← hW0]; exact (Below.refl _ w).alloc (Nat.le_refl _) _
    have hs0 : w.heap.size < W0.heap.size := by rw [← hW0]; simp
    have hx0 : W0.heap[w.heap.size]? = some (.cells #[.int .i64 kk, .bool b, .int .i64 i, .string s, .slice a1 n.length c1, .slice a2 l.length c2] 25 (0, 0)) := by rw [← hW0, heap_alloc_new]
    have HL : Hid (LAt false All w m a2 c2 l) := hL
    have IH : Hid (DeepIs m) := ih
    have XA : Hid (∀ w', Below W0.heap.size W0 w' → w'.heap[w.heap.size]? = some (.cells #[.int .i64 kk, .bool b, .int .i64 i, .string s, .slice a1 n.length c1, .slice a2 l.length c2] 25 (0, 0))) := fun w' hb' => (hb'.block _ hs0).trans hx0
    clear hn hl hL ih hx0 hD h
    go_enter Tryd.func38, Tryd.ntmps38
    go_wp2_with fail
    go_loopw [3, 4] (fun mm ii wr => ∃ q : Nat, q ≤ l.length ∧ ii = .int .i64 q ∧ mm = .int .i64 (depL (l.take q) : Nat) ∧ Below W0.heap.size W0 wr) (fun mm ii _ => l.length - (intOf ii).toNat)
    case atStart => exact ⟨0, by omega, rfl, by simp [depL], Below.refl _ _⟩
    case round =>
      obtain ⟨q, hq, rfl, rfl, hbr⟩ := hrel
      obtain ⟨k0, k1, k2, k3, k4, k5⟩ := six_box (XA.out wr hbr)
      have hm1 := HM.out q
      by_cases hlt : q < l.length
      · obtain ⟨g, o, x, rfl, -, hx, hin⟩ := elem_at HL.out hlt
        have hx := six_below hx (nx b0 hbr)
        have hel := HE.out q hlt
        have c38 := IH.out x l[q] wr (hin.below (nx b0 hbr)) (by omega)
        obtain ⟨x0, x1, x2, x3, x4, x5, rfl, d0, d1, d2, d3, d4, d5⟩ := hx
        have hT' : Hid (depL (l.take (q + 1)) = max (depL (l.take q)) (dep l[q])) := HT.out q hlt
        generalize depL (l.take q) = A at *
        generalize dep l[q] = B at *
        clear hin
        go_wp2_with fail
        refine c38.mono ?_
        rintro e w2 ⟨rfl, b2⟩
        clear c38 d0 d1 d2 d3 d4 d5 k0 k1 k2 k3 k4 k5
        go_wp2_with fail
        go_roundw
        case rel => exact ⟨q + 1, by omega, by go_num, by rw [hT'.out]; go_num, nx hbr b2⟩
        case measure => simp only [intOf]; omega
      · obtain rfl : q = l.length := by omega
        rw [List.take_length] at hm1 ⊢
        obtain ⟨A, hA⟩ : ∃ A, depL l = A := ⟨_, rfl⟩
        have hA' : Hid (depL l = A) := hA
        rw [hA] at hdep hm1 ⊢
        clear hA
        go_wp2_with fail
        go_ret
        exact ⟨by rw [hA'.out]; simp, nx b0 hbr⟩
set_option maxRecDepth 20000 in
theorem rcheck_c (AL : AloneIs) {m : Nat} {v : Value} {c : C} {w : World} (h : In false All w m v c) :
    Calls Tryd.prog 15 #[v] w fun e w' => e = .returned (.int .i64 (ms 0 0 (pl 1 c)).2.2) ∧ Below w.heap.size w w' := by
  rw [er_ms]
  obtain ⟨v0, v1, v2, v3, v4, v5, rfl, -⟩ := h.six
  have b0 : Below w.heap.size w (w.alloc (.cells #[v0, v1, v2, v3, v4, v5] 25)) := (Below.refl _ w).alloc (Nat.le_refl _) _
  have c37 := look_c AL m _ c 0 1 _ (h.below b0) (by omega) (by omega)
  obtain ⟨a1, n1, c1, a2, n2, c2, rfl, rfl, rfl, rfl, rfl, rfl⟩ := h.kinds
  clear h
  go_enter Tryd.func15, Tryd.ntmps15
  go_wp2_with fail
  refine c37.mono ?_
  rintro e w1 ⟨⟨K, rfl, hK⟩, b1⟩
  clear hK
  go_wp2_with fail
  go_ret
  exact ⟨rfl, nx b0 b1⟩
set_option maxRecDepth 20000 in
theorem rcount_c (AL : AloneIs) {m : Nat} {v : Value} {c : C} {w : World} (h : In false All w m v c) :
    Calls Tryd.prog 17 #[v] w fun e w' => e = .returned (.int .i64 (ms 0 0 (pl 1 c)).2.1) ∧ Below w.heap.size w w' := by
  obtain ⟨v0, v1, v2, v3, v4, v5, rfl, -⟩ := h.six
  have b0 : Below w.heap.size w (w.alloc (.cells #[v0, v1, v2, v3, v4, v5] 25)) := (Below.refl _ w).alloc (Nat.le_refl _) _
  have c37 := look_c AL m _ c 0 1 _ (h.below b0) (by omega) (by omega)
  obtain ⟨a1, n1, c1, a2, n2, c2, rfl, rfl, rfl, rfl, rfl, rfl⟩ := h.kinds
  clear h
  by_cases hz : er 0 (pl 1 c) = 0
  · have e1 : (ms 0 0 (pl 1 c)).2.1 = ((pl 1 c).length : Nat) := by rw [ms_ok ((er_ms _ _ _).trans hz)]
    rw [e1]
    rw [hz] at c37
    clear e1 hz
    go_enter Tryd.func17, Tryd.ntmps17
    go_wp2_with fail
    refine c37.mono ?_
    rintro e w1 ⟨⟨K, rfl, hK⟩, b1⟩
    have hK := hK trivial
    subst hK
    go_wp2_with fail
    go_ret
    exact ⟨by simp, nx b0 b1⟩
  · have e1 := (ms_bad (pl 1 c) 0 0 (by rw [er_ms]; exact hz)).2
    rw [e1]
    have hne : (er 0 (pl 1 c) != 0) = true := by simp [hz]
    clear e1 hz
    generalize er 0 (pl 1 c) = E at *
    go_enter Tryd.func17, Tryd.ntmps17
    go_wp2_with fail
    refine c37.mono ?_
    rintro e w1 ⟨⟨K, rfl, hK⟩, b1⟩
    clear hK
    go_wp2_with fail
    go_ret
    exact ⟨rfl, nx b0 b1⟩
set_option maxRecDepth 20000 in
theorem rdepth_c (AL : AloneIs) {m : Nat} {v : Value} {c : C} {w : World} (h : In false All w m v c) (hd : dep c ≤ 4096) :
    Calls Tryd.prog 16 #[v] w fun e w' => e = .returned (.int .i64 (ms 0 0 (pl 1 c)).1) ∧ Below w.heap.size w w' := by
  obtain ⟨v0, v1, v2, v3, v4, v5, rfl, -⟩ := h.six
  obtain ⟨W0, hW0⟩ : ∃ W0, w.alloc (.cells #[v0, v1, v2, v3, v4, v5] 25) = W0 := ⟨_, rfl⟩
  have b0 : Below w.heap.size w W0 := by rw [← hW0]; exact (Below.refl _ w).alloc (Nat.le_refl _) _
  have hs0 : w.heap.size < W0.heap.size := by rw [← hW0]; simp
  have hx0 : W0.heap[w.heap.size]? = some (.cells #[v0, v1, v2, v3, v4, v5] 25 (0, 0)) := by rw [← hW0, heap_alloc_new]
  have c15 := rcheck_c AL (h.below b0)
  have C38 : Hid (∀ w', Below W0.heap.size W0 w' → Calls Tryd.prog 38 #[.agg #[v0, v1, v2, v3, v4, v5]] w' fun e w2 => e = .returned (.int .i64 (dep c : Nat)) ∧ Below w'.heap.size w' w2) := fun w' hb => deep_c m _ c w' ((h.below b0).below hb) hd
  obtain ⟨a1, n1, c1, a2, n2, c2, rfl, rfl, rfl, rfl, rfl, rfl⟩ := h.kinds
  obtain ⟨k0, k1, k2, k3, k4, k5⟩ := six_box hx0
  clear h
  by_cases hz : (ms 0 0 (pl 1 c)).2.2 = 0
  · have e1 : (ms 0 0 (pl 1 c)).1 = (dep c : Nat) := by rw [ms_ok hz, mx_pl]
    rw [e1]
    rw [hz] at c15
    clear e1 hz
    go_enter Tryd.func16, Tryd.ntmps16
    go_wp2_with fail
    refine c15.mono ?_
    rintro e w1 ⟨rfl, b1⟩
    clear k0 k1 k2 k3 k4 k5 c15
    obtain ⟨k0, k1, k2, k3, k4, k5⟩ := six_box ((b1.block _ hs0).trans hx0)
    have c38 := C38.out w1 b1
    go_wp2_with fail
    refine c38.mono ?_
    rintro e w2 ⟨rfl, b2⟩
    go_wp2_with fail
    go_ret
    exact ⟨rfl, nx b0 (nx b1 b2)⟩
  · have e1 := (ms_bad (pl 1 c) 0 0 hz).1
    rw [e1]
    have hne : ((ms 0 0 (pl 1 c)).2.2 != 0) = true := by simp [hz]
    clear e1 hz
    generalize (ms 0 0 (pl 1 c)).2.2 = E at *
    go_enter Tryd.func16, Tryd.ntmps16
    go_wp2_with fail
    refine c15.mono ?_
    rintro e w1 ⟨rfl, b1⟩
    go_wp2_with fail
    go_ret
    exact ⟨rfl, nx b0 b1⟩
end Go.Proofs.YtmoblfdepcjgfaaDoor.RMeasure
