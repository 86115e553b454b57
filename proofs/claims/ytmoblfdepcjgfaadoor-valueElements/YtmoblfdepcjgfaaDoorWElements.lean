/- For every value the law ValueElements returns true: the parts of what may be may be, are not as deep, and are as many as Count says; conditions: the tables of the library hold what they are laid with. -/
import Derived.Test.YtmoblfdepcjgfaaDoorAwake
import Derived.Test.YtmoblfdepcjgfaaDoorTally
import Derived.Test.YtmoblfdepcjgfaaDoorWSames
import Derived.Deep.RegionHeld3
namespace Go.Proofs.YtmoblfdepcjgfaaDoor.WElements
open Go.RowKit Go.Proofs.YtmoblfdepcjgfaaDoor.Base Go.Proofs.YtmoblfdepcjgfaaDoor.Digits Go.Proofs.YtmoblfdepcjgfaaDoor.Facts Go.Proofs.YtmoblfdepcjgfaaDoor.Shallow Go.Proofs.YtmoblfdepcjgfaaDoor.Awake Go.Proofs.YtmoblfdepcjgfaaDoor.Eq Go.Proofs.YtmoblfdepcjgfaaDoor.Same Go.Proofs.YtmoblfdepcjgfaaDoor.Measure Go.Proofs.YtmoblfdepcjgfaaDoor.Walk Go.Proofs.YtmoblfdepcjgfaaDoor.Part Go.Proofs.YtmoblfdepcjgfaaDoor.Tally Go.Proofs.YtmoblfdepcjgfaaDoor.Fault Go.Proofs.YtmoblfdepcjgfaaDoor.WSames Go.Proofs.YtmoblfdepcjgfaaDoor.Fresh Go.Proofs.YtmoblfdepcjgfaaDoor.Copied
set_option linter.unusedVariables false

theorem errno' (x : Int) (w : World) : Calls Tryd.prog 14 #[.int .i64 x] w fun e w' => e = .returned (.int .i64 x) ∧ w = w' :=
  (errno_c x w).mono fun _ _ h => ⟨h.1, h.2.symm⟩
theorem same_refl (c : C) : same c c = true := same_self _ c (Nat.le_refl _)
/-- How many the value itself and its first q parts are. -/
def many (l : List C) (q : Nat) : Nat := 1 + (plL 2 (l.take q)).length
/-- How deep its first q parts are. -/
def deep (l : List C) (q : Nat) : Nat := mx (plL 1 (l.take q))
theorem many_zero (l : List C) : many l 0 = 1 := by simp [many, plL]
theorem deep_zero (l : List C) : deep l 0 = 0 := by simp [deep, plL, mx]
theorem whole {c : C} (h : (ms 0 0 (pl 1 c)).2.2 = 0) : (ms 0 0 (pl 1 c)).1 = ((deep c.l c.l.length + 1 : Nat) : Int) ∧ (ms 0 0 (pl 1 c)).2.1 = ((many c.l c.l.length : Nat) : Int) := by
  rw [ms_ok h]
  unfold deep many
  rw [List.take_length, deep_all, count_all]
  exact ⟨rfl, rfl⟩
theorem many_le {c : C} (h : (ms 0 0 (pl 1 c)).2.2 = 0) (q : Nat) : many c.l q ≤ 16384 := by
  have h1 := len_ok h
  rw [count_all] at h1
  have h2 := (plL_pre 2 c.l q).length_le
  unfold many
  omega
theorem part {c : C} (h : (ms 0 0 (pl 1 c)).2.2 = 0) (q : Nat) (hq : q < c.l.length) : ∃ (cnt dp : Nat), ms 0 0 (pl 1 c.l[q]) = ((dp : Int), (cnt : Int), 0) ∧ many c.l (q + 1) = many c.l q + cnt ∧ deep c.l (q + 1) = max (deep c.l q) dp ∧ dp ≤ 24 := by
  have hp := part_ok h q hq
  refine ⟨(pl 1 c.l[q]).length, mx (pl 1 c.l[q]), ms_ok hp, ?_, ?_, mx_ok hp⟩
  · unfold many; rw [count_next _ _ hq]; omega
  · unfold deep; rw [deep_next _ _ hq]
theorem deep_le {c : C} (h : (ms 0 0 (pl 1 c)).2.2 = 0) : ∀ q, q ≤ c.l.length → deep c.l q ≤ 24 := by
  intro q
  induction q with
  | zero => intro _; rw [deep_zero]; omega
  | succ q ih =>
    intro hq
    obtain ⟨cnt, dp, -, -, h2, h3⟩ := part h q (by omega)
    have := ih (by omega)
    omega
set_option maxRecDepth 20000 in
set_option maxHeartbeats 1600000 in
theorem walk {m : Nat} {v : Value} {c : C} {w : World} (h : In false All w m v c) (ht : Tab w) : Calls Tryd.prog 8 #[v] w fun e w' => e = .returned (.bool true) ∧ Below w.heap.size w w' := by
  have hin := h
  obtain ⟨m', nv, lv, rfl, rfl, -, -, -, hn, hl⟩ := h.shape
  obtain ⟨a2, c2, rfl, hlc, hcm, hlen, hnil, hL⟩ := hl.out
  obtain ⟨a1, c1, rfl, nlc, ncm, nlen, -, nnil, hN⟩ := hn.out
  have f1 := ms_bad (pl 1 c) 0 0
  have f2 := @whole c
  have f3 := @many_le c
  have f4 := @part c
  have f5 := @deep_le c
  have f6 := @head_ok c
  have f7 := @fm_list c
  have f8 := @io_ok c
  have f9 := @fo_ok c
  have f10 := @fm_names c
  have f11 : dep c ≤ 4096 → ∀ j (h : j < c.l.length), dep c.l[j] ≤ 4096 := by
    obtain ⟨k, b, i, s, n, l⟩ := c
    intro hd j hj
    rw [dep] at hd
    exact (depL_le (l := l) (q := 4096)).1 (by omega) j hj
  obtain ⟨k, hk⟩ : ∃ k, c.k = k := ⟨_, rfl⟩
  obtain ⟨b, hb⟩ : ∃ b, c.b = b := ⟨_, rfl⟩
  obtain ⟨i, hi⟩ : ∃ i, c.i = i := ⟨_, rfl⟩
  obtain ⟨s, hs⟩ : ∃ s, c.s = s := ⟨_, rfl⟩
  rw [hk, hb, hi, hs] at hin
  rw [hk, hb, hi, hs]
  rw [hk] at f7 f8 f9 f10
  obtain ⟨W0, hW0⟩ : ∃ W0, w.alloc (.cells #[.int .i64 k, .bool b, .int .i64 i, .string s, .slice a1 c.n.length c1, .slice a2 c.l.length c2] 25) = W0 := ⟨_, rfl⟩
  have b0 : Below w.heap.size w W0 := by rw [← hW0]; exact (Below.refl _ w).alloc (Nat.le_refl _) _
  have hs0 : w.heap.size < W0.heap.size := by rw [← hW0]; simp
  have hx0 : W0.heap[w.heap.size]? = some (.cells #[.int .i64 k, .bool b, .int .i64 i, .string s, .slice a1 c.n.length c1, .slice a2 c.l.length c2] 25 (0, 0)) := by rw [← hW0, heap_alloc_new]
  have HA : Hid (∀ w', Below W0.heap.size W0 w' → In false All w' (m' + 1) (.agg #[.int .i64 k, .bool b, .int .i64 i, .string s, .slice a1 c.n.length c1, .slice a2 c.l.length c2]) c) := fun w' hb' => (hin.below b0).below hb'
  have XA : Hid (∀ w', Below W0.heap.size W0 w' → w'.heap[w.heap.size]? = some (.cells #[.int .i64 k, .bool b, .int .i64 i, .string s, .slice a1 c.n.length c1, .slice a2 c.l.length c2] 25 (0, 0))) := fun w' hb' => (hb'.block _ hs0).trans hx0
  have HL : Hid (LAt false All w m' a2 c2 c.l) := hL
  have HN : Hid (NAt false All w a1 c1 c.n) := hN
  have ht0 := ht.later b0
  have c19 := awake_c W0 ht0
  clear h hin hn hl hL hN ht hx0 hk hb hi hs
  go_enter Tryd.func8, Tryd.ntmps8
  go_wp2_with fail
  refine c19.mono ?_
  rintro e w1 ⟨rfl, B1⟩
  have c9 := shallow_c _ _ c w1 (HA.out w1 B1)
  obtain ⟨k0, k1, k2, k3, k4, k5⟩ := six_box (XA.out w1 B1)
  clear c19 hW0
  go_wp2_with fail
  refine c9.mono ?_
  rintro e w2 ⟨rfl, b2⟩
  have B2 : Below W0.heap.size W0 w2 := nx B1 b2
  clear c9 k0 k1 k2 k3 k4 k5
  cases hd0 : decide (dep c ≤ 4096) with
  | false =>
    go_wp2_with fail
    go_ret
    exact ⟨rfl, nx b0 B2⟩
  | true =>
  have hd := of_decide_eq_true hd0
  have c11 := check_c (HA.out w2 B2) hd
  obtain ⟨k0, k1, k2, k3, k4, k5⟩ := six_box (XA.out w2 B2)
  clear hd0
  go_wp2_with fail
  refine c11.mono ?_
  rintro e w3 ⟨rfl, b3⟩
  have B3 : Below W0.heap.size W0 w3 := nx B2 b3
  clear c11 k0 k1 k2 k3 k4 k5
  by_cases hE : (ms 0 0 (pl 1 c)).2.2 = 0
  · obtain ⟨g1, g2⟩ := f2 hE
    have f3 := f3 hE
    have f4 := f4 hE
    have f5 := f5 hE
    have f6 := f6 hE
    have f7 := f7 f6
    have f9 := f9 f6
    have f10 := f10 f6
    have f11 := f11 hd
    have C12 : Hid (∀ w', Below W0.heap.size W0 w' → Calls Tryd.prog 12 #[.agg #[.int .i64 k, .bool b, .int .i64 i, .string s, .slice a1 c.n.length c1, .slice a2 c.l.length c2]] w' fun e w2 => e = .returned (.int .i64 ((deep c.l c.l.length : Int) + 1)) ∧ Below w'.heap.size w' w2) := fun w' hb => by
      have := depth_c (HA.out w' hb) hd
      rw [g1, Int.natCast_add] at this
      exact this
    have C13 : Hid (∀ w', Below W0.heap.size W0 w' → Calls Tryd.prog 13 #[.agg #[.int .i64 k, .bool b, .int .i64 i, .string s, .slice a1 c.n.length c1, .slice a2 c.l.length c2]] w' fun e w2 => e = .returned (.int .i64 (many c.l c.l.length : Nat)) ∧ Below w'.heap.size w' w2) := fun w' hb => by
      have := count_c (HA.out w' hb) hd
      rw [g2] at this
      exact this
    rw [hE]
    have F4 : Hid (∀ (q : Nat) (hq : q < c.l.length), ∃ (cnt dp : Nat), ms 0 0 (pl 1 c.l[q]) = ((dp : Int), (cnt : Int), 0) ∧ many c.l (q + 1) = many c.l q + cnt ∧ deep c.l (q + 1) = max (deep c.l q) dp ∧ dp ≤ 24) := f4
    have F3 : Hid (∀ q, many c.l q ≤ 16384) := f3
    have F5 : Hid (∀ q, q ≤ c.l.length → deep c.l q ≤ 24) := f5
    have F7 : Hid (¬ k = 5 → 0 < c.l.length → k = 6) := f7
    have F8 : Hid (k = 5 → ∀ (q : Nat) (hq : q < c.l.length), io c q = some c.l[q]) := f8
    have F9 : Hid (k = 6 → ∀ (q : Nat) (hq : q < c.l.length) (hq' : q < c.n.length), fo c c.n[q] = some c.l[q]) := f9
    have F10 : Hid (k = 6 → c.n.length = c.l.length) := fun h => (f10 h).1
    have F11 : Hid (∀ j (h : j < c.l.length), dep c.l[j] ≤ 4096) := f11
    clear f1 f2 f3 f4 f5 f6 f7 f8 f9 f10 f11 g1 g2 hE
    go_wp2_with (go_at_call 14; refine (errno' _ _).mono ?_; rintro e w' ⟨rfl, rfl⟩)
    go_loopw [4, 5, 6] (fun mm dd ii wr => ∃ q : Nat, q ≤ c.l.length ∧ ii = .int .i64 q ∧ mm = .int .i64 (many c.l q : Nat) ∧ dd = .int .i64 (deep c.l q : Nat) ∧ Below W0.heap.size W0 wr) (fun mm dd ii _ => c.l.length - (intOf ii).toNat)
    case atStart => exact ⟨0, by omega, rfl, by rw [many_zero]; rfl, by rw [deep_zero]; rfl, B3⟩
    case round =>
      obtain ⟨q, hq, rfl, rfl, rfl, hbr⟩ := hrel
      obtain ⟨k0, k1, k2, k3, k4, k5⟩ := six_box (XA.out wr hbr)
      by_cases hlt : q < c.l.length
      · obtain ⟨g, o, x, rfl, -, hx, hin⟩ := elem_at HL.out hlt
        obtain ⟨cnt, dp, hms, hmq, hdq, hdp⟩ := F4.out q hlt
        have hx := six_below hx (nx b0 hbr)
        obtain ⟨x0, x1, x2, x3, x4, x5, rfl, d0, d1, d2, d3, d4, d5⟩ := hx
        obtain ⟨x1, y1, z1, x2, y2, z2, rfl, rfl, rfl, rfl, rfl, rfl⟩ := hin.kinds
        obtain ⟨xk, hxk⟩ : ∃ k, c.l[q].k = k := ⟨_, rfl⟩
        obtain ⟨xb, hxb⟩ : ∃ k, c.l[q].b = k := ⟨_, rfl⟩
        obtain ⟨xi, hxi⟩ : ∃ k, c.l[q].i = k := ⟨_, rfl⟩
        obtain ⟨xs, hxs⟩ : ∃ k, c.l[q].s = k := ⟨_, rfl⟩
        rw [hxk] at d0 hin
        rw [hxb] at d1 hin
        rw [hxi] at d2 hin
        rw [hxs] at d3 hin
        have HE : Hid (∀ w', Below W0.heap.size W0 w' → In false All w' m' (.agg #[.int .i64 xk, .bool xb, .int .i64 xi, .string xs, .slice x1 y1 z1, .slice x2 y2 z2]) c.l[q]) := fun w' hb' => (hin.below b0).below hb'
        obtain ⟨W1, hW1⟩ : ∃ W1, wr.alloc (.cells #[.int .i64 xk, .bool xb, .int .i64 xi, .string xs, .slice x1 y1 z1, .slice x2 y2 z2] 25) = W1 := ⟨_, rfl⟩
        have b1 : Below wr.heap.size wr W1 := by rw [← hW1]; exact (Below.refl _ wr).alloc (Nat.le_refl _) _
        have hs1 : wr.heap.size < W1.heap.size := by rw [← hW1]; simp
        have hx1 : W1.heap[wr.heap.size]? = some (.cells #[.int .i64 xk, .bool xb, .int .i64 xi, .string xs, .slice x1 y1 z1, .slice x2 y2 z2] 25 (0, 0)) := by rw [← hW1, heap_alloc_new]
        have HX : Hid (∀ w', Below W1.heap.size W1 w' → w'.heap[wr.heap.size]? = some (.cells #[.int .i64 xk, .bool xb, .int .i64 xi, .string xs, .slice x1 y1 z1, .slice x2 y2 z2] 25 (0, 0))) := fun w' hb' => (hb'.block _ hs1).trans hx1
        have B1' : Below W0.heap.size W0 W1 := nx hbr b1
        have C11x : Hid (∀ w', Below W0.heap.size W0 w' → Calls Tryd.prog 11 #[.agg #[.int .i64 xk, .bool xb, .int .i64 xi, .string xs, .slice x1 y1 z1, .slice x2 y2 z2]] w' fun e w2 => e = .returned (.int .i64 0) ∧ Below w'.heap.size w' w2) := fun w' hb => by
          have := check_c (HE.out w' hb) (F11.out q hlt)
          rw [hms] at this
          exact this
        have C12x : Hid (∀ w', Below W0.heap.size W0 w' → Calls Tryd.prog 12 #[.agg #[.int .i64 xk, .bool xb, .int .i64 xi, .string xs, .slice x1 y1 z1, .slice x2 y2 z2]] w' fun e w2 => e = .returned (.int .i64 (dp : Nat)) ∧ Below w'.heap.size w' w2) := fun w' hb => by
          have := depth_c (HE.out w' hb) (F11.out q hlt)
          rw [hms] at this
          exact this
        have C13x : Hid (∀ w', Below W0.heap.size W0 w' → Calls Tryd.prog 13 #[.agg #[.int .i64 xk, .bool xb, .int .i64 xi, .string xs, .slice x1 y1 z1, .slice x2 y2 z2]] w' fun e w2 => e = .returned (.int .i64 (cnt : Nat)) ∧ Below w'.heap.size w' w2) := fun w' hb => by
          have := count_c (HE.out w' hb) (F11.out q hlt)
          rw [hms] at this
          exact this
        have C20x : Hid (∀ w' u, Below W0.heap.size W0 w' → In false All w' (m' + 1) u c.l[q] → Calls Tryd.prog 20 #[.agg #[.int .i64 xk, .bool xb, .int .i64 xi, .string xs, .slice x1 y1 z1, .slice x2 y2 z2], u] w' fun e w2 => e = .returned (.bool true) ∧ Below w'.heap.size w' w2) := fun w' u hb hu => by
          have := same_c (HE.out w' hb) hu
          rw [same_refl] at this
          exact this
        have hmb : many c.l q + cnt ≤ 16384 := by have := F3.out (q + 1); omega
        have hdb := F5.out q hq
        have hq48 : q < 2199023255552 := by omega
        obtain ⟨l0, l1, l2, l3, l4, l5⟩ := six_box (XA.out W1 B1')
        clear hms
        generalize many c.l q = mq at *
        generalize deep c.l q = dq at *
        by_cases h5 : k = 5
        · subst h5
          have c28 : Calls Tryd.prog 28 #[.agg #[.int .i64 5, .bool b, .int .i64 i, .string s, .slice a1 c.n.length c1, .slice (some ⟨g, o, none⟩) c.l.length c2], .int .i64 q] W1 fun e w4 => ∃ e1 f1 g1 e2 f2 g2, e = .returned (.tuple #[.agg #[.int .i64 xk, .bool xb, .int .i64 xi, .string xs, .slice e1 f1 g1, .slice e2 f2 g2], .int .i64 0]) ∧ Hid (In false All w4 (m' + 1) (.agg #[.int .i64 xk, .bool xb, .int .i64 xi, .string xs, .slice e1 f1 g1, .slice e2 f2 g2]) c.l[q]) ∧ Below W1.heap.size W1 w4 := by
            have h := indexV_c (HA.out W1 B1') (q : Int) (by omega) (by omega)
            rw [F8.out rfl q hlt] at h
            refine h.mono ?_
            rintro e w4 ⟨u, rfl, hfr, b4⟩
            have hi4 : In false All w4 (m' + 1) u c.l[q] := hfr.in.plain
            obtain ⟨y0, y1, y2, y3, y4, y5, rfl, -⟩ := hi4.six
            obtain ⟨e1, f1, g1, e2, f2, g2, rfl, rfl, rfl, rfl, rfl, rfl⟩ := hi4.kinds
            rw [hxk, hxb, hxi, hxs] at hi4 ⊢
            exact ⟨e1, f1, g1, e2, f2, g2, rfl, hi4, b4⟩
          go_wp2_with fail
          refine c28.mono ?_
          rintro e w4 ⟨e1, f1, g1, e2, f2, g2, rfl, hY, b4⟩
          clear c28 k0 k1 k2 k3 k4 k5 l0 l1 l2 l3 l4 l5 d0 d1 d2 d3 d4 d5
          obtain ⟨W5, hW5⟩ : ∃ W5, w4.alloc (.cells #[.int .i64 xk, .bool xb, .int .i64 xi, .string xs, .slice e1 f1 g1, .slice e2 f2 g2] 25) = W5 := ⟨_, rfl⟩
          have b5 : Below w4.heap.size w4 W5 := by rw [← hW5]; exact (Below.refl _ w4).alloc (Nat.le_refl _) _
          have hx5 : W5.heap[w4.heap.size]? = some (.cells #[.int .i64 xk, .bool xb, .int .i64 xi, .string xs, .slice e1 f1 g1, .slice e2 f2 g2] 25 (0, 0)) := by rw [← hW5, heap_alloc_new]
          have B15 : Below W1.heap.size W1 W5 := nx b4 b5
          have B5 : Below W0.heap.size W0 W5 := nx B1' B15
          have c20 := C20x.out W5 _ B5 (hY.out.below b5)
          obtain ⟨d0, d1, d2, d3, d4, d5⟩ := six_box (HX.out W5 B15)
          obtain ⟨l0, l1, l2, l3, l4, l5⟩ := six_box hx5
          go_wp2_with (go_at_call 14; refine (errno' _ _).mono ?_; rintro e w' ⟨rfl, rfl⟩)
          refine c20.mono ?_
          rintro e wa ⟨rfl, ba⟩
          clear c20 d0 d1 d2 d3 d4 d5 l0 l1 l2 l3 l4 l5 hW5 hx5
          have Ba1 : Below W1.heap.size W1 wa := nx B15 ba
          have Ba : Below W0.heap.size W0 wa := nx B1' Ba1
          obtain ⟨d0, d1, d2, d3, d4, d5⟩ := six_box (HX.out wa Ba1)
          have c11 := C11x.out wa Ba
          go_wp2_with fail
          refine c11.mono ?_
          rintro e wb ⟨rfl, bb⟩
          clear c11 d0 d1 d2 d3 d4 d5
          have Bb1 : Below W1.heap.size W1 wb := nx Ba1 bb
          obtain ⟨d0, d1, d2, d3, d4, d5⟩ := six_box (HX.out wb Bb1)
          have c13 := C13x.out wb (nx B1' Bb1)
          go_wp2_with (go_at_call 14; refine (errno' _ _).mono ?_; rintro e w' ⟨rfl, rfl⟩)
          refine c13.mono ?_
          rintro e wc ⟨rfl, bc⟩
          clear c13 d0 d1 d2 d3 d4 d5
          have Bc1 : Below W1.heap.size W1 wc := nx Bb1 bc
          obtain ⟨d0, d1, d2, d3, d4, d5⟩ := six_box (HX.out wc Bc1)
          have c12 := C12x.out wc (nx B1' Bc1)
          go_wp2_with fail
          refine c12.mono ?_
          rintro e wd ⟨rfl, bd⟩
          clear c12 d0 d1 d2 d3 d4 d5
          go_wp2_with fail
          go_roundw
          case rel => exact ⟨q + 1, by omega, by go_num, by rw [hmq]; go_num, by rw [hdq]; go_num, nx B1' (nx Bc1 bd)⟩
          case measure => simp only [intOf]; omega
        · obtain rfl := F7.out h5 (by omega)
          have hn6 := F10.out rfl
          have hqn : q < c.n.length := by omega
          have hF9 := F9.out rfl q hlt hqn
          obtain ⟨gn, on, rfl, -, hc⟩ := name_at HN.out hqn
          obtain ⟨nm, hnm⟩ : ∃ x, c.n[q] = x := ⟨_, rfl⟩
          rw [hnm] at hc hF9
          have C27 : Hid (∀ w', Below W1.heap.size W1 w' → Calls Tryd.prog 27 #[.agg #[.int .i64 6, .bool b, .int .i64 i, .string s, .slice (some ⟨gn, on, none⟩) c.n.length c1, .slice (some ⟨g, o, none⟩) c.l.length c2], .string nm] w' fun e w4 => ∃ e1 f1 g1 e2 f2 g2, e = .returned (.tuple #[.agg #[.int .i64 xk, .bool xb, .int .i64 xi, .string xs, .slice e1 f1 g1, .slice e2 f2 g2], .int .i64 0]) ∧ Hid (Fr w4 (m' + 1) w'.heap.size w4.heap.size (.agg #[.int .i64 xk, .bool xb, .int .i64 xi, .string xs, .slice e1 f1 g1, .slice e2 f2 g2]) c.l[q]) ∧ Below w'.heap.size w' w4) := fun w' hb' => by
            have h := field_c (HA.out w' (nx B1' hb')) nm
            rw [hF9] at h
            refine h.mono ?_
            rintro e w4 ⟨u, rfl, hfr, b4⟩
            have hfr : Fr w4 (m' + 1) w'.heap.size w4.heap.size u c.l[q] := hfr
            have hi4 : In false All w4 (m' + 1) u c.l[q] := hfr.in.plain
            obtain ⟨y0, y1, y2, y3, y4, y5, rfl, -⟩ := hi4.six
            obtain ⟨e1, f1, g1, e2, f2, g2, rfl, rfl, rfl, rfl, rfl, rfl⟩ := hi4.kinds
            rw [hxk, hxb, hxi, hxs] at hfr ⊢
            exact ⟨e1, f1, g1, e2, f2, g2, rfl, hfr, b4⟩
          have SS : Hid (∀ w', Below W1.heap.size W1 w' → (w'.cell? ⟨w.heap.size, 0, none⟩ = some (.int .i64 6) ∧ w'.cell? ⟨w.heap.size, 1, none⟩ = some (.bool b) ∧ w'.cell? ⟨w.heap.size, 2, none⟩ = some (.int .i64 i) ∧ w'.cell? ⟨w.heap.size, 3, none⟩ = some (.string s) ∧ w'.cell? ⟨w.heap.size, 4, none⟩ = some (.slice (some ⟨gn, on, none⟩) c.n.length c1) ∧ w'.cell? ⟨w.heap.size, 5, none⟩ = some (.slice (some ⟨g, o, none⟩) c.l.length c2) ∧ w'.cell? ⟨gn, on + q, none⟩ = some (.string nm))) := fun w' hb' => by
            obtain ⟨k0, k1, k2, k3, k4, k5⟩ := six_box (XA.out w' (nx B1' hb'))
            exact ⟨k0, k1, k2, k3, k4, k5, below_cell hc (nx (nx b0 B1') hb')⟩
          have HD : Hid (Below W1.heap.size W1 W1.drew) := (Below.refl W1.heap.size W1).drew
          clear hF9 hc hnm hxk hxb hxi hxs hn6
          go_wp2_with fail
          refine wp_region_held_drew (S := fun w' => (w'.cell? ⟨w.heap.size, 0, none⟩ = some (.int .i64 6) ∧ w'.cell? ⟨w.heap.size, 1, none⟩ = some (.bool b) ∧ w'.cell? ⟨w.heap.size, 2, none⟩ = some (.int .i64 i) ∧ w'.cell? ⟨w.heap.size, 3, none⟩ = some (.string s) ∧ w'.cell? ⟨w.heap.size, 4, none⟩ = some (.slice (some ⟨gn, on, none⟩) c.n.length c1) ∧ w'.cell? ⟨w.heap.size, 5, none⟩ = some (.slice (some ⟨g, o, none⟩) c.l.length c2) ∧ w'.cell? ⟨gn, on + q, none⟩ = some (.string nm))) (by kernel_rfl) ?_ (fun hHeld => ?_)
          · exact SS.out _ HD.out
          refine wpAnyH_take (i := 0) (v := ?_) rfl (by kernel_rfl) (by kernel_rfl) (by kernel_rfl) (fun _ _ _ h => h) (Or.inl ⟨by rfl, ?_⟩) (by assumption) ?_
          rotate_left 1
          · intro w hSw; (try dsimp only at hSw); go_simp; first | done | with_reducible rfl
          try simp only [Act.put, List.getElem_toArray, List.getElem_cons_zero, List.setIfInBounds_toArray, List.set_cons_zero, List.set_cons_succ]
          refine wpAnyH_take (i := 1) (v := ?_) rfl (by kernel_rfl) (by kernel_rfl) (by kernel_rfl) (fun _ _ _ h => h) (Or.inl ⟨by rfl, ?_⟩) (by assumption) ?_
          rotate_left 1
          · intro w hSw; (try dsimp only at hSw); go_simp; first | done | with_reducible rfl
          try simp only [Act.put, List.getElem_toArray, List.getElem_cons_zero, List.getElem_cons_succ, List.setIfInBounds_toArray, List.set_cons_zero, List.set_cons_succ]
          refine wpAnyH_take (i := 2) (v := ?_) rfl (by kernel_rfl) (by kernel_rfl) (by kernel_rfl) (fun _ _ _ h => h) (Or.inl ⟨by rfl, ?_⟩) (by assumption) ?_
          rotate_left 1
          · intro w hSw; (try dsimp only at hSw); go_simp; first | done | with_reducible rfl
          try simp only [Act.put, List.getElem_toArray, List.getElem_cons_zero, List.getElem_cons_succ, List.setIfInBounds_toArray, List.set_cons_zero, List.set_cons_succ]
          refine wpAnyH_take (i := 3) (v := ?_) rfl (by kernel_rfl) (by kernel_rfl) (by kernel_rfl) (fun _ _ _ h => h) (Or.inl ⟨by rfl, ?_⟩) (by assumption) ?_
          rotate_left 1
          · intro w hSw; (try dsimp only at hSw); go_simp; first | done | with_reducible rfl
          try simp only [Act.put, List.getElem_toArray, List.getElem_cons_zero, List.getElem_cons_succ, List.setIfInBounds_toArray, List.set_cons_zero, List.set_cons_succ]
          refine wpAnyH_take (i := 4) (v := ?_) rfl (by kernel_rfl) (by kernel_rfl) (by kernel_rfl) (fun _ _ _ h => h) (Or.inl ⟨by rfl, ?_⟩) (by assumption) ?_
          rotate_left 1
          · intro w hSw; (try dsimp only at hSw); go_simp; first | done | with_reducible rfl
          try simp only [Act.put, List.getElem_toArray, List.getElem_cons_zero, List.getElem_cons_succ, List.setIfInBounds_toArray, List.set_cons_zero, List.set_cons_succ]
          refine wpAnyH_take (i := 5) (v := ?_) rfl (by kernel_rfl) (by kernel_rfl) (by kernel_rfl) (fun _ _ _ h => h) (Or.inl ⟨by rfl, ?_⟩) (by assumption) ?_
          rotate_left 1
          · intro w hSw; (try dsimp only at hSw); go_simp; first | done | with_reducible rfl
          try simp only [Act.put, List.getElem_toArray, List.getElem_cons_zero, List.getElem_cons_succ, List.setIfInBounds_toArray, List.set_cons_zero, List.set_cons_succ]
          refine wpAnyH_ready (rs := [6, 10]) (by kernel_rfl) (by simp) ?_
          refine AllReadyH.cons rfl (fun K hK => ?_) (AllReadyH.cons rfl (fun K hK => ?_) AllReadyH.nil)
          · go_simp
            refine (C27.out _ HD.out).mono ?_
            rintro e w4 ⟨e1, f1, g1, e2, f2, g2, rfl, hY, b4⟩
            go_wp2_with fail
            refine hK.out _ _ ?_ (fun hHeld => ?_)
            · exact SS.out _ (nx HD.out b4)
            clear hK K
            try simp only [Act.put, List.getElem_toArray, List.getElem_cons_zero, List.getElem_cons_succ, List.setIfInBounds_toArray, List.set_cons_zero, List.set_cons_succ]
            refine wpAnyH_take (i := 7) (v := ?_) rfl (by kernel_rfl) (by kernel_rfl) (by kernel_rfl) (fun _ _ _ h => h) (Or.inl ⟨by rfl, ?_⟩) (by assumption) ?_
            rotate_left 1
            · intro w hSw; (try dsimp only at hSw); go_simp; first | done | with_reducible rfl
            try simp only [Act.put, List.getElem_toArray, List.getElem_cons_zero, List.getElem_cons_succ, List.setIfInBounds_toArray, List.set_cons_zero, List.set_cons_succ]
            refine wpAnyH_take (i := 8) (v := ?_) rfl (by kernel_rfl) (by kernel_rfl) (by kernel_rfl) (fun _ _ _ h => h) (Or.inl ⟨by rfl, ?_⟩) (by assumption) ?_
            rotate_left 1
            · intro w hSw; (try dsimp only at hSw); go_simp; first | done | with_reducible rfl
            try simp only [Act.put, List.getElem_toArray, List.getElem_cons_zero, List.getElem_cons_succ, List.setIfInBounds_toArray, List.set_cons_zero, List.set_cons_succ]
            refine wpAnyH_take (i := 9) (v := ?_) rfl (by kernel_rfl) (by kernel_rfl) (by kernel_rfl) (fun _ _ _ h => h) (Or.inl ⟨by rfl, ?_⟩) (by assumption) ?_
            rotate_left 1
            · intro w hSw; (try dsimp only at hSw); go_simp; first | done | with_reducible rfl
            try simp only [Act.put, List.getElem_toArray, List.getElem_cons_zero, List.getElem_cons_succ, List.setIfInBounds_toArray, List.set_cons_zero, List.set_cons_succ]
            refine wpAnyH_ready (rs := [10]) (by kernel_rfl) (by simp) ?_
            refine AllReadyH.cons rfl (fun K hK => ?_) AllReadyH.nil
            go_simp
            refine hK.out _ _ ?_ (fun hHeld => ?_)
            · exact SS.out _ (nx (nx HD.out b4) ((Below.refl _ w4).alloc (Nat.le_refl _) _))
            clear hK K
            try simp only [Act.put, List.getElem_toArray, List.getElem_cons_zero, List.getElem_cons_succ, List.setIfInBounds_toArray, List.set_cons_zero, List.set_cons_succ]
            refine wpAnyH_ready (rs := [11]) (by kernel_rfl) (by simp) ?_
            refine AllReadyH.cons rfl (fun K hK => ?_) AllReadyH.nil
            go_simp
            refine hK.out _ _ ?_ (fun hHeld => ?_)
            · exact SS.out _ (nx (nx HD.out b4) ((Below.refl _ w4).alloc (Nat.le_refl _) _))
            clear hK K
            try simp only [Act.put, List.getElem_toArray, List.getElem_cons_zero, List.getElem_cons_succ, List.setIfInBounds_toArray, List.set_cons_zero, List.set_cons_succ]
            refine wpAnyH_take (i := 12) (v := ?_) rfl (by kernel_rfl) (by kernel_rfl) (by kernel_rfl) (fun _ _ _ h => h) (Or.inl ⟨by rfl, ?_⟩) (by assumption) ?_
            rotate_left 1
            · intro w hSw; (try dsimp only at hSw); go_simp; first | done | with_reducible rfl
            try simp only [Act.put, List.getElem_toArray, List.getElem_cons_zero, List.getElem_cons_succ, List.setIfInBounds_toArray, List.set_cons_zero, List.set_cons_succ]
            refine wpAnyH_done (by kernel_rfl) ?_ _
            clear hHeld k0 k1 k2 k3 k4 k5 l0 l1 l2 l3 l4 l5 d0 d1 d2 d3 d4 d5 hW1
            obtain ⟨W5, hW5⟩ : ∃ W5, w4.alloc (.cells #[.int .i64 xk, .bool xb, .int .i64 xi, .string xs, .slice e1 f1 g1, .slice e2 f2 g2] 25) = W5 := ⟨_, rfl⟩
            rw [hW5]
            have b5 : Below w4.heap.size w4 W5 := by rw [← hW5]; exact (Below.refl _ w4).alloc (Nat.le_refl _) _
            have hx5 : W5.heap[w4.heap.size]? = some (.cells #[.int .i64 xk, .bool xb, .int .i64 xi, .string xs, .slice e1 f1 g1, .slice e2 f2 g2] 25 (0, 0)) := by rw [← hW5, heap_alloc_new]
            have B15 : Below W1.heap.size W1 W5 := nx (nx HD.out b4) b5
            have hY5 : In false All W5 (m' + 1) (.agg #[.int .i64 xk, .bool xb, .int .i64 xi, .string xs, .slice e1 f1 g1, .slice e2 f2 g2]) c.l[q] := (hY.out.in.plain).below b5
            clear hW5
            have B5 : Below W0.heap.size W0 W5 := nx B1' B15
            have c20 := C20x.out W5 _ B5 hY5
            obtain ⟨d0, d1, d2, d3, d4, d5⟩ := six_box (HX.out W5 B15)
            obtain ⟨l0, l1, l2, l3, l4, l5⟩ := six_box hx5
            clear hY5
            go_wp2_with (go_at_call 14; refine (errno' _ _).mono ?_; rintro e w' ⟨rfl, rfl⟩)
            refine c20.mono ?_
            rintro e wa ⟨rfl, ba⟩
            clear c20 d0 d1 d2 d3 d4 d5 l0 l1 l2 l3 l4 l5 hx5
            have Ba1 : Below W1.heap.size W1 wa := nx B15 ba
            have Ba : Below W0.heap.size W0 wa := nx B1' Ba1
            obtain ⟨d0, d1, d2, d3, d4, d5⟩ := six_box (HX.out wa Ba1)
            have c11 := C11x.out wa Ba
            go_wp2_with fail
            refine c11.mono ?_
            rintro e wb ⟨rfl, bb⟩
            clear c11 d0 d1 d2 d3 d4 d5
            have Bb1 : Below W1.heap.size W1 wb := nx Ba1 bb
            obtain ⟨d0, d1, d2, d3, d4, d5⟩ := six_box (HX.out wb Bb1)
            have c13 := C13x.out wb (nx B1' Bb1)
            go_wp2_with (go_at_call 14; refine (errno' _ _).mono ?_; rintro e w' ⟨rfl, rfl⟩)
            refine c13.mono ?_
            rintro e wc ⟨rfl, bc⟩
            clear c13 d0 d1 d2 d3 d4 d5
            have Bc1 : Below W1.heap.size W1 wc := nx Bb1 bc
            obtain ⟨d0, d1, d2, d3, d4, d5⟩ := six_box (HX.out wc Bc1)
            have c12 := C12x.out wc (nx B1' Bc1)
            go_wp2_with fail
            refine c12.mono ?_
            rintro e wd ⟨rfl, bd⟩
            clear c12 d0 d1 d2 d3 d4 d5
            go_wp2_with fail
            go_roundw
            case rel => exact ⟨q + 1, by omega, by go_num, by rw [hmq]; go_num, by rw [hdq]; go_num, nx B1' (nx Bc1 bd)⟩
            case measure => simp only [intOf]; omega
          · go_simp
            refine hK.out _ _ ?_ (fun hHeld => ?_)
            · exact SS.out _ (nx HD.out ((Below.refl _ W1.drew).alloc (Nat.le_refl _) _))
            clear hK K
            try simp only [Act.put, List.getElem_toArray, List.getElem_cons_zero, List.getElem_cons_succ, List.setIfInBounds_toArray, List.set_cons_zero, List.set_cons_succ]
            obtain ⟨Wz, hWz⟩ : ∃ Wz, (W1.alloc (.cells #[.int .i64 0, .bool false, .int .i64 0, .string ⟨#[]⟩, .slice none 0 0, .slice none 0 0] 25)).drew = Wz := ⟨_, rfl⟩
            have bz : Below W1.heap.size W1 Wz := by rw [← hWz]; exact ((Below.refl _ W1).alloc (Nat.le_refl _) _).drew
            have hz0 : Wz.heap[W1.heap.size]? = some (.cells #[.int .i64 0, .bool false, .int .i64 0, .string ⟨#[]⟩, .slice none 0 0, .slice none 0 0] 25 (0, 0)) := by rw [← hWz]; exact heap_alloc_new W1 _
            have hzs : W1.heap.size < Wz.heap.size := (Array.getElem?_eq_some_iff.1 hz0).1
            rw [hWz] at hHeld ⊢
            clear hWz
            refine wpAnyH_ready (rs := [6]) (by kernel_rfl) (by simp) ?_
            refine AllReadyH.cons rfl (fun K hK => ?_) AllReadyH.nil
            go_simp
            refine (C27.out Wz bz).mono ?_
            rintro e w4 ⟨e1, f1, g1, e2, f2, g2, rfl, hY, b4⟩
            go_wp2_with fail
            refine hK.out _ _ ?_ (fun hHeld => ?_)
            · exact SS.out _ (nx bz b4)
            clear hK K
            try simp only [Act.put, List.getElem_toArray, List.getElem_cons_zero, List.getElem_cons_succ, List.setIfInBounds_toArray, List.set_cons_zero, List.set_cons_succ]
            have hz4 := (b4.block W1.heap.size hzs).trans hz0
            obtain ⟨z0, z1, z2, z3, z4, z5⟩ := six_box hz4
            have t0 := frozen_box hz4 0
            have t1 := frozen_box hz4 1
            have t2 := frozen_box hz4 2
            have t3 := frozen_box hz4 3
            have t4 := frozen_box hz4 4
            have t5 := frozen_box hz4 5
            obtain ⟨W5, hW5⟩ : ∃ W5, ((((((w4.setCell ⟨W1.heap.size, 0, none⟩ (.int .i64 xk)).setCell ⟨W1.heap.size, 1, none⟩ (.bool xb)).setCell ⟨W1.heap.size, 2, none⟩ (.int .i64 xi)).setCell ⟨W1.heap.size, 3, none⟩ (.string xs)).setCell ⟨W1.heap.size, 4, none⟩ (.slice e1 f1 g1)).setCell ⟨W1.heap.size, 5, none⟩ (.slice e2 f2 g2)) = W5 := ⟨_, rfl⟩
            obtain ⟨q1, q2, q3, q4⟩ := set6 _ _ _ _ _ _ hz4 hW5
            have B15 : Below W1.heap.size W1 W5 := q4 _ _ (Nat.le_refl _) (nx bz b4)
            refine wpAnyH_take (i := 7) (v := ?_) rfl (by kernel_rfl) (by kernel_rfl) (by kernel_rfl) (fun _ _ _ h => h) (Or.inl ⟨by rfl, ?_⟩) (by assumption) ?_
            rotate_left 1
            · intro w hSw; (try dsimp only at hSw); go_simp; first | done | with_reducible rfl
            try simp only [Act.put, List.getElem_toArray, List.getElem_cons_zero, List.getElem_cons_succ, List.setIfInBounds_toArray, List.set_cons_zero, List.set_cons_succ]
            refine wpAnyH_take (i := 8) (v := ?_) rfl (by kernel_rfl) (by kernel_rfl) (by kernel_rfl) (fun _ _ _ h => h) (Or.inl ⟨by rfl, ?_⟩) (by assumption) ?_
            rotate_left 1
            · intro w hSw; (try dsimp only at hSw); go_simp; first | done | with_reducible rfl
            try simp only [Act.put, List.getElem_toArray, List.getElem_cons_zero, List.getElem_cons_succ, List.setIfInBounds_toArray, List.set_cons_zero, List.set_cons_succ]
            refine wpAnyH_take (i := 9) (v := ?_) rfl (by kernel_rfl) (by kernel_rfl) (by kernel_rfl) (fun _ _ _ h => h) (Or.inl ⟨by rfl, ?_⟩) (by assumption) ?_
            rotate_left 1
            · intro w hSw; (try dsimp only at hSw); go_simp; first | done | with_reducible rfl
            try simp only [Act.put, List.getElem_toArray, List.getElem_cons_zero, List.getElem_cons_succ, List.setIfInBounds_toArray, List.set_cons_zero, List.set_cons_succ]
            refine wpAnyH_ready (rs := [11]) (by kernel_rfl) (by simp) ?_
            refine AllReadyH.cons rfl (fun K hK => ?_) AllReadyH.nil
            go_simp
            refine hK.out _ _ ?_ (fun hHeld => ?_)
            · exact SS.out _ B15
            clear hK K
            try simp only [Act.put, List.getElem_toArray, List.getElem_cons_zero, List.getElem_cons_succ, List.setIfInBounds_toArray, List.set_cons_zero, List.set_cons_succ]
            refine wpAnyH_take (i := 12) (v := ?_) rfl (by kernel_rfl) (by kernel_rfl) (by kernel_rfl) (fun _ _ _ h => h) (Or.inl ⟨by rfl, ?_⟩) (by assumption) ?_
            rotate_left 1
            · intro w hSw; (try dsimp only at hSw); go_simp; first | done | with_reducible rfl
            try simp only [Act.put, List.getElem_toArray, List.getElem_cons_zero, List.getElem_cons_succ, List.setIfInBounds_toArray, List.set_cons_zero, List.set_cons_succ]
            refine wpAnyH_done (by kernel_rfl) ?_ _
            have hx5 := q1
            have hY5 : In false All W5 (m' + 1) (.agg #[.int .i64 xk, .bool xb, .int .i64 xi, .string xs, .slice e1 f1 g1, .slice e2 f2 g2]) c.l[q] := (hY.out.keep fun x hx _ => q2 x (by have := hx.1; omega)).in.plain
            clear hHeld k0 k1 k2 k3 k4 k5 l0 l1 l2 l3 l4 l5 d0 d1 d2 d3 d4 d5 hW1 hW5 z0 z1 z2 z3 z4 z5 t0 t1 t2 t3 t4 t5 q1 q2 q3 q4 hz4 hz0
            have B5 : Below W0.heap.size W0 W5 := nx B1' B15
            have c20 := C20x.out W5 _ B5 hY5
            obtain ⟨d0, d1, d2, d3, d4, d5⟩ := six_box (HX.out W5 B15)
            obtain ⟨l0, l1, l2, l3, l4, l5⟩ := six_box hx5
            clear hY5
            go_wp2_with (go_at_call 14; refine (errno' _ _).mono ?_; rintro e w' ⟨rfl, rfl⟩)
            refine c20.mono ?_
            rintro e wa ⟨rfl, ba⟩
            clear c20 d0 d1 d2 d3 d4 d5 l0 l1 l2 l3 l4 l5 hx5
            have Ba1 : Below W1.heap.size W1 wa := nx B15 ba
            have Ba : Below W0.heap.size W0 wa := nx B1' Ba1
            obtain ⟨d0, d1, d2, d3, d4, d5⟩ := six_box (HX.out wa Ba1)
            have c11 := C11x.out wa Ba
            go_wp2_with fail
            refine c11.mono ?_
            rintro e wb ⟨rfl, bb⟩
            clear c11 d0 d1 d2 d3 d4 d5
            have Bb1 : Below W1.heap.size W1 wb := nx Ba1 bb
            obtain ⟨d0, d1, d2, d3, d4, d5⟩ := six_box (HX.out wb Bb1)
            have c13 := C13x.out wb (nx B1' Bb1)
            go_wp2_with (go_at_call 14; refine (errno' _ _).mono ?_; rintro e w' ⟨rfl, rfl⟩)
            refine c13.mono ?_
            rintro e wc ⟨rfl, bc⟩
            clear c13 d0 d1 d2 d3 d4 d5
            have Bc1 : Below W1.heap.size W1 wc := nx Bb1 bc
            obtain ⟨d0, d1, d2, d3, d4, d5⟩ := six_box (HX.out wc Bc1)
            have c12 := C12x.out wc (nx B1' Bc1)
            go_wp2_with fail
            refine c12.mono ?_
            rintro e wd ⟨rfl, bd⟩
            clear c12 d0 d1 d2 d3 d4 d5
            go_wp2_with fail
            go_roundw
            case rel => exact ⟨q + 1, by omega, by go_num, by rw [hmq]; go_num, by rw [hdq]; go_num, nx B1' (nx Bc1 bd)⟩
            case measure => simp only [intOf]; omega
      · obtain rfl : q = c.l.length := by omega
        have hdb := F5.out _ hq
        have c13 := C13.out wr hbr
        generalize hdq : deep c.l c.l.length = dq at *
        generalize many c.l c.l.length = mq at *
        have hd1 : (0 : Int) ≤ (dq : Int) := by omega
        have hd2 : (dq : Int) ≤ 24 := by omega
        go_wp2_with fail
        refine c13.mono ?_
        rintro e w5 ⟨rfl, b5⟩
        clear c13 k0 k1 k2 k3 k4 k5
        have B5 : Below W0.heap.size W0 w5 := nx hbr b5
        obtain ⟨k0, k1, k2, k3, k4, k5⟩ := six_box (XA.out w5 B5)
        have c12 := C12.out w5 B5
        go_wp2_with fail
        refine c12.mono ?_
        rintro e w6 ⟨rfl, b6⟩
        clear c12
        have hz : dq + 1 < 9223372036854775807 := by omega
        go_wp2_with fail
        go_ret
        exact ⟨rfl, nx b0 (nx B5 b6)⟩
  · obtain ⟨g1, g2⟩ := f1 hE
    have c12 := depth_c (HA.out w3 B3) hd
    have C13 : Hid (∀ w', Below W0.heap.size W0 w' → Calls Tryd.prog 13 #[.agg #[.int .i64 k, .bool b, .int .i64 i, .string s, .slice a1 c.n.length c1, .slice a2 c.l.length c2]] w' fun e w2 => e = .returned (.int .i64 0) ∧ Below w'.heap.size w' w2) := fun w' hb => by
      have := count_c (HA.out w' hb) hd
      rw [g2] at this
      exact this
    rw [g1] at c12
    have e1 : ((ms 0 0 (pl 1 c)).2.2 != 0) = true := by simp [hE]
    generalize (ms 0 0 (pl 1 c)).2.2 = E at *
    clear f1 f2 f3 f4 f5 f6 f7 f8 f9 f10 f11 g1 g2 hE
    obtain ⟨k0, k1, k2, k3, k4, k5⟩ := six_box (XA.out w3 B3)
    go_wp2_with (go_at_call 14; refine (errno' _ _).mono ?_; rintro e w' ⟨rfl, rfl⟩)
    refine c12.mono ?_
    rintro e w4 ⟨rfl, b4⟩
    clear c12 k0 k1 k2 k3 k4 k5
    have B4 : Below W0.heap.size W0 w4 := nx B3 b4
    obtain ⟨k0, k1, k2, k3, k4, k5⟩ := six_box (XA.out w4 B4)
    have c13 := C13.out w4 B4
    go_wp2_with fail
    refine c13.mono ?_
    rintro e w5 ⟨rfl, b5⟩
    go_wp2_with fail
    go_ret
    exact ⟨rfl, nx b0 (nx B4 b5)⟩
end Go.Proofs.YtmoblfdepcjgfaaDoor.WElements
