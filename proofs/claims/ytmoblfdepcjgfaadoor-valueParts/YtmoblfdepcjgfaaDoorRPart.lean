/- The parts of a value, as the document gives them: contracts of Index and Field of the reference. -/
import Derived.Test.YtmoblfdepcjgfaaDoorPart
namespace Go.Proofs.YtmoblfdepcjgfaaDoor.RPart
open Go.RowKit Go.Proofs.YtmoblfdepcjgfaaDoor.Base Go.Proofs.YtmoblfdepcjgfaaDoor.Eq Go.Proofs.YtmoblfdepcjgfaaDoor.Part Go.Proofs.YtmoblfdepcjgfaaDoor.Fresh
set_option linter.unusedVariables false

/-- What the reference answers: it may share the value's memory. -/
def Ref (m : Nat) (p : Option C) (wb w : World) (e : Ending) (w' : World) : Prop := ∃ u, e = .returned (.tuple #[u, .int .i64 (oe p)]) ∧ In false All wb m u (oc p) ∧ Below w.heap.size w w'
set_option maxRecDepth 20000 in
set_option maxHeartbeats 800000 in
theorem rindex_c {m : Nat} {v : Value} {c : C} {w : World} (wb : World) (h : In false All wb m v c) (hbw : Below wb.heap.size wb w) (q : Int) (q0 : -9223372036854775808 ≤ q) (q1 : q ≤ 9223372036854775807) :
    Calls Tryd.prog 30 #[v, .int .i64 q] w (Ref m (io c q) wb w) := by
  obtain ⟨m, nv, lv, rfl, rfl, -, -, -, hn, hl⟩ := h.shape
  obtain ⟨a, cap, rfl, hlc, hcm, hlen, hnil, hL⟩ := hl.out
  obtain ⟨a1, c1, rfl, nlc, ncm, nlen, -, nnil, hN⟩ := hn.out
  clear h hn hl
  obtain ⟨k, b, i, s, n, l⟩ := c
  simp only [C.k, C.b, C.i, C.s, C.n, C.l] at *
  obtain ⟨W0, hW0⟩ : ∃ W0, (w.alloc (.cells #[.int .i64 k, .bool b, .int .i64 i, .string s, .slice a1 n.length c1, .slice a l.length cap] 25)).alloc (.cells #[.int .i64 0, .bool false, .int .i64 0, .string ⟨#[]⟩, .slice none 0 0, .slice none 0 0] 25) = W0 := ⟨_, rfl⟩
  have hb0 : Below w.heap.size w W0 := by rw [← hW0]; exact ((Below.refl _ w).alloc (Nat.le_refl _) _).alloc (by simp) _
  have hx0 : W0.heap[w.heap.size]? = some (.cells #[.int .i64 k, .bool b, .int .i64 i, .string s, .slice a1 n.length c1, .slice a l.length cap] 25 (0, 0)) := by
    rw [← hW0, Below.heap_alloc _ _ _ (by simp), heap_alloc_new]
  have hx1 : W0.heap[w.heap.size + 1]? = some (.cells #[.int .i64 0, .bool false, .int .i64 0, .string ⟨#[]⟩, .slice none 0 0, .slice none 0 0] 25 (0, 0)) := by
    have := heap_alloc_new (w.alloc (.cells #[.int .i64 k, .bool b, .int .i64 i, .string s, .slice a1 n.length c1, .slice a l.length cap] 25)) (.cells #[.int .i64 0, .bool false, .int .i64 0, .string ⟨#[]⟩, .slice none 0 0, .slice none 0 0] 25)
    rwa [hW0, World.size_alloc] at this
  obtain ⟨d0, d1, d2, d3, d4, d5⟩ := six_box hx0
  obtain ⟨e0, e1, e2, e3, e4, e5⟩ := six_box hx1
  have g0 := frozen_box hx1 0
  have g1 := frozen_box hx1 1
  have g2 := frozen_box hx1 2
  have g3 := frozen_box hx1 3
  have g4 := frozen_box hx1 4
  have g5 := frozen_box hx1 5
  by_cases h5 : ¬ k = 5
  · have e : io (.mk k b i s n l) q = none := by simp [io, C.k, h5]
    rw [e]
    have h5' : (k != 5) = true := by simp [h5]
    clear e
    unfold Ref
    go_enter Tryd.func30, Tryd.ntmps30
    go_wp2_with fail
    obtain ⟨W3, hW3⟩ : ∃ W3, ((((((W0.setCell ⟨w.heap.size + 1, 0, none⟩ (.int .i64 0)).setCell ⟨w.heap.size + 1, 1, none⟩ (.bool false)).setCell ⟨w.heap.size + 1, 2, none⟩ (.int .i64 0)).setCell ⟨w.heap.size + 1, 3, none⟩ (.string ⟨#[]⟩)).setCell ⟨w.heap.size + 1, 4, none⟩ (.slice none 0 0)).setCell ⟨w.heap.size + 1, 5, none⟩ (.slice none 0 0)) = W3 := ⟨_, rfl⟩
    rw [hW3]
    obtain ⟨q1, q2, q3, q4⟩ := set6 _ _ _ _ _ _ hx1 hW3
    refine bodyPost_ret (res_row_tmp rfl _ W3 (w.heap.size + 1) 25 _ (0, 0) _ rfl q1 Tryd.underlying25 rfl (by kernel_rfl)) rfl ?_
    exact ⟨_, rfl, (zV_fr wb 0 0 (Nat.le_refl _) m).in.plain, q4 _ _ (by omega) hb0⟩
  have h5 : k = 5 := Decidable.of_not_not h5
  subst h5
  have e : io (.mk 5 b i s n l) q = eo l q := by simp [io, C.k, C.l]
  rw [e]
  clear e
  by_cases h1 : q < 0
  · have e : eo l q = none := by simp [eo, h1]
    rw [e]
    have h1' : decide (q < 0) = true := decide_eq_true h1
    clear e h1'
    unfold Ref
    go_enter Tryd.func30, Tryd.ntmps30
    go_wp2_with fail
    obtain ⟨W3, hW3⟩ : ∃ W3, ((((((W0.setCell ⟨w.heap.size + 1, 0, none⟩ (.int .i64 0)).setCell ⟨w.heap.size + 1, 1, none⟩ (.bool false)).setCell ⟨w.heap.size + 1, 2, none⟩ (.int .i64 0)).setCell ⟨w.heap.size + 1, 3, none⟩ (.string ⟨#[]⟩)).setCell ⟨w.heap.size + 1, 4, none⟩ (.slice none 0 0)).setCell ⟨w.heap.size + 1, 5, none⟩ (.slice none 0 0)) = W3 := ⟨_, rfl⟩
    rw [hW3]
    obtain ⟨q1, q2, q3, q4⟩ := set6 _ _ _ _ _ _ hx1 hW3
    refine bodyPost_ret (res_row_tmp rfl _ W3 (w.heap.size + 1) 25 _ (0, 0) _ rfl q1 Tryd.underlying25 rfl (by kernel_rfl)) rfl ?_
    exact ⟨_, rfl, (zV_fr wb 0 0 (Nat.le_refl _) m).in.plain, q4 _ _ (by omega) hb0⟩
  have h1' : decide (q < 0) = false := decide_eq_false h1
  obtain ⟨j, rfl⟩ := Int.eq_ofNat_of_zero_le (by omega : 0 ≤ q)
  by_cases h2 : l.length ≤ j
  · have e : eo l j = none := by simp [eo, h2]
    rw [e]
    have h2' : decide ((l.length : Int) ≤ (j : Int)) = true := decide_eq_true (by omega)
    clear e
    unfold Ref
    go_enter Tryd.func30, Tryd.ntmps30
    go_wp2_with fail
    obtain ⟨W3, hW3⟩ : ∃ W3, ((((((W0.setCell ⟨w.heap.size + 1, 0, none⟩ (.int .i64 0)).setCell ⟨w.heap.size + 1, 1, none⟩ (.bool false)).setCell ⟨w.heap.size + 1, 2, none⟩ (.int .i64 0)).setCell ⟨w.heap.size + 1, 3, none⟩ (.string ⟨#[]⟩)).setCell ⟨w.heap.size + 1, 4, none⟩ (.slice none 0 0)).setCell ⟨w.heap.size + 1, 5, none⟩ (.slice none 0 0)) = W3 := ⟨_, rfl⟩
    rw [hW3]
    obtain ⟨q1, q2, q3, q4⟩ := set6 _ _ _ _ _ _ hx1 hW3
    refine bodyPost_ret (res_row_tmp rfl _ W3 (w.heap.size + 1) 25 _ (0, 0) _ rfl q1 Tryd.underlying25 rfl (by kernel_rfl)) rfl ?_
    exact ⟨_, rfl, (zV_fr wb 0 0 (Nat.le_refl _) m).in.plain, q4 _ _ (by omega) hb0⟩
  have h2' : decide ((l.length : Int) ≤ (j : Int)) = false := decide_eq_false (by omega)
  have hlt : j < l.length := by omega
  have e : eo l j = some l[j] := by simp [eo, hlt]
  rw [e]
  obtain ⟨g, o, x, rfl, -, hx, hin⟩ := elem_at hL hlt
  have hx := six_below hx (nx hbw hb0)
  obtain ⟨x0, x1, x2, x3, x4, x5, rfl, t0, t1, t2, t3, t4, t5⟩ := hx
  obtain ⟨p1, n1, r1, p2, n2, r2, rfl, rfl, rfl, rfl, rfl, rfl⟩ := hin.kinds
  obtain ⟨kk, hkk⟩ : ∃ kk, l[j].k = kk := ⟨_, rfl⟩
  obtain ⟨bb, hbb⟩ : ∃ bb, l[j].b = bb := ⟨_, rfl⟩
  obtain ⟨ii, hii⟩ : ∃ ii, l[j].i = ii := ⟨_, rfl⟩
  obtain ⟨ss, hss⟩ : ∃ ss, l[j].s = ss := ⟨_, rfl⟩
  rw [hkk] at t0 hin
  rw [hbb] at t1 hin
  rw [hii] at t2 hin
  rw [hss] at t3 hin
  clear hkk hbb hii hss
  clear e hL
  unfold Ref
  go_enter Tryd.func30, Tryd.ntmps30
  go_wp2_with fail
  obtain ⟨W3, hW3⟩ : ∃ W3, ((((((W0.setCell ⟨w.heap.size + 1, 0, none⟩ (.int .i64 kk)).setCell ⟨w.heap.size + 1, 1, none⟩ (.bool bb)).setCell ⟨w.heap.size + 1, 2, none⟩ (.int .i64 ii)).setCell ⟨w.heap.size + 1, 3, none⟩ (.string ss)).setCell ⟨w.heap.size + 1, 4, none⟩ (.slice p1 n1 r1)).setCell ⟨w.heap.size + 1, 5, none⟩ (.slice p2 n2 r2)) = W3 := ⟨_, rfl⟩
  rw [hW3]
  obtain ⟨q1, q2, q3, q4⟩ := set6 _ _ _ _ _ _ hx1 hW3
  refine bodyPost_ret (res_row_tmp rfl _ W3 (w.heap.size + 1) 25 _ (0, 0) _ rfl q1 Tryd.underlying25 rfl (by kernel_rfl)) rfl ?_
  have B3 := q4 _ _ (by omega) hb0
  exact ⟨_, rfl, hin.weak (fun _ h => h) false id _ (by omega), B3⟩

set_option maxRecDepth 20000 in
set_option maxHeartbeats 800000 in
theorem rfield_c {m : Nat} {v : Value} {c : C} {w : World} (wb : World) (h : In false All wb m v c) (hbw : Below wb.heap.size wb w) (x : ByteArray) :
    Calls Tryd.prog 29 #[v, .string x] w (Ref m (fo c x) wb w) := by
  obtain ⟨m, nv, lv, rfl, rfl, -, -, -, hn, hl⟩ := h.shape
  obtain ⟨a, cap, rfl, hlc, hcm, hlen, hnil, hL⟩ := hl.out
  obtain ⟨a1, c1, rfl, nlc, ncm, nlen, -, nnil, hN⟩ := hn.out
  clear h hn hl
  obtain ⟨k, b, i, s, n, l⟩ := c
  simp only [C.k, C.b, C.i, C.s, C.n, C.l] at *
  obtain ⟨W0, hW0⟩ : ∃ W0, (w.alloc (.cells #[.int .i64 k, .bool b, .int .i64 i, .string s, .slice a1 n.length c1, .slice a l.length cap] 25)).alloc (.cells #[.int .i64 0, .bool false, .int .i64 0, .string ⟨#[]⟩, .slice none 0 0, .slice none 0 0] 25) = W0 := ⟨_, rfl⟩
  have hb0 : Below w.heap.size w W0 := by rw [← hW0]; exact ((Below.refl _ w).alloc (Nat.le_refl _) _).alloc (by simp) _
  have hx0 : W0.heap[w.heap.size]? = some (.cells #[.int .i64 k, .bool b, .int .i64 i, .string s, .slice a1 n.length c1, .slice a l.length cap] 25 (0, 0)) := by
    rw [← hW0, Below.heap_alloc _ _ _ (by simp), heap_alloc_new]
  have hx1 : W0.heap[w.heap.size + 1]? = some (.cells #[.int .i64 0, .bool false, .int .i64 0, .string ⟨#[]⟩, .slice none 0 0, .slice none 0 0] 25 (0, 0)) := by
    have := heap_alloc_new (w.alloc (.cells #[.int .i64 k, .bool b, .int .i64 i, .string s, .slice a1 n.length c1, .slice a l.length cap] 25)) (.cells #[.int .i64 0, .bool false, .int .i64 0, .string ⟨#[]⟩, .slice none 0 0, .slice none 0 0] 25)
    rwa [hW0, World.size_alloc] at this
  obtain ⟨d0, d1, d2, d3, d4, d5⟩ := six_box hx0
  obtain ⟨e0, e1, e2, e3, e4, e5⟩ := six_box hx1
  have g0 := frozen_box hx1 0
  have g1 := frozen_box hx1 1
  have g2 := frozen_box hx1 2
  have g3 := frozen_box hx1 3
  have g4 := frozen_box hx1 4
  have g5 := frozen_box hx1 5
  by_cases h6 : ¬ k = 6
  · have e : fo (.mk k b i s n l) x = none := by simp [fo, C.k, h6]
    rw [e]
    have h6' : (k != 6) = true := by simp [h6]
    clear e
    unfold Ref
    go_enter Tryd.func29, Tryd.ntmps29
    go_wp2_with fail
    obtain ⟨W3, hW3⟩ : ∃ W3, ((((((W0.setCell ⟨w.heap.size + 1, 0, none⟩ (.int .i64 0)).setCell ⟨w.heap.size + 1, 1, none⟩ (.bool false)).setCell ⟨w.heap.size + 1, 2, none⟩ (.int .i64 0)).setCell ⟨w.heap.size + 1, 3, none⟩ (.string ⟨#[]⟩)).setCell ⟨w.heap.size + 1, 4, none⟩ (.slice none 0 0)).setCell ⟨w.heap.size + 1, 5, none⟩ (.slice none 0 0)) = W3 := ⟨_, rfl⟩
    rw [hW3]
    obtain ⟨q1, q2, q3, q4⟩ := set6 _ _ _ _ _ _ hx1 hW3
    refine bodyPost_ret (res_row_tmp rfl _ W3 (w.heap.size + 1) 25 _ (0, 0) _ rfl q1 Tryd.underlying25 rfl (by kernel_rfl)) rfl ?_
    exact ⟨_, rfl, (zV_fr wb 0 0 (Nat.le_refl _) m).in.plain, q4 _ _ (by omega) hb0⟩
  have h6 : k = 6 := Decidable.of_not_not h6
  subst h6
  have e : fo (.mk 6 b i s n l) x = eo l (fiI n x) := by simp [fo, C.k, C.l, C.n]
  rw [e]
  clear e
  have H1 : Hid (∀ q (h : q < n.length), eqB x n[q] = true → (∀ j (h : j < n.length), j < q → eqB x n[j] = false) → eo l (fiI n x) = l[q]?) := fun q h he hn => by
    rw [fiI, fi_some h he hn]; simp [eo]; omega
  have H2 : Hid ((∀ j (h : j < n.length), eqB x n[j] = false) → eo l (fiI n x) = none) := fun hn => by
    rw [fiI, fi_none hn]; simp [eo]
  generalize eo l (fiI n x) = p at *
  unfold Ref
  go_enter Tryd.func29, Tryd.ntmps29
  go_wp2_with fail
  go_loopw [6] (fun i' wr => ∃ q : Nat, q ≤ n.length ∧ i' = .int .i64 q ∧ (∀ j (h : j < n.length), j < q → eqB x n[j] = false) ∧ W0 = wr) (fun i' _ => n.length - (intOf i').toNat)
  case atStart => exact ⟨0, by omega, rfl, fun j _ h => by omega, rfl⟩
  case round =>
    obtain ⟨q, hq, rfl, hall, rfl⟩ := hrel
    by_cases hlt' : q < n.length
    · obtain ⟨gn, on, rfl, -, hc⟩ := name_at hN hlt'
      have hc := below_cell hc (nx hbw hb0)
      obtain ⟨nm, hnm⟩ : ∃ nm, n[q] = nm := ⟨_, rfl⟩
      rw [hnm] at hc
      cases he : eqB x n[q] with
      | true =>
        have hp := H1.out q hlt' he hall
        rw [hnm] at he
        obtain rfl : x = nm := eqB_eq.1 he
        by_cases h2 : l.length ≤ q
        · have h2' : decide ((l.length : Int) ≤ (q : Int)) = true := decide_eq_true (by omega)
          rw [List.getElem?_eq_none h2] at hp
          subst hp
          go_wp2_with fail
          obtain ⟨W3, hW3⟩ : ∃ W3, ((((((W0.setCell ⟨w.heap.size + 1, 0, none⟩ (.int .i64 0)).setCell ⟨w.heap.size + 1, 1, none⟩ (.bool false)).setCell ⟨w.heap.size + 1, 2, none⟩ (.int .i64 0)).setCell ⟨w.heap.size + 1, 3, none⟩ (.string ⟨#[]⟩)).setCell ⟨w.heap.size + 1, 4, none⟩ (.slice none 0 0)).setCell ⟨w.heap.size + 1, 5, none⟩ (.slice none 0 0)) = W3 := ⟨_, rfl⟩
          rw [hW3]
          obtain ⟨q1, q2, q3, q4⟩ := set6 _ _ _ _ _ _ hx1 hW3
          refine bodyPost_ret (res_row_tmp rfl _ W3 (w.heap.size + 1) 25 _ (0, 0) _ rfl q1 Tryd.underlying25 rfl (by kernel_rfl)) rfl ?_
          exact ⟨_, rfl, (zV_fr wb 0 0 (Nat.le_refl _) m).in.plain, q4 _ _ (by omega) hb0⟩
        · have h2' : decide ((l.length : Int) ≤ (q : Int)) = false := decide_eq_false (by omega)
          have hlt : q < l.length := by omega
          rw [List.getElem?_eq_getElem hlt] at hp
          subst hp
          obtain ⟨g, o, x, rfl, -, hx, hin⟩ := elem_at hL hlt
          have hx := six_below hx (nx hbw hb0)
          obtain ⟨x0, x1, x2, x3, x4, x5, rfl, t0, t1, t2, t3, t4, t5⟩ := hx
          obtain ⟨p1, n1, r1, p2, n2, r2, rfl, rfl, rfl, rfl, rfl, rfl⟩ := hin.kinds
          obtain ⟨kk, hkk⟩ : ∃ kk, l[q].k = kk := ⟨_, rfl⟩
          obtain ⟨bb, hbb⟩ : ∃ bb, l[q].b = bb := ⟨_, rfl⟩
          obtain ⟨ii, hii⟩ : ∃ ii, l[q].i = ii := ⟨_, rfl⟩
          obtain ⟨ss, hss⟩ : ∃ ss, l[q].s = ss := ⟨_, rfl⟩
          rw [hkk] at t0 hin
          rw [hbb] at t1 hin
          rw [hii] at t2 hin
          rw [hss] at t3 hin
          clear hkk hbb hii hss
          go_wp2_with fail
          obtain ⟨W3, hW3⟩ : ∃ W3, ((((((W0.setCell ⟨w.heap.size + 1, 0, none⟩ (.int .i64 kk)).setCell ⟨w.heap.size + 1, 1, none⟩ (.bool bb)).setCell ⟨w.heap.size + 1, 2, none⟩ (.int .i64 ii)).setCell ⟨w.heap.size + 1, 3, none⟩ (.string ss)).setCell ⟨w.heap.size + 1, 4, none⟩ (.slice p1 n1 r1)).setCell ⟨w.heap.size + 1, 5, none⟩ (.slice p2 n2 r2)) = W3 := ⟨_, rfl⟩
          rw [hW3]
          obtain ⟨q1, q2, q3, q4⟩ := set6 _ _ _ _ _ _ hx1 hW3
          refine bodyPost_ret (res_row_tmp rfl _ W3 (w.heap.size + 1) 25 _ (0, 0) _ rfl q1 Tryd.underlying25 rfl (by kernel_rfl)) rfl ?_
          have B3 := q4 _ _ (by omega) hb0
          exact ⟨_, rfl, hin.weak (fun _ h => h) false id _ (by omega), B3⟩
      | false =>
        have he' := he
        rw [hnm] at he
        have hn1 : (nm.toList == x.toList) = false := by
          unfold eqB at he
          rw [BEq.comm]; exact he
        go_wp2_with fail
        go_roundw
        case rel =>
          refine ⟨q + 1, by omega, by go_num, fun j hj hlt2 => ?_, by first | rfl | trivial⟩
          by_cases e : j = q
          · subst e; exact he'
          · exact hall j hj (by omega)
        case measure => simp only [intOf]; omega
    · have hlt2 : decide ((q : Int) < (n.length : Int)) = false := by simp; omega
      have hp := H2.out fun j hj => hall j hj (by omega)
      subst hp
      go_wp2_with fail
      obtain ⟨W3, hW3⟩ : ∃ W3, ((((((W0.setCell ⟨w.heap.size + 1, 0, none⟩ (.int .i64 0)).setCell ⟨w.heap.size + 1, 1, none⟩ (.bool false)).setCell ⟨w.heap.size + 1, 2, none⟩ (.int .i64 0)).setCell ⟨w.heap.size + 1, 3, none⟩ (.string ⟨#[]⟩)).setCell ⟨w.heap.size + 1, 4, none⟩ (.slice none 0 0)).setCell ⟨w.heap.size + 1, 5, none⟩ (.slice none 0 0)) = W3 := ⟨_, rfl⟩
      rw [hW3]
      obtain ⟨q1, q2, q3, q4⟩ := set6 _ _ _ _ _ _ hx1 hW3
      refine bodyPost_ret (res_row_tmp rfl _ W3 (w.heap.size + 1) 25 _ (0, 0) _ rfl q1 Tryd.underlying25 rfl (by kernel_rfl)) rfl ?_
      exact ⟨_, rfl, (zV_fr wb 0 0 (Nat.le_refl _) m).in.plain, q4 _ _ (by omega) hb0⟩
end Go.Proofs.YtmoblfdepcjgfaaDoor.RPart
