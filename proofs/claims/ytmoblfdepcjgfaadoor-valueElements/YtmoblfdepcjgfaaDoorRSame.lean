/- Whether two values are the same, by the document: contract of its Same. -/
import Derived.Test.YtmoblfdepcjgfaaDoorEq
import Derived.Deep.RegionHeld3
namespace Go.Proofs.YtmoblfdepcjgfaaDoor.RSame
open Go.RowKit Go.Proofs.YtmoblfdepcjgfaaDoor.Base Go.Proofs.YtmoblfdepcjgfaaDoor.Eq
set_option linter.unusedVariables false

def RSameIs (m : Nat) : Prop := ∀ (u v : Value) (c d : C) (w : World), In false All w m u c → In false All w m v d →
    Calls Tryd.prog 21 #[u, v] w fun e w' => e = .returned (.bool (same c d)) ∧ Below w.heap.size w w'
set_option maxRecDepth 20000 in
set_option maxHeartbeats 1600000 in
theorem rlists5 (m : Nat) (hm : RSameIs m) (b b' : Bool) (i i' : Int) (s s' : ByteArray) (n n' : List ByteArray) (l l' : List C) (w : World) (nv lv nv' lv' : Value) (hn : Tx false All w nv n) (hl : InL false All w m lv l) (hn' : Tx false All w nv' n') (hl' : InL false All w m lv' l')
    (hll : l.length = l'.length) :
    Calls Tryd.prog 21 #[.agg #[.int .i64 5, .bool b, .int .i64 i, .string s, nv, lv], .agg #[.int .i64 5, .bool b', .int .i64 i', .string s', nv', lv']] w fun e w' => e = .returned (.bool (sameL l l')) ∧ Below w.heap.size w w' := by
  obtain ⟨W0, hW0⟩ : ∃ W0, (w.alloc (.cells #[.int .i64 5, .bool b, .int .i64 i, .string s, nv, lv] 25)).alloc (.cells #[.int .i64 5, .bool b', .int .i64 i', .string s', nv', lv'] 25) = W0 := ⟨_, rfl⟩
  have hb0 : Below w.heap.size w W0 := by rw [← hW0]; exact ((Below.refl _ w).alloc (Nat.le_refl _) _).alloc (by simp) _
  have hsz0 : W0.heap.size = w.heap.size + 2 := by rw [← hW0]; simp
  have hx0 : W0.heap[w.heap.size]? = some (.cells #[.int .i64 5, .bool b, .int .i64 i, .string s, nv, lv] 25) := by
    rw [← hW0, Below.heap_alloc _ _ _ (by simp), heap_alloc_new]
  have hx1 : W0.heap[w.heap.size + 1]? = some (.cells #[.int .i64 5, .bool b', .int .i64 i', .string s', nv', lv'] 25) := by
    have := heap_alloc_new (w.alloc (.cells #[.int .i64 5, .bool b, .int .i64 i, .string s, nv, lv] 25)) (.cells #[.int .i64 5, .bool b', .int .i64 i', .string s', nv', lv'] 25)
    rwa [hW0, World.size_alloc] at this
  obtain ⟨d0, d1, d2, d3, d4, d5⟩ := six_box hx0
  obtain ⟨e0, e1, e2, e3, e4, e5⟩ := six_box hx1
  obtain ⟨a, cap, rfl, hlc, hcm, hlen, hnil, hL⟩ := hl.out
  obtain ⟨a', cap', rfl, hlc', hcm', hlen', hnil', hL'⟩ := hl'.out
  obtain ⟨na, ncap, rfl, nlc, ncm, nlen, -, nnil, hN⟩ := hn.out
  obtain ⟨na', ncap', rfl, nlc', ncm', nlen', -, nnil', hN'⟩ := hn'.out
  have HI := sameL_iff hll
  have hne' : ((l.length : Int) != (l'.length : Int)) = false := by simp; omega
  have hle1 : l.length ≤ l'.length := by omega
  have hle2 : l'.length ≤ l.length := by omega
  generalize sameL l l' = R at *
  have HH : Hid (R = true ↔ ∀ j (h1 : j < l.length) (h2 : j < l'.length), same l[j] l'[j] = true) := HI
  clear HI hll hn hl hn' hl'
  go_enter Tryd.func21, Tryd.ntmps21
  go_wp2_with fail
  go_loopw [5] (fun i' wr => ∃ q : Nat, q ≤ n.length ∧ i' = .int .i64 q ∧ True ∧ Below (w.heap.size + 2) W0 wr) (fun i' _ => n.length - (intOf i').toNat)
  case atStart => exact ⟨0, by omega, rfl, trivial, Below.refl _ _⟩
  case round =>
    obtain ⟨q, hq, rfl, hall, hb⟩ := hrel
    obtain ⟨y0, -, -, -, y4, y5⟩ := six_box ((hb.block w.heap.size (by omega)).trans hx0)
    obtain ⟨-, -, -, -, z4, z5⟩ := six_box ((hb.block (w.heap.size + 1) (by omega)).trans hx1)
    have hbw : Below w.heap.size w wr := hb0.trans (hb.mono (by omega))
    by_cases hlt : q < n.length
    · go_wp2_with fail
      go_loopw [6] (fun i' wr => ∃ q : Nat, q ≤ l.length ∧ i' = .int .i64 q ∧ (∀ j (h1 : j < l.length) (h2 : j < l'.length), j < q → same l[j] l'[j] = true) ∧ Below (w.heap.size + 2) W0 wr) (fun i' _ => l.length - (intOf i').toNat)
      case atStart => exact ⟨0, by omega, rfl, fun j _ _ h => by omega, hb⟩
      case round =>
        clear hb
        obtain ⟨q, hq, rfl, hall, hb⟩ := hrel
        obtain ⟨-, -, -, -, -, y5⟩ := six_box ((hb.block w.heap.size (by omega)).trans hx0)
        obtain ⟨-, -, -, -, -, z5⟩ := six_box ((hb.block (w.heap.size + 1) (by omega)).trans hx1)
        have hbw : Below w.heap.size w wr := hb0.trans (hb.mono (by omega))
        by_cases hlt : q < l.length
        · have hlt2 : q < l'.length := by omega
          obtain ⟨g, o, x, rfl, -, hx, hin⟩ := elem_at hL hlt
          obtain ⟨g', o', y, rfl, -, hy, hin'⟩ := elem_at hL' hlt2
          have hd := (Below.refl wr.heap.size wr).drew
          have c21 := hm x y l[q] l'[q] wr.drew ((hin.below hbw).below hd) ((hin'.below hbw).below hd)
          have hx := six_below hx hbw
          have hy := six_below hy hbw
          obtain ⟨p0, p1, p2, p3, p4, p5, rfl, f0, f1, f2, f3, f4, f5⟩ := hx
          obtain ⟨r0, r1, r2, r3, r4, r5, rfl, g0, g1, g2, g3, g4, g5⟩ := hy
          have HA : Hid (∀ j (h1 : j < l.length) (h2 : j < l'.length), j < q → same l[j] l'[j] = true) := hall
          obtain ⟨X, hX⟩ : ∃ X, same l[q] l'[q] = X := ⟨_, rfl⟩
          have HX : Hid (same l[q] l'[q] = X) := hX
          rw [hX] at c21
          clear hL hL' hall hX hin hin' hm hN hN' hx0 hx1 hW0
          go_wp2_with fail
          cases X with
          | true =>
            go_region_held3 (fun w' => w'.cell? ⟨w.heap.size, 5, none⟩ = some (.slice (some ⟨g, o, none⟩) l.length cap) ∧ w'.cell? ⟨w.heap.size + 1, 5, none⟩ = some (.slice (some ⟨g', o', none⟩) l'.length cap') ∧ w'.cell? ⟨g, o + q * 6, none⟩ = some p0 ∧ w'.cell? ⟨g, o + q * 6 + 1, none⟩ = some p1 ∧ w'.cell? ⟨g, o + q * 6 + 2, none⟩ = some p2 ∧ w'.cell? ⟨g, o + q * 6 + 3, none⟩ = some p3 ∧ w'.cell? ⟨g, o + q * 6 + 4, none⟩ = some p4 ∧ w'.cell? ⟨g, o + q * 6 + 5, none⟩ = some p5 ∧ w'.cell? ⟨g', o' + q * 6, none⟩ = some r0 ∧ w'.cell? ⟨g', o' + q * 6 + 1, none⟩ = some r1 ∧ w'.cell? ⟨g', o' + q * 6 + 2, none⟩ = some r2 ∧ w'.cell? ⟨g', o' + q * 6 + 3, none⟩ = some r3 ∧ w'.cell? ⟨g', o' + q * 6 + 4, none⟩ = some r4 ∧ w'.cell? ⟨g', o' + q * 6 + 5, none⟩ = some r5) (go_keep) (first | (go_at_call 21; refine c21.mono ?_; rintro e w1 ⟨rfl, b1⟩; have t0 := below_cell (w := wr.drew) y5 b1; have t1 := below_cell (w := wr.drew) z5 b1; have t2 := below_cell (w := wr.drew) f0 b1; have t3 := below_cell (w := wr.drew) f1 b1; have t4 := below_cell (w := wr.drew) f2 b1; have t5 := below_cell (w := wr.drew) f3 b1; have t6 := below_cell (w := wr.drew) f4 b1; have t7 := below_cell (w := wr.drew) f5 b1; have t8 := below_cell (w := wr.drew) g0 b1; have t9 := below_cell (w := wr.drew) g1 b1; have t10 := below_cell (w := wr.drew) g2 b1; have t11 := below_cell (w := wr.drew) g3 b1; have t12 := below_cell (w := wr.drew) g4 b1; have t13 := below_cell (w := wr.drew) g5 b1) | fail)
            go_wp2_with fail
            go_roundw
            case rel =>
              refine ⟨q + 1, by omega, by go_num, fun j h1 h2 hj => ?_, hb.drew.trans (b1.mono (by have := hb.size; simp; omega))⟩
              by_cases e : j = q
              · subst e
                exact HX.out
              · exact HA.out j h1 h2 (by omega)
            case measure => simp only [intOf]; omega
          | false =>
            have hR : R = false := false_of fun h => by
              have := HH.out.1 h q hlt hlt2
              rw [HX.out] at this
              cases this
            subst hR
            go_region_held3 (fun w' => w'.cell? ⟨w.heap.size, 5, none⟩ = some (.slice (some ⟨g, o, none⟩) l.length cap) ∧ w'.cell? ⟨w.heap.size + 1, 5, none⟩ = some (.slice (some ⟨g', o', none⟩) l'.length cap') ∧ w'.cell? ⟨g, o + q * 6, none⟩ = some p0 ∧ w'.cell? ⟨g, o + q * 6 + 1, none⟩ = some p1 ∧ w'.cell? ⟨g, o + q * 6 + 2, none⟩ = some p2 ∧ w'.cell? ⟨g, o + q * 6 + 3, none⟩ = some p3 ∧ w'.cell? ⟨g, o + q * 6 + 4, none⟩ = some p4 ∧ w'.cell? ⟨g, o + q * 6 + 5, none⟩ = some p5 ∧ w'.cell? ⟨g', o' + q * 6, none⟩ = some r0 ∧ w'.cell? ⟨g', o' + q * 6 + 1, none⟩ = some r1 ∧ w'.cell? ⟨g', o' + q * 6 + 2, none⟩ = some r2 ∧ w'.cell? ⟨g', o' + q * 6 + 3, none⟩ = some r3 ∧ w'.cell? ⟨g', o' + q * 6 + 4, none⟩ = some r4 ∧ w'.cell? ⟨g', o' + q * 6 + 5, none⟩ = some r5) (go_keep) (first | (go_at_call 21; refine c21.mono ?_; rintro e w1 ⟨rfl, b1⟩; have t0 := below_cell (w := wr.drew) y5 b1; have t1 := below_cell (w := wr.drew) z5 b1; have t2 := below_cell (w := wr.drew) f0 b1; have t3 := below_cell (w := wr.drew) f1 b1; have t4 := below_cell (w := wr.drew) f2 b1; have t5 := below_cell (w := wr.drew) f3 b1; have t6 := below_cell (w := wr.drew) f4 b1; have t7 := below_cell (w := wr.drew) f5 b1; have t8 := below_cell (w := wr.drew) g0 b1; have t9 := below_cell (w := wr.drew) g1 b1; have t10 := below_cell (w := wr.drew) g2 b1; have t11 := below_cell (w := wr.drew) g3 b1; have t12 := below_cell (w := wr.drew) g4 b1; have t13 := below_cell (w := wr.drew) g5 b1) | fail)
            all_goals go_wp2_with fail
            all_goals go_ret
            all_goals exact ⟨by simp, hb0.trans ((hb.drew.trans (b1.mono (by have := hb.size; simp; omega))).mono (by omega))⟩
        · have hlt' : decide ((q : Int) < (l.length : Int)) = false := by simp; omega
          have hR : R = true := HH.out.2 fun j h1 h2 => hall j h1 h2 (by omega)
          subst hR
          clear hall
          go_wp2_with fail
          go_ret
          exact ⟨by simp, hbw⟩
    · have hlt' : decide ((q : Int) < (n.length : Int)) = false := decide_eq_false (by omega)
      go_wp2_with fail
      go_loopw [6] (fun i' wr => ∃ q : Nat, q ≤ l.length ∧ i' = .int .i64 q ∧ (∀ j (h1 : j < l.length) (h2 : j < l'.length), j < q → same l[j] l'[j] = true) ∧ Below (w.heap.size + 2) W0 wr) (fun i' _ => l.length - (intOf i').toNat)
      case atStart => exact ⟨0, by omega, rfl, fun j _ _ h => by omega, hb⟩
      case round =>
        clear hb
        obtain ⟨q, hq, rfl, hall, hb⟩ := hrel
        obtain ⟨-, -, -, -, -, y5⟩ := six_box ((hb.block w.heap.size (by omega)).trans hx0)
        obtain ⟨-, -, -, -, -, z5⟩ := six_box ((hb.block (w.heap.size + 1) (by omega)).trans hx1)
        have hbw : Below w.heap.size w wr := hb0.trans (hb.mono (by omega))
        by_cases hlt : q < l.length
        · have hlt2 : q < l'.length := by omega
          obtain ⟨g, o, x, rfl, -, hx, hin⟩ := elem_at hL hlt
          obtain ⟨g', o', y, rfl, -, hy, hin'⟩ := elem_at hL' hlt2
          have hd := (Below.refl wr.heap.size wr).drew
          have c21 := hm x y l[q] l'[q] wr.drew ((hin.below hbw).below hd) ((hin'.below hbw).below hd)
          have hx := six_below hx hbw
          have hy := six_below hy hbw
          obtain ⟨p0, p1, p2, p3, p4, p5, rfl, f0, f1, f2, f3, f4, f5⟩ := hx
          obtain ⟨r0, r1, r2, r3, r4, r5, rfl, g0, g1, g2, g3, g4, g5⟩ := hy
          have HA : Hid (∀ j (h1 : j < l.length) (h2 : j < l'.length), j < q → same l[j] l'[j] = true) := hall
          obtain ⟨X, hX⟩ : ∃ X, same l[q] l'[q] = X := ⟨_, rfl⟩
          have HX : Hid (same l[q] l'[q] = X) := hX
          rw [hX] at c21
          clear hL hL' hall hX hin hin' hm hN hN' hx0 hx1 hW0
          go_wp2_with fail
          cases X with
          | true =>
            go_region_held3 (fun w' => w'.cell? ⟨w.heap.size, 5, none⟩ = some (.slice (some ⟨g, o, none⟩) l.length cap) ∧ w'.cell? ⟨w.heap.size + 1, 5, none⟩ = some (.slice (some ⟨g', o', none⟩) l'.length cap') ∧ w'.cell? ⟨g, o + q * 6, none⟩ = some p0 ∧ w'.cell? ⟨g, o + q * 6 + 1, none⟩ = some p1 ∧ w'.cell? ⟨g, o + q * 6 + 2, none⟩ = some p2 ∧ w'.cell? ⟨g, o + q * 6 + 3, none⟩ = some p3 ∧ w'.cell? ⟨g, o + q * 6 + 4, none⟩ = some p4 ∧ w'.cell? ⟨g, o + q * 6 + 5, none⟩ = some p5 ∧ w'.cell? ⟨g', o' + q * 6, none⟩ = some r0 ∧ w'.cell? ⟨g', o' + q * 6 + 1, none⟩ = some r1 ∧ w'.cell? ⟨g', o' + q * 6 + 2, none⟩ = some r2 ∧ w'.cell? ⟨g', o' + q * 6 + 3, none⟩ = some r3 ∧ w'.cell? ⟨g', o' + q * 6 + 4, none⟩ = some r4 ∧ w'.cell? ⟨g', o' + q * 6 + 5, none⟩ = some r5) (go_keep) (first | (go_at_call 21; refine c21.mono ?_; rintro e w1 ⟨rfl, b1⟩; have t0 := below_cell (w := wr.drew) y5 b1; have t1 := below_cell (w := wr.drew) z5 b1; have t2 := below_cell (w := wr.drew) f0 b1; have t3 := below_cell (w := wr.drew) f1 b1; have t4 := below_cell (w := wr.drew) f2 b1; have t5 := below_cell (w := wr.drew) f3 b1; have t6 := below_cell (w := wr.drew) f4 b1; have t7 := below_cell (w := wr.drew) f5 b1; have t8 := below_cell (w := wr.drew) g0 b1; have t9 := below_cell (w := wr.drew) g1 b1; have t10 := below_cell (w := wr.drew) g2 b1; have t11 := below_cell (w := wr.drew) g3 b1; have t12 := below_cell (w := wr.drew) g4 b1; have t13 := below_cell (w := wr.drew) g5 b1) | fail)
            go_wp2_with fail
            go_roundw
            case rel =>
              refine ⟨q + 1, by omega, by go_num, fun j h1 h2 hj => ?_, hb.drew.trans (b1.mono (by have := hb.size; simp; omega))⟩
              by_cases e : j = q
              · subst e
                exact HX.out
              · exact HA.out j h1 h2 (by omega)
            case measure => simp only [intOf]; omega
          | false =>
            have hR : R = false := false_of fun h => by
              have := HH.out.1 h q hlt hlt2
              rw [HX.out] at this
              cases this
            subst hR
            go_region_held3 (fun w' => w'.cell? ⟨w.heap.size, 5, none⟩ = some (.slice (some ⟨g, o, none⟩) l.length cap) ∧ w'.cell? ⟨w.heap.size + 1, 5, none⟩ = some (.slice (some ⟨g', o', none⟩) l'.length cap') ∧ w'.cell? ⟨g, o + q * 6, none⟩ = some p0 ∧ w'.cell? ⟨g, o + q * 6 + 1, none⟩ = some p1 ∧ w'.cell? ⟨g, o + q * 6 + 2, none⟩ = some p2 ∧ w'.cell? ⟨g, o + q * 6 + 3, none⟩ = some p3 ∧ w'.cell? ⟨g, o + q * 6 + 4, none⟩ = some p4 ∧ w'.cell? ⟨g, o + q * 6 + 5, none⟩ = some p5 ∧ w'.cell? ⟨g', o' + q * 6, none⟩ = some r0 ∧ w'.cell? ⟨g', o' + q * 6 + 1, none⟩ = some r1 ∧ w'.cell? ⟨g', o' + q * 6 + 2, none⟩ = some r2 ∧ w'.cell? ⟨g', o' + q * 6 + 3, none⟩ = some r3 ∧ w'.cell? ⟨g', o' + q * 6 + 4, none⟩ = some r4 ∧ w'.cell? ⟨g', o' + q * 6 + 5, none⟩ = some r5) (go_keep) (first | (go_at_call 21; refine c21.mono ?_; rintro e w1 ⟨rfl, b1⟩; have t0 := below_cell (w := wr.drew) y5 b1; have t1 := below_cell (w := wr.drew) z5 b1; have t2 := below_cell (w := wr.drew) f0 b1; have t3 := below_cell (w := wr.drew) f1 b1; have t4 := below_cell (w := wr.drew) f2 b1; have t5 := below_cell (w := wr.drew) f3 b1; have t6 := below_cell (w := wr.drew) f4 b1; have t7 := below_cell (w := wr.drew) f5 b1; have t8 := below_cell (w := wr.drew) g0 b1; have t9 := below_cell (w := wr.drew) g1 b1; have t10 := below_cell (w := wr.drew) g2 b1; have t11 := below_cell (w := wr.drew) g3 b1; have t12 := below_cell (w := wr.drew) g4 b1; have t13 := below_cell (w := wr.drew) g5 b1) | fail)
            all_goals go_wp2_with fail
            all_goals go_ret
            all_goals exact ⟨by simp, hb0.trans ((hb.drew.trans (b1.mono (by have := hb.size; simp; omega))).mono (by omega))⟩
        · have hlt' : decide ((q : Int) < (l.length : Int)) = false := by simp; omega
          have hR : R = true := HH.out.2 fun j h1 h2 => hall j h1 h2 (by omega)
          subst hR
          clear hall
          go_wp2_with fail
          go_ret
          exact ⟨by simp, hbw⟩
set_option maxRecDepth 20000 in
set_option maxHeartbeats 1600000 in
theorem rlists6 (m : Nat) (hm : RSameIs m) (b b' : Bool) (i i' : Int) (s s' : ByteArray) (n n' : List ByteArray) (l l' : List C) (w : World) (nv lv nv' lv' : Value) (hn : Tx false All w nv n) (hl : InL false All w m lv l) (hn' : Tx false All w nv' n') (hl' : InL false All w m lv' l')
    (hll : l.length = l'.length) (hnl : n.length = n'.length) :
    Calls Tryd.prog 21 #[.agg #[.int .i64 6, .bool b, .int .i64 i, .string s, nv, lv], .agg #[.int .i64 6, .bool b', .int .i64 i', .string s', nv', lv']] w fun e w' => e = .returned (.bool (eqN n n' && sameL l l')) ∧ Below w.heap.size w w' := by
  obtain ⟨W0, hW0⟩ : ∃ W0, (w.alloc (.cells #[.int .i64 6, .bool b, .int .i64 i, .string s, nv, lv] 25)).alloc (.cells #[.int .i64 6, .bool b', .int .i64 i', .string s', nv', lv'] 25) = W0 := ⟨_, rfl⟩
  have hb0 : Below w.heap.size w W0 := by rw [← hW0]; exact ((Below.refl _ w).alloc (Nat.le_refl _) _).alloc (by simp) _
  have hsz0 : W0.heap.size = w.heap.size + 2 := by rw [← hW0]; simp
  have hx0 : W0.heap[w.heap.size]? = some (.cells #[.int .i64 6, .bool b, .int .i64 i, .string s, nv, lv] 25) := by
    rw [← hW0, Below.heap_alloc _ _ _ (by simp), heap_alloc_new]
  have hx1 : W0.heap[w.heap.size + 1]? = some (.cells #[.int .i64 6, .bool b', .int .i64 i', .string s', nv', lv'] 25) := by
    have := heap_alloc_new (w.alloc (.cells #[.int .i64 6, .bool b, .int .i64 i, .string s, nv, lv] 25)) (.cells #[.int .i64 6, .bool b', .int .i64 i', .string s', nv', lv'] 25)
    rwa [hW0, World.size_alloc] at this
  obtain ⟨d0, d1, d2, d3, d4, d5⟩ := six_box hx0
  obtain ⟨e0, e1, e2, e3, e4, e5⟩ := six_box hx1
  obtain ⟨a, cap, rfl, hlc, hcm, hlen, hnil, hL⟩ := hl.out
  obtain ⟨a', cap', rfl, hlc', hcm', hlen', hnil', hL'⟩ := hl'.out
  obtain ⟨na, ncap, rfl, nlc, ncm, nlen, -, nnil, hN⟩ := hn.out
  obtain ⟨na', ncap', rfl, nlc', ncm', nlen', -, nnil', hN'⟩ := hn'.out
  have HI := sameL_iff hll
  have hne' : ((l.length : Int) != (l'.length : Int)) = false := by simp; omega
  have hle1 : l.length ≤ l'.length := by omega
  have hle2 : l'.length ≤ l.length := by omega
  generalize sameL l l' = R at *
  have HH : Hid (R = true ↔ ∀ j (h1 : j < l.length) (h2 : j < l'.length), same l[j] l'[j] = true) := HI
  clear HI hll hn hl hn' hl'
  have HJ := eqN_iff hnl
  have nne' : ((n.length : Int) != (n'.length : Int)) = false := by simp; omega
  have nle1 : n.length ≤ n'.length := by omega
  have nle2 : n'.length ≤ n.length := by omega
  generalize eqN n n' = T at *
  have HT : Hid (T = true ↔ ∀ j (h1 : j < n.length) (h2 : j < n'.length), eqB n[j] n'[j] = true) := HJ
  clear HJ hnl
  go_enter Tryd.func21, Tryd.ntmps21
  go_wp2_with fail
  go_loopw [5] (fun i' wr => ∃ q : Nat, q ≤ n.length ∧ i' = .int .i64 q ∧ (∀ j (h1 : j < n.length) (h2 : j < n'.length), j < q → eqB n[j] n'[j] = true) ∧ Below (w.heap.size + 2) W0 wr) (fun i' _ => n.length - (intOf i').toNat)
  case atStart => exact ⟨0, by omega, rfl, fun j _ _ h => by omega, Below.refl _ _⟩
  case round =>
    obtain ⟨q, hq, rfl, hall, hb⟩ := hrel
    obtain ⟨y0, -, -, -, y4, y5⟩ := six_box ((hb.block w.heap.size (by omega)).trans hx0)
    obtain ⟨-, -, -, -, z4, z5⟩ := six_box ((hb.block (w.heap.size + 1) (by omega)).trans hx1)
    have hbw : Below w.heap.size w wr := hb0.trans (hb.mono (by omega))
    by_cases hlt : q < n.length
    · have hlt2 : q < n'.length := by omega
      obtain ⟨g, o, rfl, -, hc⟩ := name_at hN hlt
      obtain ⟨g', o', rfl, -, hc'⟩ := name_at hN' hlt2
      have hc := below_cell hc hbw
      have hc' := below_cell hc' hbw
      have hb' := hb.drew
      have HA : Hid (∀ j (h1 : j < n.length) (h2 : j < n'.length), j < q → eqB n[j] n'[j] = true) := hall
      obtain ⟨x, hx⟩ : ∃ x, n[q] = x := ⟨_, rfl⟩
      obtain ⟨y, hy⟩ : ∃ y, n'[q] = y := ⟨_, rfl⟩
      have HX : Hid (n[q] = x) := hx
      have HY : Hid (n'[q] = y) := hy
      rw [hx] at hc
      rw [hy] at hc'
      clear hN hN' hall hx hy hL hL' hx0 hx1 hW0
      cases he : (x.toList == y.toList) with
      | true =>
        have he' : eqB x y = true := he
        go_wp2_with fail
        go_region
        all_goals go_wp2_with fail
        all_goals go_roundw
        all_goals first
          | (case rel =>
              refine ⟨q + 1, by omega, by go_num, fun j h1 h2 hj => ?_, hb'⟩
              by_cases e : j = q
              · subst e
                rw [HX.out, HY.out]
                exact he'
              · exact HA.out j h1 h2 (by omega))
          | (case measure => simp only [intOf]; omega)
      | false =>
        have he' : ¬ eqB x y = true := by unfold eqB; rw [he]; simp
        have hT : T = false := false_of fun h => he' (by have := HT.out.1 h q hlt hlt2; rwa [HX.out, HY.out] at this)
        subst hT
        go_wp2_with fail
        go_region
        all_goals go_wp2_with fail
        all_goals go_ret
        all_goals exact ⟨by simp, hbw.drew⟩
    · have hlt' : decide ((q : Int) < (n.length : Int)) = false := by simp; omega
      have hT : T = true := HT.out.2 fun j h1 h2 => hall j h1 h2 (by omega)
      subst hT
      clear hall
      go_wp2_with fail
      go_loopw [6] (fun i' wr => ∃ q : Nat, q ≤ l.length ∧ i' = .int .i64 q ∧ (∀ j (h1 : j < l.length) (h2 : j < l'.length), j < q → same l[j] l'[j] = true) ∧ Below (w.heap.size + 2) W0 wr) (fun i' _ => l.length - (intOf i').toNat)
      case atStart => exact ⟨0, by omega, rfl, fun j _ _ h => by omega, hb⟩
      case round =>
        clear hb
        obtain ⟨q, hq, rfl, hall, hb⟩ := hrel
        obtain ⟨-, -, -, -, -, y5⟩ := six_box ((hb.block w.heap.size (by omega)).trans hx0)
        obtain ⟨-, -, -, -, -, z5⟩ := six_box ((hb.block (w.heap.size + 1) (by omega)).trans hx1)
        have hbw : Below w.heap.size w wr := hb0.trans (hb.mono (by omega))
        by_cases hlt : q < l.length
        · have hlt2 : q < l'.length := by omega
          obtain ⟨g, o, x, rfl, -, hx, hin⟩ := elem_at hL hlt
          obtain ⟨g', o', y, rfl, -, hy, hin'⟩ := elem_at hL' hlt2
          have hd := (Below.refl wr.heap.size wr).drew
          have c21 := hm x y l[q] l'[q] wr.drew ((hin.below hbw).below hd) ((hin'.below hbw).below hd)
          have hx := six_below hx hbw
          have hy := six_below hy hbw
          obtain ⟨p0, p1, p2, p3, p4, p5, rfl, f0, f1, f2, f3, f4, f5⟩ := hx
          obtain ⟨r0, r1, r2, r3, r4, r5, rfl, g0, g1, g2, g3, g4, g5⟩ := hy
          have HA : Hid (∀ j (h1 : j < l.length) (h2 : j < l'.length), j < q → same l[j] l'[j] = true) := hall
          obtain ⟨X, hX⟩ : ∃ X, same l[q] l'[q] = X := ⟨_, rfl⟩
          have HX : Hid (same l[q] l'[q] = X) := hX
          rw [hX] at c21
          clear hL hL' hall hX hin hin' hm hN hN' hx0 hx1 hW0
          go_wp2_with fail
          cases X with
          | true =>
            go_region_held3 (fun w' => w'.cell? ⟨w.heap.size, 5, none⟩ = some (.slice (some ⟨g, o, none⟩) l.length cap) ∧ w'.cell? ⟨w.heap.size + 1, 5, none⟩ = some (.slice (some ⟨g', o', none⟩) l'.length cap') ∧ w'.cell? ⟨g, o + q * 6, none⟩ = some p0 ∧ w'.cell? ⟨g, o + q * 6 + 1, none⟩ = some p1 ∧ w'.cell? ⟨g, o + q * 6 + 2, none⟩ = some p2 ∧ w'.cell? ⟨g, o + q * 6 + 3, none⟩ = some p3 ∧ w'.cell? ⟨g, o + q * 6 + 4, none⟩ = some p4 ∧ w'.cell? ⟨g, o + q * 6 + 5, none⟩ = some p5 ∧ w'.cell? ⟨g', o' + q * 6, none⟩ = some r0 ∧ w'.cell? ⟨g', o' + q * 6 + 1, none⟩ = some r1 ∧ w'.cell? ⟨g', o' + q * 6 + 2, none⟩ = some r2 ∧ w'.cell? ⟨g', o' + q * 6 + 3, none⟩ = some r3 ∧ w'.cell? ⟨g', o' + q * 6 + 4, none⟩ = some r4 ∧ w'.cell? ⟨g', o' + q * 6 + 5, none⟩ = some r5) (go_keep) (first | (go_at_call 21; refine c21.mono ?_; rintro e w1 ⟨rfl, b1⟩; have t0 := below_cell (w := wr.drew) y5 b1; have t1 := below_cell (w := wr.drew) z5 b1; have t2 := below_cell (w := wr.drew) f0 b1; have t3 := below_cell (w := wr.drew) f1 b1; have t4 := below_cell (w := wr.drew) f2 b1; have t5 := below_cell (w := wr.drew) f3 b1; have t6 := below_cell (w := wr.drew) f4 b1; have t7 := below_cell (w := wr.drew) f5 b1; have t8 := below_cell (w := wr.drew) g0 b1; have t9 := below_cell (w := wr.drew) g1 b1; have t10 := below_cell (w := wr.drew) g2 b1; have t11 := below_cell (w := wr.drew) g3 b1; have t12 := below_cell (w := wr.drew) g4 b1; have t13 := below_cell (w := wr.drew) g5 b1) | fail)
            go_wp2_with fail
            go_roundw
            case rel =>
              refine ⟨q + 1, by omega, by go_num, fun j h1 h2 hj => ?_, hb.drew.trans (b1.mono (by have := hb.size; simp; omega))⟩
              by_cases e : j = q
              · subst e
                exact HX.out
              · exact HA.out j h1 h2 (by omega)
            case measure => simp only [intOf]; omega
          | false =>
            have hR : R = false := false_of fun h => by
              have := HH.out.1 h q hlt hlt2
              rw [HX.out] at this
              cases this
            subst hR
            go_region_held3 (fun w' => w'.cell? ⟨w.heap.size, 5, none⟩ = some (.slice (some ⟨g, o, none⟩) l.length cap) ∧ w'.cell? ⟨w.heap.size + 1, 5, none⟩ = some (.slice (some ⟨g', o', none⟩) l'.length cap') ∧ w'.cell? ⟨g, o + q * 6, none⟩ = some p0 ∧ w'.cell? ⟨g, o + q * 6 + 1, none⟩ = some p1 ∧ w'.cell? ⟨g, o + q * 6 + 2, none⟩ = some p2 ∧ w'.cell? ⟨g, o + q * 6 + 3, none⟩ = some p3 ∧ w'.cell? ⟨g, o + q * 6 + 4, none⟩ = some p4 ∧ w'.cell? ⟨g, o + q * 6 + 5, none⟩ = some p5 ∧ w'.cell? ⟨g', o' + q * 6, none⟩ = some r0 ∧ w'.cell? ⟨g', o' + q * 6 + 1, none⟩ = some r1 ∧ w'.cell? ⟨g', o' + q * 6 + 2, none⟩ = some r2 ∧ w'.cell? ⟨g', o' + q * 6 + 3, none⟩ = some r3 ∧ w'.cell? ⟨g', o' + q * 6 + 4, none⟩ = some r4 ∧ w'.cell? ⟨g', o' + q * 6 + 5, none⟩ = some r5) (go_keep) (first | (go_at_call 21; refine c21.mono ?_; rintro e w1 ⟨rfl, b1⟩; have t0 := below_cell (w := wr.drew) y5 b1; have t1 := below_cell (w := wr.drew) z5 b1; have t2 := below_cell (w := wr.drew) f0 b1; have t3 := below_cell (w := wr.drew) f1 b1; have t4 := below_cell (w := wr.drew) f2 b1; have t5 := below_cell (w := wr.drew) f3 b1; have t6 := below_cell (w := wr.drew) f4 b1; have t7 := below_cell (w := wr.drew) f5 b1; have t8 := below_cell (w := wr.drew) g0 b1; have t9 := below_cell (w := wr.drew) g1 b1; have t10 := below_cell (w := wr.drew) g2 b1; have t11 := below_cell (w := wr.drew) g3 b1; have t12 := below_cell (w := wr.drew) g4 b1; have t13 := below_cell (w := wr.drew) g5 b1) | fail)
            all_goals go_wp2_with fail
            all_goals go_ret
            all_goals exact ⟨by simp, hb0.trans ((hb.drew.trans (b1.mono (by have := hb.size; simp; omega))).mono (by omega))⟩
        · have hlt' : decide ((q : Int) < (l.length : Int)) = false := by simp; omega
          have hR : R = true := HH.out.2 fun j h1 h2 => hall j h1 h2 (by omega)
          subst hR
          clear hall
          go_wp2_with fail
          go_ret
          exact ⟨by simp, hbw⟩
set_option maxRecDepth 20000 in
set_option maxHeartbeats 800000 in
theorem rsame_of (m : Nat) (hm : RSameIs m) : RSameIs (m + 1) := by
  intro u v c d w hu hv
  obtain ⟨k, b, i, s, n, l⟩ := c
  obtain ⟨k', b', i', s', n', l'⟩ := d
  rw [in_iff] at hu hv
  obtain ⟨nv, lv, rfl, -, -, -, hn, hl⟩ := hu
  obtain ⟨nv', lv', rfl, -, -, -, hn', hl'⟩ := hv
  obtain ⟨W0, hW0⟩ : ∃ W0, (w.alloc (.cells #[.int .i64 k, .bool b, .int .i64 i, .string s, nv, lv] 25)).alloc (.cells #[.int .i64 k', .bool b', .int .i64 i', .string s', nv', lv'] 25) = W0 := ⟨_, rfl⟩
  have hb0 : Below w.heap.size w W0 := by rw [← hW0]; exact ((Below.refl _ w).alloc (Nat.le_refl _) _).alloc (by simp) _
  have hsz0 : W0.heap.size = w.heap.size + 2 := by rw [← hW0]; simp
  have hx0 : W0.heap[w.heap.size]? = some (.cells #[.int .i64 k, .bool b, .int .i64 i, .string s, nv, lv] 25) := by
    rw [← hW0, Below.heap_alloc _ _ _ (by simp), heap_alloc_new]
  have hx1 : W0.heap[w.heap.size + 1]? = some (.cells #[.int .i64 k', .bool b', .int .i64 i', .string s', nv', lv'] 25) := by
    have := heap_alloc_new (w.alloc (.cells #[.int .i64 k, .bool b, .int .i64 i, .string s, nv, lv] 25)) (.cells #[.int .i64 k', .bool b', .int .i64 i', .string s', nv', lv'] 25)
    rwa [hW0, World.size_alloc] at this
  obtain ⟨d0, d1, d2, d3, d4, d5⟩ := six_box hx0
  obtain ⟨e0, e1, e2, e3, e4, e5⟩ := six_box hx1
  by_cases hk : ¬ k = k'
  · have hk' : (k != k') = true := by simp [hk]
    have e : same (.mk k b i s n l) (.mk k' b' i' s' n' l') = false := by simp [same, hk]
    rw [e]
    clear e
    go_enter Tryd.func21, Tryd.ntmps21
    go_wp2_with fail
    go_ret
    exact ⟨rfl, hb0⟩
  have hk : k = k' := Decidable.of_not_not hk
  subst hk
  by_cases h2 : k = 2
  · subst h2
    have e : same (.mk 2 b i s n l) (.mk 2 b' i' s' n' l') = (b == b') := by simp [same]
    rw [e]
    clear e
    go_enter Tryd.func21, Tryd.ntmps21
    go_wp2_with fail
    go_ret
    exact ⟨rfl, hb0⟩
  by_cases h3 : k = 3
  · subst h3
    have e : same (.mk 3 b i s n l) (.mk 3 b' i' s' n' l') = (i == i') := by simp [same]
    rw [e]
    clear e
    go_enter Tryd.func21, Tryd.ntmps21
    go_wp2_with fail
    go_ret
    exact ⟨rfl, hb0⟩
  by_cases h4 : k = 4
  · subst h4
    have e : same (.mk 4 b i s n l) (.mk 4 b' i' s' n' l') = (s.toList == s'.toList) := by simp [same, eqB]
    rw [e]
    clear e
    go_enter Tryd.func21, Tryd.ntmps21
    go_wp2_with fail
    go_ret
    exact ⟨rfl, hb0⟩
  have h2' : (k == 2) = false := by simp [h2]
  have h3' : (k == 3) = false := by simp [h3]
  have h4' : (k == 4) = false := by simp [h4]
  by_cases h5 : k = 5
  · subst h5
    have e : same (.mk 5 b i s n l) (.mk 5 b' i' s' n' l') = sameL l l' := by simp [same]
    rw [e]
    by_cases hll : l.length = l'.length
    · exact rlists5 m hm b b' i i' s s' n n' l l' w nv lv nv' lv' hn hl hn' hl' hll
    · rw [sameL_len hll]
      obtain ⟨a, cap, rfl, hlc, hcm, -, hnil, -⟩ := hl.out
      obtain ⟨a', cap', rfl, hlc', hcm', -, hnil', -⟩ := hl'.out
      have hne' : ((l.length : Int) != (l'.length : Int)) = true := by simp; omega
      clear e hm hx0 hx1 hn hl hn' hl'
      go_enter Tryd.func21, Tryd.ntmps21
      go_wp2_with fail
      go_ret
      exact ⟨rfl, hb0⟩
  have h5' : (k == 5) = false := by simp [h5]
  by_cases h6 : k = 6
  · subst h6
    have e : same (.mk 6 b i s n l) (.mk 6 b' i' s' n' l') = (eqN n n' && sameL l l') := by simp [same]
    rw [e]
    by_cases hll : l.length = l'.length
    · by_cases hnl : n.length = n'.length
      · exact rlists6 m hm b b' i i' s s' n n' l l' w nv lv nv' lv' hn hl hn' hl' hll hnl
      · rw [eqN_len hnl]
        obtain ⟨a, cap, rfl, hlc, hcm, -, hnil, -⟩ := hl.out
        obtain ⟨a', cap', rfl, hlc', hcm', -, hnil', -⟩ := hl'.out
        obtain ⟨na, ncap, rfl, nlc, ncm, -, -, nnil, -⟩ := hn.out
        obtain ⟨na', ncap', rfl, nlc', ncm', -, -, nnil', -⟩ := hn'.out
        have hne' : ((l.length : Int) != (l'.length : Int)) = false := by simp; omega
        have nne' : ((n.length : Int) != (n'.length : Int)) = true := by simp; omega
        clear e hm hx0 hx1 hn hl hn' hl' hll
        go_enter Tryd.func21, Tryd.ntmps21
        go_wp2_with fail
        go_ret
        exact ⟨by simp, hb0⟩
    · rw [sameL_len hll]
      obtain ⟨a, cap, rfl, hlc, hcm, -, hnil, -⟩ := hl.out
      obtain ⟨a', cap', rfl, hlc', hcm', -, hnil', -⟩ := hl'.out
      have hne' : ((l.length : Int) != (l'.length : Int)) = true := by simp; omega
      clear e hm hx0 hx1 hn hl hn' hl'
      go_enter Tryd.func21, Tryd.ntmps21
      go_wp2_with fail
      go_ret
      exact ⟨by simp, hb0⟩
  have h6' : (k == 6) = false := by simp [h6]
  have e : same (.mk k b i s n l) (.mk k b' i' s' n' l') = true := by simp [same, h2, h3, h4, h5, h6]
  rw [e]
  clear e
  go_enter Tryd.func21, Tryd.ntmps21
  go_wp2_with fail
  go_ret
  exact ⟨rfl, hb0⟩
theorem rsames : ∀ m, RSameIs m := by
  intro m
  induction m with
  | zero => intro u v c d w h; rw [In] at h; exact h.elim
  | succ m ih => exact rsame_of m ih
theorem rsame_c {m m' : Nat} {u v : Value} {c d : C} {w : World} (hu : In false All w m u c) (hv : In false All w m' v d) :
    Calls Tryd.prog 21 #[u, v] w fun e w' => e = .returned (.bool (same c d)) ∧ Below w.heap.size w w' :=
  rsames (max m m') u v c d w (hu.weak (fun _ h => h) false id _ (Nat.le_max_left _ _)) (hv.weak (fun _ h => h) false id _ (Nat.le_max_right _ _))
end Go.Proofs.YtmoblfdepcjgfaaDoor.RSame
