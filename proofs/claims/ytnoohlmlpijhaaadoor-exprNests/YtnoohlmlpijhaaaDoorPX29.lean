import Derived.Deep.RegionWith
import Derived.Test.YtnoohlmlpijhaaaDoorPX04
namespace Go.Proofs.YtnoohlmlpijhaaaDoor.XSm
open Go.RowKit Go.Proofs.YtnoohlmlpijhaaaDoor.EPure Go.Proofs.YtnoohlmlpijhaaaDoor.XBase
open Go.Proofs.YtnoohlmlpijhaaaDoor.Base (nx All heap_alloc_new)
set_option linter.unusedVariables false
/-- One by one the same. -/
def smL : List Ex → List Ex → Bool
  | [], [] => true
  | [], _ :: _ => false
  | _ :: _, [] => false
  | .mk o i s l :: t, .mk o' i' s' l' :: t' => ((o == o') && ((i == i') && ((s.toList == s'.toList) && smL l l'))) && smL t t'
theorem smL_nil : smL [] [] = true := by rw [smL]
theorem smL_one (o i : Int) (s : ByteArray) (l : List Ex) (o' i' : Int) (s' : ByteArray) (l' : List Ex) : smL [.mk o i s l] [.mk o' i' s' l'] = ((o == o') && ((i == i') && ((s.toList == s'.toList) && smL l l'))) := by
  rw [smL, smL_nil, Bool.and_true]
theorem smL_cons (x y : Ex) (t t' : List Ex) : smL (x :: t) (y :: t') = (smL [x] [y] && smL t t') := by
  obtain ⟨o, i, s, l⟩ := x
  obtain ⟨o', i', s', l'⟩ := y
  rw [smL_one, smL]
theorem smL_len : ∀ (t t' : List Ex), t.length ≠ t'.length → smL t t' = false
  | [], [], h => absurd rfl h
  | [], _ :: _, _ => by rw [smL]
  | _ :: _, [], _ => by rw [smL]
  | x :: t, y :: t', h => by rw [smL_cons, smL_len t t' (by simpa using h), Bool.and_false]
def SI (m : Nat) : Prop := ∀ (u v : Value) (x y : Ex) (w : World), In false All w m u x → In false All w m v y →
    Calls Tryd.prog 12 #[u, v] w fun e w' => e = .returned (.bool (smL [x] [y])) ∧ Below w.heap.size w w'
def SLI (m : Nat) : Prop := ∀ (u v : Value) (l l' : List Ex) (w : World), InL false All w m u l → InL false All w m v l' →
    Calls Tryd.prog 19 #[u, v] w fun e w' => e = .returned (.bool (smL l l')) ∧ Below w.heap.size w w'
set_option maxRecDepth 20000 in
set_option maxHeartbeats 1600000 in
theorem sames_of (m : Nat) (hm : SI m) : SLI m := by
  intro u v l l' w hu hv
  obtain ⟨a, cap, rfl, hlc, hcm, hlen, hnil, hN⟩ := hu
  obtain ⟨a', cap', rfl, hlc', hcm', hlen', hnil', hN'⟩ := hv
  by_cases hll : l.length = l'.length
  · obtain ⟨T, hT⟩ : ∃ T, smL l l' = T := ⟨_, rfl⟩
    rw [hT]
    have HT : Hid (smL (l.drop 0) (l'.drop 0) = T) := hT
    have en : (((l.length : Nat) : Int) != ((l'.length : Nat) : Int)) = false := by simp; omega
    have HLL : Hid (l.length = l'.length) := hll
    clear hT hll
    go_enter Tryd.func19, Tryd.ntmps19
    go_wp2_with fail
    go_loopw [5] (fun i wr => ∃ q : Nat, q ≤ l.length ∧ i = .int .i64 q ∧ Below w.heap.size w wr ∧ smL (l.drop q) (l'.drop q) = T) (fun i _ => l.length - (intOf i).toNat)
    case atStart => exact ⟨0, by omega, rfl, Below.refl _ _, HT.out⟩
    case round =>
      clear HT
      obtain ⟨q, hq, rfl, hb, hT⟩ := hrel
      have HT : Hid (smL (l.drop q) (l'.drop q) = T) := hT
      clear hT
      by_cases hlt : q < l.length
      · have hlt2 : q < l'.length := by have := HLL.out; omega
        obtain ⟨g, o, x, rfl, -, hx, hin⟩ := elem_at hN hlt
        obtain ⟨g', o', y, rfl, -, hy, hin'⟩ := elem_at hN' hlt2
        have hd := (Below.refl wr.heap.size wr).drew
        have c31 := hm x y l[q] l'[q] wr.drew ((hin.below hb).below hd) ((hin'.below hb).below hd)
        have HS : Hid (smL (l.drop q) (l'.drop q) = (smL [l[q]] [l'[q]] && smL (l.drop (q + 1)) (l'.drop (q + 1)))) := by
          show _ = _
          rw [List.drop_eq_getElem_cons hlt, List.drop_eq_getElem_cons hlt2, smL_cons]
        obtain ⟨z, hz⟩ : ∃ z, smL [l[q]] [l'[q]] = z := ⟨_, rfl⟩
        rw [hz] at c31 HS
        have hx := four_below hx hb
        have hy := four_below hy hb
        obtain ⟨x0, x1, x2, x3, rfl, d0, d1, d2, d3⟩ := hx
        obtain ⟨y0, y1, y2, y3, rfl, e0, e1, e2, e3⟩ := hy
        clear hN hN' hin hin' hm hz
        cases z with
        | true =>
          have HT2 : Hid (smL (l.drop (q + 1)) (l'.drop (q + 1)) = T) := by
            show _ = _
            rw [← HT.out, HS.out, Bool.true_and]
          go_wp2_with fail
          go_region_with (go_at_call 12; refine c31.mono ?_; rintro e w1 ⟨rfl, b1⟩)
          all_goals go_wp2_with fail
          all_goals go_roundw
          all_goals first
            | (case rel => exact ⟨q + 1, by omega, by go_num, hb.drew.trans (b1.mono hb.size), HT2.out⟩)
            | (case measure => simp only [intOf]; omega)
        | false =>
          have hT2 : false = T := by rw [← HT.out, HS.out, Bool.false_and]
          subst hT2
          go_wp2_with fail
          go_region_with (go_at_call 12; refine c31.mono ?_; rintro e w1 ⟨rfl, b1⟩)
          all_goals
            go_wp2_with fail
            go_ret
            exact ⟨rfl, hb.drew.trans (b1.mono hb.size)⟩
      · have hlt' : decide ((q : Int) < (l.length : Int)) = false := by simp; omega
        have hT2 : true = T := by
          rw [← HT.out, List.drop_eq_nil_of_le (by omega), List.drop_eq_nil_of_le (by have := HLL.out; omega), smL_nil]
        subst hT2
        go_wp2_with fail
        go_ret
        exact ⟨rfl, hb⟩
  · rw [smL_len l l' hll]
    have en : (((l.length : Nat) : Int) != ((l'.length : Nat) : Int)) = true := by simp; omega
    clear hll
    go_enter Tryd.func19, Tryd.ntmps19
    go_wp2_with fail
    go_ret
    exact ⟨rfl, Below.refl _ _⟩
set_option maxRecDepth 20000 in
set_option maxHeartbeats 1600000 in
theorem same_of (m : Nat) (hm : SLI m) : SI (m + 1) := by
  intro u v x y w hu hv
  obtain ⟨o, i, s, l⟩ := x
  obtain ⟨o', i', s', l'⟩ := y
  rw [in_iff] at hu hv
  obtain ⟨lv, rfl, -, -, -, hl⟩ := hu
  obtain ⟨lv', rfl, -, -, -, hl'⟩ := hv
  obtain ⟨W0, hW0⟩ : ∃ W0, (w.alloc (.cells #[.int .i64 o, .int .i64 i, .string s, lv] 24)).alloc (.cells #[.int .i64 o', .int .i64 i', .string s', lv'] 24) = W0 := ⟨_, rfl⟩
  have hb0 : Below w.heap.size w W0 := by rw [← hW0]; exact ((Below.refl _ w).alloc (Nat.le_refl _) _).alloc (by simp) _
  have hx0 : W0.heap[w.heap.size]? = some (.cells #[.int .i64 o, .int .i64 i, .string s, lv] 24) := by
    rw [← hW0, Below.heap_alloc _ _ _ (by simp), heap_alloc_new]
  have hx1 : W0.heap[w.heap.size + 1]? = some (.cells #[.int .i64 o', .int .i64 i', .string s', lv'] 24) := by
    have := heap_alloc_new (w.alloc (.cells #[.int .i64 o, .int .i64 i, .string s, lv] 24)) (.cells #[.int .i64 o', .int .i64 i', .string s', lv'] 24)
    rwa [hW0, World.size_alloc] at this
  obtain ⟨d0, d1, d2, d3⟩ := four_box hx0
  obtain ⟨e0, e1, e2, e3⟩ := four_box hx1
  have c51 := hm lv lv' l l' W0 (hl.below hb0) (hl'.below hb0)
  rw [smL_one]
  obtain ⟨Z, hZ⟩ : ∃ Z, smL l l' = Z := ⟨_, rfl⟩
  rw [hZ] at c51 ⊢
  clear hx0 hx1 hl hl' hm hZ
  cases t1 : (o == o') with
  | false =>
    rw [Bool.false_and]
    go_enter Tryd.func12, Tryd.ntmps12
    go_wp2_with fail
    go_ret
    exact ⟨rfl, hb0⟩
  | true =>
    rw [Bool.true_and]
    cases t2 : (i == i') with
    | false =>
      rw [Bool.false_and]
      go_enter Tryd.func12, Tryd.ntmps12
      go_wp2_with fail
      go_ret
      exact ⟨rfl, hb0⟩
    | true =>
      rw [Bool.true_and]
      cases t3 : (s.toList == s'.toList) with
      | false =>
        rw [Bool.false_and]
        go_enter Tryd.func12, Tryd.ntmps12
        go_wp2_with fail
        go_ret
        exact ⟨rfl, hb0⟩
      | true =>
        rw [Bool.true_and]
        go_enter Tryd.func12, Tryd.ntmps12
        go_wp2_with fail
        refine c51.mono ?_
        rintro e w2 ⟨rfl, b2⟩
        go_wp2_with fail
        go_ret
        exact ⟨rfl, nx hb0 b2⟩
theorem sames : ∀ m, SI m
  | 0 => by intro u v x y w h; rw [In] at h; exact h.elim
  | m + 1 => same_of m (sames_of m (sames m))
theorem same_c {m m' : Nat} {u v : Value} {x y : Ex} {S S' : Nat → Prop} {w : World} (hu : In false S w m u x) (hv : In false S' w m' v y) :
    Calls Tryd.prog 12 #[u, v] w fun e w' => e = .returned (.bool (smL [x] [y])) ∧ Below w.heap.size w w' :=
  sames (m + m') u v x y w (hu.plain.weak (fun _ h => h) false id _ (by omega)) (hv.plain.weak (fun _ h => h) false id _ (by omega))
end Go.Proofs.YtnoohlmlpijhaaaDoor.XSm
