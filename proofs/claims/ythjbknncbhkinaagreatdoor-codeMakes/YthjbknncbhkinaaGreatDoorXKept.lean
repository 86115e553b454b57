/- What was lent is as it was: contracts of KeptExpr and KeptExprs. -/
import Derived.Test.YthjbknncbhkinaaGreatDoorXBase
import Derived.Deep.RegionWith
namespace Go.Proofs.YthjbknncbhkinaaGreatDoor.XSm
open Go.RowKit Go.Proofs.YthjbknncbhkinaaGreatDoor.EPure Go.Proofs.YthjbknncbhkinaaGreatDoor.XBase
open Go.Proofs.YthjbknncbhkinaaGreatDoor.Base (nx All heap_alloc_new)
set_option linter.unusedVariables false

/-- One by one the same. -/
def smL : List Ex → List Ex → Bool
  | [], [] => true
  | [], _ :: _ => false
  | _ :: _, [] => false
  | .mk o i s l :: t, .mk o' i' s' l' :: t' => ((o == o') && ((i == i') && ((s.toList == s'.toList) && smL l l'))) && smL t t'
theorem smL_nil : smL [] [] = true := by rw [smL]
theorem smL_one (o i : Int) (s : ByteArray) (l : List Ex) (o' i' : Int) (s' : ByteArray) (l' : List Ex) : smL [.mk o i s l] [.mk o' i' s' l'] = ((o == o') && ((i == i') && ((s.toList == s'.toList) && smL l l'))) := by
  rw [smL, smL_nil, Bool.and_true]
theorem smL_cons (x y : Ex) (t t' : List Ex) : smL (x :: t) (y :: t') = (smL [x] [y] && smL t t') := by
  obtain ⟨o, i, s, l⟩ := x
  obtain ⟨o', i', s', l'⟩ := y
  rw [smL_one, smL]
theorem smL_len : ∀ (t t' : List Ex), t.length ≠ t'.length → smL t t' = false
  | [], [], h => absurd rfl h
  | [], _ :: _, _ => by rw [smL]
  | _ :: _, [], _ => by rw [smL]
  | x :: t, y :: t', h => by rw [smL_cons, smL_len t t' (by simpa using h), Bool.and_false]
def SI (m : Nat) : Prop := ∀ (u v : Value) (x y : Ex) (w : World), In false All w m u x → In false All w m v y →
    Calls Tryz.prog 56 #[u, v] w fun e w' => e = .returned (.bool (smL [x] [y])) ∧ Below w.heap.size w w'
def SLI (m : Nat) : Prop := ∀ (u v : Value) (l l' : List Ex) (w : World), InL false All w m u l → InL false All w m v l' →
    Calls Tryz.prog 75 #[u, v] w fun e w' => e = .returned (.bool (smL l l')) ∧ Below w.heap.size w w'
set_option maxRecDepth 20000 in
set_option maxHeartbeats 1600000 in
theorem sames_of (m : Nat) (hm : SI m) : SLI m := by
  intro u v l l' w hu hv
  obtain ⟨a, cap, rfl, hlc, hcm, hlen, hnil, hN⟩ := hu
  obtain ⟨a', cap', rfl, hlc', hcm', hlen', hnil', hN'⟩ := hv
  by_cases hll : l.length = l'.length
  · obtain ⟨T, hT⟩ : ∃ T, smL l l' = T := ⟨_, rfl⟩
    rw [hT]
    have HT : Hid (smL (l.drop 0) (l'.drop 0) = T) := hT
    have en : (((l.length : Nat) : Int) != ((l'.length : Nat) : Int)) = false := by simp; omega
    have HLL : Hid (l.length = l'.length) := hll
    clear hT hll
    go_enter Tryz.func75, Tryz.ntmps75
    go_wp2_with fail
    go_loopw [5] (fun i wr => ∃ q : Nat, q ≤ l.length ∧ i = .int .i64 q ∧ Below w.heap.size w wr ∧ smL (l.drop q) (l'.drop q) = T) (fun i _ => l.length - (intOf i).toNat)
    case atStart => exact ⟨0, by omega, rfl, Below.refl _ _, HT.out⟩
    case round =>
      clear HT
      obtain ⟨q, hq, rfl, hb, hT⟩ := hrel
      have HT : Hid (smL (l.drop q) (l'.drop q) = T) := hT
      clear hT
      by_cases hlt : q < l.length
      · have hlt2 : q < l'.length := by have := HLL.out; omega
        obtain ⟨g, o, x, rfl, -, hx, hin⟩ := elem_at hN hlt
        obtain ⟨g', o', y, rfl, -, hy, hin'⟩ := elem_at hN' hlt2
        have hd := (Below.refl wr.heap.size wr).drew
        have c31 := hm x y l[q] l'[q] wr.drew ((hin.below hb).below hd) ((hin'.below hb).below hd)
        have HS : Hid (smL (l.drop q) (l'.drop q) = (smL [l[q]] [l'[q]] && smL (l.drop (q + 1)) (l'.drop (q + 1)))) := by
          show _ = _
          rw [List.drop_eq_getElem_cons hlt, List.drop_eq_getElem_cons hlt2, smL_cons]
        obtain ⟨z, hz⟩ : ∃ z, smL [l[q]] [l'[q]] = z := ⟨_, rfl⟩
        rw [hz] at c31 HS
        have hx := four_below hx hb
        have hy := four_below hy hb
        obtain ⟨x0, x1, x2, x3, rfl, d0, d1, d2, d3⟩ := hx
        obtain ⟨y0, y1, y2, y3, rfl, e0, e1, e2, e3⟩ := hy
        clear hN hN' hin hin' hm hz
        cases z with
        | true =>
          have HT2 : Hid (smL (l.drop (q + 1)) (l'.drop (q + 1)) = T) := by
            show _ = _
            rw [← HT.out, HS.out, Bool.true_and]
          go_wp2_with fail
          go_region_with (go_at_call 56; refine c31.mono ?_; rintro e w1 ⟨rfl, b1⟩)
          all_goals go_wp2_with fail
          all_goals go_roundw
          all_goals first
            | (case rel => exact ⟨q + 1, by omega, by go_num, hb.drew.trans (b1.mono hb.size), HT2.out⟩)
            | (case measure => simp only [intOf]; omega)
        | false =>
          have hT2 : false = T := by rw [← HT.out, HS.out, Bool.false_and]
          subst hT2
          go_wp2_with fail
          go_region_with (go_at_call 56; refine c31.mono ?_; rintro e w1 ⟨rfl, b1⟩)
          all_goals
            go_wp2_with fail
            go_ret
            exact ⟨rfl, hb.drew.trans (b1.mono hb.size)⟩
      · have hlt' : decide ((q : Int) < (l.length : Int)) = false := by simp; omega
        have hT2 : true = T := by
          rw [← HT.out, List.drop_eq_nil_of_le (by omega), List.drop_eq_nil_of_le (by have := HLL.out; omega), smL_nil]
        subst hT2
        go_wp2_with fail
        go_ret
        exact ⟨rfl, hb⟩
  · rw [smL_len l l' hll]
    have en : (((l.length : Nat) : Int) != ((l'.length : Nat) : Int)) = true := by simp; omega
    clear hll
    go_enter Tryz.func75, Tryz.ntmps75
    go_wp2_with fail
    go_ret
    exact ⟨rfl, Below.refl _ _⟩
set_option maxRecDepth 20000 in
set_option maxHeartbeats 1600000 in
theorem same_of (m : Nat) (hm : SLI m) : SI (m + 1) := by
  intro u v x y w hu hv
  obtain ⟨o, i, s, l⟩ := x
  obtain ⟨o', i', s', l'⟩ := y
  rw [in_iff] at hu hv
  obtain ⟨lv, rfl, -, -, -, hl⟩ := hu
  obtain ⟨lv', rfl, -, -, -, hl'⟩ := hv
  obtain ⟨W0, hW0⟩ : ∃ W0, (w.alloc (.cells #[.int .i64 o, .int .i64 i, .string s, lv] 24)).alloc (.cells #[.int .i64 o', .int .i64 i', .string s', lv'] 24) = W0 := ⟨_, rfl⟩
  have hb0 : Below w.heap.size w W0 := by rw [← hW0]; exact ((Below.refl _ w).alloc (Nat.le_refl _) _).alloc (by simp) _
  have hx0 : W0.heap[w.heap.size]? = some (.cells #[.int .i64 o, .int .i64 i, .string s, lv] 24) := by
    rw [← hW0, Below.heap_alloc _ _ _ (by simp), heap_alloc_new]
  have hx1 : W0.heap[w.heap.size + 1]? = some (.cells #[.int .i64 o', .int .i64 i', .string s', lv'] 24) := by
    have := heap_alloc_new (w.alloc (.cells #[.int .i64 o, .int .i64 i, .string s, lv] 24)) (.cells #[.int .i64 o', .int .i64 i', .string s', lv'] 24)
    rwa [hW0, World.size_alloc] at this
  obtain ⟨d0, d1, d2, d3⟩ := four_box hx0
  obtain ⟨e0, e1, e2, e3⟩ := four_box hx1
  have c51 := hm lv lv' l l' W0 (hl.below hb0) (hl'.below hb0)
  rw [smL_one]
  obtain ⟨Z, hZ⟩ : ∃ Z, smL l l' = Z := ⟨_, rfl⟩
  rw [hZ] at c51 ⊢
  clear hx0 hx1 hl hl' hm hZ
  cases t1 : (o == o') with
  | false =>
    rw [Bool.false_and]
    go_enter Tryz.func56, Tryz.ntmps56
    go_wp2_with fail
    go_ret
    exact ⟨rfl, hb0⟩
  | true =>
    rw [Bool.true_and]
    cases t2 : (i == i') with
    | false =>
      rw [Bool.false_and]
      go_enter Tryz.func56, Tryz.ntmps56
      go_wp2_with fail
      go_ret
      exact ⟨rfl, hb0⟩
    | true =>
      rw [Bool.true_and]
      cases t3 : (s.toList == s'.toList) with
      | false =>
        rw [Bool.false_and]
        go_enter Tryz.func56, Tryz.ntmps56
        go_wp2_with fail
        go_ret
        exact ⟨rfl, hb0⟩
      | true =>
        rw [Bool.true_and]
        go_enter Tryz.func56, Tryz.ntmps56
        go_wp2_with fail
        refine c51.mono ?_
        rintro e w2 ⟨rfl, b2⟩
        go_wp2_with fail
        go_ret
        exact ⟨rfl, nx hb0 b2⟩
theorem sames : ∀ m, SI m
  | 0 => by intro u v x y w h; rw [In] at h; exact h.elim
  | m + 1 => same_of m (sames_of m (sames m))
theorem same_c {m m' : Nat} {u v : Value} {x y : Ex} {S S' : Nat → Prop} {w : World} (hu : In false S w m u x) (hv : In false S' w m' v y) :
    Calls Tryz.prog 56 #[u, v] w fun e w' => e = .returned (.bool (smL [x] [y])) ∧ Below w.heap.size w w' :=
  sames (m + m') u v x y w (hu.plain.weak (fun _ h => h) false id _ (by omega)) (hv.plain.weak (fun _ h => h) false id _ (by omega))
end Go.Proofs.YthjbknncbhkinaaGreatDoor.XSm

namespace Go.Proofs.YthjbknncbhkinaaGreatDoor.XKept
open Go.RowKit Go.Proofs.YthjbknncbhkinaaGreatDoor.EPure Go.Proofs.YthjbknncbhkinaaGreatDoor.XBase Go.Proofs.YthjbknncbhkinaaGreatDoor.XSm
open Go.Proofs.YthjbknncbhkinaaGreatDoor.Base (nx All heap_alloc_new add_none)
set_option linter.unusedVariables false

theorem room_c (w : World) : Calls Tryz.prog 56 #[.agg #[.int .i64 (-7), .int .i64 0, .string ⟨#[]⟩, .slice none 0 0], .agg #[.int .i64 (-7), .int .i64 0, .string ⟨#[]⟩, .slice none 0 0]] w
    fun e w' => e = .returned (.bool true) ∧ Below w.heap.size w w' := by
  have h := In.leaf w 0 All (-7) 0 ⟨#[]⟩ (by omega) (by omega) (by decide)
  have c := same_c h h
  rw [show smL [.mk (-7) 0 ⟨#[]⟩ []] [.mk (-7) 0 ⟨#[]⟩ []] = true by rw [smL_one, smL_nil]; simp] at c
  exact c
theorem four_room {w : World} {g o : Nat} (h : Four w g o room7) : w.cell? ⟨g, o, none⟩ = some (.int .i64 (-7)) ∧ w.cell? ⟨g, o + 1, none⟩ = some (.int .i64 0) ∧ w.cell? ⟨g, o + 2, none⟩ = some (.string ⟨#[]⟩) ∧ w.cell? ⟨g, o + 3, none⟩ = some (.slice none 0 0) := by
  obtain ⟨p0, p1, p2, p3, E, h⟩ := h
  simp only [room7, Value.agg.injEq, Array.mk.injEq, List.cons.injEq, and_true] at E
  obtain ⟨rfl, rfl, rfl, rfl⟩ := E
  exact h
def Keeps (m : Nat) : Prop := ∀ (u v : Value) (c : Ex) (w : World), In true All w m u c → In false All w m v c →
    Calls Tryz.prog 13 #[u, v] w fun e w' => e = .returned (.bool true) ∧ Below w.heap.size w w'
set_option maxRecDepth 20000 in
theorem kepts_of (m : Nat) (hm : Keeps m) (u v : Value) (l : List Ex) (w : World) (hu : InL true All w m u l) (hv : InL false All w m v l) :
    Calls Tryz.prog 32 #[u, v] w fun e w' => e = .returned (.bool true) ∧ Below w.heap.size w w' := by
  obtain ⟨a, cap, rfl, hlc, hcm, hlen, hnil, hN⟩ := hu
  obtain ⟨a', cap', rfl, hlc', hm', -, hnil', hN'⟩ := hv
  have hN0 := hN
  obtain ⟨g, o, rfl, hr⟩ : ∃ g o, a = some ⟨g, o, none⟩ ∧ (l.length + 2 ≤ cap ∧ Four w g (o + l.length * 4) room7 ∧ Four w g (o + l.length * 4 + 4) room7) := by
    rcases hN with ⟨_, h⟩ | ⟨g, o, h, _, _, hr⟩
    · cases h
    · exact ⟨g, o, h, hr rfl⟩
  obtain ⟨h2, s1, s2⟩ := hr
  clear hN
  have hu : LAt true All w m (some ⟨g, o, none⟩) cap l := hN0
  obtain ⟨d0, d1, d2, d3⟩ := four_room s1
  have z2 := s2
  rw [show o + l.length * 4 + 4 = o + (l.length + 1) * 4 by omega] at z2
  go_enter Tryz.func32, Tryz.ntmps32
  go_wp2_with fail
  refine (room_c _).mono ?_
  rintro e w1 ⟨rfl, b1⟩
  obtain ⟨e0, e1, e2, e3⟩ := four_room (four_below z2 b1)
  go_wp2_with fail
  refine (room_c _).mono ?_
  rintro e w2 ⟨rfl, b2⟩
  have b12 := nx b1 b2
  clear b1 b2 d0 d1 d2 d3 e0 e1 e2 e3 s1 s2 z2
  go_wp2_with fail
  go_loopw [6] (fun i wr => ∃ q : Nat, q ≤ l.length ∧ i = .int .i64 q ∧ Below w.heap.size w wr) (fun i _ => l.length - (intOf i).toNat)
  case atStart => exact ⟨0, by omega, rfl, b12⟩
  case round =>
    obtain ⟨q, hq, rfl, hb⟩ := hrel
    by_cases hlt : q < l.length
    · obtain ⟨g1, o1, x, E, -, hx, hin⟩ := elem_at hu hlt
      obtain ⟨g', o', y, rfl, -, hy, hin'⟩ := elem_at hN' hlt
      obtain ⟨rfl, rfl⟩ : g = g1 ∧ o = o1 := by cases E; exact ⟨rfl, rfl⟩
      have hd := (Below.refl wr.heap.size wr).drew
      have c18 := hm x y l[q] wr.drew ((hin.below hb).below hd) ((hin'.below hb).below hd)
      have hx := four_below hx hb
      have hy := four_below hy hb
      obtain ⟨x0, x1, x2, x3, rfl, d0, d1, d2, d3⟩ := hx
      obtain ⟨y0, y1, y2, y3, rfl, e0, e1, e2, e3⟩ := hy
      clear hu hN' hin hin' hm E
      go_wp2_with fail
      go_region_with (go_at_call 13; refine c18.mono ?_; rintro e w1 ⟨rfl, b1⟩)
      all_goals go_wp2_with fail
      all_goals go_roundw
      all_goals first
        | (case rel => exact ⟨q + 1, by omega, by go_num, hb.drew.trans (b1.mono hb.size)⟩)
        | (case measure => simp only [intOf]; omega)
    · have hlt' : decide ((q : Int) < (l.length : Int)) = false := by simp; omega
      go_wp2_with fail
      go_ret
      exact ⟨rfl, hb⟩
set_option maxRecDepth 20000 in
theorem kept_of (m : Nat) (hm : ∀ (u v : Value) (l : List Ex) (w : World), InL true All w m u l → InL false All w m v l → Calls Tryz.prog 32 #[u, v] w fun e w' => e = .returned (.bool true) ∧ Below w.heap.size w w') : Keeps (m + 1) := by
  intro u v c w hu hv
  obtain ⟨o, i, s, l⟩ := c
  rw [in_iff] at hu hv
  obtain ⟨lv, rfl, ho, hi, hs, hl⟩ := hu
  obtain ⟨lv', rfl, -, -, -, hl'⟩ := hv
  obtain ⟨W0, hW0⟩ : ∃ W0, (w.alloc (.cells #[.int .i64 o, .int .i64 i, .string s, lv] 24)).alloc (.cells #[.int .i64 o, .int .i64 i, .string s, lv'] 24) = W0 := ⟨_, rfl⟩
  have hb0 : Below w.heap.size w W0 := by rw [← hW0]; exact ((Below.refl _ w).alloc (Nat.le_refl _) _).alloc (by simp) _
  have hsz0 : W0.heap.size = w.heap.size + 2 := by rw [← hW0]; simp
  have hx0 : W0.heap[w.heap.size]? = some (.cells #[.int .i64 o, .int .i64 i, .string s, lv] 24) := by
    rw [← hW0, Below.heap_alloc _ _ _ (by simp), heap_alloc_new]
  have hx1 : W0.heap[w.heap.size + 1]? = some (.cells #[.int .i64 o, .int .i64 i, .string s, lv'] 24) := by
    have := heap_alloc_new (w.alloc (.cells #[.int .i64 o, .int .i64 i, .string s, lv] 24)) (.cells #[.int .i64 o, .int .i64 i, .string s, lv'] 24)
    rwa [hW0, World.size_alloc] at this
  have c51 := hm lv lv' l W0 (hl.below hb0) (hl'.below hb0)
  obtain ⟨d0, d1, d2, d3⟩ := four_box hx0
  obtain ⟨e0, e1, e2, e3⟩ := four_box hx1
  clear hx0 hx1
  go_enter Tryz.func13, Tryz.ntmps13
  go_wp2_with fail
  refine c51.mono ?_
  rintro e w2 ⟨rfl, b2⟩
  go_wp2_with fail
  go_ret
  exact ⟨rfl, nx hb0 b2⟩
theorem keepsAll : ∀ m, Keeps m := by
  intro m
  induction m with
  | zero => intro u v c w h; rw [In] at h; exact h.elim
  | succ m ih => exact kept_of m (kepts_of m ih)
/-- KeptExpr: what was lent is as it was, its room too. -/
theorem kept_c {S : Nat → Prop} {m : Nat} {u v : Value} {c : Ex} {w : World} (hu : In true S w m u c) (hv : In false All w m v c) :
    Calls Tryz.prog 13 #[u, v] w fun e w' => e = .returned (.bool true) ∧ Below w.heap.size w w' := keepsAll m u v c w (hu.weak (fun _ _ => trivial) true id m (Nat.le_refl _)) hv
end Go.Proofs.YthjbknncbhkinaaGreatDoor.XKept
