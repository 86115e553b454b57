/- code.Run, where no error is met and the value has no elements. -/
import Derived.Test.YthjbknncbhkinaaGreatDoorClone
import Derived.Test.YthjbknncbhkinaaGreatDoorVRs
import Derived.Test.YthjbknncbhkinaaGreatDoorGMw
import Derived.Test.YthjbknncbhkinaaGreatDoorMSe
import Derived.Test.YthjbknncbhkinaaGreatDoorSTx
import Derived.Test.YthjbknncbhkinaaGreatDoorMCo
import Derived.Test.YthjbknncbhkinaaGreatDoorCCk
namespace Go.Proofs.YthjbknncbhkinaaGreatDoor.GCf
open Go.RowKit Go.Proofs.YthjbknncbhkinaaGreatDoor.Base Go.Proofs.YthjbknncbhkinaaGreatDoor.Clone
set_option linter.unusedVariables false

theorem row_nil {w : World} {B : Nat} {t : TypeId} {z : Nat} {v : Value} {xs : List Value} (h : w.ownsRow B t z v 0 xs) : ∃ a cap, v = .slice a 0 cap ∧ cap ≤ maxLen ∧ (a = none → cap = 0) := by
  rcases h.2 with ⟨rfl, _⟩ | ⟨g, cap, cur, rfl, _, _, _, hm, _⟩
  · exact ⟨none, 0, rfl, by simp, fun _ => rfl⟩
  · exact ⟨_, cap, rfl, hm, fun h => by cases h⟩
set_option maxRecDepth 20000 in
theorem list_nil {S : Nat → Prop} {m : Nat} {lv : Value} {w : World} (h : InL false S w m lv []) :
    Calls Tryz.prog 68 #[lv, .func (.func 43) #[] #[]] w fun e w' => ∃ a cap, e = .returned (.slice a 0 cap) ∧ (cap ≤ maxLen ∧ (a = none → cap = 0)) ∧ Below w.heap.size w w' := by
  have c70 := cloneV_c m lv [] w h
  clear h
  go_enter Tryz.func68, Tryz.ntmps68
  go_wp2_with fail
  refine c70.mono ?_
  rintro e w2 ⟨lu, rfl, os, hV0, hos, -, b2⟩
  have h0 := hV0.1
  rw [show os.length = 0 from hos] at h0
  obtain ⟨a, cap, rfl, h1, h2⟩ := row_nil h0
  have HA : Hid (cap ≤ maxLen ∧ (a = none → cap = 0)) := ⟨h1, h2⟩
  have HB : Hid (Below w.heap.size w w2) := b2
  clear c70 hV0 hos h0 h1 h2 b2
  go_wp2_with fail
  go_loopw [12] (fun i' wr => i' = .int .i64 0 ∧ w2 = wr) (fun _ _ => 0)
  case atStart => exact ⟨rfl, rfl⟩
  case round =>
    obtain ⟨rfl, hw⟩ := hrel
    subst hw
    have hlt : decide ((0 : Int) < (0 : Int)) = false := by simp
    go_wp2_with fail
    go_ret
    exact ⟨_, _, rfl, HA.out, HB.out⟩
set_option maxRecDepth 20000 in
set_option maxHeartbeats 1600000 in
theorem flat_c {m : Nat} {k : Int} {b : Bool} {i : Int} {s : ByteArray} (w : World) (v : Value) (h : In false All w (m + 1) v (.mk k b i s [] [])) :
    Calls Tryz.prog 43 #[v] w fun e w' => ∃ u, e = .returned u ∧ In false (fun b => w.heap.size ≤ b) w' (m + 1) u (.mk k b i s [] []) ∧ Below w.heap.size w w' := by
  rw [in_iff] at h
  obtain ⟨nv, lv, rfl, hk, hi, hs, hn, hl⟩ := h
  obtain ⟨W0, hW0⟩ : ∃ W0, (w.alloc (.cells #[.int .i64 k, .bool b, .int .i64 i, .string s, nv, lv] 46)).alloc (.cells #[.int .i64 0, .bool false, .int .i64 0, .string ⟨#[]⟩, .slice none 0 0, .slice none 0 0] 46) = W0 := ⟨_, rfl⟩
  have hb0 : Below w.heap.size w W0 := by rw [← hW0]; exact ((Below.refl _ w).alloc (Nat.le_refl _) _).alloc (by simp) _
  have hsz0 : W0.heap.size = w.heap.size + 2 := by rw [← hW0]; simp
  have hx0 : W0.heap[w.heap.size]? = some (.cells #[.int .i64 k, .bool b, .int .i64 i, .string s, nv, lv] 46 (0, 0)) := by
    rw [← hW0, Below.heap_alloc _ _ _ (by simp), heap_alloc_new]
  have hx1 : W0.heap[w.heap.size + 1]? = some (.cells #[.int .i64 0, .bool false, .int .i64 0, .string ⟨#[]⟩, .slice none 0 0, .slice none 0 0] 46 (0, 0)) := by
    have := heap_alloc_new (w.alloc (.cells #[.int .i64 k, .bool b, .int .i64 i, .string s, nv, lv] 46)) (.cells #[.int .i64 0, .bool false, .int .i64 0, .string ⟨#[]⟩, .slice none 0 0, .slice none 0 0] 46)
    rwa [hW0, World.size_alloc] at this
  have c69 := cloneT_c nv [] W0 (hn.below hb0)
  obtain ⟨-, -, -, -, e4, -⟩ := six_box hx0
  go_enter Tryz.func43, Tryz.ntmps43
  go_wp2_with fail
  refine c69.mono ?_
  rintro e w1 ⟨nu, rfl, ht1, b1⟩
  obtain ⟨an, cn, rfl, hn1, hn2⟩ := row_nil (xs := (([] : List ByteArray).map Value.string)) ht1
  have hy0 := (b1.block w.heap.size (by omega)).trans hx0
  have hy1 := (b1.block (w.heap.size + 1) (by omega)).trans hx1
  clear c69 hx0 hx1 hW0 e4
  obtain ⟨d0, d1, d2, d3, d4, d5⟩ := six_box hy0
  have f4 := frozen_box hy0 4
  have hs1 := b1.size
  obtain ⟨W1, hW1⟩ : ∃ W1, w1.setCell ⟨w.heap.size, 4, none⟩ (.slice an 0 cn) = W1 := ⟨_, rfl⟩
  have hz0 : W1.heap[w.heap.size]? = some (.cells #[.int .i64 k, .bool b, .int .i64 i, .string s, .slice an 0 cn, lv] 46 (0, 0)) := by rw [← hW1, block_set hy0]; rfl
  have hz1 : W1.heap[w.heap.size + 1]? = some (.cells #[.int .i64 0, .bool false, .int .i64 0, .string ⟨#[]⟩, .slice none 0 0, .slice none 0 0] 46 (0, 0)) := by rw [← hW1, Below.heap_setCell _ _ _ _ (by simp)]; exact hy1
  have hsz1 : W1.heap.size = w1.heap.size := by rw [← hW1]; simp [World.setCell]
  have hb1 : Below w.heap.size w W1 := by rw [← hW1]; exact (hb0.trans (b1.mono (by omega))).setCell (p := ⟨w.heap.size, 4, none⟩) (Nat.le_refl _) _
  have c70 := list_nil (hl.below hb1)
  have HN : Hid (cn ≤ maxLen ∧ (an = none → cn = 0)) := ⟨hn1, hn2⟩
  clear ht1 hy0 hy1 hn1 hn2 hn hl
  obtain ⟨-, -, -, -, -, k5⟩ := six_box hz0
  go_wp2_with fail
  refine c70.mono ?_
  rintro e w2 ⟨al, cl, rfl, hal, b2⟩
  have hy0 := (b2.block w.heap.size (by omega)).trans hz0
  have hy1 := (b2.block (w.heap.size + 1) (by omega)).trans hz1
  have HL : Hid (cl ≤ maxLen ∧ (al = none → cl = 0)) := hal
  clear c70 hz0 hz1 hW1 d0 d1 d2 d3 d4 d5 f4 k5 hal
  have f5 := frozen_box hy0 5
  have hs2 := b2.size
  obtain ⟨d0, d1, d2, d3, d4, d5⟩ := six_box hy0
  obtain ⟨W2, hW2⟩ : ∃ W2, w2.setCell ⟨w.heap.size, 5, none⟩ (.slice al 0 cl) = W2 := ⟨_, rfl⟩
  have hz0 : W2.heap[w.heap.size]? = some (.cells #[.int .i64 k, .bool b, .int .i64 i, .string s, .slice an 0 cn, .slice al 0 cl] 46 (0, 0)) := by rw [← hW2, block_set hy0]; rfl
  have hz1 : W2.heap[w.heap.size + 1]? = some (.cells #[.int .i64 0, .bool false, .int .i64 0, .string ⟨#[]⟩, .slice none 0 0, .slice none 0 0] 46 (0, 0)) := by rw [← hW2, Below.heap_setCell _ _ _ _ (by simp)]; exact hy1
  have hb2 : Below w.heap.size w W2 := by rw [← hW2]; exact (hb1.trans (b2.mono (by omega))).setCell (p := ⟨w.heap.size, 5, none⟩) (Nat.le_refl _) _
  obtain ⟨e0, e1, e2, e3, e4, e5⟩ := six_box hz1
  obtain ⟨j0, j1, j2, j3, j4, j5⟩ := six_box hz0
  have g0 := frozen_box hz1 0
  have g1 := frozen_box hz1 1
  have g2 := frozen_box hz1 2
  have g3 := frozen_box hz1 3
  have g4 := frozen_box hz1 4
  have g5 := frozen_box hz1 5
  have HZ1 : Hid _ := hz1
  clear hy0 hy1 hz0 hz1
  go_wp2_with fail
  try rw [hW2]
  clear d0 d1 d2 d3 d4 d5 f5
  obtain ⟨W3, hW3⟩ : ∃ W3, ((((((W2.setCell ⟨w.heap.size + 1, 0, none⟩ (.int .i64 k)).setCell ⟨w.heap.size + 1, 1, none⟩ (.bool b)).setCell ⟨w.heap.size + 1, 2, none⟩ (.int .i64 i)).setCell ⟨w.heap.size + 1, 3, none⟩ (.string s)).setCell ⟨w.heap.size + 1, 4, none⟩ (.slice an 0 cn)).setCell ⟨w.heap.size + 1, 5, none⟩ (.slice al 0 cl)) = W3 := ⟨_, rfl⟩
  go_wp2_with fail
  try rw [hW3]
  obtain ⟨q1, q2, q3, q4⟩ := set6 _ _ _ _ _ _ HZ1.out hW3
  refine bodyPost_ret (results_cell_row rfl _ W3 (w.heap.size + 1) 46 _ (0, 0) _ rfl q1 Tryz.underlying46 rfl (by kernel_rfl)) rfl ?_
  refine ⟨_, rfl, ?_, q4 _ _ (by omega) hb2⟩
  rw [in_iff]
  exact ⟨_, _, rfl, hk, hi, hs, ⟨an, cn, rfl, by simp, HN.out.1, by simp, by simp, HN.out.2, .inl ⟨rfl, rfl⟩⟩, ⟨al, cl, rfl, by simp, HL.out.1, by simp, HL.out.2, .inl ⟨rfl, rfl⟩⟩⟩
end Go.Proofs.YthjbknncbhkinaaGreatDoor.GCf

namespace Go.Proofs.YthjbknncbhkinaaGreatDoor.MEi
open Go.RowKit Go.Proofs.YthjbknncbhkinaaGreatDoor.Base
set_option linter.unusedVariables false

/-- What may not be of a value: its error's number. -/
def cd (c : C) : Int := (Measure.ms 0 0 (Walk.pl 1 c)).2.2
def bd (c : C) : Bool := cd c != 0
set_option maxRecDepth 20000 in
theorem none_c {m : Nat} {v : Value} {c : C} {w : World} (h : Base.In false All w m v c) :
    Calls Tryz.prog 41 #[v] w fun e w' => e = .returned (.bool (bd c)) ∧ Below w.heap.size w w' := by
  obtain ⟨an, ln, cn, al, ll, cl, rfl⟩ := VRs.in_shape h
  obtain ⟨W0, hW0⟩ : ∃ W0, w.alloc (.cells #[.int .i64 c.k, .bool c.b, .int .i64 c.i, .string c.s, .slice an ln cn, .slice al ll cl] 46) = W0 := ⟨_, rfl⟩
  have hb0 : Below w.heap.size w W0 := by rw [← hW0]; exact (Below.refl _ w).alloc (Nat.le_refl _) _
  have hp : W0.heap[w.heap.size]? = some (.cells #[.int .i64 c.k, .bool c.b, .int .i64 c.i, .string c.s, .slice an ln cn, .slice al ll cl] 46 (0, 0)) := by rw [← hW0]; exact heap_alloc_new w _
  obtain ⟨p0, p1, p2, p3, p4, p5⟩ := six_box hp
  have cC := GMw.check_all (h.below hb0)
  have HB : Hid (Below w.heap.size w W0) := hb0
  have HBD : Hid (bd c = ((Measure.ms 0 0 (Walk.pl 1 c)).2.2 != 0)) := rfl
  generalize bd c = Z at *
  generalize (Measure.ms 0 0 (Walk.pl 1 c)).2.2 = z at *
  generalize c.k = k at *
  generalize c.b = b at *
  generalize c.i = i at *
  generalize c.s = s at *
  clear h hb0 hp
  go_enter Tryz.func41, Tryz.ntmps41
  go_wp2_with fail
  try rw [hW0]
  refine cC.mono ?_
  rintro e W1 ⟨rfl, hb1⟩
  have HB1 : Hid (Below w.heap.size w W1) := HB.out.trans (hb1.mono HB.out.size)
  clear hb1 cC HB p0 p1 p2 p3 p4 p5 hW0
  go_wp2_with fail
  go_ret
  exact ⟨by rw [HBD.out]; rfl, HB1.out⟩
theorem any_cons (l : List C) (q : Nat) (h : q < l.length) : (l.drop q).any bd = (bd l[q] || (l.drop (q + 1)).any bd) := by
  rw [List.drop_eq_getElem_cons h, List.any_cons]
set_option maxRecDepth 20000 in
set_option maxHeartbeats 1600000 in
theorem index_c {m : Nat} {w : World} {v : Value} {l : List C} (hin : Base.InL false All w m v l) :
    Calls Tryz.prog 62 #[v, .func (.func 41) #[] #[]] w fun e w' => ∃ z : Int, e = .returned (.int .i64 z) ∧ decide (0 ≤ z) = l.any bd ∧ Below w.heap.size w w' := by
  obtain ⟨a, cap, rfl, hlc, hcm, hlen, hnil, hL⟩ := hin
  have HL : Hid (LAt false All w m a cap l) := hL
  obtain ⟨T, hT⟩ : ∃ T, l.any bd = T := ⟨_, rfl⟩
  have HT : Hid ((l.drop 0).any bd = T) := hT
  rw [hT]
  clear hT hL
  go_enter Tryz.func62, Tryz.ntmps62
  go_wp2_with fail
  go_loopw [8] (fun i wr => ∃ q : Nat, q ≤ l.length ∧ i = .int .i64 q ∧ (l.drop q).any bd = T ∧ Below w.heap.size w wr) (fun i _ => l.length - (intOf i).toNat)
  case atStart => exact ⟨0, by omega, rfl, HT.out, Below.refl _ _⟩
  case round =>
    clear HT
    obtain ⟨q, hq, rfl, hM, hb⟩ := hrel
    have Hb : Hid (Below w.heap.size w wr) := hb
    by_cases hlt : q < l.length
    · have d0 : decide ((q : Int) < (l.length : Int)) = true := by simp; omega
      have i0 : (0 : Int) ≤ (q : Int) := by omega
      have i1 : (q : Int) < (l.length : Int) := by omega
      obtain ⟨g, o, u, rfl, -, hu, hi⟩ := elem_at HL.out hlt
      have hu := six_below hu hb
      obtain ⟨an, ln, cn, al, ll, cl, rfl⟩ := VRs.in_shape hi
      obtain ⟨v0, v1, v2, v3, v4, v5, he, k0, k1, k2, k3, k4, k5⟩ := hu
      simp only [Value.agg.injEq, Array.mk.injEq, List.cons.injEq, and_true] at he
      obtain ⟨rfl, rfl, rfl, rfl, rfl, rfl⟩ := he
      rw [any_cons l q hlt] at hM
      have cO := none_c (hi.below hb)
      obtain ⟨b, hb'⟩ : ∃ b, bd l[q] = b := ⟨_, rfl⟩
      rw [hb'] at cO hM
      have HM : Hid ((b || (l.drop (q + 1)).any bd) = T) := hM
      generalize l[q].k = kk at *
      generalize l[q].b = bb at *
      generalize l[q].i = ii at *
      generalize l[q].s = ss at *
      clear hi hb' hM hb
      go_wp2_with fail
      refine cO.mono ?_
      rintro e W1 ⟨rfl, b1⟩
      have HB1 : Hid (Below w.heap.size w W1) := Hb.out.trans (b1.mono Hb.out.size)
      clear cO b1 k0 k1 k2 k3 k4 k5
      cases b with
      | true =>
        have hT : true = T := by have := HM.out; rw [Bool.true_or] at this; exact this
        subst hT
        go_wp2_with fail
        go_ret
        exact ⟨_, rfl, by simp, HB1.out⟩
      | false =>
        go_wp2_with fail
        go_roundw
        case rel => exact ⟨q + 1, by omega, by go_num, by have := HM.out; rw [Bool.false_or] at this; exact this, HB1.out⟩
        case measure => simp only [intOf]; omega
    · have d0 : decide ((q : Int) < (l.length : Int)) = false := by simp; omega
      have hT : false = T := by
        rw [List.drop_eq_nil_of_le (by omega)] at hM
        exact hM
      subst hT
      clear hM
      go_wp2_with fail
      go_ret
      exact ⟨_, rfl, by simp, Hb.out⟩
set_option maxRecDepth 20000 in
theorem contains_c {m : Nat} {w : World} {v : Value} {l : List C} (hin : Base.InL false All w m v l) :
    Calls Tryz.prog 40 #[v, .func (.func 41) #[] #[]] w fun e w' => e = .returned (.bool (l.any bd)) ∧ Below w.heap.size w w' := by
  have cI := index_c hin
  obtain ⟨T, hT⟩ : ∃ T, l.any bd = T := ⟨_, rfl⟩
  rw [hT] at cI ⊢
  obtain ⟨a, cap, rfl, -⟩ := hin
  clear hT
  go_enter Tryz.func40, Tryz.ntmps40
  go_wp2_with fail
  refine cI.mono ?_
  rintro e W1 ⟨z, rfl, hz, hb⟩
  have HB : Hid (Below w.heap.size w W1) := hb
  have HZ : Hid (decide (0 ≤ z) = T) := hz
  clear hb cI hz
  go_wp2_with fail
  have hT := HZ.out
  subst hT
  go_ret
  exact ⟨rfl, HB.out⟩
end Go.Proofs.YthjbknncbhkinaaGreatDoor.MEi

namespace Go.Proofs.YthjbknncbhkinaaGreatDoor.METx
open Go.RowKit Go.Proofs.YthjbknncbhkinaaGreatDoor.Base Go.Proofs.YthjbknncbhkinaaGreatDoor.MSe
open Go.Proofs.YthjbknncbhkinaaGreatDoor.STx (tg)
set_option linter.unusedVariables false

theorem no_c (s : ByteArray) (hs : s.size ≤ 140737488351232) (w : World) : Calls Tryz.prog 39 #[.string s] w fun e w' => e = .returned (.bool (!tg s)) ∧ Below w.heap.size w w' := by
  have cC := STx.tmb_c s hs w
  generalize tg s = z at *
  go_enter Tryz.func39, Tryz.ntmps39
  go_wp2_with fail
  refine cC.mono ?_
  rintro e W1 ⟨rfl, hb1⟩
  have HB1 : Hid _ := hb1
  clear hb1 cC
  go_wp2_with fail
  go_ret
  exact ⟨rfl, HB1.out⟩
theorem any_cons (l : List ByteArray) (q : Nat) (h : q < l.length) : (l.drop q).any (fun s => !tg s) = ((!tg l[q]) || (l.drop (q + 1)).any (fun s => !tg s)) := by
  rw [List.drop_eq_getElem_cons h, List.any_cons]
set_option maxRecDepth 20000 in
set_option maxHeartbeats 1600000 in
theorem index_c {K : Nat} {w : World} {v : Value} {l : List ByteArray} (hin : Tz K w v l) (hK : K ≤ w.heap.size) :
    Calls Tryz.prog 61 #[v, .func (.func 39) #[] #[]] w fun e w' => ∃ z : Int, e = .returned (.int .i64 z) ∧ decide (0 ≤ z) = l.any (fun s => !tg s) ∧ Below w.heap.size w w' := by
  have HIN : Hid (Tz K w v l) := hin
  obtain ⟨a, cap, rfl, hlc, hcm, hL⟩ := hin
  obtain ⟨T, hT⟩ : ∃ T, l.any (fun s => !tg s) = T := ⟨_, rfl⟩
  have HT : Hid ((l.drop 0).any (fun s => !tg s) = T) := hT
  rw [hT]
  clear hT hL
  go_enter Tryz.func61, Tryz.ntmps61
  go_wp2_with fail
  go_loopw [8] (fun i wr => ∃ q : Nat, q ≤ l.length ∧ i = .int .i64 q ∧ (l.drop q).any (fun s => !tg s) = T ∧ Below w.heap.size w wr) (fun i _ => l.length - (intOf i).toNat)
  case atStart => exact ⟨0, by omega, rfl, HT.out, Below.refl _ _⟩
  case round =>
    clear HT
    obtain ⟨q, hq, rfl, hM, hb⟩ := hrel
    have Hb : Hid (Below w.heap.size w wr) := hb
    by_cases hlt : q < l.length
    · have d0 : decide ((q : Int) < (l.length : Int)) = true := by simp; omega
      have i0 : (0 : Int) ≤ (q : Int) := by omega
      have i1 : (q : Int) < (l.length : Int) := by omega
      obtain ⟨aa, cc, hsl, -, -, hL⟩ := HIN.out
      cases hsl
      obtain ⟨g, o, rfl, hg, hc⟩ : ∃ g o, a = some ⟨g, o, none⟩ ∧ g < K ∧ ∀ j (h : j < l.length), w.cell? ⟨g, o + j, none⟩ = some (.string l[j]) ∧ l[j].size ≤ 140737488351232 := by
        rcases hL with rfl | hL
        · simp at hlt
        · exact hL
      obtain ⟨k0, hsz⟩ := hc q hlt
      have k0 := below_cell k0 hb
      rw [any_cons l q hlt] at hM
      generalize l[q] = s at *
      have cO := no_c s hsz wr
      obtain ⟨b, hb'⟩ : ∃ b, (!tg s) = b := ⟨_, rfl⟩
      rw [hb'] at cO hM
      have HM : Hid ((b || (l.drop (q + 1)).any (fun s => !tg s)) = T) := hM
      clear hb' hM hb hL hc
      go_wp2_with fail
      refine cO.mono ?_
      rintro e W1 ⟨rfl, b1⟩
      have HB1 : Hid (Below w.heap.size w W1) := Hb.out.trans (b1.mono Hb.out.size)
      clear cO b1 k0
      cases b with
      | true =>
        have hT : true = T := by have := HM.out; rw [Bool.true_or] at this; exact this
        subst hT
        go_wp2_with fail
        go_ret
        exact ⟨_, rfl, by simp, HB1.out⟩
      | false =>
        go_wp2_with fail
        go_roundw
        case rel => exact ⟨q + 1, by omega, by go_num, by have := HM.out; rw [Bool.false_or] at this; exact this, HB1.out⟩
        case measure => simp only [intOf]; omega
    · have d0 : decide ((q : Int) < (l.length : Int)) = false := by simp; omega
      have hT : false = T := by
        rw [List.drop_eq_nil_of_le (by omega)] at hM
        exact hM
      subst hT
      clear hM
      go_wp2_with fail
      go_ret
      exact ⟨_, rfl, by simp, Hb.out⟩
set_option maxRecDepth 20000 in
theorem contains_c {K : Nat} {w : World} {v : Value} {l : List ByteArray} (hin : Tz K w v l) (hK : K ≤ w.heap.size) :
    Calls Tryz.prog 38 #[v, .func (.func 39) #[] #[]] w fun e w' => e = .returned (.bool (l.any fun s => !tg s)) ∧ Below w.heap.size w w' := by
  have cI := index_c hin hK
  obtain ⟨T, hT⟩ : ∃ T, l.any (fun s => !tg s) = T := ⟨_, rfl⟩
  rw [hT] at cI ⊢
  obtain ⟨a, cap, rfl, -⟩ := hin
  clear hT
  go_enter Tryz.func38, Tryz.ntmps38
  go_wp2_with fail
  refine cI.mono ?_
  rintro e W1 ⟨z, rfl, hz, hb⟩
  have HB : Hid (Below w.heap.size w W1) := hb
  have HZ : Hid (decide (0 ≤ z) = T) := hz
  clear hb cI hz
  go_wp2_with fail
  have hT := HZ.out
  subst hT
  go_ret
  exact ⟨rfl, HB.out⟩
end Go.Proofs.YthjbknncbhkinaaGreatDoor.METx

namespace Go.Proofs.YthjbknncbhkinaaGreatDoor.MRu
open Go.RowKit Go.Proofs.YthjbknncbhkinaaGreatDoor.Base Go.Proofs.YthjbknncbhkinaaGreatDoor.VSm Go.Proofs.YthjbknncbhkinaaGreatDoor.VRs Go.Proofs.YthjbknncbhkinaaGreatDoor.MBx Go.Proofs.YthjbknncbhkinaaGreatDoor.MSe Go.Proofs.YthjbknncbhkinaaGreatDoor.MDo Go.Proofs.YthjbknncbhkinaaGreatDoor.MCd
open Go.Proofs.YthjbknncbhkinaaGreatDoor.CPu (Ins ck)
open Go.Proofs.YthjbknncbhkinaaGreatDoor.CBx (Cx)
set_option linter.unusedVariables false

theorem in_all {S : Nat → Prop} {w : World} {m : Nat} {v : Value} {c : C} (h : Base.In false S w m v c) : Base.In false All w m v c := h.weak (fun _ _ => trivial) false id m (Nat.le_refl _)
set_option maxRecDepth 20000 in
set_option maxHeartbeats 3200000 in
theorem run_ok {K m : Nat} {w : World} {cv tv sv : Value} {L : List Ins} {T : List ByteArray} {S : List C} {k i : Int} {b : Bool} {s : ByteArray} (hL : Cx K w cv L) (hT : Tz K w tv T) (hS : Base.InL false All w (m + 1) sv S) (hK : K ≤ w.heap.size) (h1 : (T.any fun s => !STx.tg s) = false) (h2 : ck L T.length S.length = 0) (h3 : S.any MEi.bd = false)
    (cC : ∀ W, Below w.heap.size w W → Calls Tryz.prog 42 #[cv, tv, sv] W fun e w' => ∃ u, e = .returned (.tuple #[u, .int .i64 0]) ∧ Base.In false (fun b => b < W.heap.size) w' (m + 1) u (.mk k b i s [] []) ∧ Below W.heap.size W w') :
    Calls Tryz.prog 22 #[cv, tv, sv] w fun e w' => ∃ u, e = .returned (.tuple #[u, .int .i64 0]) ∧ Base.In false All w' (m + 1) u (.mk k b i s [] []) ∧ Below w.heap.size w w' := by
  obtain ⟨W0, hW0⟩ : ∃ W0, w.alloc (.cells #[.int .i64 0, .bool false, .int .i64 0, .string ⟨#[]⟩, .slice none 0 0, .slice none 0 0] 46) = W0 := ⟨_, rfl⟩
  have b0 : Below w.heap.size w W0 := by rw [← hW0]; exact (Below.refl _ w).alloc (Nat.le_refl _) _
  have s0 : W0.heap.size = w.heap.size + 1 := by rw [← hW0]; simp
  have x0 : W0.heap[w.heap.size]? = some (.cells #[.int .i64 0, .bool false, .int .i64 0, .string ⟨#[]⟩, .slice none 0 0, .slice none 0 0] 46 (0, 0)) := by rw [← hW0]; exact heap_alloc_new w _
  have cT := METx.contains_c (hT.below (b0.mono hK)) (by omega)
  rw [h1] at cT
  have HL : Hid (Cx K w cv L) := hL
  have HS : Hid (Base.InL false All w (m + 1) sv S) := hS
  have HCC : Hid _ := cC
  have HB0 : Hid _ := b0
  have HX0 : Hid _ := x0
  obtain ⟨a1, c1, rfl, hl1, hl2, -⟩ := hL
  obtain ⟨a2, c2, rfl, ht1, ht2, -⟩ := hT
  obtain ⟨a3, c3, rfl, hs1, hs2, -⟩ := hS
  have HCK : Hid (ck L T.length S.length = 0) := h2
  have HAN : Hid (S.any MEi.bd = false) := h3
  clear b0 x0 cC h1 h2 h3
  go_enter Tryz.func22, Tryz.ntmps22
  go_wp2_with fail
  try rw [hW0]
  refine cT.mono ?_
  rintro e W1 ⟨rfl, b1⟩
  have hb1 : Below w.heap.size w W1 := HB0.out.trans (b1.mono (by omega))
  have cK := CCk.check_c (HL.out.below (hb1.mono hK)) (by have := hb1.size; omega) (T.length : Int) (S.length : Int)
  rw [HCK.out] at cK
  have HB1 : Hid _ := hb1
  have HX1 : Hid _ := (b1.block w.heap.size (by omega)).trans HX0.out
  have hz1 := b1.size
  clear cT b1 hb1
  go_wp2_with fail
  refine cK.mono ?_
  rintro e W2 ⟨rfl, b2⟩
  have hz2 := b2.size
  have hb2 : Below w.heap.size w W2 := HB1.out.trans (b2.mono (by omega))
  have cS := MEi.contains_c (HS.out.below hb2)
  rw [HAN.out] at cS
  have HB2 : Hid _ := hb2
  have HX2 : Hid _ := (b2.block w.heap.size (by omega)).trans HX1.out
  clear cK b2 hb2
  go_wp2_with fail
  refine cS.mono ?_
  rintro e W3 ⟨rfl, b3⟩
  have hz3 := b3.size
  have hb3 : Below w.heap.size w W3 := HB2.out.trans (b3.mono (by omega))
  have cD := HCC.out W3 hb3
  have HB3 : Hid _ := hb3
  have HX3 : Hid _ := (b3.block w.heap.size (by omega)).trans HX2.out
  clear cS b3 hb3
  go_wp2_with fail
  refine cD.mono ?_
  rintro e W4 ⟨u, rfl, hin, b4⟩
  obtain ⟨an, ln, cn, al, ll, cl, rfl⟩ : ∃ an ln cn al ll cl, u = vl k b i s (.slice an ln cn) (.slice al ll cl) := in_shape hin
  have hz4 := b4.size
  obtain ⟨W5, hW5⟩ : ∃ W5, W4.alloc (.cells #[.int .i64 k, .bool b, .int .i64 i, .string s, .slice an ln cn, .slice al ll cl] 46) = W5 := ⟨_, rfl⟩
  have b5 : Below W4.heap.size W4 W5 := by rw [← hW5]; exact (Below.refl _ W4).alloc (Nat.le_refl _) _
  have x5 : W5.heap[W4.heap.size]? = some (.cells #[.int .i64 k, .bool b, .int .i64 i, .string s, .slice an ln cn, .slice al ll cl] 46 (0, 0)) := by rw [← hW5]; exact heap_alloc_new W4 _
  obtain ⟨z0, z1, z2, z3, z4, z5⟩ := six_box x5
  have hz5 := b5.size
  have cF := GCf.flat_c W5 _ (in_all (hin.below b5))
  have HB5 : Hid (Below w.heap.size w W5) := (HB3.out.trans (b4.mono (by omega))).trans (b5.mono (by omega))
  have HX5 : Hid (W5.heap[w.heap.size]? = _) := (b5.block w.heap.size (by omega)).trans ((b4.block w.heap.size (by omega)).trans HX3.out)
  have HW5 : Hid (_ = W5) := hW5
  clear cD b4 b5 x5 hin hW5
  go_wp2_with fail
  rw [HW5.out]
  refine cF.mono ?_
  rintro e W6 ⟨u6, rfl, hin6, b6⟩
  obtain ⟨an6, ln6, cn6, al6, ll6, cl6, rfl⟩ : ∃ an ln cn al ll cl, u6 = vl k b i s (.slice an ln cn) (.slice al ll cl) := in_shape hin6
  have y1 := (b6.block w.heap.size (by omega)).trans HX5.out
  obtain ⟨W9, hW9⟩ : ∃ W9, (((((W6.setCell ⟨w.heap.size, 0, none⟩ (.int .i64 k)).setCell ⟨w.heap.size, 1, none⟩ (.bool b)).setCell ⟨w.heap.size, 2, none⟩ (.int .i64 i)).setCell ⟨w.heap.size, 3, none⟩ (.string s)).setCell ⟨w.heap.size, 4, none⟩ (.slice an6 ln6 cn6)).setCell ⟨w.heap.size, 5, none⟩ (.slice al6 ll6 cl6) = W9 := ⟨_, rfl⟩
  obtain ⟨q1, q2, q3, q4⟩ := set6 _ _ _ _ _ _ y1 hW9
  have HE : Hid (Base.In false All W9 (m + 1) (vl k b i s (.slice an6 ln6 cn6) (.slice al6 ll6 cl6)) (.mk k b i s [] []) ∧ Below w.heap.size w W9) := ⟨in_all (hin6.keep fun c hc _ => q2 c (by have : W5.heap.size ≤ c := hc; omega)), q4 _ _ (by omega) (HB5.out.trans (b6.mono (by omega)))⟩
  have HQ1 : Hid _ := q1
  obtain ⟨v0', v1', v2', v3', v4', v5'⟩ := six_box y1
  have g0 := frozen_box y1 0
  have g1 := frozen_box y1 1
  have g2 := frozen_box y1 2
  have g3 := frozen_box y1 3
  have g4 := frozen_box y1 4
  have g5 := frozen_box y1 5
  clear hin6 b6 y1 q1 q2 q3 q4 cF
  go_wp2_with fail
  try rw [hW9]
  refine bodyPost_ret (Part.res_row_tmp rfl _ W9 w.heap.size 46 _ (0, 0) _ rfl HQ1.out Tryz.underlying46 rfl (by kernel_rfl)) rfl ?_
  exact ⟨_, rfl, HE.out⟩
end Go.Proofs.YthjbknncbhkinaaGreatDoor.MRu
