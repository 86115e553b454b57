import Derived.Test.YthjbknncbhkinaaGreatDoorPS21
import Derived.Test.YthjbknncbhkinaaGreatDoorPS48
open Go.Proofs.Tryz
set_option linter.unusedVariables false
set_option maxRecDepth 20000
set_option maxHeartbeats 3200000
namespace Go.Proofs.YthjbknncbhkinaaGreatDoor.GPl
open Go.RowKit Base
open VPure hiding evL
def rh (L : List C) (i : Int) : Option C := if 0 <= i then L[i.toNat]? else none
end Go.Proofs.YthjbknncbhkinaaGreatDoor.GPl
namespace Go.Proofs.YthjbknncbhkinaaGreatDoor.NPl
open Go.RowKit Base VSm VRs JVr
open GPl (rh)
open VPure hiding evL
def Sk (K m : Nat) (w : World) (Pv : Value) (L : List C) : Prop :=
 ∃ a cap, Pv = .slice a L.length cap /\ L.length <= 140737488351232 /\ L.length <= cap /\ cap <= 9223372036854775807 /\ ∀ j (h : j < L.length), ∃ g o u, a = some ⟨g, o, none⟩ /\ Six w g (o + j * 6) u /\ Base.In false (fun b => b < K) w m u L[j]
theorem Sk.below {K m : Nat} {w w' : World} {Pv : Value} {L : List C} (h : Sk K m w Pv L) (hb : Below w.heap.size w w') : Sk K m w' Pv L := by
 obtain ⟨a, cap, h1, h2, h3, h4, h5⟩ := h
 refine ⟨a, cap, h1, h2, h3, h4, fun j hj => ?_⟩
 obtain ⟨g, o, u, e, hu, hi⟩ := h5 j hj
 exact ⟨g, o, u, e, six_below hu hb, hi.below hb⟩
theorem at_c {K m : Nat} {w : World} {Pv : Value} {L : List C} (h : Sk K m w Pv L) (hK : K <= w.heap.size) : Bd K m w Pv (rh L) := by
 intro W hW o i s lv hs
 have hKW : K <= W.heap.size := Nat.le_trans hK hW.size
 obtain ⟨a, cap, rfl, hl, hlc, hcm, hel⟩ := h.below hW
 obtain ⟨W0, hW0⟩ : ∃ W0, (W.alloc (.cells #[.int .i64 o, .int .i64 i, .string s, lv] 24)).alloc (.cells #[.int .i64 0, .bool false, .int .i64 0, .string ⟨#[]⟩, .slice none 0 0, .slice none 0 0] 46) = W0 := ⟨_, rfl⟩
 have hb0 : Below W.heap.size W W0 := by rw [<- hW0]; exact ((Below.refl _ W).alloc (Nat.le_refl _) _).alloc (by simp) _
 have hs0 : W0.heap.size = W.heap.size + 2 := by rw [<- hW0]; simp
 have hx0 : W0.heap[W.heap.size]? = some (.cells #[.int .i64 o, .int .i64 i, .string s, lv] 24 (0, 0)) := by rw [<- hW0, Below.heap_alloc _ _ _ (by simp), heap_alloc_new]
 have hx1 : W0.heap[W.heap.size + 1]? = some (.cells #[.int .i64 0, .bool false, .int .i64 0, .string ⟨#[]⟩, .slice none 0 0, .slice none 0 0] 46 (0, 0)) := by
  have := heap_alloc_new (W.alloc (.cells #[.int .i64 o, .int .i64 i, .string s, lv] 24)) (.cells #[.int .i64 0, .bool false, .int .i64 0, .string ⟨#[]⟩, .slice none 0 0, .slice none 0 0] 46)
  rwa [hW0, World.size_alloc] at this
 obtain ⟨x0, x1, x2, x3⟩ := XBase.four_box hx0
 obtain ⟨r0, r1, r2, r3, r4, r5⟩ := six_box hx1
 have rf0 := frozen_box hx1 0
 have rf1 := frozen_box hx1 1
 have rf2 := frozen_box hx1 2
 have rf3 := frozen_box hx1 3
 have rf4 := frozen_box hx1 4
 have rf5 := frozen_box hx1 5
 have HB0 : Hid (Below W.heap.size W W0) := hb0
 have HX1 : Hid (W0.heap[W.heap.size + 1]? = some (.cells #[.int .i64 0, .bool false, .int .i64 0, .string ⟨#[]⟩, .slice none 0 0, .slice none 0 0] 46 (0, 0))) := hx1
 clear hx0 hx1 hb0 hW h
 by_cases hin : 0 <= i /\ i < (L.length : Int)
 ·have d0 : decide (i < 0) = false := decide_eq_false (by omega)
  have d1 : decide ((L.length : Int) <= i) = false := decide_eq_false (by omega)
  obtain ⟨j, hj⟩ : ∃ j : Nat, i = (j : Int) := ⟨i.toNat, by omega⟩
  subst hj
  have hjl : j < L.length := by omega
  obtain ⟨g, of, u, rfl, hu, hi⟩ := hel j hjl
  obtain ⟨an, ln, cn, al, ll, cl, rfl⟩ := in_shape hi
  have hi0 := hi.below HB0.out
  obtain ⟨y0, y1, y2, y3, y4, y5, E, c0, c1, c2, c3, c4, c5⟩ := hu
  simp only [Value.agg.injEq, Array.mk.injEq, List.cons.injEq, and_true] at E
  obtain ⟨rfl, rfl, rfl, rfl, rfl, rfl⟩ := E
  have c0 := below_cell c0 HB0.out
  have c1 := below_cell c1 HB0.out
  have c2 := below_cell c2 HB0.out
  have c3 := below_cell c3 HB0.out
  have c4 := below_cell c4 HB0.out
  have c5 := below_cell c5 HB0.out
  have HR : Hid (rh L (j : Int) = some L[j]) := by
   show _ = _
   unfold rh
   rw [if_pos (by omega), Int.toNat_natCast, List.getElem?_eq_getElem hjl]
  have HI : Hid (Base.In false (fun b => b < K) W0 m (vl L[j].k L[j].b L[j].i L[j].s (.slice an ln cn) (.slice al ll cl)) L[j]) := hi0
  obtain ⟨c, hc⟩ : ∃ c, L[j] = c := ⟨_, rfl⟩
  rw [hc] at HR HI c0 c1 c2 c3
  rw [HR.out]
  obtain ⟨W9, hW9⟩ : ∃ W9, (((((W0.setCell ⟨W.heap.size + 1, 0, none⟩ (.int .i64 c.k)).setCell ⟨W.heap.size + 1, 1, none⟩ (.bool c.b)).setCell ⟨W.heap.size + 1, 2, none⟩ (.int .i64 c.i)).setCell ⟨W.heap.size + 1, 3, none⟩ (.string c.s)).setCell ⟨W.heap.size + 1, 4, none⟩ (.slice an ln cn)).setCell ⟨W.heap.size + 1, 5, none⟩ (.slice al ll cl) = W9 := ⟨_, rfl⟩
  obtain ⟨q1, q2, q3, q4⟩ := set6 _ _ _ _ _ _ HX1.out hW9
  have i0 : (0 : Int) <= (j : Int) := by omega
  have i1 : (j : Int) < (L.length : Int) := by omega
  have HIN : Hid (Base.In false (fun b => b < K) W9 m (vl c.k c.b c.i c.s (.slice an ln cn) (.slice al ll cl)) c) := HI.out.keep (fun b hb hb2 => q2 b (by omega))
  have HB9 : Hid (Below W.heap.size W W9) := q4 _ _ (by omega) HB0.out
  have HQ1 : Hid _ := q1
  clear q1 q2 q3 q4 hi hi0 hel hc HI hin
  go_enter func46, ntmps46
  go_wp2_with fail
  try rw [hW9]
  refine bodyPost_ret (Part.res_row_tmp rfl _ W9 (W.heap.size + 1) 46 _ (0, 0) _ rfl HQ1.out underlying46 rfl (by kernel_rfl)) rfl ?_
  exact ⟨HB9.out, c.k, c.b, c.i, c.s, an, ln, cn, al, ll, cl, rfl, fun c' hc' => by cases hc'; exact HIN.out⟩
 ·have HR : Hid (rh L i = none) := by
   show _ = _
   unfold rh
   by_cases h0 : 0 <= i
   ·rw [if_pos h0]
    exact List.getElem?_eq_none (by omega)
   ·rw [if_neg h0]
  rw [HR.out]
  obtain ⟨W9, hW9⟩ : ∃ W9, (((((W0.setCell ⟨W.heap.size + 1, 0, none⟩ (.int .i64 0)).setCell ⟨W.heap.size + 1, 1, none⟩ (.bool false)).setCell ⟨W.heap.size + 1, 2, none⟩ (.int .i64 0)).setCell ⟨W.heap.size + 1, 3, none⟩ (.string ⟨#[]⟩)).setCell ⟨W.heap.size + 1, 4, none⟩ (.slice none 0 0)).setCell ⟨W.heap.size + 1, 5, none⟩ (.slice none 0 0) = W9 := ⟨_, rfl⟩
  obtain ⟨q1, q2, q3, q4⟩ := set6 _ _ _ _ _ _ HX1.out hW9
  have HB9 : Hid (Below W.heap.size W W9) := q4 _ _ (by omega) HB0.out
  have HQ1 : Hid _ := q1
  clear q1 q2 q3 q4 hel
  by_cases h0 : i < 0
  ·have d0 : decide (i < 0) = true := decide_eq_true h0
   clear h0 hin
   go_enter func46, ntmps46
   go_wp2_with fail
   try rw [hW9]
   refine bodyPost_ret (Part.res_row_tmp rfl _ W9 (W.heap.size + 1) 46 _ (0, 0) _ rfl HQ1.out underlying46 rfl (by kernel_rfl)) rfl ?_
   exact ⟨HB9.out, 0, false, 0, ⟨#[]⟩, none, 0, 0, none, 0, 0, rfl, fun c' hc' => by cases hc'⟩
  ·have d0 : decide (i < 0) = false := decide_eq_false h0
   have d1 : decide ((L.length : Int) <= i) = true := decide_eq_true (by omega)
   clear h0 hin
   go_enter func46, ntmps46
   go_wp2_with fail
   try rw [hW9]
   refine bodyPost_ret (Part.res_row_tmp rfl _ W9 (W.heap.size + 1) 46 _ (0, 0) _ rfl HQ1.out underlying46 rfl (by kernel_rfl)) rfl ?_
   exact ⟨HB9.out, 0, false, 0, ⟨#[]⟩, none, 0, 0, none, 0, 0, rfl, fun c' hc' => by cases hc'⟩
end Go.Proofs.YthjbknncbhkinaaGreatDoor.NPl
namespace Go.Proofs.YthjbknncbhkinaaGreatDoor.UJn
open UBase
theorem len4_same {a b c d a' b' c' d' k : Nat} (h : len4 a b c d = k) (h0 : k ≠ 0) (ea : a' = a) (eb : 2 <= k -> b' = b) (ec : 3 <= k -> c' = c) (ed : 4 <= k -> d' = d) : len4 a' b' c' d' = k := by
 subst ea
 unfold len4 at h
 split at h
 ·unfold len4; rw [if_pos (by assumption)]; exact h
 ·split at h
  ·have e := eb (by omega); subst e; unfold len4; rw [if_neg (by assumption), if_pos (by assumption)]; exact h
  ·split at h
   ·split at h
    ·omega
    ·have e := eb (by omega); subst e; have e := ec (by omega); subst e
     unfold len4; rw [if_neg (by assumption), if_neg (by assumption), if_pos (by assumption), if_neg (by assumption)]; exact h
   ·split at h
    ·split at h
     ·omega
     ·have e := eb (by omega); subst e; have e := ec (by omega); subst e; have e := ed (by omega); subst e
      unfold len4; rw [if_neg (by assumption), if_neg (by assumption), if_neg (by assumption), if_pos (by assumption), if_neg (by assumption)]; exact h
    ·omega
theorem len_same {s u : ByteArray} {m i : Nat} (ag : ∀ j, j < m -> at' u j = at' s j) (h0 : len s i ≠ 0) (hm : i + len s i <= m) : len u i = len s i := by
 rw [len_eq u]
 exact len4_same (len_eq s i).symm h0 (ag _ (by omega)) (fun _ => ag _ (by omega)) (fun _ => ag _ (by omega)) (fun _ => ag _ (by omega))
theorem bad_shift (s t : ByteArray) : ∀ (k j : Nat), t.size - j <= k -> bad (s ++ t) (s.size + j) = (bad t j).map (s.size + ·) := by
 intro k
 induction k with
 | zero => intro j hk; rw [bad_end (s := t) (by omega), bad_end (by simp; omega)]; rfl
 | succ k ih =>
  intro j hk
  have el : len (s ++ t) (s.size + j) = len t j := by
   rw [len_eq, len_eq, Nat.add_assoc, Nat.add_assoc, Nat.add_assoc, at_append_right, at_append_right, at_append_right, at_append_right]
  by_cases hj : j < t.size
  ·by_cases hl : len t j = 0
   ·rw [bad_here hj hl, bad_here (s := s ++ t) (by simp; omega) (by omega)]
    rfl
   ·rw [bad_step hj hl, bad_step (s := s ++ t) (by simp; omega) (by omega), el, Nat.add_assoc]
    exact ih _ (by omega)
  ·rw [bad_end hj, bad_end (by simp; omega)]
   rfl
theorem bad_join {s t : ByteArray} : ∀ (k i : Nat), s.size - i <= k -> i <= s.size -> bad s i = none -> bad (s ++ t) i = (bad t 0).map (s.size + ·) := by
 intro k
 induction k with
 | zero =>
  intro i hk hi h
  obtain rfl : i = s.size + 0 := by omega
  exact bad_shift s t _ _ (Nat.le_refl _)
 | succ k ih =>
  intro i hk hi h
  by_cases e : i = s.size
  ·obtain rfl : i = s.size + 0 := by omega
   exact bad_shift s t _ _ (Nat.le_refl _)
  ·have hi' : i < s.size := by omega
   have hl : len s i ≠ 0 := fun hl => by rw [bad_here hi' hl] at h; cases h
   rw [bad_step hi' hl] at h
   have b2 := len_in hi'
   have el := len_same (s := s) (u := s ++ t) (m := s.size) (fun j hj => at_append_left s t j hj) hl b2
   rw [bad_step (s := s ++ t) (by simp; omega) (by omega), el]
   exact ih _ (by omega) b2 h
theorem verr_join {s t : ByteArray} (h : bad s 0 = none) : verr (s ++ t) = verr t := by
 unfold verr
 rw [bad_join _ _ (Nat.le_refl _) (by omega) h]
 cases bad t 0 <;> simp
end Go.Proofs.YthjbknncbhkinaaGreatDoor.UJn
