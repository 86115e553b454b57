import Derived.Test.YthkpbhgbmagaeaaGreatDoorP20
import Derived.Test.YthkpbhgbmagaeaaGreatDoorP32
import Derived.Test.YthkpbhgbmagaeaaGreatDoorP37
import Derived.Test.YthkpbhgbmagaeaaGreatDoorP39
namespace Go.Proofs.YthkpbhgbmagaeaaGreatDoor.RVal
open Go.RowKit Go.Proofs.YthkpbhgbmagaeaaGreatDoor.Base Go.Proofs.YthkpbhgbmagaeaaGreatDoor.UBase Go.Proofs.YthkpbhgbmagaeaaGreatDoor.Spec Go.Proofs.YthkpbhgbmagaeaaGreatDoor.Rdr Go.Proofs.YthkpbhgbmagaeaaGreatDoor.Own Go.Proofs.YthkpbhgbmagaeaaGreatDoor.RRd Go.Proofs.YthkpbhgbmagaeaaGreatDoor.RWd Go.Proofs.YthkpbhgbmagaeaaGreatDoor.RSt
set_option linter.unusedVariables false
def RLs (n d : Nat) : Prop := ∀ (w : World) (R : Nat) (s : ByteArray) (i b : Nat), at' s i = 91 → Rr w R s i 0 0 b →
 Calls Tryz.prog 31 #[ptr R, .int .i64 d] w fun e w' => RvR w w' R s (n + 1) e (lis (vl s n) s i b) ∧ Kr R w w'
def RRs (n d : Nat) : Prop := ∀ (w : World) (R : Nat) (s : ByteArray) (i b : Nat), at' s i = 123 → Rr w R s i 0 0 b →
 Calls Tryz.prog 32 #[ptr R, .int .i64 d] w fun e w' => RvR w w' R s (n + 1) e (rec (vl s n) s i b) ∧ Kr R w w'
theorem shp {w w' : World} {R : Nat} {s : ByteArray} {m : Nat} {e : Ending} {X : Except F (C × Nat × Nat)} (h : RvR w w' R s m e X) : ∃ k bo xx t an ln cn al ll cl, e = .returned (.agg #[.int .i64 k, .bool bo, .int .i64 xx, .string t, .slice an ln cn, .slice al ll cl]) := by
 cases X with
 | error x => exact h.1
 | ok z =>
  obtain ⟨⟨k, bo, xx, t, nn, l⟩, j, b'⟩ := z
  obtain ⟨⟨u, rfl, hfs⟩, -⟩ := h
  obtain ⟨an, ln, cn, al, ll, cl, rfl⟩ := Val.fs_shape hfs
  exact ⟨_, _, _, _, _, _, _, _, _, _, rfl⟩
set_option maxRecDepth 40000 in
set_option maxHeartbeats 12800000 in
theorem value_of (n d : Nat) (hnd : n + d = 25) (hls : ∀ n', n = n' + 1 → RLs n' d) (hrs : ∀ n', n = n' + 1 → RRs n' d) : RVs n d n := by
 intro w R s i b hi h
 obtain ⟨Y, hY⟩ : ∃ Y, vl s n i b = Y := ⟨_, rfl⟩
 rw [hY]
 have HY : Hid (vl s n i b = Y) := hY
 have HLS : Hid (∀ n', n = n' + 1 → RLs n' d) := hls
 have HRS : Hid (∀ n', n = n' + 1 → RRs n' d) := hrs
 have hRlt := h.lt
 have hsz := h.sz
 have hlb := h.lb
 clear hls hrs hY
 obtain ⟨W0, hW0⟩ : ∃ W0, w.alloc (.cells #[.int .i64 0, .bool false, .int .i64 0, .string ⟨#[]⟩, .slice none 0 0, .slice none 0 0] 27) = W0 := ⟨_, rfl⟩
 have b0 : Below w.heap.size w W0 := by rw [← hW0]; exact (Below.refl _ w).alloc (Nat.le_refl _) _
 have s0 : W0.heap.size = w.heap.size + 1 := by rw [← hW0]; simp
 have hz0 : W0.heap[w.heap.size]? = some (.cells #[.int .i64 0, .bool false, .int .i64 0, .string ⟨#[]⟩, .slice none 0 0, .slice none 0 0] 27 (0, 0)) := by rw [← hW0]; exact heap_alloc_new w _
 have cB := blanks_c (h.below b0)
 have hk0 : Kr R w W0 := .of_below b0 (Nat.le_of_lt hRlt)
 unfold ptr at cB ⊢
 clear h
 go_enter Tryz.func14, Tryz.ntmps14
 go_wp2_with fail
 refine cB.mono ?_
 rintro e w1 ⟨rfl, hr1, hk1⟩
 have hz1 := (hk1.other w.heap.size (by omega) (by omega)).trans hz0
 have hkw1 := hk0.trans hk1
 have s1 := hk1.below.size
 have cP := peek_c hr1
 unfold ptr at cP
 clear cB hz0 hk0 hk1 b0 hW0
 go_wp2_with fail
 refine cP.mono ?_
 rintro e w2 ⟨rfl, n1, rfl⟩
 have hr := hr1.drewN n1
 have hz : (w1.drewN n1).heap[w.heap.size]? = some (.cells #[.int .i64 0, .bool false, .int .i64 0, .string ⟨#[]⟩, .slice none 0 0, .slice none 0 0] 27 (0, 0)) := hz1
 have hk := hkw1.drewN n1
 have hs : w.heap.size < (w1.drewN n1).heap.size := by simp; omega
 clear cP hr1 hz1 hkw1 s1
 generalize w1.drewN n1 = W at *
 have hble := (blk_le s (s.size - i) i (Nat.le_refl _)).2.1 hi
 obtain ⟨q, hq⟩ : ∃ q, blk s i = q := ⟨_, rfl⟩
 rw [hq] at hr hble ⊢
 obtain ⟨c, hc⟩ : ∃ c, at' s q = c := ⟨_, rfl⟩
 have hc256 : c < 256 := by rw [← hc]; exact at_lt s q
 rw [hc]
 have HC : Hid (at' s q = c) := hc
 have HQ : Hid (blk s i = q) := hq
 have hin : c ≠ 0 → q < s.size := fun hh => at_in (by rw [hc]; exact hh)
 have HIN : Hid (c ≠ 0 → q < s.size) := hin
 clear hc hq hin
 have cD := fun w => digit_c c hc256 w
 obtain ⟨p0, p1, p2, p3, p4⟩ := hr.cells
 obtain ⟨d0, d1, d2, d3, d4, d5⟩ := six_box hz
 have f0 := frozen_box hz 0
 have f1 := frozen_box hz 1
 have f2 := frozen_box hz 2
 have f3 := frozen_box hz 3
 have f4 := frozen_box hz 4
 have f5 := frozen_box hz 5
 have g4 := hr.free 4
 by_cases hbeg : beg c = true
 ·have HY0 : Hid (n = 0 → Y = .error (603, q)) := fun hh => by
   subst hh
   rw [← HY.out, vl, HQ.out, HC.out, if_pos hbeg]
  have HY1 : Hid (∀ n', n = n' + 1 → Y = if 16384 ≤ b then .error (604, q) else one (vl s n') s q (b + 1)) := fun n' hh => by
   subst hh
   rw [← HY.out, vl, HQ.out, HC.out, if_pos hbeg]
  clear HY HQ
  have hcs : c = 110 ∨ c = 116 ∨ c = 102 ∨ c = 34 ∨ c = 91 ∨ c = 123 ∨ c = 45 ∨ dig c = true := by
   unfold beg at hbeg
   simp only [Bool.or_eq_true, decide_eq_true_eq] at hbeg
   rcases hbeg with h | h | h | h | h | h | h | h
   ·exact .inl h
   ·exact .inr (.inl h)
   ·exact .inr (.inr (.inl h))
   ·exact .inr (.inr (.inr (.inr (.inr (.inr (.inl h))))))
   ·exact .inr (.inr (.inr (.inr (.inr (.inr (.inr h))))))
   ·exact .inr (.inr (.inr (.inl h)))
   ·exact .inr (.inr (.inr (.inr (.inl h))))
   ·exact .inr (.inr (.inr (.inr (.inr (.inl h)))))
  clear hbeg
  rcases hcs with rfl | rfl | rfl | rfl | rfl | rfl | rfl | hdig
  ·by_cases hn0 : n = 0
   ·have HYe : Hid (Y = .error (603, q)) := HY0.out hn0
    have dd : decide ((24 : Int) < (d : Int)) = true := decide_eq_true (by omega)
    have cF := fail_first hr 603 q (by omega) (by omega)
    unfold ptr at cF
    clear HLS HRS HY0 HY1 HIN
    go_wp2_with (first | (go_at_call 28; refine (cD _).mono ?_; rintro e w' ⟨rfl, rfl⟩) | (go_at_call 16; refine cF.mono ?_; rintro e w' ⟨rfl, hF, hkF⟩; have hzF := (hkF.other w.heap.size (by omega) hs).trans hz; obtain ⟨x0, x1, x2, x3, x4, x5⟩ := six_box hzF; have y0 := frozen_box hzF 0; have y1 := frozen_box hzF 1; have y2 := frozen_box hzF 2; have y3 := frozen_box hzF 3; have y4 := frozen_box hzF 4; have y5 := frozen_box hzF 5; have HZF : Hid (w'.heap[w.heap.size]? = some (.cells #[.int .i64 0, .bool false, .int .i64 0, .string ⟨#[]⟩, .slice none 0 0, .slice none 0 0] 27 (0, 0))) := hzF; clear hzF))
    obtain ⟨W6, hW6⟩ : ∃ W6, ((((((w'.setCell ⟨w.heap.size, 0, none⟩ (.int .i64 0)).setCell ⟨w.heap.size, 1, none⟩ (.bool false)).setCell ⟨w.heap.size, 2, none⟩ (.int .i64 0)).setCell ⟨w.heap.size, 3, none⟩ (.string ⟨#[]⟩)).setCell ⟨w.heap.size, 4, none⟩ (.slice none 0 0)).setCell ⟨w.heap.size, 5, none⟩ (.slice none 0 0)) = W6 := ⟨_, rfl⟩
    rw [hW6]
    obtain ⟨q1, q2, q3, q4⟩ := set6 _ _ _ _ _ _ HZF.out hW6
    obtain ⟨v0, v1, v2, v3, v4, v5⟩ := six_box q1
    refine bodyPost_ret (v := .agg #[.int .i64 0, .bool false, .int .i64 0, .string ⟨#[]⟩, .slice none 0 0, .slice none 0 0]) (by simp [results, Tryz.results14, go_sem, v0, v1, v2, v3, v4, v5]) rfl ?_
    rw [HYe.out]
    have hK := hk.trans hkF
    exact ⟨⟨⟨_, _, _, _, _, _, _, _, _, _, rfl⟩, by simp, _, _, hF.keep (q2 R (by omega))⟩, q4 _ _ (Nat.le_of_lt hRlt) hK.below, fun k hk hs => (q2 k (by omega)).trans (hK.other k hk hs)⟩
   ·obtain ⟨n', hn'⟩ : ∃ n', n = n' + 1 := ⟨n - 1, by omega⟩
    have hY1 := HY1.out n' hn'
    have dd : decide ((24 : Int) < (d : Int)) = false := decide_eq_false (by omega)
    by_cases hb : 16384 ≤ b
    ·have HYe : Hid (Y = .error (604, q)) := by rw [if_pos hb] at hY1; exact hY1
     have db : decide ((16384 : Int) ≤ (b : Int)) = true := decide_eq_true (by omega)
     have cF := fail_first hr 604 q (by omega) (by omega)
     unfold ptr at cF
     clear HLS HRS HY0 HY1 HIN hY1
     go_wp2_with (first | (go_at_call 28; refine (cD _).mono ?_; rintro e w' ⟨rfl, rfl⟩) | (go_at_call 16; refine cF.mono ?_; rintro e w' ⟨rfl, hF, hkF⟩; have hzF := (hkF.other w.heap.size (by omega) hs).trans hz; obtain ⟨x0, x1, x2, x3, x4, x5⟩ := six_box hzF; have y0 := frozen_box hzF 0; have y1 := frozen_box hzF 1; have y2 := frozen_box hzF 2; have y3 := frozen_box hzF 3; have y4 := frozen_box hzF 4; have y5 := frozen_box hzF 5; have HZF : Hid (w'.heap[w.heap.size]? = some (.cells #[.int .i64 0, .bool false, .int .i64 0, .string ⟨#[]⟩, .slice none 0 0, .slice none 0 0] 27 (0, 0))) := hzF; clear hzF))
     obtain ⟨W6, hW6⟩ : ∃ W6, ((((((w'.setCell ⟨w.heap.size, 0, none⟩ (.int .i64 0)).setCell ⟨w.heap.size, 1, none⟩ (.bool false)).setCell ⟨w.heap.size, 2, none⟩ (.int .i64 0)).setCell ⟨w.heap.size, 3, none⟩ (.string ⟨#[]⟩)).setCell ⟨w.heap.size, 4, none⟩ (.slice none 0 0)).setCell ⟨w.heap.size, 5, none⟩ (.slice none 0 0)) = W6 := ⟨_, rfl⟩
     rw [hW6]
     obtain ⟨q1, q2, q3, q4⟩ := set6 _ _ _ _ _ _ HZF.out hW6
     obtain ⟨v0, v1, v2, v3, v4, v5⟩ := six_box q1
     refine bodyPost_ret (v := .agg #[.int .i64 0, .bool false, .int .i64 0, .string ⟨#[]⟩, .slice none 0 0, .slice none 0 0]) (by simp [results, Tryz.results14, go_sem, v0, v1, v2, v3, v4, v5]) rfl ?_
     rw [HYe.out]
     have hK := hk.trans hkF
     exact ⟨⟨⟨_, _, _, _, _, _, _, _, _, _, rfl⟩, by simp, _, _, hF.keep (q2 R (by omega))⟩, q4 _ _ (Nat.le_of_lt hRlt) hK.below, fun k hk hs => (q2 k (by omega)).trans (hK.other k hk hs)⟩
    ·have db : decide ((16384 : Int) ≤ (b : Int)) = false := decide_eq_false (by omega)
     rw [if_neg hb] at hY1
     have hr2 := hr.begun (b + 1) (by omega)
     rw [show ((b + 1 : Nat) : Int) = (b : Int) + 1 from by omega] at hr2
     have hk2 := hk.set 4 (.int .i64 ((b : Int) + 1))
     have hz2 : (W.setCell ⟨R, 4, none⟩ (.int .i64 ((b : Int) + 1))).heap[w.heap.size]? = some (.cells #[.int .i64 0, .bool false, .int .i64 0, .string ⟨#[]⟩, .slice none 0 0, .slice none 0 0] 27 (0, 0)) := (((Kr.refl R W).set 4 _).other w.heap.size (by omega) hs).trans hz
     have hs2 : w.heap.size < (W.setCell ⟨R, 4, none⟩ (.int .i64 ((b : Int) + 1))).heap.size := by simpa using hs
     have HYe : Hid (Y = match wd s [110, 117, 108, 108] q with | .error e => .error e | .ok j => .ok (.mk 1 false 0 ⟨#[]⟩ [] [], j, b + 1)) := by
      show _ = _
      rw [hY1]
      unfold one
      rw [HC.out]
      rfl
     have cW := word_c ⟨#[110, 117, 108, 108]⟩ (by decide) hble hr2
     rw [show Take.wb ⟨#[110, 117, 108, 108]⟩ = [110, 117, 108, 108] from rfl] at cW
     unfold ptr at cW
     obtain ⟨X, hX⟩ : ∃ X, wd s [110, 117, 108, 108] q = X := ⟨_, rfl⟩
     rw [hX] at cW HYe
     have HZ2 := (⟨hz2, hs2⟩ : _ ∧ _)
     have HZ2 : Hid _ := HZ2
     clear HLS HRS HY0 HY1 HIN hY1 hX hr hr2 hz2 hs2
     go_wp2_with (first | (go_at_call 29; refine cW.mono ?_; rintro e w' ⟨rfl, hRes, hkF⟩; have hz := HZ2.out.1; have hs := HZ2.out.2; have hzF := (hkF.other w.heap.size (by omega) hs).trans hz; obtain ⟨x0, x1, x2, x3, x4, x5⟩ := six_box hzF; have y0 := frozen_box hzF 0; have y1 := frozen_box hzF 1; have y2 := frozen_box hzF 2; have y3 := frozen_box hzF 3; have y4 := frozen_box hzF 4; have y5 := frozen_box hzF 5; have HZF : Hid (w'.heap[w.heap.size]? = some (.cells #[.int .i64 0, .bool false, .int .i64 0, .string ⟨#[]⟩, .slice none 0 0, .slice none 0 0] 27 (0, 0))) := hzF; clear hzF))
     obtain ⟨W6, hW6⟩ : ∃ W6, ((((((w'.setCell ⟨w.heap.size, 0, none⟩ (.int .i64 1)).setCell ⟨w.heap.size, 1, none⟩ (.bool false)).setCell ⟨w.heap.size, 2, none⟩ (.int .i64 0)).setCell ⟨w.heap.size, 3, none⟩ (.string ⟨#[]⟩)).setCell ⟨w.heap.size, 4, none⟩ (.slice none 0 0)).setCell ⟨w.heap.size, 5, none⟩ (.slice none 0 0)) = W6 := ⟨_, rfl⟩
     rw [hW6]
     obtain ⟨q1, q2, q3, q4⟩ := set6 _ _ _ _ _ _ HZF.out hW6
     obtain ⟨v0, v1, v2, v3, v4, v5⟩ := six_box q1
     refine bodyPost_ret (v := .agg #[.int .i64 1, .bool false, .int .i64 0, .string ⟨#[]⟩, .slice none 0 0, .slice none 0 0]) (by simp [results, Tryz.results14, go_sem, v0, v1, v2, v3, v4, v5]) rfl ?_
     rw [HYe.out]
     have hK := hk2.trans hkF
     refine ⟨?_, q4 _ _ (Nat.le_of_lt hRlt) hK.below, fun k hk hs => (q2 k (by omega)).trans (hK.other k hk hs)⟩
     cases X with
     | error x =>
      obtain ⟨hne, j, b', hF⟩ := hRes
      exact ⟨⟨_, _, _, _, _, _, _, _, _, _, rfl⟩, hne, j, b', hF.keep (q2 R (by omega))⟩
     | ok j => exact ⟨⟨_, rfl, by rw [hn']; exact Fs.plain _ _ _ _ _ _ _ (by omega) (by omega) (Nat.zero_le _)⟩, Rr.keep hRes (q2 R (by omega))⟩
  ·by_cases hn0 : n = 0
   ·have HYe : Hid (Y = .error (603, q)) := HY0.out hn0
    have dd : decide ((24 : Int) < (d : Int)) = true := decide_eq_true (by omega)
    have cF := fail_first hr 603 q (by omega) (by omega)
    unfold ptr at cF
    clear HLS HRS HY0 HY1 HIN
    go_wp2_with (first | (go_at_call 28; refine (cD _).mono ?_; rintro e w' ⟨rfl, rfl⟩) | (go_at_call 16; refine cF.mono ?_; rintro e w' ⟨rfl, hF, hkF⟩; have hzF := (hkF.other w.heap.size (by omega) hs).trans hz; obtain ⟨x0, x1, x2, x3, x4, x5⟩ := six_box hzF; have y0 := frozen_box hzF 0; have y1 := frozen_box hzF 1; have y2 := frozen_box hzF 2; have y3 := frozen_box hzF 3; have y4 := frozen_box hzF 4; have y5 := frozen_box hzF 5; have HZF : Hid (w'.heap[w.heap.size]? = some (.cells #[.int .i64 0, .bool false, .int .i64 0, .string ⟨#[]⟩, .slice none 0 0, .slice none 0 0] 27 (0, 0))) := hzF; clear hzF))
    obtain ⟨W6, hW6⟩ : ∃ W6, ((((((w'.setCell ⟨w.heap.size, 0, none⟩ (.int .i64 0)).setCell ⟨w.heap.size, 1, none⟩ (.bool false)).setCell ⟨w.heap.size, 2, none⟩ (.int .i64 0)).setCell ⟨w.heap.size, 3, none⟩ (.string ⟨#[]⟩)).setCell ⟨w.heap.size, 4, none⟩ (.slice none 0 0)).setCell ⟨w.heap.size, 5, none⟩ (.slice none 0 0)) = W6 := ⟨_, rfl⟩
    rw [hW6]
    obtain ⟨q1, q2, q3, q4⟩ := set6 _ _ _ _ _ _ HZF.out hW6
    obtain ⟨v0, v1, v2, v3, v4, v5⟩ := six_box q1
    refine bodyPost_ret (v := .agg #[.int .i64 0, .bool false, .int .i64 0, .string ⟨#[]⟩, .slice none 0 0, .slice none 0 0]) (by simp [results, Tryz.results14, go_sem, v0, v1, v2, v3, v4, v5]) rfl ?_
    rw [HYe.out]
    have hK := hk.trans hkF
    exact ⟨⟨⟨_, _, _, _, _, _, _, _, _, _, rfl⟩, by simp, _, _, hF.keep (q2 R (by omega))⟩, q4 _ _ (Nat.le_of_lt hRlt) hK.below, fun k hk hs => (q2 k (by omega)).trans (hK.other k hk hs)⟩
   ·obtain ⟨n', hn'⟩ : ∃ n', n = n' + 1 := ⟨n - 1, by omega⟩
    have hY1 := HY1.out n' hn'
    have dd : decide ((24 : Int) < (d : Int)) = false := decide_eq_false (by omega)
    by_cases hb : 16384 ≤ b
    ·have HYe : Hid (Y = .error (604, q)) := by rw [if_pos hb] at hY1; exact hY1
     have db : decide ((16384 : Int) ≤ (b : Int)) = true := decide_eq_true (by omega)
     have cF := fail_first hr 604 q (by omega) (by omega)
     unfold ptr at cF
     clear HLS HRS HY0 HY1 HIN hY1
     go_wp2_with (first | (go_at_call 28; refine (cD _).mono ?_; rintro e w' ⟨rfl, rfl⟩) | (go_at_call 16; refine cF.mono ?_; rintro e w' ⟨rfl, hF, hkF⟩; have hzF := (hkF.other w.heap.size (by omega) hs).trans hz; obtain ⟨x0, x1, x2, x3, x4, x5⟩ := six_box hzF; have y0 := frozen_box hzF 0; have y1 := frozen_box hzF 1; have y2 := frozen_box hzF 2; have y3 := frozen_box hzF 3; have y4 := frozen_box hzF 4; have y5 := frozen_box hzF 5; have HZF : Hid (w'.heap[w.heap.size]? = some (.cells #[.int .i64 0, .bool false, .int .i64 0, .string ⟨#[]⟩, .slice none 0 0, .slice none 0 0] 27 (0, 0))) := hzF; clear hzF))
     obtain ⟨W6, hW6⟩ : ∃ W6, ((((((w'.setCell ⟨w.heap.size, 0, none⟩ (.int .i64 0)).setCell ⟨w.heap.size, 1, none⟩ (.bool false)).setCell ⟨w.heap.size, 2, none⟩ (.int .i64 0)).setCell ⟨w.heap.size, 3, none⟩ (.string ⟨#[]⟩)).setCell ⟨w.heap.size, 4, none⟩ (.slice none 0 0)).setCell ⟨w.heap.size, 5, none⟩ (.slice none 0 0)) = W6 := ⟨_, rfl⟩
     rw [hW6]
     obtain ⟨q1, q2, q3, q4⟩ := set6 _ _ _ _ _ _ HZF.out hW6
     obtain ⟨v0, v1, v2, v3, v4, v5⟩ := six_box q1
     refine bodyPost_ret (v := .agg #[.int .i64 0, .bool false, .int .i64 0, .string ⟨#[]⟩, .slice none 0 0, .slice none 0 0]) (by simp [results, Tryz.results14, go_sem, v0, v1, v2, v3, v4, v5]) rfl ?_
     rw [HYe.out]
     have hK := hk.trans hkF
     exact ⟨⟨⟨_, _, _, _, _, _, _, _, _, _, rfl⟩, by simp, _, _, hF.keep (q2 R (by omega))⟩, q4 _ _ (Nat.le_of_lt hRlt) hK.below, fun k hk hs => (q2 k (by omega)).trans (hK.other k hk hs)⟩
    ·have db : decide ((16384 : Int) ≤ (b : Int)) = false := decide_eq_false (by omega)
     rw [if_neg hb] at hY1
     have hr2 := hr.begun (b + 1) (by omega)
     rw [show ((b + 1 : Nat) : Int) = (b : Int) + 1 from by omega] at hr2
     have hk2 := hk.set 4 (.int .i64 ((b : Int) + 1))
     have hz2 : (W.setCell ⟨R, 4, none⟩ (.int .i64 ((b : Int) + 1))).heap[w.heap.size]? = some (.cells #[.int .i64 0, .bool false, .int .i64 0, .string ⟨#[]⟩, .slice none 0 0, .slice none 0 0] 27 (0, 0)) := (((Kr.refl R W).set 4 _).other w.heap.size (by omega) hs).trans hz
     have hs2 : w.heap.size < (W.setCell ⟨R, 4, none⟩ (.int .i64 ((b : Int) + 1))).heap.size := by simpa using hs
     have HYe : Hid (Y = match wd s [116, 114, 117, 101] q with | .error e => .error e | .ok j => .ok (.mk 2 true 0 ⟨#[]⟩ [] [], j, b + 1)) := by
      show _ = _
      rw [hY1]
      unfold one
      rw [HC.out]
      rfl
     have cW := word_c ⟨#[116, 114, 117, 101]⟩ (by decide) hble hr2
     rw [show Take.wb ⟨#[116, 114, 117, 101]⟩ = [116, 114, 117, 101] from rfl] at cW
     unfold ptr at cW
     obtain ⟨X, hX⟩ : ∃ X, wd s [116, 114, 117, 101] q = X := ⟨_, rfl⟩
     rw [hX] at cW HYe
     have HZ2 := (⟨hz2, hs2⟩ : _ ∧ _)
     have HZ2 : Hid _ := HZ2
     clear HLS HRS HY0 HY1 HIN hY1 hX hr hr2 hz2 hs2
     go_wp2_with (first | (go_at_call 29; refine cW.mono ?_; rintro e w' ⟨rfl, hRes, hkF⟩; have hz := HZ2.out.1; have hs := HZ2.out.2; have hzF := (hkF.other w.heap.size (by omega) hs).trans hz; obtain ⟨x0, x1, x2, x3, x4, x5⟩ := six_box hzF; have y0 := frozen_box hzF 0; have y1 := frozen_box hzF 1; have y2 := frozen_box hzF 2; have y3 := frozen_box hzF 3; have y4 := frozen_box hzF 4; have y5 := frozen_box hzF 5; have HZF : Hid (w'.heap[w.heap.size]? = some (.cells #[.int .i64 0, .bool false, .int .i64 0, .string ⟨#[]⟩, .slice none 0 0, .slice none 0 0] 27 (0, 0))) := hzF; clear hzF))
     obtain ⟨W6, hW6⟩ : ∃ W6, ((((((w'.setCell ⟨w.heap.size, 0, none⟩ (.int .i64 2)).setCell ⟨w.heap.size, 1, none⟩ (.bool true)).setCell ⟨w.heap.size, 2, none⟩ (.int .i64 0)).setCell ⟨w.heap.size, 3, none⟩ (.string ⟨#[]⟩)).setCell ⟨w.heap.size, 4, none⟩ (.slice none 0 0)).setCell ⟨w.heap.size, 5, none⟩ (.slice none 0 0)) = W6 := ⟨_, rfl⟩
     rw [hW6]
     obtain ⟨q1, q2, q3, q4⟩ := set6 _ _ _ _ _ _ HZF.out hW6
     obtain ⟨v0, v1, v2, v3, v4, v5⟩ := six_box q1
     refine bodyPost_ret (v := .agg #[.int .i64 2, .bool true, .int .i64 0, .string ⟨#[]⟩, .slice none 0 0, .slice none 0 0]) (by simp [results, Tryz.results14, go_sem, v0, v1, v2, v3, v4, v5]) rfl ?_
     rw [HYe.out]
     have hK := hk2.trans hkF
     refine ⟨?_, q4 _ _ (Nat.le_of_lt hRlt) hK.below, fun k hk hs => (q2 k (by omega)).trans (hK.other k hk hs)⟩
     cases X with
     | error x =>
      obtain ⟨hne, j, b', hF⟩ := hRes
      exact ⟨⟨_, _, _, _, _, _, _, _, _, _, rfl⟩, hne, j, b', hF.keep (q2 R (by omega))⟩
     | ok j => exact ⟨⟨_, rfl, by rw [hn']; exact Fs.plain _ _ _ _ _ _ _ (by omega) (by omega) (Nat.zero_le _)⟩, Rr.keep hRes (q2 R (by omega))⟩
  ·by_cases hn0 : n = 0
   ·have HYe : Hid (Y = .error (603, q)) := HY0.out hn0
    have dd : decide ((24 : Int) < (d : Int)) = true := decide_eq_true (by omega)
    have cF := fail_first hr 603 q (by omega) (by omega)
    unfold ptr at cF
    clear HLS HRS HY0 HY1 HIN
    go_wp2_with (first | (go_at_call 28; refine (cD _).mono ?_; rintro e w' ⟨rfl, rfl⟩) | (go_at_call 16; refine cF.mono ?_; rintro e w' ⟨rfl, hF, hkF⟩; have hzF := (hkF.other w.heap.size (by omega) hs).trans hz; obtain ⟨x0, x1, x2, x3, x4, x5⟩ := six_box hzF; have y0 := frozen_box hzF 0; have y1 := frozen_box hzF 1; have y2 := frozen_box hzF 2; have y3 := frozen_box hzF 3; have y4 := frozen_box hzF 4; have y5 := frozen_box hzF 5; have HZF : Hid (w'.heap[w.heap.size]? = some (.cells #[.int .i64 0, .bool false, .int .i64 0, .string ⟨#[]⟩, .slice none 0 0, .slice none 0 0] 27 (0, 0))) := hzF; clear hzF))
    obtain ⟨W6, hW6⟩ : ∃ W6, ((((((w'.setCell ⟨w.heap.size, 0, none⟩ (.int .i64 0)).setCell ⟨w.heap.size, 1, none⟩ (.bool false)).setCell ⟨w.heap.size, 2, none⟩ (.int .i64 0)).setCell ⟨w.heap.size, 3, none⟩ (.string ⟨#[]⟩)).setCell ⟨w.heap.size, 4, none⟩ (.slice none 0 0)).setCell ⟨w.heap.size, 5, none⟩ (.slice none 0 0)) = W6 := ⟨_, rfl⟩
    rw [hW6]
    obtain ⟨q1, q2, q3, q4⟩ := set6 _ _ _ _ _ _ HZF.out hW6
    obtain ⟨v0, v1, v2, v3, v4, v5⟩ := six_box q1
    refine bodyPost_ret (v := .agg #[.int .i64 0, .bool false, .int .i64 0, .string ⟨#[]⟩, .slice none 0 0, .slice none 0 0]) (by simp [results, Tryz.results14, go_sem, v0, v1, v2, v3, v4, v5]) rfl ?_
    rw [HYe.out]
    have hK := hk.trans hkF
    exact ⟨⟨⟨_, _, _, _, _, _, _, _, _, _, rfl⟩, by simp, _, _, hF.keep (q2 R (by omega))⟩, q4 _ _ (Nat.le_of_lt hRlt) hK.below, fun k hk hs => (q2 k (by omega)).trans (hK.other k hk hs)⟩
   ·obtain ⟨n', hn'⟩ : ∃ n', n = n' + 1 := ⟨n - 1, by omega⟩
    have hY1 := HY1.out n' hn'
    have dd : decide ((24 : Int) < (d : Int)) = false := decide_eq_false (by omega)
    by_cases hb : 16384 ≤ b
    ·have HYe : Hid (Y = .error (604, q)) := by rw [if_pos hb] at hY1; exact hY1
     have db : decide ((16384 : Int) ≤ (b : Int)) = true := decide_eq_true (by omega)
     have cF := fail_first hr 604 q (by omega) (by omega)
     unfold ptr at cF
     clear HLS HRS HY0 HY1 HIN hY1
     go_wp2_with (first | (go_at_call 28; refine (cD _).mono ?_; rintro e w' ⟨rfl, rfl⟩) | (go_at_call 16; refine cF.mono ?_; rintro e w' ⟨rfl, hF, hkF⟩; have hzF := (hkF.other w.heap.size (by omega) hs).trans hz; obtain ⟨x0, x1, x2, x3, x4, x5⟩ := six_box hzF; have y0 := frozen_box hzF 0; have y1 := frozen_box hzF 1; have y2 := frozen_box hzF 2; have y3 := frozen_box hzF 3; have y4 := frozen_box hzF 4; have y5 := frozen_box hzF 5; have HZF : Hid (w'.heap[w.heap.size]? = some (.cells #[.int .i64 0, .bool false, .int .i64 0, .string ⟨#[]⟩, .slice none 0 0, .slice none 0 0] 27 (0, 0))) := hzF; clear hzF))
     obtain ⟨W6, hW6⟩ : ∃ W6, ((((((w'.setCell ⟨w.heap.size, 0, none⟩ (.int .i64 0)).setCell ⟨w.heap.size, 1, none⟩ (.bool false)).setCell ⟨w.heap.size, 2, none⟩ (.int .i64 0)).setCell ⟨w.heap.size, 3, none⟩ (.string ⟨#[]⟩)).setCell ⟨w.heap.size, 4, none⟩ (.slice none 0 0)).setCell ⟨w.heap.size, 5, none⟩ (.slice none 0 0)) = W6 := ⟨_, rfl⟩
     rw [hW6]
     obtain ⟨q1, q2, q3, q4⟩ := set6 _ _ _ _ _ _ HZF.out hW6
     obtain ⟨v0, v1, v2, v3, v4, v5⟩ := six_box q1
     refine bodyPost_ret (v := .agg #[.int .i64 0, .bool false, .int .i64 0, .string ⟨#[]⟩, .slice none 0 0, .slice none 0 0]) (by simp [results, Tryz.results14, go_sem, v0, v1, v2, v3, v4, v5]) rfl ?_
     rw [HYe.out]
     have hK := hk.trans hkF
     exact ⟨⟨⟨_, _, _, _, _, _, _, _, _, _, rfl⟩, by simp, _, _, hF.keep (q2 R (by omega))⟩, q4 _ _ (Nat.le_of_lt hRlt) hK.below, fun k hk hs => (q2 k (by omega)).trans (hK.other k hk hs)⟩
    ·have db : decide ((16384 : Int) ≤ (b : Int)) = false := decide_eq_false (by omega)
     rw [if_neg hb] at hY1
     have hr2 := hr.begun (b + 1) (by omega)
     rw [show ((b + 1 : Nat) : Int) = (b : Int) + 1 from by omega] at hr2
     have hk2 := hk.set 4 (.int .i64 ((b : Int) + 1))
     have hz2 : (W.setCell ⟨R, 4, none⟩ (.int .i64 ((b : Int) + 1))).heap[w.heap.size]? = some (.cells #[.int .i64 0, .bool false, .int .i64 0, .string ⟨#[]⟩, .slice none 0 0, .slice none 0 0] 27 (0, 0)) := (((Kr.refl R W).set 4 _).other w.heap.size (by omega) hs).trans hz
     have hs2 : w.heap.size < (W.setCell ⟨R, 4, none⟩ (.int .i64 ((b : Int) + 1))).heap.size := by simpa using hs
     have HYe : Hid (Y = match wd s [102, 97, 108, 115, 101] q with | .error e => .error e | .ok j => .ok (.mk 2 false 0 ⟨#[]⟩ [] [], j, b + 1)) := by
      show _ = _
      rw [hY1]
      unfold one
      rw [HC.out]
      rfl
     have cW := word_c ⟨#[102, 97, 108, 115, 101]⟩ (by decide) hble hr2
     rw [show Take.wb ⟨#[102, 97, 108, 115, 101]⟩ = [102, 97, 108, 115, 101] from rfl] at cW
     unfold ptr at cW
     obtain ⟨X, hX⟩ : ∃ X, wd s [102, 97, 108, 115, 101] q = X := ⟨_, rfl⟩
     rw [hX] at cW HYe
     have HZ2 := (⟨hz2, hs2⟩ : _ ∧ _)
     have HZ2 : Hid _ := HZ2
     clear HLS HRS HY0 HY1 HIN hY1 hX hr hr2 hz2 hs2
     go_wp2_with (first | (go_at_call 29; refine cW.mono ?_; rintro e w' ⟨rfl, hRes, hkF⟩; have hz := HZ2.out.1; have hs := HZ2.out.2; have hzF := (hkF.other w.heap.size (by omega) hs).trans hz; obtain ⟨x0, x1, x2, x3, x4, x5⟩ := six_box hzF; have y0 := frozen_box hzF 0; have y1 := frozen_box hzF 1; have y2 := frozen_box hzF 2; have y3 := frozen_box hzF 3; have y4 := frozen_box hzF 4; have y5 := frozen_box hzF 5; have HZF : Hid (w'.heap[w.heap.size]? = some (.cells #[.int .i64 0, .bool false, .int .i64 0, .string ⟨#[]⟩, .slice none 0 0, .slice none 0 0] 27 (0, 0))) := hzF; clear hzF))
     obtain ⟨W6, hW6⟩ : ∃ W6, ((((((w'.setCell ⟨w.heap.size, 0, none⟩ (.int .i64 2)).setCell ⟨w.heap.size, 1, none⟩ (.bool false)).setCell ⟨w.heap.size, 2, none⟩ (.int .i64 0)).setCell ⟨w.heap.size, 3, none⟩ (.string ⟨#[]⟩)).setCell ⟨w.heap.size, 4, none⟩ (.slice none 0 0)).setCell ⟨w.heap.size, 5, none⟩ (.slice none 0 0)) = W6 := ⟨_, rfl⟩
     rw [hW6]
     obtain ⟨q1, q2, q3, q4⟩ := set6 _ _ _ _ _ _ HZF.out hW6
     obtain ⟨v0, v1, v2, v3, v4, v5⟩ := six_box q1
     refine bodyPost_ret (v := .agg #[.int .i64 2, .bool false, .int .i64 0, .string ⟨#[]⟩, .slice none 0 0, .slice none 0 0]) (by simp [results, Tryz.results14, go_sem, v0, v1, v2, v3, v4, v5]) rfl ?_
     rw [HYe.out]
     have hK := hk2.trans hkF
     refine ⟨?_, q4 _ _ (Nat.le_of_lt hRlt) hK.below, fun k hk hs => (q2 k (by omega)).trans (hK.other k hk hs)⟩
     cases X with
     | error x =>
      obtain ⟨hne, j, b', hF⟩ := hRes
      exact ⟨⟨_, _, _, _, _, _, _, _, _, _, rfl⟩, hne, j, b', hF.keep (q2 R (by omega))⟩
     | ok j => exact ⟨⟨_, rfl, by rw [hn']; exact Fs.plain _ _ _ _ _ _ _ (by omega) (by omega) (Nat.zero_le _)⟩, Rr.keep hRes (q2 R (by omega))⟩
  ·rw [show dig 34 = false from by decide] at cD
   by_cases hn0 : n = 0
   ·have HYe : Hid (Y = .error (603, q)) := HY0.out hn0
    have dd : decide ((24 : Int) < (d : Int)) = true := decide_eq_true (by omega)
    have cF := fail_first hr 603 q (by omega) (by omega)
    unfold ptr at cF
    clear HLS HRS HY0 HY1 HIN
    go_wp2_with (first | (go_at_call 28; refine (cD _).mono ?_; rintro e w' ⟨rfl, rfl⟩) | (go_at_call 16; refine cF.mono ?_; rintro e w' ⟨rfl, hF, hkF⟩; have hzF := (hkF.other w.heap.size (by omega) hs).trans hz; obtain ⟨x0, x1, x2, x3, x4, x5⟩ := six_box hzF; have y0 := frozen_box hzF 0; have y1 := frozen_box hzF 1; have y2 := frozen_box hzF 2; have y3 := frozen_box hzF 3; have y4 := frozen_box hzF 4; have y5 := frozen_box hzF 5; have HZF : Hid (w'.heap[w.heap.size]? = some (.cells #[.int .i64 0, .bool false, .int .i64 0, .string ⟨#[]⟩, .slice none 0 0, .slice none 0 0] 27 (0, 0))) := hzF; clear hzF))
    obtain ⟨W6, hW6⟩ : ∃ W6, ((((((w'.setCell ⟨w.heap.size, 0, none⟩ (.int .i64 0)).setCell ⟨w.heap.size, 1, none⟩ (.bool false)).setCell ⟨w.heap.size, 2, none⟩ (.int .i64 0)).setCell ⟨w.heap.size, 3, none⟩ (.string ⟨#[]⟩)).setCell ⟨w.heap.size, 4, none⟩ (.slice none 0 0)).setCell ⟨w.heap.size, 5, none⟩ (.slice none 0 0)) = W6 := ⟨_, rfl⟩
    rw [hW6]
    obtain ⟨q1, q2, q3, q4⟩ := set6 _ _ _ _ _ _ HZF.out hW6
    obtain ⟨v0, v1, v2, v3, v4, v5⟩ := six_box q1
    refine bodyPost_ret (v := .agg #[.int .i64 0, .bool false, .int .i64 0, .string ⟨#[]⟩, .slice none 0 0, .slice none 0 0]) (by simp [results, Tryz.results14, go_sem, v0, v1, v2, v3, v4, v5]) rfl ?_
    rw [HYe.out]
    have hK := hk.trans hkF
    exact ⟨⟨⟨_, _, _, _, _, _, _, _, _, _, rfl⟩, by simp, _, _, hF.keep (q2 R (by omega))⟩, q4 _ _ (Nat.le_of_lt hRlt) hK.below, fun k hk hs => (q2 k (by omega)).trans (hK.other k hk hs)⟩
   ·obtain ⟨n', hn'⟩ : ∃ n', n = n' + 1 := ⟨n - 1, by omega⟩
    have hY1 := HY1.out n' hn'
    have dd : decide ((24 : Int) < (d : Int)) = false := decide_eq_false (by omega)
    by_cases hb : 16384 ≤ b
    ·have HYe : Hid (Y = .error (604, q)) := by rw [if_pos hb] at hY1; exact hY1
     have db : decide ((16384 : Int) ≤ (b : Int)) = true := decide_eq_true (by omega)
     have cF := fail_first hr 604 q (by omega) (by omega)
     unfold ptr at cF
     clear HLS HRS HY0 HY1 HIN hY1
     go_wp2_with (first | (go_at_call 28; refine (cD _).mono ?_; rintro e w' ⟨rfl, rfl⟩) | (go_at_call 16; refine cF.mono ?_; rintro e w' ⟨rfl, hF, hkF⟩; have hzF := (hkF.other w.heap.size (by omega) hs).trans hz; obtain ⟨x0, x1, x2, x3, x4, x5⟩ := six_box hzF; have y0 := frozen_box hzF 0; have y1 := frozen_box hzF 1; have y2 := frozen_box hzF 2; have y3 := frozen_box hzF 3; have y4 := frozen_box hzF 4; have y5 := frozen_box hzF 5; have HZF : Hid (w'.heap[w.heap.size]? = some (.cells #[.int .i64 0, .bool false, .int .i64 0, .string ⟨#[]⟩, .slice none 0 0, .slice none 0 0] 27 (0, 0))) := hzF; clear hzF))
     obtain ⟨W6, hW6⟩ : ∃ W6, ((((((w'.setCell ⟨w.heap.size, 0, none⟩ (.int .i64 0)).setCell ⟨w.heap.size, 1, none⟩ (.bool false)).setCell ⟨w.heap.size, 2, none⟩ (.int .i64 0)).setCell ⟨w.heap.size, 3, none⟩ (.string ⟨#[]⟩)).setCell ⟨w.heap.size, 4, none⟩ (.slice none 0 0)).setCell ⟨w.heap.size, 5, none⟩ (.slice none 0 0)) = W6 := ⟨_, rfl⟩
     rw [hW6]
     obtain ⟨q1, q2, q3, q4⟩ := set6 _ _ _ _ _ _ HZF.out hW6
     obtain ⟨v0, v1, v2, v3, v4, v5⟩ := six_box q1
     refine bodyPost_ret (v := .agg #[.int .i64 0, .bool false, .int .i64 0, .string ⟨#[]⟩, .slice none 0 0, .slice none 0 0]) (by simp [results, Tryz.results14, go_sem, v0, v1, v2, v3, v4, v5]) rfl ?_
     rw [HYe.out]
     have hK := hk.trans hkF
     exact ⟨⟨⟨_, _, _, _, _, _, _, _, _, _, rfl⟩, by simp, _, _, hF.keep (q2 R (by omega))⟩, q4 _ _ (Nat.le_of_lt hRlt) hK.below, fun k hk hs => (q2 k (by omega)).trans (hK.other k hk hs)⟩
    ·have db : decide ((16384 : Int) ≤ (b : Int)) = false := decide_eq_false (by omega)
     rw [if_neg hb] at hY1
     have hr2 := hr.begun (b + 1) (by omega)
     rw [show ((b + 1 : Nat) : Int) = (b : Int) + 1 from by omega] at hr2
     have hk2 := hk.set 4 (.int .i64 ((b : Int) + 1))
     have hz2 : (W.setCell ⟨R, 4, none⟩ (.int .i64 ((b : Int) + 1))).heap[w.heap.size]? = some (.cells #[.int .i64 0, .bool false, .int .i64 0, .string ⟨#[]⟩, .slice none 0 0, .slice none 0 0] 27 (0, 0)) := (((Kr.refl R W).set 4 _).other w.heap.size (by omega) hs).trans hz
     have hs2 : w.heap.size < (W.setCell ⟨R, 4, none⟩ (.int .i64 ((b : Int) + 1))).heap.size := by simpa using hs
     have HYe : Hid (Y = match txt s q with | .error e => .error e | .ok (t, j) => .ok (.mk 4 false 0 t [] [], j, b + 1)) := by
      show _ = _
      rw [hY1]
      unfold one
      rw [HC.out, if_neg (by decide), if_neg (by decide), if_neg (by decide), if_pos rfl]
      try rfl
     obtain ⟨X, hX⟩ : ∃ X, txt s q = X := ⟨_, rfl⟩
     rw [hX] at HYe
     have HXe : Hid (txt s q = X) := hX
     have cT := RTex.text_c HC.out hr2
     rw [hX] at cT
     unfold ptr at cT
     clear hX
     have HZ2 : Hid ((W.setCell ⟨R, 4, none⟩ (.int .i64 ((b : Int) + 1))).heap[w.heap.size]? = some (.cells #[.int .i64 0, .bool false, .int .i64 0, .string ⟨#[]⟩, .slice none 0 0, .slice none 0 0] 27 (0, 0)) ∧ w.heap.size < (W.setCell ⟨R, 4, none⟩ (.int .i64 ((b : Int) + 1))).heap.size) := ⟨hz2, hs2⟩
     clear HLS HRS HY0 HY1 HIN hY1 hr hr2 hz2 hs2
     go_wp2_with (first | (go_at_call 28; refine (cD _).mono ?_; rintro e w' ⟨rfl, hw'⟩; subst hw') | (go_at_call 30; refine cT.mono ?_; rintro e w' ⟨hT, hkF⟩; obtain ⟨t, rfl⟩ : ∃ t, e = .returned (.string t) := (by cases X with | error x => exact hT.1 | ok z => obtain ⟨z1, z2⟩ := z; exact ⟨_, hT.1⟩); have hz := HZ2.out.1; have hs := HZ2.out.2; have hzF := (hkF.other w.heap.size (by omega) hs).trans hz; obtain ⟨x0, x1, x2, x3, x4, x5⟩ := six_box hzF; have y0 := frozen_box hzF 0; have y1 := frozen_box hzF 1; have y2 := frozen_box hzF 2; have y3 := frozen_box hzF 3; have y4 := frozen_box hzF 4; have y5 := frozen_box hzF 5; have HZF : Hid (w'.heap[w.heap.size]? = some (.cells #[.int .i64 0, .bool false, .int .i64 0, .string ⟨#[]⟩, .slice none 0 0, .slice none 0 0] 27 (0, 0))) := hzF; clear hzF))
     obtain ⟨W6, hW6⟩ : ∃ W6, ((((((w'.setCell ⟨w.heap.size, 0, none⟩ (.int .i64 4)).setCell ⟨w.heap.size, 1, none⟩ (.bool false)).setCell ⟨w.heap.size, 2, none⟩ (.int .i64 0)).setCell ⟨w.heap.size, 3, none⟩ (.string t)).setCell ⟨w.heap.size, 4, none⟩ (.slice none 0 0)).setCell ⟨w.heap.size, 5, none⟩ (.slice none 0 0)) = W6 := ⟨_, rfl⟩
     rw [hW6]
     obtain ⟨q1, q2, q3, q4⟩ := set6 _ _ _ _ _ _ HZF.out hW6
     obtain ⟨v0, v1, v2, v3, v4, v5⟩ := six_box q1
     refine bodyPost_ret (v := .agg #[.int .i64 4, .bool false, .int .i64 0, .string t, .slice none 0 0, .slice none 0 0]) (by simp [results, Tryz.results14, go_sem, v0, v1, v2, v3, v4, v5]) rfl ?_
     rw [HYe.out]
     have hK := hk2.trans hkF
     refine ⟨?_, q4 _ _ (Nat.le_of_lt hRlt) hK.below, fun k hk hs => (q2 k (by omega)).trans (hK.other k hk hs)⟩
     cases X with
     | error x =>
      obtain ⟨-, hne, j, b', hF⟩ := hT
      exact ⟨⟨_, _, _, _, _, _, _, _, _, _, rfl⟩, hne, j, b', hF.keep (q2 R (by omega))⟩
     | ok z =>
      obtain ⟨t', j⟩ := z
      obtain ⟨he, hF⟩ := hT
      cases he
      exact ⟨⟨_, rfl, by rw [hn']; exact Fs.plain _ _ _ _ _ _ _ (by omega) (by omega) (by have := (SpecIn.txt_in HXe.out).2.2.1; omega)⟩, hF.keep (q2 R (by omega))⟩
  ·rw [show dig 91 = false from by decide] at cD
   by_cases hn0 : n = 0
   ·have HYe : Hid (Y = .error (603, q)) := HY0.out hn0
    have dd : decide ((24 : Int) < (d : Int)) = true := decide_eq_true (by omega)
    have cF := fail_first hr 603 q (by omega) (by omega)
    unfold ptr at cF
    clear HLS HRS HY0 HY1 HIN
    go_wp2_with (first | (go_at_call 28; refine (cD _).mono ?_; rintro e w' ⟨rfl, rfl⟩) | (go_at_call 16; refine cF.mono ?_; rintro e w' ⟨rfl, hF, hkF⟩; have hzF := (hkF.other w.heap.size (by omega) hs).trans hz; obtain ⟨x0, x1, x2, x3, x4, x5⟩ := six_box hzF; have y0 := frozen_box hzF 0; have y1 := frozen_box hzF 1; have y2 := frozen_box hzF 2; have y3 := frozen_box hzF 3; have y4 := frozen_box hzF 4; have y5 := frozen_box hzF 5; have HZF : Hid (w'.heap[w.heap.size]? = some (.cells #[.int .i64 0, .bool false, .int .i64 0, .string ⟨#[]⟩, .slice none 0 0, .slice none 0 0] 27 (0, 0))) := hzF; clear hzF))
    obtain ⟨W6, hW6⟩ : ∃ W6, ((((((w'.setCell ⟨w.heap.size, 0, none⟩ (.int .i64 0)).setCell ⟨w.heap.size, 1, none⟩ (.bool false)).setCell ⟨w.heap.size, 2, none⟩ (.int .i64 0)).setCell ⟨w.heap.size, 3, none⟩ (.string ⟨#[]⟩)).setCell ⟨w.heap.size, 4, none⟩ (.slice none 0 0)).setCell ⟨w.heap.size, 5, none⟩ (.slice none 0 0)) = W6 := ⟨_, rfl⟩
    rw [hW6]
    obtain ⟨q1, q2, q3, q4⟩ := set6 _ _ _ _ _ _ HZF.out hW6
    obtain ⟨v0, v1, v2, v3, v4, v5⟩ := six_box q1
    refine bodyPost_ret (v := .agg #[.int .i64 0, .bool false, .int .i64 0, .string ⟨#[]⟩, .slice none 0 0, .slice none 0 0]) (by simp [results, Tryz.results14, go_sem, v0, v1, v2, v3, v4, v5]) rfl ?_
    rw [HYe.out]
    have hK := hk.trans hkF
    exact ⟨⟨⟨_, _, _, _, _, _, _, _, _, _, rfl⟩, by simp, _, _, hF.keep (q2 R (by omega))⟩, q4 _ _ (Nat.le_of_lt hRlt) hK.below, fun k hk hs => (q2 k (by omega)).trans (hK.other k hk hs)⟩
   ·obtain ⟨n', hn'⟩ : ∃ n', n = n' + 1 := ⟨n - 1, by omega⟩
    have hY1 := HY1.out n' hn'
    have dd : decide ((24 : Int) < (d : Int)) = false := decide_eq_false (by omega)
    by_cases hb : 16384 ≤ b
    ·have HYe : Hid (Y = .error (604, q)) := by rw [if_pos hb] at hY1; exact hY1
     have db : decide ((16384 : Int) ≤ (b : Int)) = true := decide_eq_true (by omega)
     have cF := fail_first hr 604 q (by omega) (by omega)
     unfold ptr at cF
     clear HLS HRS HY0 HY1 HIN hY1
     go_wp2_with (first | (go_at_call 28; refine (cD _).mono ?_; rintro e w' ⟨rfl, rfl⟩) | (go_at_call 16; refine cF.mono ?_; rintro e w' ⟨rfl, hF, hkF⟩; have hzF := (hkF.other w.heap.size (by omega) hs).trans hz; obtain ⟨x0, x1, x2, x3, x4, x5⟩ := six_box hzF; have y0 := frozen_box hzF 0; have y1 := frozen_box hzF 1; have y2 := frozen_box hzF 2; have y3 := frozen_box hzF 3; have y4 := frozen_box hzF 4; have y5 := frozen_box hzF 5; have HZF : Hid (w'.heap[w.heap.size]? = some (.cells #[.int .i64 0, .bool false, .int .i64 0, .string ⟨#[]⟩, .slice none 0 0, .slice none 0 0] 27 (0, 0))) := hzF; clear hzF))
     obtain ⟨W6, hW6⟩ : ∃ W6, ((((((w'.setCell ⟨w.heap.size, 0, none⟩ (.int .i64 0)).setCell ⟨w.heap.size, 1, none⟩ (.bool false)).setCell ⟨w.heap.size, 2, none⟩ (.int .i64 0)).setCell ⟨w.heap.size, 3, none⟩ (.string ⟨#[]⟩)).setCell ⟨w.heap.size, 4, none⟩ (.slice none 0 0)).setCell ⟨w.heap.size, 5, none⟩ (.slice none 0 0)) = W6 := ⟨_, rfl⟩
     rw [hW6]
     obtain ⟨q1, q2, q3, q4⟩ := set6 _ _ _ _ _ _ HZF.out hW6
     obtain ⟨v0, v1, v2, v3, v4, v5⟩ := six_box q1
     refine bodyPost_ret (v := .agg #[.int .i64 0, .bool false, .int .i64 0, .string ⟨#[]⟩, .slice none 0 0, .slice none 0 0]) (by simp [results, Tryz.results14, go_sem, v0, v1, v2, v3, v4, v5]) rfl ?_
     rw [HYe.out]
     have hK := hk.trans hkF
     exact ⟨⟨⟨_, _, _, _, _, _, _, _, _, _, rfl⟩, by simp, _, _, hF.keep (q2 R (by omega))⟩, q4 _ _ (Nat.le_of_lt hRlt) hK.below, fun k hk hs => (q2 k (by omega)).trans (hK.other k hk hs)⟩
    ·have db : decide ((16384 : Int) ≤ (b : Int)) = false := decide_eq_false (by omega)
     rw [if_neg hb] at hY1
     have hr2 := hr.begun (b + 1) (by omega)
     rw [show ((b + 1 : Nat) : Int) = (b : Int) + 1 from by omega] at hr2
     have hk2 := hk.set 4 (.int .i64 ((b : Int) + 1))
     have hz2 : (W.setCell ⟨R, 4, none⟩ (.int .i64 ((b : Int) + 1))).heap[w.heap.size]? = some (.cells #[.int .i64 0, .bool false, .int .i64 0, .string ⟨#[]⟩, .slice none 0 0, .slice none 0 0] 27 (0, 0)) := (((Kr.refl R W).set 4 _).other w.heap.size (by omega) hs).trans hz
     have hs2 : w.heap.size < (W.setCell ⟨R, 4, none⟩ (.int .i64 ((b : Int) + 1))).heap.size := by simpa using hs
     obtain ⟨X, hX⟩ : ∃ X, lis (vl s n') s q (b + 1) = X := ⟨_, rfl⟩
     have HYe : Hid (Y = X) := by
      show _ = _
      rw [hY1]
      unfold one
      rw [HC.out, ← hX]
      rfl
     have cT := HLS.out n' hn' _ R s q (b + 1) HC.out hr2
     rw [hX] at cT
     unfold ptr at cT
     clear hX
     have HZ2 : Hid ((W.setCell ⟨R, 4, none⟩ (.int .i64 ((b : Int) + 1))).heap[w.heap.size]? = some (.cells #[.int .i64 0, .bool false, .int .i64 0, .string ⟨#[]⟩, .slice none 0 0, .slice none 0 0] 27 (0, 0)) ∧ w.heap.size < (W.setCell ⟨R, 4, none⟩ (.int .i64 ((b : Int) + 1))).heap.size) := ⟨hz2, hs2⟩
     clear HLS HRS HY0 HY1 HIN hY1 hr hr2 hz2 hs2
     go_wp2_with (first | (go_at_call 28; refine (cD _).mono ?_; rintro e w' ⟨rfl, hw'⟩; subst hw') | (go_at_call 31; refine cT.mono ?_; rintro e w' ⟨hT, hkF⟩; obtain ⟨k, bo, xx, t, an, ln, cn, al, ll, cl, rfl⟩ : ∃ k bo xx t an ln cn al ll cl, e = .returned (.agg #[.int .i64 k, .bool bo, .int .i64 xx, .string t, .slice an ln cn, .slice al ll cl]) := (shp hT); have hz := HZ2.out.1; have hs := HZ2.out.2; have hzF := (hkF.other w.heap.size (by omega) hs).trans hz; obtain ⟨x0, x1, x2, x3, x4, x5⟩ := six_box hzF; have y0 := frozen_box hzF 0; have y1 := frozen_box hzF 1; have y2 := frozen_box hzF 2; have y3 := frozen_box hzF 3; have y4 := frozen_box hzF 4; have y5 := frozen_box hzF 5; have HZF : Hid (w'.heap[w.heap.size]? = some (.cells #[.int .i64 0, .bool false, .int .i64 0, .string ⟨#[]⟩, .slice none 0 0, .slice none 0 0] 27 (0, 0))) := hzF; clear hzF))
     obtain ⟨W6, hW6⟩ : ∃ W6, ((((((w'.setCell ⟨w.heap.size, 0, none⟩ (.int .i64 k)).setCell ⟨w.heap.size, 1, none⟩ (.bool bo)).setCell ⟨w.heap.size, 2, none⟩ (.int .i64 xx)).setCell ⟨w.heap.size, 3, none⟩ (.string t)).setCell ⟨w.heap.size, 4, none⟩ (.slice an ln cn)).setCell ⟨w.heap.size, 5, none⟩ (.slice al ll cl)) = W6 := ⟨_, rfl⟩
     rw [hW6]
     obtain ⟨q1, q2, q3, q4⟩ := set6 _ _ _ _ _ _ HZF.out hW6
     obtain ⟨v0, v1, v2, v3, v4, v5⟩ := six_box q1
     refine bodyPost_ret (v := .agg #[.int .i64 k, .bool bo, .int .i64 xx, .string t, .slice an ln cn, .slice al ll cl]) (by simp [results, Tryz.results14, go_sem, v0, v1, v2, v3, v4, v5]) rfl ?_
     rw [HYe.out]
     have hK := hk2.trans hkF
     refine ⟨?_, q4 _ _ (Nat.le_of_lt hRlt) hK.below, fun k hk hs => (q2 k (by omega)).trans (hK.other k hk hs)⟩
     cases X with
     | error x =>
      obtain ⟨-, hne, j, b', hF⟩ := hT
      exact ⟨⟨_, _, _, _, _, _, _, _, _, _, rfl⟩, hne, j, b', hF.keep (q2 R (by omega))⟩
     | ok z =>
      obtain ⟨c', j, b'⟩ := z
      obtain ⟨⟨u, he, hfs⟩, hF⟩ := hT
      cases he
      have hs' := HZ2.out.2
      exact ⟨⟨_, rfl, by rw [hn']; exact (hfs.keep fun g hg hlt => q2 g (by have := hg.1; omega)).weak _ (Nat.le_refl _) fun g hg => ⟨by have := hg.1; omega, by have := hg.2; omega⟩⟩, hF.keep (q2 R (by omega))⟩
  ·rw [show dig 123 = false from by decide] at cD
   by_cases hn0 : n = 0
   ·have HYe : Hid (Y = .error (603, q)) := HY0.out hn0
    have dd : decide ((24 : Int) < (d : Int)) = true := decide_eq_true (by omega)
    have cF := fail_first hr 603 q (by omega) (by omega)
    unfold ptr at cF
    clear HLS HRS HY0 HY1 HIN
    go_wp2_with (first | (go_at_call 28; refine (cD _).mono ?_; rintro e w' ⟨rfl, rfl⟩) | (go_at_call 16; refine cF.mono ?_; rintro e w' ⟨rfl, hF, hkF⟩; have hzF := (hkF.other w.heap.size (by omega) hs).trans hz; obtain ⟨x0, x1, x2, x3, x4, x5⟩ := six_box hzF; have y0 := frozen_box hzF 0; have y1 := frozen_box hzF 1; have y2 := frozen_box hzF 2; have y3 := frozen_box hzF 3; have y4 := frozen_box hzF 4; have y5 := frozen_box hzF 5; have HZF : Hid (w'.heap[w.heap.size]? = some (.cells #[.int .i64 0, .bool false, .int .i64 0, .string ⟨#[]⟩, .slice none 0 0, .slice none 0 0] 27 (0, 0))) := hzF; clear hzF))
    obtain ⟨W6, hW6⟩ : ∃ W6, ((((((w'.setCell ⟨w.heap.size, 0, none⟩ (.int .i64 0)).setCell ⟨w.heap.size, 1, none⟩ (.bool false)).setCell ⟨w.heap.size, 2, none⟩ (.int .i64 0)).setCell ⟨w.heap.size, 3, none⟩ (.string ⟨#[]⟩)).setCell ⟨w.heap.size, 4, none⟩ (.slice none 0 0)).setCell ⟨w.heap.size, 5, none⟩ (.slice none 0 0)) = W6 := ⟨_, rfl⟩
    rw [hW6]
    obtain ⟨q1, q2, q3, q4⟩ := set6 _ _ _ _ _ _ HZF.out hW6
    obtain ⟨v0, v1, v2, v3, v4, v5⟩ := six_box q1
    refine bodyPost_ret (v := .agg #[.int .i64 0, .bool false, .int .i64 0, .string ⟨#[]⟩, .slice none 0 0, .slice none 0 0]) (by simp [results, Tryz.results14, go_sem, v0, v1, v2, v3, v4, v5]) rfl ?_
    rw [HYe.out]
    have hK := hk.trans hkF
    exact ⟨⟨⟨_, _, _, _, _, _, _, _, _, _, rfl⟩, by simp, _, _, hF.keep (q2 R (by omega))⟩, q4 _ _ (Nat.le_of_lt hRlt) hK.below, fun k hk hs => (q2 k (by omega)).trans (hK.other k hk hs)⟩
   ·obtain ⟨n', hn'⟩ : ∃ n', n = n' + 1 := ⟨n - 1, by omega⟩
    have hY1 := HY1.out n' hn'
    have dd : decide ((24 : Int) < (d : Int)) = false := decide_eq_false (by omega)
    by_cases hb : 16384 ≤ b
    ·have HYe : Hid (Y = .error (604, q)) := by rw [if_pos hb] at hY1; exact hY1
     have db : decide ((16384 : Int) ≤ (b : Int)) = true := decide_eq_true (by omega)
     have cF := fail_first hr 604 q (by omega) (by omega)
     unfold ptr at cF
     clear HLS HRS HY0 HY1 HIN hY1
     go_wp2_with (first | (go_at_call 28; refine (cD _).mono ?_; rintro e w' ⟨rfl, rfl⟩) | (go_at_call 16; refine cF.mono ?_; rintro e w' ⟨rfl, hF, hkF⟩; have hzF := (hkF.other w.heap.size (by omega) hs).trans hz; obtain ⟨x0, x1, x2, x3, x4, x5⟩ := six_box hzF; have y0 := frozen_box hzF 0; have y1 := frozen_box hzF 1; have y2 := frozen_box hzF 2; have y3 := frozen_box hzF 3; have y4 := frozen_box hzF 4; have y5 := frozen_box hzF 5; have HZF : Hid (w'.heap[w.heap.size]? = some (.cells #[.int .i64 0, .bool false, .int .i64 0, .string ⟨#[]⟩, .slice none 0 0, .slice none 0 0] 27 (0, 0))) := hzF; clear hzF))
     obtain ⟨W6, hW6⟩ : ∃ W6, ((((((w'.setCell ⟨w.heap.size, 0, none⟩ (.int .i64 0)).setCell ⟨w.heap.size, 1, none⟩ (.bool false)).setCell ⟨w.heap.size, 2, none⟩ (.int .i64 0)).setCell ⟨w.heap.size, 3, none⟩ (.string ⟨#[]⟩)).setCell ⟨w.heap.size, 4, none⟩ (.slice none 0 0)).setCell ⟨w.heap.size, 5, none⟩ (.slice none 0 0)) = W6 := ⟨_, rfl⟩
     rw [hW6]
     obtain ⟨q1, q2, q3, q4⟩ := set6 _ _ _ _ _ _ HZF.out hW6
     obtain ⟨v0, v1, v2, v3, v4, v5⟩ := six_box q1
     refine bodyPost_ret (v := .agg #[.int .i64 0, .bool false, .int .i64 0, .string ⟨#[]⟩, .slice none 0 0, .slice none 0 0]) (by simp [results, Tryz.results14, go_sem, v0, v1, v2, v3, v4, v5]) rfl ?_
     rw [HYe.out]
     have hK := hk.trans hkF
     exact ⟨⟨⟨_, _, _, _, _, _, _, _, _, _, rfl⟩, by simp, _, _, hF.keep (q2 R (by omega))⟩, q4 _ _ (Nat.le_of_lt hRlt) hK.below, fun k hk hs => (q2 k (by omega)).trans (hK.other k hk hs)⟩
    ·have db : decide ((16384 : Int) ≤ (b : Int)) = false := decide_eq_false (by omega)
     rw [if_neg hb] at hY1
     have hr2 := hr.begun (b + 1) (by omega)
     rw [show ((b + 1 : Nat) : Int) = (b : Int) + 1 from by omega] at hr2
     have hk2 := hk.set 4 (.int .i64 ((b : Int) + 1))
     have hz2 : (W.setCell ⟨R, 4, none⟩ (.int .i64 ((b : Int) + 1))).heap[w.heap.size]? = some (.cells #[.int .i64 0, .bool false, .int .i64 0, .string ⟨#[]⟩, .slice none 0 0, .slice none 0 0] 27 (0, 0)) := (((Kr.refl R W).set 4 _).other w.heap.size (by omega) hs).trans hz
     have hs2 : w.heap.size < (W.setCell ⟨R, 4, none⟩ (.int .i64 ((b : Int) + 1))).heap.size := by simpa using hs
     obtain ⟨X, hX⟩ : ∃ X, rec (vl s n') s q (b + 1) = X := ⟨_, rfl⟩
     have HYe : Hid (Y = X) := by
      show _ = _
      rw [hY1]
      unfold one
      rw [HC.out, ← hX]
      rfl
     have cT := HRS.out n' hn' _ R s q (b + 1) HC.out hr2
     rw [hX] at cT
     unfold ptr at cT
     clear hX
     have HZ2 : Hid ((W.setCell ⟨R, 4, none⟩ (.int .i64 ((b : Int) + 1))).heap[w.heap.size]? = some (.cells #[.int .i64 0, .bool false, .int .i64 0, .string ⟨#[]⟩, .slice none 0 0, .slice none 0 0] 27 (0, 0)) ∧ w.heap.size < (W.setCell ⟨R, 4, none⟩ (.int .i64 ((b : Int) + 1))).heap.size) := ⟨hz2, hs2⟩
     clear HLS HRS HY0 HY1 HIN hY1 hr hr2 hz2 hs2
     go_wp2_with (first | (go_at_call 28; refine (cD _).mono ?_; rintro e w' ⟨rfl, hw'⟩; subst hw') | (go_at_call 32; refine cT.mono ?_; rintro e w' ⟨hT, hkF⟩; obtain ⟨k, bo, xx, t, an, ln, cn, al, ll, cl, rfl⟩ : ∃ k bo xx t an ln cn al ll cl, e = .returned (.agg #[.int .i64 k, .bool bo, .int .i64 xx, .string t, .slice an ln cn, .slice al ll cl]) := (shp hT); have hz := HZ2.out.1; have hs := HZ2.out.2; have hzF := (hkF.other w.heap.size (by omega) hs).trans hz; obtain ⟨x0, x1, x2, x3, x4, x5⟩ := six_box hzF; have y0 := frozen_box hzF 0; have y1 := frozen_box hzF 1; have y2 := frozen_box hzF 2; have y3 := frozen_box hzF 3; have y4 := frozen_box hzF 4; have y5 := frozen_box hzF 5; have HZF : Hid (w'.heap[w.heap.size]? = some (.cells #[.int .i64 0, .bool false, .int .i64 0, .string ⟨#[]⟩, .slice none 0 0, .slice none 0 0] 27 (0, 0))) := hzF; clear hzF))
     obtain ⟨W6, hW6⟩ : ∃ W6, ((((((w'.setCell ⟨w.heap.size, 0, none⟩ (.int .i64 k)).setCell ⟨w.heap.size, 1, none⟩ (.bool bo)).setCell ⟨w.heap.size, 2, none⟩ (.int .i64 xx)).setCell ⟨w.heap.size, 3, none⟩ (.string t)).setCell ⟨w.heap.size, 4, none⟩ (.slice an ln cn)).setCell ⟨w.heap.size, 5, none⟩ (.slice al ll cl)) = W6 := ⟨_, rfl⟩
     rw [hW6]
     obtain ⟨q1, q2, q3, q4⟩ := set6 _ _ _ _ _ _ HZF.out hW6
     obtain ⟨v0, v1, v2, v3, v4, v5⟩ := six_box q1
     refine bodyPost_ret (v := .agg #[.int .i64 k, .bool bo, .int .i64 xx, .string t, .slice an ln cn, .slice al ll cl]) (by simp [results, Tryz.results14, go_sem, v0, v1, v2, v3, v4, v5]) rfl ?_
     rw [HYe.out]
     have hK := hk2.trans hkF
     refine ⟨?_, q4 _ _ (Nat.le_of_lt hRlt) hK.below, fun k hk hs => (q2 k (by omega)).trans (hK.other k hk hs)⟩
     cases X with
     | error x =>
      obtain ⟨-, hne, j, b', hF⟩ := hT
      exact ⟨⟨_, _, _, _, _, _, _, _, _, _, rfl⟩, hne, j, b', hF.keep (q2 R (by omega))⟩
     | ok z =>
      obtain ⟨c', j, b'⟩ := z
      obtain ⟨⟨u, he, hfs⟩, hF⟩ := hT
      cases he
      have hs' := HZ2.out.2
      exact ⟨⟨_, rfl, by rw [hn']; exact (hfs.keep fun g hg hlt => q2 g (by have := hg.1; omega)).weak _ (Nat.le_refl _) fun g hg => ⟨by have := hg.1; omega, by have := hg.2; omega⟩⟩, hF.keep (q2 R (by omega))⟩
  ·by_cases hn0 : n = 0
   ·have HYe : Hid (Y = .error (603, q)) := HY0.out hn0
    have dd : decide ((24 : Int) < (d : Int)) = true := decide_eq_true (by omega)
    have cF := fail_first hr 603 q (by omega) (by omega)
    unfold ptr at cF
    clear HLS HRS HY0 HY1 HIN
    go_wp2_with (first | (go_at_call 28; refine (cD _).mono ?_; rintro e w' ⟨rfl, rfl⟩) | (go_at_call 16; refine cF.mono ?_; rintro e w' ⟨rfl, hF, hkF⟩; have hzF := (hkF.other w.heap.size (by omega) hs).trans hz; obtain ⟨x0, x1, x2, x3, x4, x5⟩ := six_box hzF; have y0 := frozen_box hzF 0; have y1 := frozen_box hzF 1; have y2 := frozen_box hzF 2; have y3 := frozen_box hzF 3; have y4 := frozen_box hzF 4; have y5 := frozen_box hzF 5; have HZF : Hid (w'.heap[w.heap.size]? = some (.cells #[.int .i64 0, .bool false, .int .i64 0, .string ⟨#[]⟩, .slice none 0 0, .slice none 0 0] 27 (0, 0))) := hzF; clear hzF))
    obtain ⟨W6, hW6⟩ : ∃ W6, ((((((w'.setCell ⟨w.heap.size, 0, none⟩ (.int .i64 0)).setCell ⟨w.heap.size, 1, none⟩ (.bool false)).setCell ⟨w.heap.size, 2, none⟩ (.int .i64 0)).setCell ⟨w.heap.size, 3, none⟩ (.string ⟨#[]⟩)).setCell ⟨w.heap.size, 4, none⟩ (.slice none 0 0)).setCell ⟨w.heap.size, 5, none⟩ (.slice none 0 0)) = W6 := ⟨_, rfl⟩
    rw [hW6]
    obtain ⟨q1, q2, q3, q4⟩ := set6 _ _ _ _ _ _ HZF.out hW6
    obtain ⟨v0, v1, v2, v3, v4, v5⟩ := six_box q1
    refine bodyPost_ret (v := .agg #[.int .i64 0, .bool false, .int .i64 0, .string ⟨#[]⟩, .slice none 0 0, .slice none 0 0]) (by simp [results, Tryz.results14, go_sem, v0, v1, v2, v3, v4, v5]) rfl ?_
    rw [HYe.out]
    have hK := hk.trans hkF
    exact ⟨⟨⟨_, _, _, _, _, _, _, _, _, _, rfl⟩, by simp, _, _, hF.keep (q2 R (by omega))⟩, q4 _ _ (Nat.le_of_lt hRlt) hK.below, fun k hk hs => (q2 k (by omega)).trans (hK.other k hk hs)⟩
   ·obtain ⟨n', hn'⟩ : ∃ n', n = n' + 1 := ⟨n - 1, by omega⟩
    have hY1 := HY1.out n' hn'
    have dd : decide ((24 : Int) < (d : Int)) = false := decide_eq_false (by omega)
    by_cases hb : 16384 ≤ b
    ·have HYe : Hid (Y = .error (604, q)) := by rw [if_pos hb] at hY1; exact hY1
     have db : decide ((16384 : Int) ≤ (b : Int)) = true := decide_eq_true (by omega)
     have cF := fail_first hr 604 q (by omega) (by omega)
     unfold ptr at cF
     clear HLS HRS HY0 HY1 HIN hY1
     go_wp2_with (first | (go_at_call 28; refine (cD _).mono ?_; rintro e w' ⟨rfl, rfl⟩) | (go_at_call 16; refine cF.mono ?_; rintro e w' ⟨rfl, hF, hkF⟩; have hzF := (hkF.other w.heap.size (by omega) hs).trans hz; obtain ⟨x0, x1, x2, x3, x4, x5⟩ := six_box hzF; have y0 := frozen_box hzF 0; have y1 := frozen_box hzF 1; have y2 := frozen_box hzF 2; have y3 := frozen_box hzF 3; have y4 := frozen_box hzF 4; have y5 := frozen_box hzF 5; have HZF : Hid (w'.heap[w.heap.size]? = some (.cells #[.int .i64 0, .bool false, .int .i64 0, .string ⟨#[]⟩, .slice none 0 0, .slice none 0 0] 27 (0, 0))) := hzF; clear hzF))
     obtain ⟨W6, hW6⟩ : ∃ W6, ((((((w'.setCell ⟨w.heap.size, 0, none⟩ (.int .i64 0)).setCell ⟨w.heap.size, 1, none⟩ (.bool false)).setCell ⟨w.heap.size, 2, none⟩ (.int .i64 0)).setCell ⟨w.heap.size, 3, none⟩ (.string ⟨#[]⟩)).setCell ⟨w.heap.size, 4, none⟩ (.slice none 0 0)).setCell ⟨w.heap.size, 5, none⟩ (.slice none 0 0)) = W6 := ⟨_, rfl⟩
     rw [hW6]
     obtain ⟨q1, q2, q3, q4⟩ := set6 _ _ _ _ _ _ HZF.out hW6
     obtain ⟨v0, v1, v2, v3, v4, v5⟩ := six_box q1
     refine bodyPost_ret (v := .agg #[.int .i64 0, .bool false, .int .i64 0, .string ⟨#[]⟩, .slice none 0 0, .slice none 0 0]) (by simp [results, Tryz.results14, go_sem, v0, v1, v2, v3, v4, v5]) rfl ?_
     rw [HYe.out]
     have hK := hk.trans hkF
     exact ⟨⟨⟨_, _, _, _, _, _, _, _, _, _, rfl⟩, by simp, _, _, hF.keep (q2 R (by omega))⟩, q4 _ _ (Nat.le_of_lt hRlt) hK.below, fun k hk hs => (q2 k (by omega)).trans (hK.other k hk hs)⟩
    ·have db : decide ((16384 : Int) ≤ (b : Int)) = false := decide_eq_false (by omega)
     rw [if_neg hb] at hY1
     have hr2 := hr.begun (b + 1) (by omega)
     rw [show ((b + 1 : Nat) : Int) = (b : Int) + 1 from by omega] at hr2
     have hk2 := hk.set 4 (.int .i64 ((b : Int) + 1))
     have hz2 : (W.setCell ⟨R, 4, none⟩ (.int .i64 ((b : Int) + 1))).heap[w.heap.size]? = some (.cells #[.int .i64 0, .bool false, .int .i64 0, .string ⟨#[]⟩, .slice none 0 0, .slice none 0 0] 27 (0, 0)) := (((Kr.refl R W).set 4 _).other w.heap.size (by omega) hs).trans hz
     have hs2 : w.heap.size < (W.setCell ⟨R, 4, none⟩ (.int .i64 ((b : Int) + 1))).heap.size := by simpa using hs
     have HYe : Hid (Y = match nm s q with | .error e => .error e | .ok (t, j) => .ok (.mk 3 false t ⟨#[]⟩ [] [], j, b + 1)) := by
      show _ = _
      rw [hY1]
      unfold one
      rw [HC.out, if_neg (by decide), if_neg (by decide), if_neg (by decide), if_neg (by decide), if_neg (by decide), if_neg (by decide)]
      try rfl
     obtain ⟨X, hX⟩ : ∃ X, nm s q = X := ⟨_, rfl⟩
     rw [hX] at HYe
     have HXe : Hid (nm s q = X) := hX
     have cT := RNum.number_c (HIN.out (by decide)) hr2
     rw [hX] at cT
     unfold ptr at cT
     clear hX
     have HZ2 : Hid ((W.setCell ⟨R, 4, none⟩ (.int .i64 ((b : Int) + 1))).heap[w.heap.size]? = some (.cells #[.int .i64 0, .bool false, .int .i64 0, .string ⟨#[]⟩, .slice none 0 0, .slice none 0 0] 27 (0, 0)) ∧ w.heap.size < (W.setCell ⟨R, 4, none⟩ (.int .i64 ((b : Int) + 1))).heap.size) := ⟨hz2, hs2⟩
     clear HLS HRS HY0 HY1 HIN hY1 hr hr2 hz2 hs2
     go_wp2_with (first | (go_at_call 28; refine (cD _).mono ?_; rintro e w' ⟨rfl, hw'⟩; subst hw') | (go_at_call 33; refine cT.mono ?_; rintro e w' ⟨hT, hkF⟩; obtain ⟨t, rfl⟩ : ∃ t, e = .returned (.int .i64 t) := (by cases X with | error x => exact hT.1 | ok z => obtain ⟨z1, z2⟩ := z; exact ⟨_, hT.1⟩); have hz := HZ2.out.1; have hs := HZ2.out.2; have hzF := (hkF.other w.heap.size (by omega) hs).trans hz; obtain ⟨x0, x1, x2, x3, x4, x5⟩ := six_box hzF; have y0 := frozen_box hzF 0; have y1 := frozen_box hzF 1; have y2 := frozen_box hzF 2; have y3 := frozen_box hzF 3; have y4 := frozen_box hzF 4; have y5 := frozen_box hzF 5; have HZF : Hid (w'.heap[w.heap.size]? = some (.cells #[.int .i64 0, .bool false, .int .i64 0, .string ⟨#[]⟩, .slice none 0 0, .slice none 0 0] 27 (0, 0))) := hzF; clear hzF))
     obtain ⟨W6, hW6⟩ : ∃ W6, ((((((w'.setCell ⟨w.heap.size, 0, none⟩ (.int .i64 3)).setCell ⟨w.heap.size, 1, none⟩ (.bool false)).setCell ⟨w.heap.size, 2, none⟩ (.int .i64 t)).setCell ⟨w.heap.size, 3, none⟩ (.string ⟨#[]⟩)).setCell ⟨w.heap.size, 4, none⟩ (.slice none 0 0)).setCell ⟨w.heap.size, 5, none⟩ (.slice none 0 0)) = W6 := ⟨_, rfl⟩
     rw [hW6]
     obtain ⟨q1, q2, q3, q4⟩ := set6 _ _ _ _ _ _ HZF.out hW6
     obtain ⟨v0, v1, v2, v3, v4, v5⟩ := six_box q1
     refine bodyPost_ret (v := .agg #[.int .i64 3, .bool false, .int .i64 t, .string ⟨#[]⟩, .slice none 0 0, .slice none 0 0]) (by simp [results, Tryz.results14, go_sem, v0, v1, v2, v3, v4, v5]) rfl ?_
     rw [HYe.out]
     have hK := hk2.trans hkF
     refine ⟨?_, q4 _ _ (Nat.le_of_lt hRlt) hK.below, fun k hk hs => (q2 k (by omega)).trans (hK.other k hk hs)⟩
     cases X with
     | error x =>
      obtain ⟨-, hne, j, b', hF⟩ := hT
      exact ⟨⟨_, _, _, _, _, _, _, _, _, _, rfl⟩, hne, j, b', hF.keep (q2 R (by omega))⟩
     | ok z =>
      obtain ⟨t', j⟩ := z
      obtain ⟨he, hF⟩ := hT
      cases he
      exact ⟨⟨_, rfl, by rw [hn']; exact Fs.plain _ _ _ _ _ _ _ (by omega) (SpecIn.nm_in HXe.out).2.2 (Nat.zero_le _)⟩, hF.keep (q2 R (by omega))⟩
  ·have hd48 : 48 ≤ c ∧ c ≤ 57 := by unfold dig at hdig; simpa using hdig
   have e0 : ((c : Int) == 110) = false := by simp; omega
   have e1 : ((c : Int) == 116) = false := by simp; omega
   have e2 : ((c : Int) == 102) = false := by simp; omega
   have e3 : ((c : Int) == 45) = false := by simp; omega
   have e4 : ((c : Int) == 34) = false := by simp; omega
   have e5 : ((c : Int) == 91) = false := by simp; omega
   have e6 : ((c : Int) == 123) = false := by simp; omega
   rw [hdig] at cD
   by_cases hn0 : n = 0
   ·have HYe : Hid (Y = .error (603, q)) := HY0.out hn0
    have dd : decide ((24 : Int) < (d : Int)) = true := decide_eq_true (by omega)
    have cF := fail_first hr 603 q (by omega) (by omega)
    unfold ptr at cF
    clear HLS HRS HY0 HY1 HIN
    go_wp2_with (first | (go_at_call 28; refine (cD _).mono ?_; rintro e w' ⟨rfl, rfl⟩) | (go_at_call 16; refine cF.mono ?_; rintro e w' ⟨rfl, hF, hkF⟩; have hzF := (hkF.other w.heap.size (by omega) hs).trans hz; obtain ⟨x0, x1, x2, x3, x4, x5⟩ := six_box hzF; have y0 := frozen_box hzF 0; have y1 := frozen_box hzF 1; have y2 := frozen_box hzF 2; have y3 := frozen_box hzF 3; have y4 := frozen_box hzF 4; have y5 := frozen_box hzF 5; have HZF : Hid (w'.heap[w.heap.size]? = some (.cells #[.int .i64 0, .bool false, .int .i64 0, .string ⟨#[]⟩, .slice none 0 0, .slice none 0 0] 27 (0, 0))) := hzF; clear hzF))
    obtain ⟨W6, hW6⟩ : ∃ W6, ((((((w'.setCell ⟨w.heap.size, 0, none⟩ (.int .i64 0)).setCell ⟨w.heap.size, 1, none⟩ (.bool false)).setCell ⟨w.heap.size, 2, none⟩ (.int .i64 0)).setCell ⟨w.heap.size, 3, none⟩ (.string ⟨#[]⟩)).setCell ⟨w.heap.size, 4, none⟩ (.slice none 0 0)).setCell ⟨w.heap.size, 5, none⟩ (.slice none 0 0)) = W6 := ⟨_, rfl⟩
    rw [hW6]
    obtain ⟨q1, q2, q3, q4⟩ := set6 _ _ _ _ _ _ HZF.out hW6
    obtain ⟨v0, v1, v2, v3, v4, v5⟩ := six_box q1
    refine bodyPost_ret (v := .agg #[.int .i64 0, .bool false, .int .i64 0, .string ⟨#[]⟩, .slice none 0 0, .slice none 0 0]) (by simp [results, Tryz.results14, go_sem, v0, v1, v2, v3, v4, v5]) rfl ?_
    rw [HYe.out]
    have hK := hk.trans hkF
    exact ⟨⟨⟨_, _, _, _, _, _, _, _, _, _, rfl⟩, by simp, _, _, hF.keep (q2 R (by omega))⟩, q4 _ _ (Nat.le_of_lt hRlt) hK.below, fun k hk hs => (q2 k (by omega)).trans (hK.other k hk hs)⟩
   ·obtain ⟨n', hn'⟩ : ∃ n', n = n' + 1 := ⟨n - 1, by omega⟩
    have hY1 := HY1.out n' hn'
    have dd : decide ((24 : Int) < (d : Int)) = false := decide_eq_false (by omega)
    by_cases hb : 16384 ≤ b
    ·have HYe : Hid (Y = .error (604, q)) := by rw [if_pos hb] at hY1; exact hY1
     have db : decide ((16384 : Int) ≤ (b : Int)) = true := decide_eq_true (by omega)
     have cF := fail_first hr 604 q (by omega) (by omega)
     unfold ptr at cF
     clear HLS HRS HY0 HY1 HIN hY1
     go_wp2_with (first | (go_at_call 28; refine (cD _).mono ?_; rintro e w' ⟨rfl, rfl⟩) | (go_at_call 16; refine cF.mono ?_; rintro e w' ⟨rfl, hF, hkF⟩; have hzF := (hkF.other w.heap.size (by omega) hs).trans hz; obtain ⟨x0, x1, x2, x3, x4, x5⟩ := six_box hzF; have y0 := frozen_box hzF 0; have y1 := frozen_box hzF 1; have y2 := frozen_box hzF 2; have y3 := frozen_box hzF 3; have y4 := frozen_box hzF 4; have y5 := frozen_box hzF 5; have HZF : Hid (w'.heap[w.heap.size]? = some (.cells #[.int .i64 0, .bool false, .int .i64 0, .string ⟨#[]⟩, .slice none 0 0, .slice none 0 0] 27 (0, 0))) := hzF; clear hzF))
     obtain ⟨W6, hW6⟩ : ∃ W6, ((((((w'.setCell ⟨w.heap.size, 0, none⟩ (.int .i64 0)).setCell ⟨w.heap.size, 1, none⟩ (.bool false)).setCell ⟨w.heap.size, 2, none⟩ (.int .i64 0)).setCell ⟨w.heap.size, 3, none⟩ (.string ⟨#[]⟩)).setCell ⟨w.heap.size, 4, none⟩ (.slice none 0 0)).setCell ⟨w.heap.size, 5, none⟩ (.slice none 0 0)) = W6 := ⟨_, rfl⟩
     rw [hW6]
     obtain ⟨q1, q2, q3, q4⟩ := set6 _ _ _ _ _ _ HZF.out hW6
     obtain ⟨v0, v1, v2, v3, v4, v5⟩ := six_box q1
     refine bodyPost_ret (v := .agg #[.int .i64 0, .bool false, .int .i64 0, .string ⟨#[]⟩, .slice none 0 0, .slice none 0 0]) (by simp [results, Tryz.results14, go_sem, v0, v1, v2, v3, v4, v5]) rfl ?_
     rw [HYe.out]
     have hK := hk.trans hkF
     exact ⟨⟨⟨_, _, _, _, _, _, _, _, _, _, rfl⟩, by simp, _, _, hF.keep (q2 R (by omega))⟩, q4 _ _ (Nat.le_of_lt hRlt) hK.below, fun k hk hs => (q2 k (by omega)).trans (hK.other k hk hs)⟩
    ·have db : decide ((16384 : Int) ≤ (b : Int)) = false := decide_eq_false (by omega)
     rw [if_neg hb] at hY1
     have hr2 := hr.begun (b + 1) (by omega)
     rw [show ((b + 1 : Nat) : Int) = (b : Int) + 1 from by omega] at hr2
     have hk2 := hk.set 4 (.int .i64 ((b : Int) + 1))
     have hz2 : (W.setCell ⟨R, 4, none⟩ (.int .i64 ((b : Int) + 1))).heap[w.heap.size]? = some (.cells #[.int .i64 0, .bool false, .int .i64 0, .string ⟨#[]⟩, .slice none 0 0, .slice none 0 0] 27 (0, 0)) := (((Kr.refl R W).set 4 _).other w.heap.size (by omega) hs).trans hz
     have hs2 : w.heap.size < (W.setCell ⟨R, 4, none⟩ (.int .i64 ((b : Int) + 1))).heap.size := by simpa using hs
     have HYe : Hid (Y = match nm s q with | .error e => .error e | .ok (t, j) => .ok (.mk 3 false t ⟨#[]⟩ [] [], j, b + 1)) := by
      show _ = _
      rw [hY1]
      unfold one
      rw [HC.out, if_neg (by omega), if_neg (by omega), if_neg (by omega), if_neg (by omega), if_neg (by omega), if_neg (by omega)]
      try rfl
     obtain ⟨X, hX⟩ : ∃ X, nm s q = X := ⟨_, rfl⟩
     rw [hX] at HYe
     have HXe : Hid (nm s q = X) := hX
     have cT := RNum.number_c (HIN.out (by omega)) hr2
     rw [hX] at cT
     unfold ptr at cT
     clear hX
     have HZ2 : Hid ((W.setCell ⟨R, 4, none⟩ (.int .i64 ((b : Int) + 1))).heap[w.heap.size]? = some (.cells #[.int .i64 0, .bool false, .int .i64 0, .string ⟨#[]⟩, .slice none 0 0, .slice none 0 0] 27 (0, 0)) ∧ w.heap.size < (W.setCell ⟨R, 4, none⟩ (.int .i64 ((b : Int) + 1))).heap.size) := ⟨hz2, hs2⟩
     clear HLS HRS HY0 HY1 HIN hY1 hr hr2 hz2 hs2
     go_wp2_with (first | (go_at_call 28; refine (cD _).mono ?_; rintro e w' ⟨rfl, hw'⟩; subst hw') | (go_at_call 33; refine cT.mono ?_; rintro e w' ⟨hT, hkF⟩; obtain ⟨t, rfl⟩ : ∃ t, e = .returned (.int .i64 t) := (by cases X with | error x => exact hT.1 | ok z => obtain ⟨z1, z2⟩ := z; exact ⟨_, hT.1⟩); have hz := HZ2.out.1; have hs := HZ2.out.2; have hzF := (hkF.other w.heap.size (by omega) hs).trans hz; obtain ⟨x0, x1, x2, x3, x4, x5⟩ := six_box hzF; have y0 := frozen_box hzF 0; have y1 := frozen_box hzF 1; have y2 := frozen_box hzF 2; have y3 := frozen_box hzF 3; have y4 := frozen_box hzF 4; have y5 := frozen_box hzF 5; have HZF : Hid (w'.heap[w.heap.size]? = some (.cells #[.int .i64 0, .bool false, .int .i64 0, .string ⟨#[]⟩, .slice none 0 0, .slice none 0 0] 27 (0, 0))) := hzF; clear hzF))
     obtain ⟨W6, hW6⟩ : ∃ W6, ((((((w'.setCell ⟨w.heap.size, 0, none⟩ (.int .i64 3)).setCell ⟨w.heap.size, 1, none⟩ (.bool false)).setCell ⟨w.heap.size, 2, none⟩ (.int .i64 t)).setCell ⟨w.heap.size, 3, none⟩ (.string ⟨#[]⟩)).setCell ⟨w.heap.size, 4, none⟩ (.slice none 0 0)).setCell ⟨w.heap.size, 5, none⟩ (.slice none 0 0)) = W6 := ⟨_, rfl⟩
     rw [hW6]
     obtain ⟨q1, q2, q3, q4⟩ := set6 _ _ _ _ _ _ HZF.out hW6
     obtain ⟨v0, v1, v2, v3, v4, v5⟩ := six_box q1
     refine bodyPost_ret (v := .agg #[.int .i64 3, .bool false, .int .i64 t, .string ⟨#[]⟩, .slice none 0 0, .slice none 0 0]) (by simp [results, Tryz.results14, go_sem, v0, v1, v2, v3, v4, v5]) rfl ?_
     rw [HYe.out]
     have hK := hk2.trans hkF
     refine ⟨?_, q4 _ _ (Nat.le_of_lt hRlt) hK.below, fun k hk hs => (q2 k (by omega)).trans (hK.other k hk hs)⟩
     cases X with
     | error x =>
      obtain ⟨-, hne, j, b', hF⟩ := hT
      exact ⟨⟨_, _, _, _, _, _, _, _, _, _, rfl⟩, hne, j, b', hF.keep (q2 R (by omega))⟩
     | ok z =>
      obtain ⟨t', j⟩ := z
      obtain ⟨he, hF⟩ := hT
      cases he
      exact ⟨⟨_, rfl, by rw [hn']; exact Fs.plain _ _ _ _ _ _ _ (by omega) (SpecIn.nm_in HXe.out).2.2 (Nat.zero_le _)⟩, hF.keep (q2 R (by omega))⟩
 ·have HYe : Hid (Y = .error (600, q)) := by
   show _ = _
   rw [← HY.out]
   cases n with
   | zero => rw [vl, HQ.out, HC.out, if_neg hbeg]
   | succ n => rw [vl, HQ.out, HC.out, if_neg hbeg]
  have hn1 : c ≠ 110 := by rintro rfl; exact hbeg (by decide)
  have hn2 : c ≠ 116 := by rintro rfl; exact hbeg (by decide)
  have hn3 : c ≠ 102 := by rintro rfl; exact hbeg (by decide)
  have hn4 : c ≠ 45 := by rintro rfl; exact hbeg (by decide)
  have hn5 : c ≠ 34 := by rintro rfl; exact hbeg (by decide)
  have hn6 : c ≠ 91 := by rintro rfl; exact hbeg (by decide)
  have hn7 : c ≠ 123 := by rintro rfl; exact hbeg (by decide)
  have hn8 : dig c = false := by
   cases hd : dig c with
   | false => rfl
   | true => exact absurd (by unfold beg; rw [hd]; simp) hbeg
  have e1 : ((c : Int) == 110) = false := by simp; omega
  have e2 : ((c : Int) == 116) = false := by simp; omega
  have e3 : ((c : Int) == 102) = false := by simp; omega
  have e4 : ((c : Int) == 45) = false := by simp; omega
  have e5 : ((c : Int) == 34) = false := by simp; omega
  have e6 : ((c : Int) == 91) = false := by simp; omega
  have e7 : ((c : Int) == 123) = false := by simp; omega
  rw [hn8] at cD
  have cF := fail_first hr 600 q (by omega) (by omega)
  unfold ptr at cF
  clear hn1 hn2 hn3 hn4 hn5 hn6 hn7 hn8 hbeg HIN HLS HRS
  go_wp2_with (first | (go_at_call 28; refine (cD _).mono ?_; rintro e w' ⟨rfl, rfl⟩) | (go_at_call 16; refine cF.mono ?_; rintro e w' ⟨rfl, hF, hkF⟩; have hzF := (hkF.other w.heap.size (by omega) hs).trans hz; obtain ⟨x0, x1, x2, x3, x4, x5⟩ := six_box hzF; have y0 := frozen_box hzF 0; have y1 := frozen_box hzF 1; have y2 := frozen_box hzF 2; have y3 := frozen_box hzF 3; have y4 := frozen_box hzF 4; have y5 := frozen_box hzF 5; have HZF : Hid (w'.heap[w.heap.size]? = some (.cells #[.int .i64 0, .bool false, .int .i64 0, .string ⟨#[]⟩, .slice none 0 0, .slice none 0 0] 27 (0, 0))) := hzF; clear hzF))
  obtain ⟨W6, hW6⟩ : ∃ W6, ((((((w'.setCell ⟨w.heap.size, 0, none⟩ (.int .i64 0)).setCell ⟨w.heap.size, 1, none⟩ (.bool false)).setCell ⟨w.heap.size, 2, none⟩ (.int .i64 0)).setCell ⟨w.heap.size, 3, none⟩ (.string ⟨#[]⟩)).setCell ⟨w.heap.size, 4, none⟩ (.slice none 0 0)).setCell ⟨w.heap.size, 5, none⟩ (.slice none 0 0)) = W6 := ⟨_, rfl⟩
  rw [hW6]
  obtain ⟨q1, q2, q3, q4⟩ := set6 _ _ _ _ _ _ HZF.out hW6
  obtain ⟨v0, v1, v2, v3, v4, v5⟩ := six_box q1
  refine bodyPost_ret (v := .agg #[.int .i64 0, .bool false, .int .i64 0, .string ⟨#[]⟩, .slice none 0 0, .slice none 0 0]) (by simp [results, Tryz.results14, go_sem, v0, v1, v2, v3, v4, v5]) rfl ?_
  rw [HYe.out]
  have hK := hk.trans hkF
  exact ⟨⟨⟨_, _, _, _, _, _, _, _, _, _, rfl⟩, by simp, _, _, hF.keep (q2 R (by omega))⟩, q4 _ _ (Nat.le_of_lt hRlt) hK.below, fun k hk hs => (q2 k (by omega)).trans (hK.other k hk hs)⟩
end Go.Proofs.YthkpbhgbmagaeaaGreatDoor.RVal
