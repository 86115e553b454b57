import Derived.Test.YtopjadjaknmfeabDoorPk17
import Derived.Test.YtopjadjaknmfeabDoorPk20
import Derived.Test.YtopjadjaknmfeabDoorPk21
import Derived.Test.YtopjadjaknmfeabDoorPk22
import Derived.Test.YtopjadjaknmfeabDoorPk31
namespace Go.Proofs.YtopjadjaknmfeabDoor.WBack
open Go.RowKit Go.Proofs.YtopjadjaknmfeabDoor.Base Go.Proofs.YtopjadjaknmfeabDoor.UBase Go.Proofs.YtopjadjaknmfeabDoor.Spec Go.Proofs.YtopjadjaknmfeabDoor.Byts Go.Proofs.YtopjadjaknmfeabDoor.Rdr Go.Proofs.YtopjadjaknmfeabDoor.WPk Go.Proofs.YtopjadjaknmfeabDoor.WRow Go.Proofs.YtopjadjaknmfeabDoor.WPrt Go.Proofs.YtopjadjaknmfeabDoor.Digits Go.Proofs.YtopjadjaknmfeabDoor.Shallow Go.Proofs.YtopjadjaknmfeabDoor.Aw Go.Proofs.YtopjadjaknmfeabDoor.SameV Go.Proofs.YtopjadjaknmfeabDoor.Same Go.Proofs.YtopjadjaknmfeabDoor.SameS Go.Proofs.YtopjadjaknmfeabDoor.Measure Go.Proofs.YtopjadjaknmfeabDoor.Walk
set_option linter.unusedVariables false
/-- A row of bytes of one's own, as what Parse reads. -/
theorem byt_own {w : World} {B : Nat} {v : Value} {L : List UInt8} (h : Byts.Own w B v L) : Byt w w.heap.size v ⟨L.toArray⟩ := by
  have hs : (⟨L.toArray⟩ : ByteArray).size = L.length := by show L.toArray.size = _; simp
  have h0 := h
  rcases h.2 with ⟨rfl, e⟩ | ⟨g, cap, cur, rfl, h1, h2, h3, h4, -⟩
  · exact ⟨none, 0, by rw [hs, e], by omega, by unfold maxLen; omega, fun _ => rfl, .inl (by omega)⟩
  · refine ⟨_, cap, by rw [hs], by omega, h4, (fun h => by cases h), .inr ⟨g, 0, rfl, (Array.getElem?_eq_some_iff.1 h2).1, fun j hj => ?_⟩⟩
    have hj' : j < L.length := by omega
    have := World.ownsRow.cells (g := g) h0 rfl j (.int .u8 (L[j].toNat : Int)) (by simp [Lib.byteCells, hj'])
    rw [add_none] at this
    rw [this, at_get _ _ hj]
    rfl
/-- What Parse makes of what Print has made. -/
def ParseBack : Prop := ∀ {w w' : World} {m B : Nat} {u v : Value} {c : C}, In false All w m u c → pe c = 0 → (pv c).length ≤ 65536 → Byts.Own w' B v (pv c) → T6 w' →
    Calls Tryd.prog 11 #[v] w' fun e w'' => Below w'.heap.size w' w'' ∧ ∃ x, e = .returned (.tuple #[x, .int .i64 0, .int .i64 0]) ∧ In false All w'' 24 x c
def AwakeIs : Prop := ∀ w : World, T6 w → Calls Tryd.prog 6 #[] w fun e w' => e = .returned (.bool true) ∧ Below w.heap.size w w'
theorem own_shape {w : World} {B : Nat} {v : Value} {L : List UInt8} (h : Byts.Own w B v L) : ∃ a c, v = .slice a L.length c := by
  obtain ⟨a, cap, e, -⟩ := h.len
  exact ⟨a, cap, e⟩
set_option maxRecDepth 20000 in
set_option maxHeartbeats 3200000 in
theorem walk_of (hAW : AwakeIs) (hPB : ParseBack) {m : Nat} {v : Value} {c : C} {w : World} (h : In false All w m v c) (ht : T6 w) : Calls Tryd.prog 3 #[v] w fun e w' => e = .returned (.bool true) ∧ Below w.heap.size w w' := by
  have hlow := Fresh.In.low h
  obtain ⟨v0, v1, v2, v3, v4, v5, rfl, -⟩ := h.six
  obtain ⟨a1, n1, c1, a2, n2, c2, rfl, rfl, rfl, rfl, rfl, rfl⟩ := h.kinds
  obtain ⟨k, hk⟩ : ∃ k, c.k = k := ⟨_, rfl⟩
  obtain ⟨b, hb⟩ : ∃ b, c.b = b := ⟨_, rfl⟩
  obtain ⟨i, hi⟩ : ∃ i, c.i = i := ⟨_, rfl⟩
  obtain ⟨s, hs⟩ : ∃ s, c.s = s := ⟨_, rfl⟩
  rw [hk, hb, hi, hs] at h hlow
  rw [hk, hb, hi, hs]
  obtain ⟨W0, hW0⟩ : ∃ W0, w.alloc (.cells #[.int .i64 k, .bool b, .int .i64 i, .string s, .slice a1 n1 c1, .slice a2 n2 c2] 25) = W0 := ⟨_, rfl⟩
  have b0 : Below w.heap.size w W0 := by rw [← hW0]; exact (Below.refl _ w).alloc (Nat.le_refl _) _
  have hs0 : w.heap.size < W0.heap.size := by rw [← hW0]; simp
  have hx0 : W0.heap[w.heap.size]? = some (.cells #[.int .i64 k, .bool b, .int .i64 i, .string s, .slice a1 n1 c1, .slice a2 n2 c2] 25 (0, 0)) := by rw [← hW0, heap_alloc_new]
  have HV : Hid (∀ w', Below W0.heap.size W0 w' → In false All w' m (.agg #[.int .i64 k, .bool b, .int .i64 i, .string s, .slice a1 n1 c1, .slice a2 n2 c2]) c) := fun w' hb' => (h.below b0).below hb'
  have HVL : Hid (∀ w', Below W0.heap.size W0 w' → In false (Lo w'.heap.size) w' m (.agg #[.int .i64 k, .bool b, .int .i64 i, .string s, .slice a1 n1 c1, .slice a2 n2 c2]) c) := fun w' hb' => ((hlow.below b0).below hb').weak (fun g hg => by have := hb'.size; show g < _; have hg' : g < w.heap.size := hg; omega) false id m (Nat.le_refl _)
  have HB : Hid (∀ w', Below W0.heap.size W0 w' → w'.heap[w.heap.size]? = some (.cells #[.int .i64 k, .bool b, .int .i64 i, .string s, .slice a1 n1 c1, .slice a2 n2 c2] 25 (0, 0))) := fun w' hb' => (hb'.block _ hs0).trans hx0
  have HT : Hid (∀ w', Below W0.heap.size W0 w' → T6 w') := fun w' hb' => (ht.later b0).later hb'
  have caw := hAW W0 (ht.later b0)
  clear h ht hx0 hlow
  go_enter Tryd.func3, Tryd.ntmps3
  go_wp2_with fail
  refine caw.mono ?_
  rintro e w1 ⟨rfl, b1⟩
  clear caw hW0
  obtain ⟨k0, k1, k2, k3, k4, k5⟩ := six_box (HB.out w1 b1)
  have c9 := shallow_c m _ c w1 (HV.out w1 b1)
  go_wp2_with fail
  refine c9.mono ?_
  rintro e w2 ⟨rfl, b2⟩
  clear c9 k0 k1 k2 k3 k4 k5
  have B2 := nx b1 b2
  cases hd : decide (dep c ≤ 4096) with
  | false =>
    go_wp2_with fail
    go_ret
    exact ⟨rfl, nx b0 B2⟩
  | true =>
    have hdep : dep c ≤ 4096 := of_decide_eq_true hd
    obtain ⟨k0, k1, k2, k3, k4, k5⟩ := six_box (HB.out w2 B2)
    have c8 := check_c (HV.out w2 B2) hdep
    rw [show (ms 0 0 (pl 1 c)).2.2 = pe c from rfl] at c8
    generalize hE : pe c = E at c8
    go_wp2_with fail
    refine c8.mono ?_
    rintro e w3 ⟨rfl, b3⟩
    clear c8 k0 k1 k2 k3 k4 k5
    have B3 := nx B2 b3
    obtain ⟨k0, k1, k2, k3, k4, k5⟩ := six_box (HB.out w3 B3)
    have c15 := print_c (HVL.out w3 B3) hdep (HT.out w3 B3).tab
    rw [hE] at c15
    go_wp2_with fail
    refine c15.mono ?_
    rintro e w4 ⟨va, rfl, b4, ha⟩
    clear c15 k0 k1 k2 k3 k4 k5
    have B4 := nx B3 b4
    rcases ha with ⟨hz, hp⟩ | ⟨hz, rfl⟩
    · subst hz
      have ho := hp.own
      obtain ⟨aa, ac, rfl⟩ := own_shape ho
      have hlen : (pv c).length ≤ 900000000 := (WChk.chk (HV.out W0 (Below.refl _ _)) hE).2
      by_cases hL : (pv c).length ≤ 65536
      · have hcp := hPB (HV.out W0 (Below.refl _ _)) hE hL ho (HT.out w4 B4)
        generalize hN : (pv c).length = L at *
        have hd65 : decide ((65536 : Int) < (L : Int)) = false := decide_eq_false (by omega)
        have HK : Hid (c.k = k ∧ c.b = b ∧ c.i = i ∧ c.s = s) := ⟨hk, hb, hi, hs⟩
        have HD : Hid (dep c ≤ 4096) := hdep
        clear hp ho hN hE hk hb hi hs hd hdep
        go_wp2_with (first
          | (go_at_call 10; refine (num_c _ _).mono ?_; rintro e w' ⟨rfl, rfl⟩)
          | fail)
        refine hcp.mono ?_
        rintro e w5 ⟨b5, x, rfl, hx⟩
        have hx6 := hx.six
        obtain ⟨y0, y1, y2, y3, y4, y5, rfl, -⟩ := hx6
        obtain ⟨p1, q1, r1, p2, q2, r2, rfl, rfl, rfl, rfl, rfl, rfl⟩ := hx.kinds
        obtain ⟨hk, hb, hi, hs⟩ := HK.out
        rw [hk, hb, hi, hs] at hx
        rw [hk, hb, hi, hs]
        obtain ⟨W6, hW6⟩ : ∃ W6, w5.alloc (.cells #[.int .i64 k, .bool b, .int .i64 i, .string s, .slice p1 q1 r1, .slice p2 q2 r2] 25) = W6 := ⟨_, rfl⟩
        have b6 : Below w5.heap.size w5 W6 := by rw [← hW6]; exact (Below.refl _ w5).alloc (Nat.le_refl _) _
        have hx6 : W6.heap[w5.heap.size]? = some (.cells #[.int .i64 k, .bool b, .int .i64 i, .string s, .slice p1 q1 r1, .slice p2 q2 r2] 25 (0, 0)) := by rw [← hW6, heap_alloc_new]
        have hs6 : w5.heap.size < W6.heap.size := by rw [← hW6]; simp
        have B6 : Below W0.heap.size W0 W6 := nx (nx B4 b5) b6
        obtain ⟨j0, j1, j2, j3, j4, j5⟩ := six_box hx6
        obtain ⟨k0, k1, k2, k3, k4, k5⟩ := six_box (HB.out W6 B6)
        have cs := sameV_c (max m 24) _ _ c W6 ((hx.below b6).weak (fun _ h => h) false id _ (Nat.le_max_right _ _)) ((HV.out W6 B6).weak (fun _ h => h) false id _ (Nat.le_max_left _ _))
        have HS : Hid (∀ w7, Below W6.heap.size W6 w7 → (Calls Tryd.prog 13 #[.agg #[.int .i64 k, .bool b, .int .i64 i, .string s, .slice p1 q1 r1, .slice p2 q2 r2], .agg #[.int .i64 k, .bool b, .int .i64 i, .string s, .slice a1 n1 c1, .slice a2 n2 c2]] w7 fun e w' => e = .returned (.bool true) ∧ Below w7.heap.size w7 w') ∧ w7.heap[w5.heap.size]? = some (.cells #[.int .i64 k, .bool b, .int .i64 i, .string s, .slice p1 q1 r1, .slice p2 q2 r2] 25 (0, 0)) ∧ w7.heap[w.heap.size]? = some (.cells #[.int .i64 k, .bool b, .int .i64 i, .string s, .slice a1 n1 c1, .slice a2 n2 c2] 25 (0, 0))) := by
          intro w7 b7
          refine ⟨?_, (b7.block _ hs6).trans hx6, HB.out w7 (nx B6 b7)⟩
          have := same_c ((hx.below b6).below b7) (HV.out w7 (nx B6 b7))
          rw [same_self _ c (Nat.le_refl _)] at this
          exact this
        clear hx hx6 HV HVL HB HT hk hb hi hs HK hcp
        go_wp2_with (first
          | (go_at_call 10; refine (num_c _ _).mono ?_; rintro e w' ⟨rfl, rfl⟩)
          | (refine cs.mono ?_; rintro e w7 ⟨rfl, b7⟩; obtain ⟨cq, hy1, hy2⟩ := HS.out w7 b7; obtain ⟨l0, l1, l2, l3, l4, l5⟩ := six_box hy1; obtain ⟨z0, z1, z2, z3, z4, z5⟩ := six_box hy2; clear hy1 hy2)
          | (refine cq.mono ?_; rintro e w8 ⟨rfl, b8⟩))
        go_ret
        exact ⟨rfl, nx b0 (nx B6 (nx b7 b8))⟩
      · generalize hN : (pv c).length = L at *
        have hd65 : decide ((65536 : Int) < (L : Int)) = true := decide_eq_true (by omega)
        clear hp ho hN hE hk hb hi hs hd hdep HV HVL HB HT
        go_wp2_with (first
          | (go_at_call 10; refine (num_c _ _).mono ?_; rintro e w' ⟨rfl, rfl⟩))
        go_ret
        exact ⟨rfl, nx b0 B4⟩
    · have hz' : (E == 0) = false := by simp [hz]
      clear hE hk hb hi hs hd hdep HV HVL HB HT
      go_wp2_with (first
        | (go_at_call 10; refine (num_c _ _).mono ?_; rintro e w' ⟨rfl, rfl⟩))
      go_ret
      exact ⟨rfl, nx b0 B4⟩
end Go.Proofs.YtopjadjaknmfeabDoor.WBack
namespace Go.Proofs.YtopjadjaknmfeabDoor.Vals
open Go.RowKit Go.Proofs.YtopjadjaknmfeabDoor.Base Go.Proofs.YtopjadjaknmfeabDoor.UBase Go.Proofs.YtopjadjaknmfeabDoor.Spec Go.Proofs.YtopjadjaknmfeabDoor.Rdr Go.Proofs.YtopjadjaknmfeabDoor.Skip Go.Proofs.YtopjadjaknmfeabDoor.Own Go.Proofs.YtopjadjaknmfeabDoor.LState Go.Proofs.YtopjadjaknmfeabDoor.Val
set_option linter.unusedVariables false
theorem one_cases (V : Nat → Nat → Except F (C × Nat × Nat)) (s : ByteArray) (p b : Nat) (h : beg (at' s p) = true) :
    (at' s p = 110 ∧ one V s p b = wK 1 false b (wd s [110, 117, 108, 108] p)) ∨ (at' s p = 116 ∧ one V s p b = wK 2 true b (wd s [116, 114, 117, 101] p)) ∨ (at' s p = 102 ∧ one V s p b = wK 2 false b (wd s [102, 97, 108, 115, 101] p)) ∨
    (at' s p = 34 ∧ one V s p b = tK b (txt s p)) ∨ (at' s p = 91 ∧ one V s p b = lis V s p b) ∨ (at' s p = 123 ∧ one V s p b = rec V s p b) ∨ ((at' s p = 45 ∨ dig (at' s p) = true) ∧ one V s p b = nK b (nm s p)) := by
  by_cases h1 : at' s p = 110
  · refine .inl ⟨h1, ?_⟩
    rw [one, if_pos h1]
    generalize wd s _ p = X
    cases X <;> rfl
  by_cases h2 : at' s p = 116
  · refine .inr (.inl ⟨h2, ?_⟩)
    rw [one, if_neg h1, if_pos h2]
    generalize wd s _ p = X
    cases X <;> rfl
  by_cases h3 : at' s p = 102
  · refine .inr (.inr (.inl ⟨h3, ?_⟩))
    rw [one, if_neg h1, if_neg h2, if_pos h3]
    generalize wd s _ p = X
    cases X <;> rfl
  by_cases h4 : at' s p = 34
  · refine .inr (.inr (.inr (.inl ⟨h4, ?_⟩)))
    rw [one, if_neg h1, if_neg h2, if_neg h3, if_pos h4]
    generalize txt s p = X
    cases X <;> rfl
  by_cases h5 : at' s p = 91
  · refine .inr (.inr (.inr (.inr (.inl ⟨h5, ?_⟩))))
    rw [one, if_neg h1, if_neg h2, if_neg h3, if_neg h4, if_pos h5]
  by_cases h6 : at' s p = 123
  · refine .inr (.inr (.inr (.inr (.inr (.inl ⟨h6, ?_⟩)))))
    rw [one, if_neg h1, if_neg h2, if_neg h3, if_neg h4, if_neg h5, if_pos h6]
  · refine .inr (.inr (.inr (.inr (.inr (.inr ⟨?_, ?_⟩)))))
    · unfold beg at h
      simp only [h1, h2, h3, h4, h5, h6, decide_false, Bool.false_or, Bool.or_false, Bool.or_eq_true, decide_eq_true_eq] at h
      exact h
    · rw [one, if_neg h1, if_neg h2, if_neg h3, if_neg h4, if_neg h5, if_neg h6]
      generalize nm s p = X
      cases X <;> rfl
theorem vis : ∀ (n d : Nat), n + d = 25 → VIs n d n
  | 0, d, e => by
    intro w R v s i b h
    have hx : ∃ x, vl s 0 i b = .error x ∧ bgn d (blk s i) b (at' s (blk s i)) = .error x := by
      rw [vl]
      unfold bgn
      split
      · rw [if_pos (by omega)]; exact ⟨_, rfl, rfl⟩
      · exact ⟨_, rfl, rfl⟩
    obtain ⟨x, h1, h2⟩ := hx
    rw [h1]
    exact value_err (by omega) h h2
  | n + 1, d, e => by
    have ih := vis n (d + 1) (by omega)
    intro w R v s i b h
    have hlb := h.lb
    by_cases hg : beg (at' s (blk s i)) = true
    · by_cases hb : 16384 ≤ b
      · have h1 : vl s (n + 1) i b = .error (604, blk s i) := by rw [vl, if_pos hg, if_pos hb]
        have h2 : bgn d (blk s i) b (at' s (blk s i)) = .error (604, blk s i) := by unfold bgn; rw [if_pos hg, if_neg (by omega), if_pos (by omega)]
        rw [h1]
        exact value_err (by omega) h h2
      · have h1 : vl s (n + 1) i b = one (vl s n) s (blk s i) (b + 1) := by rw [vl, if_pos hg, if_neg hb]
        have h2 : bgn d (blk s i) b (at' s (blk s i)) = .ok () := by unfold bgn; rw [if_pos hg, if_neg (by omega), if_neg (by omega)]
        rw [h1]
        rcases one_cases (vl s n) s (blk s i) (b + 1) hg with ⟨hc, e⟩ | ⟨hc, e⟩ | ⟨hc, e⟩ | ⟨hc, e⟩ | ⟨hc, e⟩ | ⟨hc, e⟩ | ⟨hc, e⟩
        · rw [e]; exact vnull_c (by omega) h h2 hc
        · rw [e]; exact vtrue_c (by omega) h h2 hc
        · rw [e]; exact vfalse_c (by omega) h h2 hc
        · rw [e]; exact vtext_c (by omega) h h2 hc
        · rw [e]; exact vlist_c (by omega) ih h h2 hc
        · rw [e]; exact vrecord_c (by omega) ih h h2 hc
        · rw [e]; exact vnum_c (by omega) h h2 hc
    · have h1 : vl s (n + 1) i b = .error (600, blk s i) := by rw [vl, if_neg hg]
      have h2 : bgn d (blk s i) b (at' s (blk s i)) = .error (600, blk s i) := by unfold bgn; rw [if_neg hg]
      rw [h1]
      exact value_err (by omega) h h2
end Go.Proofs.YtopjadjaknmfeabDoor.Vals
namespace Go.Proofs.YtopjadjaknmfeabDoor.AwV
open Go.RowKit Go.Proofs.YtopjadjaknmfeabDoor.Base Go.Proofs.YtopjadjaknmfeabDoor.Spec Go.Proofs.YtopjadjaknmfeabDoor.Rdr Go.Proofs.YtopjadjaknmfeabDoor.Prs Go.Proofs.YtopjadjaknmfeabDoor.AwP Go.Proofs.YtopjadjaknmfeabDoor.Aw
set_option linter.unusedVariables false
theorem p1c : P1 := by
  intro w g hb ht
  have h := parse_c (s := s1) (cap := 17) (a := some ⟨g, 0, none⟩) (Vals.vis 24 1 rfl) hb ht.utf ⟨ht.lt1, ht.lt2⟩
  rw [AwP.p1] at h
  exact h
theorem p2c : P2 := by
  intro w g hb ht
  have h := parse_c (s := s2) (cap := 4) (a := some ⟨g, 0, none⟩) (Vals.vis 24 1 rfl) hb ht.utf ⟨ht.lt1, ht.lt2⟩
  rw [AwP.p2] at h
  exact h
theorem awake_c (w : World) (ht : T6 w) : Calls Tryd.prog 6 #[] w fun e w' => e = .returned (.bool true) ∧ Below w.heap.size w w' := awake_of p1c p2c w ht
end Go.Proofs.YtopjadjaknmfeabDoor.AwV
namespace Go.Proofs.YtopjadjaknmfeabDoor.WBak
open Go.RowKit Go.Proofs.YtopjadjaknmfeabDoor.Base Go.Proofs.YtopjadjaknmfeabDoor.UBase Go.Proofs.YtopjadjaknmfeabDoor.Spec Go.Proofs.YtopjadjaknmfeabDoor.Byts Go.Proofs.YtopjadjaknmfeabDoor.Rdr Go.Proofs.YtopjadjaknmfeabDoor.WPrt Go.Proofs.YtopjadjaknmfeabDoor.Aw Go.Proofs.YtopjadjaknmfeabDoor.WBack
set_option linter.unusedVariables false
theorem parse_back : ParseBack := by
  intro w w' m B u v c hin hz hl ho ht
  obtain ⟨hg, hn⟩ := RBv.good_of hin hz
  have hb := byt_own ho
  obtain ⟨a, cap, rfl, -⟩ := hb
  have h := Prs.parse_c (s := ⟨(pv c).toArray⟩) (cap := cap) (a := a) (Vals.vis 24 1 rfl) (byt_own ho) ht.utf ⟨ht.lt1, ht.lt2⟩
  rw [RBv.prs_back hg hn hl] at h
  refine h.mono ?_
  rintro e w'' ⟨b, x, rfl, hfs⟩
  exact ⟨b, x, rfl, hfs.in.weak (fun _ _ => trivial) false id 24 (Nat.le_refl _)⟩
theorem walk {m : Nat} {v : Value} {c : C} {w : World} (h : In false All w m v c) (ht : T6 w) : Calls Tryd.prog 3 #[v] w fun e w' => e = .returned (.bool true) ∧ Below w.heap.size w w' := walk_of AwV.awake_c parse_back h ht
end Go.Proofs.YtopjadjaknmfeabDoor.WBak
