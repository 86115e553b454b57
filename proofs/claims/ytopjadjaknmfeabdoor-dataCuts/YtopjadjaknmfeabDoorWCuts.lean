/- For every value and every number the law DataCuts returns true: a list's text, cut anywhere, is refused at its end; conditions: the tables of the library hold what they are laid with. -/
import Derived.Test.YtopjadjaknmfeabDoorPf28
import Derived.Test.YtopjadjaknmfeabDoorCut2
import Derived.Test.YtopjadjaknmfeabDoorWPrtB
namespace Go.Proofs.YtopjadjaknmfeabDoor.WCuts
open Go.RowKit Go.Proofs.YtopjadjaknmfeabDoor.Base Go.Proofs.YtopjadjaknmfeabDoor.UBase Go.Proofs.YtopjadjaknmfeabDoor.Spec Go.Proofs.YtopjadjaknmfeabDoor.Byts Go.Proofs.YtopjadjaknmfeabDoor.Rdr Go.Proofs.YtopjadjaknmfeabDoor.WPk Go.Proofs.YtopjadjaknmfeabDoor.WRow Go.Proofs.YtopjadjaknmfeabDoor.WPrt Go.Proofs.YtopjadjaknmfeabDoor.Digits Go.Proofs.YtopjadjaknmfeabDoor.Shallow Go.Proofs.YtopjadjaknmfeabDoor.Aw Go.Proofs.YtopjadjaknmfeabDoor.Prs Go.Proofs.YtopjadjaknmfeabDoor.FBy Go.Proofs.YtopjadjaknmfeabDoor.FSm Go.Proofs.YtopjadjaknmfeabDoor.Cut1 Go.Proofs.YtopjadjaknmfeabDoor.Cut2
set_option linter.unusedVariables false

/-- The list of one value. -/
def lc (c : C) : C := .mk 5 false 0 ⟨#[]⟩ [] [c]
theorem lc_dep {c : C} (h : dep c ≤ 4096) : dep (lc c) ≤ 4097 := by
  unfold lc
  rw [dep, depL_cons]
  have : depL [] = 0 := by simp [depL]
  rw [this]
  have := Nat.max_le.2 ⟨h, Nat.zero_le 4096⟩
  omega
theorem lc_in {w : World} {p m : Nat} {v0 v1 v2 v3 v4 v5 : Value} {c : C} (hx : w.heap[p]? = some (.cells #[v0, v1, v2, v3, v4, v5] 25 (0, 0))) (h : In false (Lo w.heap.size) w m (.agg #[v0, v1, v2, v3, v4, v5]) c) :
    In false (Lo w.heap.size) w (m + 1) (.agg #[.int .i64 5, .bool false, .int .i64 0, .string ⟨#[]⟩, .slice none 0 0, .slice (some ⟨p, 0, none⟩) 1 1]) (lc c) := by
  unfold lc
  rw [in_iff]
  refine ⟨_, _, rfl, by omega, by omega, by decide, ⟨none, 0, rfl, by simp, by simp, by simp, by simp, fun _ => rfl, .inl ⟨rfl, rfl⟩⟩, ⟨some ⟨p, 0, none⟩, 1, rfl, by simp, by decide, by simp, (fun h => by cases h), .inr ⟨p, 0, rfl, (Array.getElem?_eq_some_iff.1 hx).1, fun j hj => ?_, fun h => by cases h⟩⟩⟩
  have hj0 : j = 0 := by simpa using hj
  subst hj0
  obtain ⟨q0, q1, q2, q3, q4, q5⟩ := six_box hx
  exact ⟨_, ⟨_, _, _, _, _, _, rfl, q0, q1, q2, q3, q4, q5⟩, h⟩
/-- The front of a row of one's own, read. -/
theorem parse_front {w w' : World} {m B k : Nat} {u : Value} {c : C} {a : Option Addr} {cap : Nat} (hin : In false All w m u (lc c)) (hz : pe (lc c) = 0) (hl : (pv (lc c)).length ≤ 65536) (hk : k < (pv (lc c)).length) (ho : Byts.Own w' B (.slice a (pv (lc c)).length cap) (pv (lc c))) (ht : T6 w') :
    (Calls Tryd.prog 11 #[.slice a k cap] w' fun e w'' => Below w'.heap.size w' w'' ∧ ∃ p : Nat, e = .returned (.tuple #[zeroV, .int .i64 p, .int .i64 600]) ∧ (p = k ∨ (p < k ∧ k - p < 4 ∧ ∃ z : Nat, 194 ≤ z ∧ ∃ g, a = some ⟨g, 0, none⟩ ∧ w'.cell? ⟨g, p, none⟩ = some (.int .u8 z)))) ∧ ∃ g, a = some ⟨g, 0, none⟩ ∧ g < w'.heap.size := by
  obtain ⟨hg, hn⟩ := RBv.good_of hin hz
  have hs : (⟨((pv (lc c)).take k).toArray⟩ : ByteArray).size = k := by show ((pv (lc c)).take k).toArray.size = _; simp; omega
  have hcut := prs_cut (l := [c]) hg hn hl hk
  have h0 := ho
  rcases ho.2 with ⟨e, h⟩ | ⟨g, cap', cur, e, h1, h2, h3, h4, -⟩
  · omega
  · obtain ⟨rfl, -, rfl⟩ := Value.slice.inj e
    have hc : ∀ j, j < (pv (lc c)).length → w'.cell? ⟨g, 0 + j, none⟩ = some (.int .u8 (((pv (lc c)).getD j 0).toNat : Nat)) := by
      intro j hj
      have := World.ownsRow.cells (g := g) h0 rfl j (.int .u8 ((pv (lc c))[j].toNat : Int)) (by simp [Lib.byteCells, hj])
      rw [add_none] at this
      rw [this]
      simp [List.getD, hj]
    have hgl := (Array.getElem?_eq_some_iff.1 h2).1
    have hbyt : Byt w' w'.heap.size (.slice (some ⟨g, 0, none⟩) k cap) ⟨((pv (lc c)).take k).toArray⟩ := by
      refine ⟨_, cap, by rw [hs], by omega, h4, (fun h => by cases h), .inr ⟨g, 0, rfl, hgl, fun j hj => ?_⟩⟩
      rw [hs] at hj
      rw [hc j (by omega), at_get _ _ (by omega)]
      have : (⟨((pv (lc c)).take k).toArray⟩ : ByteArray)[j]'(by omega) = (pv (lc c)).getD j 0 := by
        show ((pv (lc c)).take k).toArray[j]'(by simp; omega) = _
        simp [List.getD, show j < (pv (lc c)).length by omega]
      rw [this]
    refine ⟨?_, g, rfl, hgl⟩
    have hp := parse_any hbyt ht
    obtain ⟨p, ep, hpl⟩ := hcut
    have ep' : prs ⟨((pv (lc c)).take k).toArray⟩ = .error (600, p) := ep
    rw [ep'] at hp
    refine hp.mono ?_
    rintro e w'' ⟨b, rfl⟩
    refine ⟨b, p, rfl, ?_⟩
    have hpl' : Pl ⟨((pv (lc c)).take k).toArray⟩ p := hpl
    rcases hpl' with e | ⟨l1, l2, l3⟩
    · left; omega
    · right
      rw [hs] at l1 l2
      refine ⟨l1, l2, _, l3, g, rfl, ?_⟩
      have := hc p (by omega)
      rw [Nat.zero_add] at this
      rw [this, at_get _ _ (by omega)]
      have e3 : (⟨((pv (lc c)).take k).toArray⟩ : ByteArray)[p]'(by omega) = (pv (lc c)).getD p 0 := by
        show ((pv (lc c)).take k).toArray[p]'(by simp; omega) = _
        simp [List.getD, show p < (pv (lc c)).length by omega]
      rw [e3]
theorem rem_eq (x : Int) {L : Nat} (hL : 0 < L) (hs : L ≤ 65536) : ∃ q : Nat, wrap64 ((IntKind.u64.wrap x).tmod (L : Int)) = (q : Int) ∧ q < L := by
  have e : IntKind.u64.wrap x = x % 18446744073709551616 := by simp [IntKind.wrap, IntKind.bits, IntKind.signed]
  rw [e]
  have h0 : 0 ≤ x % 18446744073709551616 := Int.emod_nonneg _ (by omega)
  rw [Int.tmod_eq_emod_of_nonneg h0]
  have h1 := Int.emod_nonneg (x % 18446744073709551616) (show (L : Int) ≠ 0 by omega)
  have h2 := Int.emod_lt_of_pos (x % 18446744073709551616) (show (0 : Int) < (L : Int) by omega)
  generalize x % 18446744073709551616 % (L : Int) = r at *
  refine ⟨r.toNat, ?_, by omega⟩
  unfold wrap64
  omega
set_option maxRecDepth 20000 in
set_option maxHeartbeats 1600000 in
theorem walk {m : Nat} {v : Value} {c : C} {w : World} (h : In false All w m v c) (x : Int) (x0 : -9223372036854775808 ≤ x) (x1 : x ≤ 9223372036854775807) (ht : T6 w) : Calls Tryd.prog 5 #[v, .int .i64 x] w fun e w' => e = .returned (.bool true) ∧ Below w.heap.size w w' := by
  have hlow := Fresh.In.low h
  obtain ⟨v0, v1, v2, v3, v4, v5, rfl, -⟩ := h.six
  obtain ⟨a1, n1, c1, a2, n2, c2, rfl, rfl, rfl, rfl, rfl, rfl⟩ := h.kinds
  obtain ⟨k, hk⟩ : ∃ k, c.k = k := ⟨_, rfl⟩
  obtain ⟨b, hb⟩ : ∃ b, c.b = b := ⟨_, rfl⟩
  obtain ⟨i, hi⟩ : ∃ i, c.i = i := ⟨_, rfl⟩
  obtain ⟨s, hs⟩ : ∃ s, c.s = s := ⟨_, rfl⟩
  rw [hk, hb, hi, hs] at h hlow
  rw [hk, hb, hi, hs]
  obtain ⟨W0, hW0⟩ : ∃ W0, w.alloc (.cells #[.int .i64 k, .bool b, .int .i64 i, .string s, .slice a1 n1 c1, .slice a2 n2 c2] 25) = W0 := ⟨_, rfl⟩
  have b0 : Below w.heap.size w W0 := by rw [← hW0]; exact (Below.refl _ w).alloc (Nat.le_refl _) _
  have hs0 : w.heap.size < W0.heap.size := by rw [← hW0]; simp
  have hx0 : W0.heap[w.heap.size]? = some (.cells #[.int .i64 k, .bool b, .int .i64 i, .string s, .slice a1 n1 c1, .slice a2 n2 c2] 25 (0, 0)) := by rw [← hW0, heap_alloc_new]
  have HV : Hid (∀ w', Below W0.heap.size W0 w' → In false All w' m (.agg #[.int .i64 k, .bool b, .int .i64 i, .string s, .slice a1 n1 c1, .slice a2 n2 c2]) c) := fun w' hb' => (h.below b0).below hb'
  have HVL : Hid (∀ w', Below W0.heap.size W0 w' → In false (Lo w'.heap.size) w' m (.agg #[.int .i64 k, .bool b, .int .i64 i, .string s, .slice a1 n1 c1, .slice a2 n2 c2]) c) := fun w' hb' => ((hlow.below b0).below hb').weak (fun g hg => by have := hb'.size; show g < _; have hg' : g < w.heap.size := hg; omega) false id m (Nat.le_refl _)
  have HB : Hid (∀ w', Below W0.heap.size W0 w' → w'.heap[w.heap.size]? = some (.cells #[.int .i64 k, .bool b, .int .i64 i, .string s, .slice a1 n1 c1, .slice a2 n2 c2] 25 (0, 0))) := fun w' hb' => (hb'.block _ hs0).trans hx0
  have HT : Hid (∀ w', Below W0.heap.size W0 w' → T6 w') := fun w' hb' => (ht.later b0).later hb'
  have caw := AwV.awake_c W0 (ht.later b0)
  clear h ht hx0 hlow
  go_enter Tryd.func5, Tryd.ntmps5
  go_wp2_with fail
  refine caw.mono ?_
  rintro e w1 ⟨rfl, b1⟩
  clear caw hW0
  obtain ⟨k0, k1, k2, k3, k4, k5⟩ := six_box (HB.out w1 b1)
  have c9 := shallow_c m _ c w1 (HV.out w1 b1)
  go_wp2_with fail
  refine c9.mono ?_
  rintro e w2 ⟨rfl, b2⟩
  clear c9 k0 k1 k2 k3 k4 k5
  have B2 := nx b1 b2
  cases hd : decide (dep c ≤ 4096) with
  | false =>
    go_wp2_with fail
    go_ret
    exact ⟨rfl, nx b0 B2⟩
  | true =>
    have hdep := lc_dep (of_decide_eq_true hd)
    obtain ⟨k0, k1, k2, k3, k4, k5⟩ := six_box (HB.out w2 B2)
    obtain ⟨W3, hW3⟩ : ∃ W3, w2.alloc (.cells #[.int .i64 k, .bool b, .int .i64 i, .string s, .slice a1 n1 c1, .slice a2 n2 c2] 25) = W3 := ⟨_, rfl⟩
    have b3 : Below w2.heap.size w2 W3 := by rw [← hW3]; exact (Below.refl _ w2).alloc (Nat.le_refl _) _
    have hx3 : W3.heap[w2.heap.size]? = some (.cells #[.int .i64 k, .bool b, .int .i64 i, .string s, .slice a1 n1 c1, .slice a2 n2 c2] 25 (0, 0)) := by rw [← hW3, heap_alloc_new]
    have B3 := nx B2 b3
    have hin := lc_in hx3 (HVL.out W3 B3)
    have c15 := WPrtB.print_c hin hdep (HT.out W3 B3).tab
    have HI : Hid (In false All W3 (m + 1) (.agg #[.int .i64 5, .bool false, .int .i64 0, .string ⟨#[]⟩, .slice none 0 0, .slice (some ⟨w2.heap.size, 0, none⟩) 1 1]) (lc c)) := hin.weak (fun _ _ => trivial) false id _ (Nat.le_refl _)
    generalize hE : pe (lc c) = E at c15
    clear hin hx3
    go_wp2_with fail
    refine c15.mono ?_
    rintro e w4 ⟨va, rfl, b4, ha⟩
    clear c15 k0 k1 k2 k3 k4 k5 hW3
    have B4 := nx B3 b4
    rcases ha with ⟨hz, hp⟩ | ⟨hz, rfl⟩
    · subst hz
      have ho := hp.own
      obtain ⟨aa, ac, rfl⟩ := own_shape ho
      have hlen : (pv (lc c)).length ≤ 900000000 := (WChk.chk HI.out hE).2
      have hpos : 0 < (pv (lc c)).length := by
        have : pv (lc c) = 91 :: (jn (pvL [c]) ++ [93]) := by unfold lc; rw [pv]; rfl
        rw [this]; simp
      have HO : Hid (Byts.Own w4 W3.heap.size (.slice aa (pv (lc c)).length ac) (pv (lc c))) := ho
      have hac : (pv (lc c)).length ≤ ac := by
        obtain ⟨a', cap', e', h1', -⟩ := ho.len
        obtain ⟨-, -, rfl⟩ := Value.slice.inj e'
        exact h1'
      have HF : Hid (∀ q, (pv (lc c)).length ≤ 65536 → q < (pv (lc c)).length → (Calls Tryd.prog 11 #[.slice aa q ac] w4 fun e w'' => Below w4.heap.size w4 w'' ∧ ∃ p : Nat, e = .returned (.tuple #[zeroV, .int .i64 p, .int .i64 600]) ∧ (p = q ∨ (p < q ∧ q - p < 4 ∧ ∃ z : Nat, 194 ≤ z ∧ ∃ g, aa = some ⟨g, 0, none⟩ ∧ w4.cell? ⟨g, p, none⟩ = some (.int .u8 z)))) ∧ ∃ g, aa = some ⟨g, 0, none⟩ ∧ g < w4.heap.size) :=
        fun q h1 h2 => parse_front HI.out hE h1 h2 HO.out (HT.out w4 B4)
      generalize hN : (pv (lc c)).length = L at *
      clear hp ho HO HI HV HVL HB HT hk hb hi hs hd hdep hE hN
      by_cases hL : L ≤ 65536
      · have hd65 : decide ((65536 : Int) < (L : Int)) = false := decide_eq_false (by omega)
        obtain ⟨-, g, rfl, hgl⟩ := HF.out 0 hL hpos
        obtain ⟨q, hq, hqL⟩ := rem_eq x hpos hL
        have cp := (HF.out q hL hqL).1
        clear HF
        go_wp2_with (first | (go_at_call 10; refine (numF _ _).mono ?_; rintro e w' ⟨rfl, rfl⟩) | fail)
        refine cp.mono ?_
        rintro e w5 ⟨b5, p, rfl, hp⟩
        unfold zeroV
        clear cp
        have B5 := nx B4 b5
        have B6 : Below W0.heap.size W0 (w5.alloc (.cells #[.int .i64 0, .bool false, .int .i64 0, .string ⟨#[]⟩, .slice none 0 0, .slice none 0 0] 25)) := B5.alloc B5.size _
        rcases hp with rfl | ⟨p1, p2, z, hz, g', eg, hcell⟩
        · have hpp : ((p : Int) == (p : Int)) = true := by simp
          go_wp2_with (first | (go_at_call 10; refine (numF _ _).mono ?_; rintro e w' ⟨rfl, rfl⟩))
          go_ret
          exact ⟨rfl, nx b0 B6⟩
        · cases eg
          have hpp : ((p : Int) == (q : Int)) = false := by simp; omega
          have hlt : decide ((p : Int) < (q : Int)) = true := decide_eq_true (by omega)
          have hsb : wrap64 ((q : Int) - (p : Int)) = (q : Int) - (p : Int) := by unfold wrap64; omega
          have hl4 : decide ((q : Int) - (p : Int) < 4) = true := decide_eq_true (by omega)
          have hz4 : decide ((194 : Int) ≤ (z : Int)) = true := decide_eq_true (by omega)
          have hc6 : (w5.alloc (.cells #[.int .i64 0, .bool false, .int .i64 0, .string ⟨#[]⟩, .slice none 0 0, .slice none 0 0] 25)).cell? ⟨g, p, none⟩ = some (.int .u8 z) := (World.cell?_of_block (w := w4) ((b5.alloc b5.size _).block g hgl)).trans hcell
          go_wp2_with (first | (go_at_call 10; refine (numF _ _).mono ?_; rintro e w' ⟨rfl, rfl⟩))
          go_ret
          exact ⟨rfl, nx b0 B6⟩
      · have hd65 : decide ((65536 : Int) < (L : Int)) = true := decide_eq_true (by omega)
        clear HF
        go_wp2_with (first | (go_at_call 10; refine (numF _ _).mono ?_; rintro e w' ⟨rfl, rfl⟩))
        go_ret
        exact ⟨rfl, nx b0 B4⟩
    · have hz' : (E == 0) = false := by simp [hz]
      clear hE hk hb hi hs hd hdep HV HVL HB HT HI
      go_wp2_with (first | (go_at_call 10; refine (numF _ _).mono ?_; rintro e w' ⟨rfl, rfl⟩))
      go_ret
      exact ⟨rfl, nx b0 B4⟩
end Go.Proofs.YtopjadjaknmfeabDoor.WCuts
