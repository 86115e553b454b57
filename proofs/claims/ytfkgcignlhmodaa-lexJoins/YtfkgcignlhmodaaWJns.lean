/- The walk of LexJoins. -/
import Derived.Test.YtfkgcignlhmodaaLJp
import Derived.Test.YtfkgcignlhmodaaLSm
import Derived.Test.YtfkgcignlhmodaaLAw
import Derived.Test.YtfkgcignlhmodaaWCov
namespace Go.Proofs.Ytfkgcignlhmodaa.WJns
open Go.RowKit Go.Proofs.Ytfkgcignlhmodaa.UBase Go.Proofs.Ytfkgcignlhmodaa.EPure Go.Proofs.Ytfkgcignlhmodaa.LPure Go.Proofs.Ytfkgcignlhmodaa.LSc Go.Proofs.Ytfkgcignlhmodaa.LIn Go.Proofs.Ytfkgcignlhmodaa.LMu Go.Proofs.Ytfkgcignlhmodaa.LTk Go.Proofs.Ytfkgcignlhmodaa.LLy Go.Proofs.Ytfkgcignlhmodaa.LLz Go.Proofs.Ytfkgcignlhmodaa.LCv Go.Proofs.Ytfkgcignlhmodaa.LAw Go.Proofs.Ytfkgcignlhmodaa.LJp Go.Proofs.Ytfkgcignlhmodaa.LSm
set_option linter.unusedVariables false

/-- The four cells of a token of a row. -/
def Tc (w : World) (g i : Nat) (x : Tz) : Prop := w.cell? ⟨g, i * 4, none⟩ = some (.int .i64 x.k) ∧ w.cell? ⟨g, i * 4 + 1, none⟩ = some (.string x.n) ∧ w.cell? ⟨g, i * 4 + 2, none⟩ = some (.string x.t) ∧ w.cell? ⟨g, i * 4 + 3, none⟩ = some (.int .i64 x.a)
theorem Rt.slice {w : World} {v : Value} {xs : List Tz} (h : Rt w v xs) : ∃ a cap, v = .slice a xs.length cap ∧ ∀ w', Below w.heap.size w w' → ∀ i (h : i < xs.length), ∃ g, a = some ⟨g, 0, none⟩ ∧ xs.length ≤ cap ∧ Tc w' g i xs[i] := by
  have h' := h
  obtain ⟨⟨h1, h2⟩ | ⟨g, cap, h2, h3, h5, h6, h7⟩⟩ := h'
  · refine ⟨none, 0, by rw [h1, h2]; rfl, fun w' hb i hi => ?_⟩
    rw [h2] at hi
    simp at hi
  · refine ⟨_, cap, h2, fun w' hb i hi => ⟨g, rfl, h5, ?_⟩⟩
    obtain ⟨⟨e, -⟩ | ⟨g', cap', e, -, -, -, hc⟩⟩ := h.below hb
    · rw [h2] at e; cases e
    · rw [h2] at e
      cases e
      exact hc i hi
theorem Rt.front {w : World} {g cap : Nat} {zs xs r : List Tz} (h : Rt w (.slice (some ⟨g, 0, none⟩) zs.length cap) zs) (e : zs = xs ++ r) : Rt w (.slice (some ⟨g, 0, none⟩) xs.length cap) xs := by
  obtain ⟨⟨h1, -⟩ | ⟨g', cap', h2, h3, h5, h6, h7⟩⟩ := h
  · cases h1
  · cases h2
    have hl : xs.length ≤ zs.length := by rw [e]; simp
    refine ⟨.inr ⟨g, cap, rfl, h3, by omega, h6, fun i hi => ?_⟩⟩
    have := h7 i (by omega)
    simp only [e, List.getElem_append_left hi] at this
    exact this
set_option maxRecDepth 20000 in
set_option maxHeartbeats 6400000 in
theorem walk (s t : ByteArray) (hs : s.size ≤ 140737488351232) (ht : t.size ≤ 140737488351232) (w : World) (hg : Gm w) : Calls Try.prog 5 #[.string s, .string t] w fun e w' => e = .returned (.bool true) ∧ Below w.heap.size w w' := by
  have cs := fun (W : World) (h : Gm W) => lex_c s hs W h (Gm.pos h)
  have ct := fun (W : World) (h : Gm W) => lex_c t ht W h (Gm.pos h)
  have cj := fun (hz : s.size + t.size + 4 ≤ 65536) (W : World) (h : Gm W) => lex_c (jn s t) (by rw [jn_size]; omega) W h (Gm.pos h)
  have hj := @jn_lex s t
  have hcs := @lxa_cv s
  have hct := @lxa_cv t
  have c9 : ∀ (x : Int) (W : World), Calls Try.prog 9 #[.int .i64 x] W fun e w' => e = .returned (.int .i64 x) ∧ W = w' := fun x W => (num_c x W).mono fun e w' h => ⟨h.1, h.2.symm⟩
  unfold jn at cj hj
  obtain ⟨⟨xs, fc, fp⟩, hX⟩ : ∃ X, lxa s = X := ⟨_, rfl⟩
  obtain ⟨⟨ys, gc, gp⟩, hY⟩ : ∃ Y, lxa t = Y := ⟨_, rfl⟩
  obtain ⟨⟨zs, kc, kp⟩, hZ⟩ : ∃ Z, lxa ((s ++ ⟨#[60, 47, 113, 62]⟩) ++ t) = Z := ⟨_, rfl⟩
  simp only [hX, hY, hZ] at *
  clear hX hY hZ
  go_enter Try.func5, Try.ntmps5
  go_wp2_with fail
  refine (awake_c w hg).mono ?_
  rintro e w1 ⟨rfl, hb1⟩
  have hg1 := Gm.below hg hb1
  go_wp2_with fail
  refine (cs w1 hg1).mono ?_
  rintro e w2 ⟨v1, rfl, ho1, hb2⟩
  have hg2 := Gm.below hg1 hb2
  have hr1 := To.rt ho1
  go_wp2_with fail
  refine (ct w2 hg2).mono ?_
  rintro e w3 ⟨v2, rfl, ho2, hb3⟩
  have hg3 := Gm.below hg2 hb3
  have hr1 := hr1.below hb3
  have hr2 := To.rt ho2
  have hB : Below w.heap.size w w3 := hb1.trans ((hb2.trans (hb3.mono hb2.size)).mono hb1.size)
  have HB : Hid (Below w.heap.size w w3) := hB
  clear ho1 ho2 hb1 hb2 hb3 hB cs ct hg1 hg2 hg
  by_cases hf : fc = 0
  · by_cases hgc : gc = 0
    · by_cases hz : s.size + t.size + 4 ≤ 65536
      · obtain ⟨hk, q, hzs, q1, q2, q3, q4⟩ := hj hf hgc hz
        cases hk
        have dz : decide ((65536 : Int) < (s.size : Int) + (t.size : Int) + 4) = false := decide_eq_false (by omega)
        have hlx : xs.length ≤ 65536 := WCov.cv_len (hcs hf).1 (by omega)
        have hly : ys.length ≤ 65536 := WCov.cv_len (hct hgc).1 (by omega)
        have HY : Hid (∀ i (h : i < ys.length), ys[i].a < t.size) := fun i h => (hct hgc).1.lt i h
        subst hf hgc
        have cj := cj hz
        have hsz : (s ++ (⟨#[60, 47, 113, 62]⟩ : ByteArray)).size ≤ 65536 := by rw [ByteArray.size_append]; have : (⟨#[60, 47, 113, 62]⟩ : ByteArray).size = 4 := rfl; omega
        have hs6 : s.size ≤ 65536 := by omega
        have ht6 : t.size ≤ 65536 := by omega
        clear hj hcs hct
        go_wp2_with (first | (go_at_call 9; refine (c9 _ _).mono ?_; rintro e w' ⟨rfl, rfl⟩))
        refine (cj w3 hg3).mono ?_
        rintro e w4 ⟨v3, rfl, ho3, hb4⟩
        have hr1 := hr1.below hb4
        have hr2 := hr2.below hb4
        have hr3 := To.rt ho3
        have HB4 : Hid (Below w.heap.size w w4) := HB.out.trans (hb4.mono HB.out.size)
        clear ho3 hb4 HB hg3 cj
        have hzl : zs.length = xs.length + ys.length + 1 := by rw [hzs]; simp; omega
        have hne : zs ≠ [] := fun h => by rw [h] at hzl; simp at hzl
        have hr3' := hr3
        obtain ⟨⟨-, h⟩ | ⟨g3, cap3, rfl, hgl3, hc31, hc32, -⟩⟩ := hr3'
        · exact absurd h hne
        have hfr : Rt w4 (.slice (some ⟨g3, 0, none⟩) xs.length cap3) xs := Rt.front hr3 hzs
        obtain ⟨a3, cap3', e3, hT3⟩ := Rt.slice hr3
        cases e3
        have cS := same_c hfr hr1 (by omega)
        obtain ⟨a1, cap1, rfl, -⟩ := Rt.slice hr1
        obtain ⟨a2, cap2, rfl, hT2⟩ := Rt.slice hr2
        have dl : ((zs.length : Int) != (xs.length : Int) + (ys.length : Int) + 1) = false := by simp; omega
        have b1 : (0 : Int) ≤ (xs.length : Int) := by omega
        have b2 : (xs.length : Int) ≤ (cap3 : Int) := by omega
        have HT3 : Hid (∀ w', Below w4.heap.size w4 w' → ∀ i (h : i < zs.length), Tc w' g3 i zs[i]) := fun w' hb i h => by
          obtain ⟨g, e, -, hc⟩ := hT3 w' hb i h
          cases e
          exact hc
        have HT2 : Hid (∀ w', Below w4.heap.size w4 w' → ∀ i (h : i < ys.length), ∃ g, a2 = some ⟨g, 0, none⟩ ∧ ys.length ≤ cap2 ∧ Tc w' g i ys[i]) := hT2
        have HZ : Hid (zs = xs ++ q :: ys.map (sh (s.size + 4))) := hzs
        clear hT3 hT2 hr1 hr2 hr3 hfr hzs hne
        go_wp2_with (first | (go_at_call 9; refine (c9 _ _).mono ?_; rintro e w' ⟨rfl, rfl⟩))
        refine cS.mono ?_
        rintro e w5 ⟨rfl, n5, hw5⟩
        have H5 : Hid (Below w4.heap.size w4 w5) := by rw [hw5]; exact ⟨rfl, rfl, rfl, by simp, fun _ _ => by simp⟩
        clear cS hw5
        go_wp2_with fail
        go_loopw [14] (fun i wr => ∃ j : Nat, i = .int .i64 j ∧ j ≤ ys.length ∧ Below w4.heap.size w4 wr) (fun i _ => ys.length - (intOf i).toNat)
        case atStart => exact ⟨0, rfl, Nat.zero_le _, H5.out⟩
        case round =>
          obtain ⟨j, rfl, hjl, hBr⟩ := hrel
          have HBr : Hid (Below w4.heap.size w4 wr) := hBr
          by_cases hj : j < ys.length
          · obtain ⟨g2, rfl, hc2, m0, m1, m2, m3⟩ := HT2.out wr hBr j hj
            obtain ⟨l0, l1, l2, l3⟩ := HT3.out wr hBr (xs.length + 1 + j) (by omega)
            have hz : zs[xs.length + 1 + j]'(by omega) = sh (s.size + 4) ys[j] := by
              simp only [HZ.out]
              rw [List.getElem_append_right (by omega)]
              simp only [show xs.length + 1 + j - xs.length = j + 1 by omega, List.getElem_cons_succ, List.getElem_map]
            rw [hz] at l0 l1 l2 l3
            have ha := HY.out j hj
            simp only [sh] at l0 l1 l2 l3
            obtain ⟨y, hyj⟩ : ∃ y, ys[j] = y := ⟨_, rfl⟩
            rw [hyj] at m0 m1 m2 m3 l0 l1 l2 l3 ha
            obtain ⟨A, hA⟩ : ∃ A, s.size + 4 + y.a = A := ⟨_, rfl⟩
            rw [hA] at l3
            have eA : (A : Int) - (s.size : Int) - 4 = (y.a : Int) := by omega
            have hA2 : A ≤ 200000 := by omega
            have e1 : decide ((j : Int) < (ys.length : Int)) = true := decide_eq_true (by omega)
            obtain ⟨W, hW⟩ : ∃ W, wr.alloc (.cells #[.int .i64 y.k, .string y.n, .string y.t, .int .i64 y.a] 34) = W := ⟨_, rfl⟩
            have hWb : Below wr.heap.size wr W := by rw [← hW]; exact (Below.refl _ wr).alloc (Nat.le_refl _) _
            have hbx : W.heap[wr.heap.size]? = some (.cells #[.int .i64 y.k, .string y.n, .string y.t, .int .i64 y.a] 34 (0, 0)) := by rw [← hW]; exact LRd.heap_alloc_new _ _
            obtain ⟨d0, d1, d2, d3⟩ := LTk.four_box hbx
            have HBW : Hid (Below w4.heap.size w4 W) := hBr.trans (hWb.mono hBr.size)
            obtain ⟨g2', eg, -, n0, n1, n2, n3⟩ := HT2.out W HBW.out j hj
            cases eg
            rw [hyj] at n0 n1 n2 n3
            clear hz hA hBr hWb hbx
            go_wp2_with fail
            try rw [hW]
            clear hW l0 l1 l2 l3 m0 m1 m2 m3
            go_quiet (fail)
            go_wp2_with fail
            go_roundw
            case rel => exact ⟨j + 1, by simp, by omega, HBW.out.trans ⟨rfl, rfl, rfl, by simp, fun _ _ => by simp⟩⟩
            case measure => simp [intOf]; omega
          · have e1 : decide ((j : Int) < (ys.length : Int)) = false := decide_eq_false (by omega)
            obtain ⟨l0, l1, l2, l3⟩ := HT3.out wr hBr xs.length (by omega)
            have hz : zs[xs.length]'(by omega) = q := by
              simp only [HZ.out]
              rw [List.getElem_append_right (by omega)]
              simp
            rw [hz, q1] at l0
            rw [hz, q2] at l1
            rw [hz, q3] at l2
            rw [hz, q4] at l3
            clear hz hBr
            go_wp2_with fail
            go_ret
            exact ⟨rfl, HB4.out.trans (HBr.out.mono HB4.out.size)⟩
      · have dz : decide ((65536 : Int) < (s.size : Int) + (t.size : Int) + 4) = true := decide_eq_true (by omega)
        subst hf hgc
        clear hj hcs hct cj hr1 hr2
        go_wp2_with (first | (go_at_call 9; refine (c9 _ _).mono ?_; rintro e w' ⟨rfl, rfl⟩))
        go_ret
        exact ⟨rfl, HB.out⟩
    · have d : ((gc : Int) != 0) = true := by simp; omega
      subst hf
      clear hj hcs hct cj hr1 hr2
      go_wp2_with (first | (go_at_call 9; refine (c9 _ _).mono ?_; rintro e w' ⟨rfl, rfl⟩))
      go_ret
      exact ⟨rfl, HB.out⟩
  · have d : ((fc : Int) != 0) = true := by simp; omega
    clear hj hcs hct cj hr1 hr2
    go_wp2_with (first | (go_at_call 9; refine (c9 _ _).mono ?_; rintro e w' ⟨rfl, rfl⟩))
    go_ret
    exact ⟨rfl, HB.out⟩
end Go.Proofs.Ytfkgcignlhmodaa.WJns
