/- The walk of LexTexts. -/
import Derived.Test.YtfkgcignlhmodaaLTp
import Derived.Test.YtfkgcignlhmodaaLAw
import Derived.Test.YtfkgcignlhmodaaLHs
import Derived.Test.YtfkgcignlhmodaaHEsc
namespace Go.Proofs.Ytfkgcignlhmodaa.WTxs
open Go.RowKit Go.Proofs.Ytfkgcignlhmodaa.UBase Go.Proofs.Ytfkgcignlhmodaa.EPure Go.Proofs.Ytfkgcignlhmodaa.LPure Go.Proofs.Ytfkgcignlhmodaa.LSc Go.Proofs.Ytfkgcignlhmodaa.LIn Go.Proofs.Ytfkgcignlhmodaa.LMu Go.Proofs.Ytfkgcignlhmodaa.LTk Go.Proofs.Ytfkgcignlhmodaa.LLy Go.Proofs.Ytfkgcignlhmodaa.LLz Go.Proofs.Ytfkgcignlhmodaa.LCv Go.Proofs.Ytfkgcignlhmodaa.LAw Go.Proofs.Ytfkgcignlhmodaa.LTp
set_option linter.unusedVariables false

/-- What the two answers are, in the law's ways. -/
theorem ways (s : ByteArray) : ((lxa (qt s)).2.1 = 1200 ∧ (lxa (HBase.escB false s)).2.1 ≠ 0) ∨ (lxa (qt s)).2.1 = 1201 ∨
    ((lxa (HBase.escB false s)).2.1 = 0 ∧ (lxa (qt s)).2.1 = 0 ∧ (∃ x y z, (lxa (qt s)).1 = [x, y, z] ∧ y.k = 4 ∧ y.t = s) ∧ ((s.size = 0 ∧ (lxa (HBase.escB false s)).1 = []) ∨ (0 < s.size ∧ ∃ x, (lxa (HBase.escB false s)).1 = [x] ∧ x.k = 1 ∧ x.n = ⟨#[]⟩ ∧ x.t = s ∧ x.a = 0))) := by
  rcases lex_attr s with ⟨h, hv⟩ | ⟨h, -⟩ | ⟨h, h4, hq, hx⟩
  · refine .inl ⟨h, fun h0 => hv ((valid_attr s).2 ((valid_text s).1 ?_))⟩
    rcases lex_text s with ⟨h2, -⟩ | ⟨h2, -⟩ | ⟨-, -, h2, -⟩
    · rw [h2] at h0; cases h0
    · rw [h2] at h0; cases h0
    · exact h2
  · exact .inr (.inl h)
  · have hv : verr (qt s) = 0 := by
      rcases Nat.eq_zero_or_pos (verr (qt s)) with h' | h'
      · exact h'
      · unfold lxa at h
        rw [if_neg (by omega), if_pos (by omega)] at h
        cases h
    have hE : (HBase.escB false s).size ≤ 65536 := by
      have h1 := esc_le s.data.toList
      have h2 := qt_size s
      rw [← escB_size, ← escB_size] at h1
      omega
    rcases lex_text s with ⟨-, h2⟩ | ⟨-, h2 | h2⟩ | ⟨h2, -, -, h3⟩
    · exact absurd ((valid_text s).2 ((valid_attr s).1 hv)) h2
    · omega
    · omega
    · exact .inr (.inr ⟨by rw [h2], h, hx, h3⟩)
theorem three (s : ByteArray) : (lxa (HBase.escB false s)).2.1 = 0 ∨ (lxa (HBase.escB false s)).2.1 = 1200 ∨ (lxa (HBase.escB false s)).2.1 = 1201 := by
  rcases lex_text s with ⟨h, -⟩ | ⟨h, -⟩ | ⟨h, -⟩
  · exact .inr (.inl h)
  · exact .inr (.inr h)
  · exact .inl (by rw [h])
set_option maxRecDepth 20000 in
set_option maxHeartbeats 3200000 in
theorem walk (s : ByteArray) (hs : s.size ≤ 1048576) (w : World) (hg : Gm w) : Calls Try.prog 6 #[.string s] w fun e w' => e = .returned (.bool true) ∧ Below w.heap.size w w' := by
  have hE := HBase.esc_len false s.data.toList
  have hA := HBase.esc_len true s.data.toList
  have hq := qt_size s
  rw [← escB_size, len_l] at hE hA
  have cE := fun (W : World) (h : Gm W) => lex_c (HBase.escB false s) (by omega) W h (Gm.pos h)
  have cQ := fun (W : World) (h : Gm W) => lex_c (qt s) (by omega) W h (Gm.pos h)
  have hw := ways s
  have h3 := three s
  have c9 : ∀ (x : Int) (W : World), Calls Try.prog 9 #[.int .i64 x] W fun e w' => e = .returned (.int .i64 x) ∧ W = w' := fun x W => (num_c x W).mono fun e w' h => ⟨h.1, h.2.symm⟩
  have ct := fun W => HEsc.text_c s (by omega) W
  have ca := fun W => HEsc.attr_c s (by omega) W
  unfold qt at cQ hw
  generalize HBase.escB false s = E at *
  generalize HBase.escB true s = A at *
  obtain ⟨⟨xs, fc, fp⟩, hX⟩ : ∃ X, lxa E = X := ⟨_, rfl⟩
  obtain ⟨⟨ys, gc, gp⟩, hY⟩ : ∃ Y, lxa ((⟨#[60, 112, 32, 97, 61, 34]⟩ ++ A) ++ ⟨#[34, 47, 62]⟩) = Y := ⟨_, rfl⟩
  simp only [hX, hY] at *
  clear hX hY
  have hA2 : ((⟨#[60, 112, 32, 97, 61, 34]⟩ : ByteArray) ++ A).size ≤ 9000000 := by rw [LHs.cat_size]; have : (⟨#[60, 112, 32, 97, 61, 34]⟩ : ByteArray).size = 6 := rfl; omega
  have hA3 : A.size ≤ 8388608 := by omega
  clear hq hE hA
  go_enter Try.func6, Try.ntmps6
  go_wp2_with fail
  refine (awake_c w hg).mono ?_
  rintro e w1 ⟨rfl, hb1⟩
  have hg1 := Gm.below hg hb1
  go_wp2_with fail
  refine (ct w1).mono ?_
  rintro e w2 ⟨rfl, hb2⟩
  have hg2 := Gm.below hg1 hb2
  go_wp2_with fail
  refine (cE w2 hg2).mono ?_
  rintro e w3 ⟨v, rfl, ho, hb3⟩
  have hg3 := Gm.below hg2 hb3
  have hr3 := To.rt ho
  clear ho
  go_wp2_with fail
  refine (ca w3).mono ?_
  rintro e w4 ⟨rfl, hb4⟩
  have hg4 := Gm.below hg3 hb4
  have hr4 := hr3.below hb4
  go_wp2_with fail
  refine (cQ w4 hg4).mono ?_
  rintro e w5 ⟨v2, rfl, ho2, hb5⟩
  have hs2 := To.rt ho2
  have hr5 := hr4.below hb5
  have hB : Below w.heap.size w w5 := hb1.trans ((hb2.trans ((hb3.trans ((hb4.trans (hb5.mono hb4.size)).mono hb3.size)).mono hb2.size)).mono hb1.size)
  have HB : Hid (Below w.heap.size w w5) := hB
  clear ho2 hr3 hr4 hb1 hb2 hb3 hb4 hb5 hB hg1 hg2 hg3 hg4 cE cQ ct ca
  rcases hw with ⟨rfl, hw⟩ | rfl | ⟨rfl, rfl, ⟨x, y, z, hys, hy4, hyt⟩, hx⟩
  · clear hr5 hs2
    rcases h3 with rfl | rfl | rfl
    · exact absurd rfl hw
    all_goals
      clear hw
      go_wp2_with (first | (go_at_call 9; refine (c9 _ _).mono ?_; rintro e w' ⟨rfl, rfl⟩))
      go_ret
      exact ⟨rfl, HB.out⟩
  · clear hr5 hs2
    rcases h3 with rfl | rfl | rfl
    all_goals
      go_wp2_with (first | (go_at_call 9; refine (c9 _ _).mono ?_; rintro e w' ⟨rfl, rfl⟩))
      go_ret
      exact ⟨rfl, HB.out⟩
  · subst hys
    obtain ⟨⟨-, h⟩ | ⟨g, cap, rfl, hgl, hc1, hc2, hc⟩⟩ := hs2
    · cases h
    obtain ⟨d0, d1, d2, d3⟩ := hc 1 (by simp)
    simp only [List.getElem_cons_succ, List.getElem_cons_zero, Nat.one_mul, Nat.reduceAdd] at d0 d1 d2 d3
    rw [hyt] at d2
    rw [hy4] at d0
    simp only [List.length_cons, List.length_nil, Nat.reduceAdd] at hc1 ⊢
    clear hc d1 d3
    have ss : (s.toList != s.toList) = false := by simp
    rcases hx with ⟨hz, rfl⟩ | ⟨hz, x1, rfl, k1, k2, k3, k4⟩
    · have se : s.toList.isEmpty = true := by rw [empty_of hz, ByteArray.toList_eq]; rfl
      obtain ⟨⟨rfl, -⟩ | ⟨g', cap', rfl, -, -, -, -⟩⟩ := hr5
      · go_wp2_with (first | (go_at_call 9; refine (c9 _ _).mono ?_; rintro e w' ⟨rfl, rfl⟩))
        go_ret
        exact ⟨rfl, HB.out⟩
      · simp only [List.length_nil]
        go_wp2_with (first | (go_at_call 9; refine (c9 _ _).mono ?_; rintro e w' ⟨rfl, rfl⟩))
        go_ret
        exact ⟨rfl, HB.out⟩
    · obtain ⟨⟨-, h⟩ | ⟨g', cap', rfl, hgl', hc1', hc2', hc'⟩⟩ := hr5
      · cases h
      obtain ⟨e0, e1, e2, e3⟩ := hc' 0 (by simp)
      simp only [List.getElem_cons_zero, Nat.zero_mul, Nat.zero_add] at e0 e1 e2 e3
      rw [k1] at e0
      rw [k2] at e1
      rw [k3] at e2
      rw [k4] at e3
      have se : s.toList.isEmpty = false := by
        rw [ByteArray.toList_eq]
        cases e : s.data.toList with
        | nil => have := len_l s; rw [e] at this; simp at this; omega
        | cons _ _ => rfl
      simp only [List.length_cons, List.length_nil, Nat.zero_add] at hc1' ⊢
      clear hc'
      go_wp2_with (first | (go_at_call 9; refine (c9 _ _).mono ?_; rintro e w' ⟨rfl, rfl⟩))
      go_ret
      exact ⟨rfl, HB.out⟩
end Go.Proofs.Ytfkgcignlhmodaa.WTxs
