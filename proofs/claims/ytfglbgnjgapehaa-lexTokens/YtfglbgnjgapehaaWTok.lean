/- The walk of LexTokens. -/
import Derived.Test.YtfglbgnjgapehaaRLx
import Derived.Test.YtfglbgnjgapehaaMSo
import Derived.Test.YtfglbgnjgapehaaLAw
import Derived.Test.YtfglbgnjgapehaaWCov
namespace Go.Proofs.Ytfglbgnjgapehaa.WTok
open Go.RowKit Go.Proofs.Ytfglbgnjgapehaa.UBase Go.Proofs.Ytfglbgnjgapehaa.EPure Go.Proofs.Ytfglbgnjgapehaa.LPure Go.Proofs.Ytfglbgnjgapehaa.LSc Go.Proofs.Ytfglbgnjgapehaa.LIn Go.Proofs.Ytfglbgnjgapehaa.LMu Go.Proofs.Ytfglbgnjgapehaa.LTk Go.Proofs.Ytfglbgnjgapehaa.LLy Go.Proofs.Ytfglbgnjgapehaa.LLz Go.Proofs.Ytfglbgnjgapehaa.LCv Go.Proofs.Ytfglbgnjgapehaa.LAw Go.Proofs.Ytfglbgnjgapehaa.LSm Go.Proofs.Ytfglbgnjgapehaa.LSo Go.Proofs.Ytfglbgnjgapehaa.RLx
set_option linter.unusedVariables false

theorem own_at {w w' : World} {B : Nat} {v : Value} {xs : List Tz} (h : To w B v xs) (hk : ∀ g, v.ownBlock = some g → B ≤ g → g < w.heap.size → w'.heap[g]? = w.heap[g]?) : To w' B v xs := by
  obtain ⟨h1, h2⟩ := h
  refine ⟨h1, ?_⟩
  rcases h2 with h2 | ⟨g, cap, cur, rfl, hg, hh, h3⟩
  · exact .inl h2
  · exact .inr ⟨g, cap, cur, rfl, hg, (hk g rfl hg (Array.getElem?_eq_some_iff.1 hh).1).trans hh, h3⟩
theorem own_blk {w : World} {B : Nat} {v : Value} {xs : List Tz} (h : To w B v xs) (g : Nat) (e : v.ownBlock = some g) : B ≤ g ∧ g < w.heap.size := World.ownsRow.lt h g e
theorem own_bel {w w' : World} {B : Nat} {v : Value} {xs : List Tz} (h : To w B v xs) (hb : Below w.heap.size w w') : To w' B v xs := own_at h fun g _ _ hg => hb.block g hg
theorem drewN_bel (w : World) (n B : Nat) : Below B w (w.drewN n) := ⟨rfl, rfl, rfl, by simp, fun _ _ => by simp⟩
set_option maxRecDepth 20000 in
set_option maxHeartbeats 3200000 in
theorem walk (s : ByteArray) (hs : s.size ≤ 140737488351232) (w : World) (hg : Gm w) : Calls Try.prog 3 #[.string s] w fun e w' => e = .returned (.bool true) ∧ Below w.heap.size w w' := by
  have cs := fun (W : World) (h : Gm W) => lex_c s hs W h (Gm.pos h)
  have cr := fun (W : World) => rlex_c s hs W
  have hn := @lxa_nil s
  have hcv := @lxa_cv s
  have c9 : ∀ (x : Int) (W : World), Calls Try.prog 9 #[.int .i64 x] W fun e w' => e = .returned (.int .i64 x) ∧ W = w' := fun x W => (num_c x W).mono fun e w' h => ⟨h.1, h.2.symm⟩
  obtain ⟨⟨xs, fc, fp⟩, hX⟩ : ∃ X, lxa s = X := ⟨_, rfl⟩
  simp only [hX] at *
  clear hX
  have hl : xs.length ≤ 65536 := by
    by_cases h0 : fc = 0
    · exact WCov.cv_len (hcv h0).1 (hcv h0).2.2.1
    · rw [hn h0]; simp
  have ha : ∀ k (h : k < xs.length), xs[k].a ≤ 65536 := by
    intro k hk
    by_cases h0 : fc = 0
    · have h1 := (hcv h0).1.lt k hk
      have h2 := (hcv h0).2.2.1
      omega
    · have := hn h0
      subst this
      simp at hk
  have HA : Hid (∀ k (h : k < xs.length), xs[k].a ≤ 65536) := ha
  clear hn hcv ha
  go_enter Try.func3, Try.ntmps3
  go_wp2_with fail
  refine (cs w hg).mono ?_
  rintro e w1 ⟨v1, rfl, ho1, hb1⟩
  have hg1 := Gm.below hg hb1
  go_wp2_with fail
  refine (cs w1 hg1).mono ?_
  rintro e w2 ⟨v2, rfl, ho2, hb2⟩
  have hg2 := Gm.below hg1 hb2
  go_wp2_with fail
  refine (cr w2).mono ?_
  rintro e w3 ⟨v3, rfl, ho3, hb3⟩
  have h1 : To w3 w.heap.size v1 xs := own_bel (own_bel ho1 hb2) hb3
  have h2 : To w3 w1.heap.size v2 xs := own_bel ho2 hb3
  have HN2 : Hid (∀ g, v2.ownBlock = some g → v1.ownBlock ≠ some g) := fun g e2 e1 => by
    have := (own_blk ho1 g e1).2
    have := (own_blk ho2 g e2).1
    omega
  have HN3 : Hid (∀ g, v3.ownBlock = some g → v1.ownBlock ≠ some g) := fun g e2 e1 => by
    have := (own_blk ho1 g e1).2
    have := (own_blk ho3 g e2).1
    have := hb2.size
    omega
  have HB3 : Hid (Below w.heap.size w w3) := hb1.trans ((hb2.trans (hb3.mono hb2.size)).mono hb1.size)
  have H3 : Hid (To w3 w.heap.size v1 xs ∧ To w3 w1.heap.size v2 xs ∧ To w3 w2.heap.size v3 xs) := ⟨h1, h2, ho3⟩
  have cS := same_c (To.rt h1) (To.rt ho3) (by omega)
  have HG : Hid (Gm w) := hg
  clear ho1 ho2 ho3 hb1 hb2 hb3 h1 h2 cs cr hg1 hg2 hg
  go_wp2_with (first | (go_at_call 9; refine (c9 _ _).mono ?_; rintro e w' ⟨rfl, rfl⟩))
  refine cS.mono ?_
  rintro e w4 ⟨rfl, n4, hn4⟩
  have hb4 : Below w3.heap.size w3 w4 := by rw [hn4]; exact drewN_bel _ _ _
  have H4 : Hid (To w4 w.heap.size v1 xs ∧ To w4 w1.heap.size v2 xs ∧ To w4 w2.heap.size v3 xs) := ⟨own_bel H3.out.1 hb4, own_bel H3.out.2.1 hb4, own_bel H3.out.2.2 hb4⟩
  have HB4 : Hid (Below w.heap.size w w4) := HB3.out.trans (hb4.mono HB3.out.size)
  have cP := spoil_c H4.out.1 hl HA.out
  clear hn4 hb4 H3 HB3 cS
  go_wp2_with fail
  refine cP.mono ?_
  rintro e w5 ⟨⟨r5, rfl⟩, hb5, hk5⟩
  have h2 : To w5 w1.heap.size v2 xs := own_at H4.out.2.1 fun g e _ _ => hk5 g (HN2.out g e)
  have h3 : To w5 w2.heap.size v3 xs := own_at H4.out.2.2 fun g e _ _ => hk5 g (HN3.out g e)
  have HB5 : Hid (Below w.heap.size w w5) := HB4.out.trans hb5
  have cS := same_c (To.rt h2) (To.rt h3) (by omega)
  clear hb5 hk5 h2 h3 H4 HB4 cP HN2 HN3
  go_wp2_with fail
  refine cS.mono ?_
  rintro e w6 ⟨rfl, n6, hn6⟩
  have hb6 : Below w.heap.size w w6 := by rw [hn6]; exact HB5.out.trans (drewN_bel _ _ _)
  have cw := awake_c w6 (Gm.below HG.out hb6)
  have HB6 : Hid (Below w.heap.size w w6) := hb6
  clear hn6 hb6 cS HB5
  go_wp2_with fail
  refine cw.mono ?_
  rintro e w7 ⟨rfl, hb7⟩
  have HB7 : Hid (Below w.heap.size w w7) := HB6.out.trans (hb7.mono HB6.out.size)
  clear hb7 cw HB6
  go_wp2_with fail
  go_ret
  exact ⟨rfl, HB7.out⟩
end Go.Proofs.Ytfglbgnjgapehaa.WTok
