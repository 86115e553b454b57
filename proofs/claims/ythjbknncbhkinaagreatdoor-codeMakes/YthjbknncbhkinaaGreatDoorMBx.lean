/- The machine that runs code: its box, its pile; top and take. -/
import Derived.Test.YthjbknncbhkinaaGreatDoorTak
import Derived.Test.YthjbknncbhkinaaGreatDoorVRs
import Derived.Test.YthjbknncbhkinaaGreatDoorRow
import Derived.Test.YthjbknncbhkinaaGreatDoorFresh
import Derived.Deep.RegionHeld3
namespace Go.Proofs.YthjbknncbhkinaaGreatDoor.MBx
open Go.Proofs.YthjbknncbhkinaaGreatDoor.Tak
open Go.RowKit Go.Proofs.YthjbknncbhkinaaGreatDoor.Base Go.Proofs.YthjbknncbhkinaaGreatDoor.VSm Go.Proofs.YthjbknncbhkinaaGreatDoor.VRs
set_option linter.unusedVariables false

abbrev ptr (M : Nat) : Value := .pointer (some ⟨M, 0, none⟩)
/-- The machine's box, its pile (the top is the last one) in memory of its own. -/
structure Mc (K m : Nat) (w : World) (M : Nat) (tv sv pv : Value) (p : List C) : Prop where
  box : w.heap[M]? = some (.cells #[tv, sv, pv] 90 (0, 0))
  low : K ≤ M
  own : ∃ us, OwnV w (M + 1) pv us ∧ us.length = p.length ∧ ∀ j (h : j < us.length) (h' : j < p.length), Base.In false (fun b => b < K) w m us[j] p[j]
/-- What a method of the machine leaves as it was. -/
structure Km (M : Nat) (pv : Value) (w w' : World) : Prop where
  below : Below M w w'
  other : ∀ b, b < w.heap.size → b ≠ M → some b ≠ pv.ownBlock → w'.heap[b]? = w.heap[b]?
theorem Mc.lt {K m : Nat} {w : World} {M : Nat} {tv sv pv : Value} {p : List C} (h : Mc K m w M tv sv pv p) : M < w.heap.size := (Array.getElem?_eq_some_iff.1 h.box).1
theorem pshape {w : World} {lo : Nat} {tv : Value} {us : List Value} (h : OwnV w lo tv us) : ∃ a cap, tv = .slice a us.length cap ∧ us.length ≤ cap ∧ cap ≤ 9223372036854775807 := by
  rcases h.1.2 with ⟨rfl, e⟩ | ⟨g, cap, cur, rfl, h2, h3, h4, h5, h6⟩
  · exact ⟨none, 0, by rw [e], by omega, by omega⟩
  · exact ⟨_, cap, rfl, h4, by unfold maxLen at h5; omega⟩
theorem Mc.own_ne {K m : Nat} {w : World} {M : Nat} {tv sv pv : Value} {p : List C} (h : Mc K m w M tv sv pv p) {g : Nat} (hg : pv.ownBlock = some g) : M < g ∧ g < w.heap.size := by
  obtain ⟨us, ho, -⟩ := h.own
  have := World.ownsRow.lt ho.1 g hg
  omega
/-- Blocks that are neither the box nor the pile's may change, if they lie behind K. -/
theorem Mc.keep {K m : Nat} {w w' : World} {M : Nat} {tv sv pv : Value} {p : List C} (h : Mc K m w M tv sv pv p) (hb : ∀ b, b < w.heap.size → (b < K ∨ b = M ∨ pv.ownBlock = some b) → w'.heap[b]? = w.heap[b]?) : Mc K m w' M tv sv pv p := by
  have hlt := h.lt
  have hlow := h.low
  obtain ⟨us, h1, h2, h3⟩ := h.own
  refine ⟨(hb M hlt (.inr (.inl rfl))).trans h.box, h.low, us, ⟨Fresh.own_keep h1.1 fun g hg => hb g (World.ownsRow.lt h1.1 g hg).2 (.inr (.inr hg)), h1.2⟩, h2, fun j a b => (h3 j a b).keep (fun g hg hg2 => hb g hg2 (.inl hg))⟩
theorem Mc.below {K m : Nat} {w w' : World} {M : Nat} {tv sv pv : Value} {p : List C} (h : Mc K m w M tv sv pv p) (hb : Below w.heap.size w w') : Mc K m w' M tv sv pv p := h.keep fun b hl _ => hb.block b hl
theorem Km.of_below {M : Nat} {pv : Value} {w w' : World} (h : Below w.heap.size w w') (hM : M ≤ w.heap.size) : Km M pv w w' := ⟨h.mono hM, fun b hb _ _ => h.block b hb⟩
theorem Km.trans {M : Nat} {pv pv' : Value} {w w1 w2 : World} (h : Km M pv w w1) (k : Km M pv' w1 w2) (he : pv'.ownBlock = pv.ownBlock ∨ ∃ g, pv'.ownBlock = some g ∧ w.heap.size ≤ g) : Km M pv w w2 := by
  refine ⟨h.below.trans k.below, fun b hb h1 h2 => ?_⟩
  have hs := h.below.size
  rw [k.other b (by omega) h1 ?_, h.other b hb h1 h2]
  rcases he with e | ⟨g, e, hg⟩
  · rw [e]; exact h2
  · rw [e]
    intro e2
    have := Option.some.inj e2
    omega
/-- The last one. -/
theorem Mc.last {K m : Nat} {w : World} {M : Nat} {tv sv pv : Value} {q : List C} {c : C} (h : Mc K m w M tv sv pv (q ++ [c])) : ∃ g cap u, pv = .slice (some ⟨g, 0, none⟩) (q.length + 1) cap ∧ q.length + 1 ≤ cap ∧ cap ≤ 9223372036854775807 ∧ Six w g (q.length * 6) u ∧ Base.In false (fun b => b < K) w m u c := by
  obtain ⟨us, h1, h2, h3⟩ := h.own
  simp at h2
  obtain ⟨a, cap, e, hc1, hc2⟩ := pshape h1
  rcases h1.1.2 with ⟨e1, e2⟩ | ⟨g, cap', cur, e1, -⟩
  · omega
  · rw [e1] at h1 e ⊢
    cases e
    have h6 := ownV_six h1 q.length (by omega)
    rw [Nat.zero_add] at h6
    have h7 := h3 q.length (by omega) (by simp)
    simp at h7
    exact ⟨g, cap, _, by rw [h2], by omega, hc2, h6, h7⟩
/-- One fewer. -/
theorem own_front {w : World} {lo g n cap : Nat} {us : List Value} {u : Value} (h : OwnV w lo (.slice (some ⟨g, 0, none⟩) n cap) (us ++ [u])) : OwnV w lo (.slice (some ⟨g, 0, none⟩) us.length cap) us := by
  have hs : Sixes us := fun x hx => h.2 x (List.mem_append_left _ hx)
  refine ⟨⟨flat_len hs, ?_⟩, hs⟩
  rcases h.1.2 with ⟨e, e0⟩ | ⟨g', cp, cur, e, hb, hc, hle, hm, hsz, htk⟩
  · cases e
  · cases e
    rw [List.length_append] at hle htk
    simp at hle
    refine .inr ⟨g, cap, cur, rfl, hb, hc, by omega, hm, hsz, ?_⟩
    rw [flat_append] at htk
    have e2 := congrArg (List.take (us.length * 6)) htk
    rw [List.take_append_of_le_length (Nat.le_of_eq (flat_len hs).symm), List.take_of_length_le (Nat.le_of_eq (flat_len hs)), List.take_take] at e2
    rw [← e2]
    congr 1
    simp
set_option maxRecDepth 20000 in
set_option maxHeartbeats 1600000 in
theorem top_c {K m : Nat} {w : World} {M : Nat} {tv sv pv : Value} {q : List C} {c : C} (h : Mc K m w M tv sv pv (q ++ [c])) (hq : q.length ≤ 65536) :
    Calls Tryz.prog 99 #[ptr M] w fun e w' => ∃ u, e = .returned u ∧ Base.In false (fun b => b < K) w' m u c ∧ Below w.heap.size w w' := by
  obtain ⟨g, cap, u, rfl, hc1, hc2, h6, hin⟩ := h.last
  obtain ⟨W0, hW0⟩ : ∃ W0, w.alloc (.cells #[.int .i64 0, .bool false, .int .i64 0, .string ⟨#[]⟩, .slice none 0 0, .slice none 0 0] 46) = W0 := ⟨_, rfl⟩
  have b0 : Below w.heap.size w W0 := by rw [← hW0]; exact (Below.refl _ w).alloc (Nat.le_refl _) _
  have x0 : W0.heap[w.heap.size]? = some (.cells #[.int .i64 0, .bool false, .int .i64 0, .string ⟨#[]⟩, .slice none 0 0, .slice none 0 0] 46 (0, 0)) := by rw [← hW0]; exact heap_alloc_new w _
  obtain ⟨r0, r1, r2, r3, r4, r5⟩ := six_box x0
  have f0 := frozen_box x0 0
  have f1 := frozen_box x0 1
  have f2 := frozen_box x0 2
  have f3 := frozen_box x0 3
  have f4 := frozen_box x0 4
  have f5 := frozen_box x0 5
  have kM : W0.cell? ⟨M, 2, none⟩ = some (.slice (some ⟨g, 0, none⟩) (q.length + 1) cap) := by
    have := (b0.block M h.lt).trans h.box
    simp [World.cell?, this]
  have hin0 := hin.below b0
  obtain ⟨an, ln, cn, al, ll, cl, rfl⟩ := in_shape hin
  obtain ⟨y0, y1, y2, y3, y4, y5, E, e0, e1, e2, e3, e4, e5⟩ := six_below h6 b0
  simp only [Value.agg.injEq, Array.mk.injEq, List.cons.injEq, and_true] at E
  obtain ⟨rfl, rfl, rfl, rfl, rfl, rfl⟩ := E
  have hgn : g ≠ w.heap.size := by have := h.own_ne (g := g) rfl; omega
  have hgm : w.heap.size ≠ g := fun e => hgn e.symm
  have hMn : M ≠ w.heap.size := by have := h.lt; omega
  have hMm : w.heap.size ≠ M := fun e => hMn e.symm
  have hKw : K ≤ w.heap.size := by have := h.lt; have := h.low; omega
  have HB0 : Hid (Below w.heap.size w W0) := b0
  have HIN : Hid _ := hin0
  have HX : Hid _ := x0
  generalize q.length = n at *
  have hi1 : (n : Int) < (n : Int) + 1 := by omega
  have hi2 : (0 : Int) ≤ (n : Int) := by omega
  have hi3 : IntKind.i64.wrap (n : Int) = (n : Int) := by rw [IntKind.wrap_i64]; omega
  clear h h6 hin hin0 b0 x0
  go_enter Tryz.func99, Tryz.ntmps99
  go_wp2_with fail
  go_region_held3 (fun w' => w'.cell? ⟨M, 2, none⟩ = some (.slice (some ⟨g, 0, none⟩) (n + 1) cap) ∧ w'.cell? ⟨g, n * 6, none⟩ = some (.int .i64 c.k) ∧ w'.cell? ⟨g, n * 6 + 1, none⟩ = some (.bool c.b) ∧ w'.cell? ⟨g, n * 6 + 2, none⟩ = some (.int .i64 c.i) ∧ w'.cell? ⟨g, n * 6 + 3, none⟩ = some (.string c.s) ∧ w'.cell? ⟨g, n * 6 + 4, none⟩ = some (.slice an ln cn) ∧ w'.cell? ⟨g, n * 6 + 5, none⟩ = some (.slice al ll cl)) (go_keep) (fail)
  obtain ⟨W9, hW9⟩ : ∃ W9, (((((W0.setCell ⟨w.heap.size, 0, none⟩ (.int .i64 c.k)).setCell ⟨w.heap.size, 1, none⟩ (.bool c.b)).setCell ⟨w.heap.size, 2, none⟩ (.int .i64 c.i)).setCell ⟨w.heap.size, 3, none⟩ (.string c.s)).setCell ⟨w.heap.size, 4, none⟩ (.slice an ln cn)).setCell ⟨w.heap.size, 5, none⟩ (.slice al ll cl) = W9 := ⟨_, rfl⟩
  obtain ⟨q1, q2, q3, q4⟩ := set6 _ _ _ _ _ _ HX.out hW9
  have q2' : ∀ b, b ≠ w.heap.size → W9.drew.heap[b]? = W0.heap[b]? := q2
  have HQ1 : Hid (W9.drew.heap[w.heap.size]? = _) := q1
  have HI9 : Hid (Base.In false (fun b => b < K) W9.drew m (vl c.k c.b c.i c.s (.slice an ln cn) (.slice al ll cl)) c) := Base.In.keep (w := W0) (fun b hb hb2 => q2' b (Nat.ne_of_lt (Nat.lt_of_lt_of_le hb hKw))) HIN.out
  have HB9 : Hid (Below w.heap.size w W9.drew) := (q4 _ _ (Nat.le_refl _) HB0.out).drew
  clear q1 q2 q2' q3 q4
  go_wp2_with fail
  try rw [hW9]
  refine bodyPost_ret (results_cell_row rfl _ W9.drew w.heap.size 46 _ (0, 0) _ rfl HQ1.out Tryz.underlying46 rfl (by kernel_rfl)) rfl ?_
  exact ⟨_, rfl, HI9.out, HB9.out⟩
theorem list_snoc {α : Type} (us : List α) (n : Nat) (h : us.length = n + 1) : ∃ us' u, us = us' ++ [u] ∧ us'.length = n := by
  refine ⟨us.take n, us[n], ?_, by simp; omega⟩
  rw [← List.take_succ_eq_append_getElem, List.take_of_length_le (by omega)]
theorem mc_front {K m : Nat} {w : World} {M g n cap : Nat} {tv sv : Value} {q : List C} {c : C} (h : Mc K m w M tv sv (.slice (some ⟨g, 0, none⟩) n cap) (q ++ [c])) : Mc K m (w.setCell ⟨M, 2, none⟩ (.slice (some ⟨g, 0, none⟩) q.length cap)) M tv sv (.slice (some ⟨g, 0, none⟩) q.length cap) q := by
  obtain ⟨us, h1, h2, h3⟩ := h.own
  have hg := h.own_ne (g := g) rfl
  have hlow := h.low
  obtain ⟨us', u, rfl, hl⟩ := list_snoc us q.length (by rw [h2]; simp)
  have hf := own_front h1
  rw [hl] at hf
  have hk : ∀ b, b ≠ M → (w.setCell ⟨M, 2, none⟩ (.slice (some ⟨g, 0, none⟩) q.length cap)).heap[b]? = w.heap[b]? := fun b hb => Below.heap_setCell _ _ _ _ hb
  refine ⟨?_, h.low, us', ⟨Fresh.own_keep hf.1 fun b hb => hk b (by cases hb; show g ≠ M; omega), hf.2⟩, hl, fun j a b => ?_⟩
  · have := block_set (j := 2) h.box (.slice (some ⟨g, 0, none⟩) q.length cap)
    exact this
  · have := h3 j (by simp; omega) (by simp; omega)
    rw [List.getElem_append_left a, List.getElem_append_left b] at this
    exact this.keep fun b hb hb2 => hk b (by have : b < K := hb; omega)
set_option maxRecDepth 20000 in
set_option maxHeartbeats 3200000 in
theorem take_c {K m : Nat} {w : World} {M : Nat} {tv sv pv : Value} {q : List C} {c : C} (h : Mc K m w M tv sv pv (q ++ [c])) (hq : q.length ≤ 65536) :
    Calls Tryz.prog 81 #[ptr M] w fun e w' => ∃ u pv', e = .returned u ∧ Base.In false (fun b => b < K) w' m u c ∧ Mc K m w' M tv sv pv' q ∧ Km M pv w w' ∧ pv'.ownBlock = pv.ownBlock := by
  obtain ⟨W0, hW0⟩ : ∃ W0, w.alloc (.cells #[.int .i64 0, .bool false, .int .i64 0, .string ⟨#[]⟩, .slice none 0 0, .slice none 0 0] 46) = W0 := ⟨_, rfl⟩
  have b0 : Below w.heap.size w W0 := by rw [← hW0]; exact (Below.refl _ w).alloc (Nat.le_refl _) _
  have s0 : W0.heap.size = w.heap.size + 1 := by rw [← hW0]; simp
  have x0 : W0.heap[w.heap.size]? = some (.cells #[.int .i64 0, .bool false, .int .i64 0, .string ⟨#[]⟩, .slice none 0 0, .slice none 0 0] 46 (0, 0)) := by rw [← hW0]; exact heap_alloc_new w _
  have cT := top_c (h.below b0) hq
  have HH : Hid _ := h
  have HB0 : Hid _ := b0
  have HX0 : Hid _ := x0
  clear h b0 x0
  go_enter Tryz.func81, Tryz.ntmps81
  go_wp2_with fail
  try rw [hW0]
  refine cT.mono ?_
  rintro e W1 ⟨u, rfl, hin1, b1⟩
  obtain ⟨an, ln, cn, al, ll, cl, rfl⟩ := in_shape hin1
  have hs1 := b1.size
  obtain ⟨W2, hW2⟩ : ∃ W2, W1.alloc (.cells #[.int .i64 c.k, .bool c.b, .int .i64 c.i, .string c.s, .slice an ln cn, .slice al ll cl] 46) = W2 := ⟨_, rfl⟩
  have b2 : Below W1.heap.size W1 W2 := by rw [← hW2]; exact (Below.refl _ W1).alloc (Nat.le_refl _) _
  have x2 : W2.heap[W1.heap.size]? = some (.cells #[.int .i64 c.k, .bool c.b, .int .i64 c.i, .string c.s, .slice an ln cn, .slice al ll cl] 46 (0, 0)) := by rw [← hW2]; exact heap_alloc_new W1 _
  have HB2 : Hid (Below w.heap.size w W2) := (HB0.out.trans (b1.mono (by omega))).trans (b2.mono (by omega))
  have HI2 : Hid _ := hin1.below b2
  have hm2 := HH.out.below HB2.out
  obtain ⟨g, cap, u, rfl, hc1, hc2, h6, -⟩ := hm2.last
  have kM : W2.cell? ⟨M, 2, none⟩ = some (.slice (some ⟨g, 0, none⟩) (q.length + 1) cap) := by simp [World.cell?, hm2.box]
  have fM := frozen_box hm2.box 2
  have HM2 : Hid _ := hm2
  have HX1 : Hid (W2.heap[w.heap.size]? = some (.cells #[.int .i64 0, .bool false, .int .i64 0, .string ⟨#[]⟩, .slice none 0 0, .slice none 0 0] 46 (0, 0))) := (b2.block _ (by omega)).trans ((b1.block _ (by omega)).trans HX0.out)
  have HX2 : Hid _ := x2
  obtain ⟨z0, z1, z2, z3, z4, z5⟩ := six_box x2
  have HLT : Hid (M < w.heap.size ∧ K ≤ M) := ⟨HH.out.lt, HH.out.low⟩
  obtain ⟨n, hn⟩ : ∃ n, q.length = n := ⟨_, rfl⟩
  rw [hn] at hc1 kM
  have HN : Hid (q.length = n) := hn
  have hi2 : (0 : Int) ≤ (n : Int) := by omega
  have hi3 : IntKind.i64.wrap (n : Int) = (n : Int) := by rw [IntKind.wrap_i64]; omega
  have hi4 : (n : Int) ≤ (cap : Int) := by omega
  clear cT b1 b2 x2 hin1 hm2 h6 hn
  go_wp2_with fail
  try rw [hW2]
  refine wp_region_held_drew (S := fun _ => True) (by kernel_rfl) (by trivial) (fun hHeld => ?_)
  refine tkH 0 rfl ?_; try simp only [ptH]
  refine tkH 1 rfl ?_; try simp only [ptH]
  refine tkH 2 rfl ?_; try simp only [ptH]
  refine tkH 3 rfl ?_; try simp only [ptH]
  refine tkH 5 rfl ?_; try simp only [ptH]
  refine tkH 6 rfl ?_; try simp only [ptH]
  refine tkH 7 rfl ?_; try simp only [ptH]
  refine rdH [4, 8] ?_
  refine AllReadyH.cons rfl (fun K0 hK => ?_) (AllReadyH.cons rfl (fun K0 hK => ?_) (AllReadyH.nil))
  · go_simp
    refine hK.out _ _ (by trivial) (fun hHeld => ?_)
    clear hK K0
    try simp only [ptH]
    refine rdH [8] ?_
    refine alH rfl fun K0 hK => ?_
    go_simp
    refine hK.out _ _ (by trivial) (fun hHeld => ?_)
    clear hK K0
    try simp only [ptH]
    refine tkH 9 rfl ?_; try simp only [ptH]
    refine tkH 10 rfl ?_; try simp only [ptH]
    refine tkH 11 rfl ?_; try simp only [ptH]
    refine tkH 12 rfl ?_; try simp only [ptH]
    refine tkH 13 rfl ?_; try simp only [ptH]
    refine rdH [14] ?_
    refine alH rfl fun K0 hK => ?_
    go_simp
    refine hK.out _ _ (by trivial) (fun hHeld => ?_)
    clear hK K0
    try simp only [ptH]
    refine dnH ?_
    obtain ⟨W3, hW3⟩ : ∃ W3, W2.setCell ⟨M, 2, none⟩ (.slice (some ⟨g, 0, none⟩) n cap) = W3 := ⟨_, rfl⟩
    have m3 : Mc K m W3 M tv sv (.slice (some ⟨g, 0, none⟩) n cap) q := by
      rw [← hW3]
      have := mc_front HM2.out
      rw [HN.out] at this
      exact this
    have k3 : ∀ b, b ≠ M → W3.heap[b]? = W2.heap[b]? := fun b hb => by rw [← hW3]; exact Below.heap_setCell _ _ _ _ hb
    have s3 : W3.heap.size = W2.heap.size := by rw [← hW3]; simp
    have x3 := (k3 W1.heap.size (by have := HLT.out; omega)).trans HX2.out
    have y3 := (k3 w.heap.size (by have := HLT.out; omega)).trans HX1.out
    have b3 : Below M w W3 := by rw [← hW3]; exact (HB2.out.mono (Nat.le_of_lt HLT.out.1)).setCell (p := ⟨M, 2, none⟩) (Nat.le_refl _) _
    obtain ⟨W9, hW9⟩ : ∃ W9, (((((W3.setCell ⟨w.heap.size, 0, none⟩ (.int .i64 c.k)).setCell ⟨w.heap.size, 1, none⟩ (.bool c.b)).setCell ⟨w.heap.size, 2, none⟩ (.int .i64 c.i)).setCell ⟨w.heap.size, 3, none⟩ (.string c.s)).setCell ⟨w.heap.size, 4, none⟩ (.slice an ln cn)).setCell ⟨w.heap.size, 5, none⟩ (.slice al ll cl) = W9 := ⟨_, rfl⟩
    obtain ⟨q1, q2, q3, q4⟩ := set6 _ _ _ _ _ _ y3 hW9
    have HE : Hid (∃ u pv', (Ending.returned (vl c.k c.b c.i c.s (.slice an ln cn) (.slice al ll cl)) = .returned u) ∧ Base.In false (fun b => b < K) W9.drew m u c ∧ Mc K m W9.drew M tv sv pv' q ∧ Km M (.slice (some ⟨g, 0, none⟩) (q.length + 1) cap) w W9.drew ∧ pv'.ownBlock = (Value.slice (some ⟨g, 0, none⟩) (q.length + 1) cap).ownBlock) := by
      have hlt := HLT.out
      have hg := HH.out.own_ne (g := g) rfl
      refine ⟨_, _, rfl, HI2.out.keep fun b hb hb2 => ?_, m3.keep fun b hb hb2 => ?_, ⟨(q4 _ _ (by omega) b3).drew, fun b hb h1 h2 => ?_⟩, rfl⟩
      · show W9.heap[b]? = _
        rw [q2 b (by have : b < K := hb; omega), k3 b (by have : b < K := hb; omega)]
      · refine q2 b ?_
        rcases hb2 with hb2 | hb2 | hb2
        · omega
        · omega
        · cases hb2; show g ≠ w.heap.size; omega
      · show W9.heap[b]? = _
        rw [q2 b (by omega), k3 b h1, HB2.out.block b hb]
    have HQ1 : Hid (W9.drew.heap[w.heap.size]? = _) := q1
    obtain ⟨u0, u1, u2, u3, u4, u5⟩ := six_box x3
    obtain ⟨v0', v1', v2', v3', v4', v5'⟩ := six_box y3
    have g0 := frozen_box y3 0
    have g1 := frozen_box y3 1
    have g2 := frozen_box y3 2
    have g3 := frozen_box y3 3
    have g4 := frozen_box y3 4
    have g5 := frozen_box y3 5
    clear m3 k3 x3 y3 b3 q1 q2 q3 q4
    try rw [hW3]
    go_wp2_with fail
    try rw [hW9]
    refine bodyPost_ret (results_cell_row rfl _ W9.drew w.heap.size 46 _ (0, 0) _ rfl HQ1.out Tryz.underlying46 rfl (by kernel_rfl)) rfl ?_
    exact HE.out
  · go_simp
    refine hK.out _ _ (by trivial) (fun hHeld => ?_)
    clear hK K0
    try simp only [ptH]
    refine tkH 9 rfl ?_; try simp only [ptH]
    refine tkH 10 rfl ?_; try simp only [ptH]
    refine rdH [4] ?_
    refine alH rfl fun K0 hK => ?_
    go_simp
    refine hK.out _ _ (by trivial) (fun hHeld => ?_)
    clear hK K0
    try simp only [ptH]
    refine tkH 11 rfl ?_; try simp only [ptH]
    refine tkH 12 rfl ?_; try simp only [ptH]
    refine tkH 13 rfl ?_; try simp only [ptH]
    refine rdH [14] ?_
    refine alH rfl fun K0 hK => ?_
    go_simp
    refine hK.out _ _ (by trivial) (fun hHeld => ?_)
    clear hK K0
    try simp only [ptH]
    refine dnH ?_
    obtain ⟨W3, hW3⟩ : ∃ W3, W2.setCell ⟨M, 2, none⟩ (.slice (some ⟨g, 0, none⟩) n cap) = W3 := ⟨_, rfl⟩
    have m3 : Mc K m W3 M tv sv (.slice (some ⟨g, 0, none⟩) n cap) q := by
      rw [← hW3]
      have := mc_front HM2.out
      rw [HN.out] at this
      exact this
    have k3 : ∀ b, b ≠ M → W3.heap[b]? = W2.heap[b]? := fun b hb => by rw [← hW3]; exact Below.heap_setCell _ _ _ _ hb
    have s3 : W3.heap.size = W2.heap.size := by rw [← hW3]; simp
    have x3 := (k3 W1.heap.size (by have := HLT.out; omega)).trans HX2.out
    have y3 := (k3 w.heap.size (by have := HLT.out; omega)).trans HX1.out
    have b3 : Below M w W3 := by rw [← hW3]; exact (HB2.out.mono (Nat.le_of_lt HLT.out.1)).setCell (p := ⟨M, 2, none⟩) (Nat.le_refl _) _
    obtain ⟨W9, hW9⟩ : ∃ W9, (((((W3.setCell ⟨w.heap.size, 0, none⟩ (.int .i64 c.k)).setCell ⟨w.heap.size, 1, none⟩ (.bool c.b)).setCell ⟨w.heap.size, 2, none⟩ (.int .i64 c.i)).setCell ⟨w.heap.size, 3, none⟩ (.string c.s)).setCell ⟨w.heap.size, 4, none⟩ (.slice an ln cn)).setCell ⟨w.heap.size, 5, none⟩ (.slice al ll cl) = W9 := ⟨_, rfl⟩
    obtain ⟨q1, q2, q3, q4⟩ := set6 _ _ _ _ _ _ y3 hW9
    have HE : Hid (∃ u pv', (Ending.returned (vl c.k c.b c.i c.s (.slice an ln cn) (.slice al ll cl)) = .returned u) ∧ Base.In false (fun b => b < K) W9.drew m u c ∧ Mc K m W9.drew M tv sv pv' q ∧ Km M (.slice (some ⟨g, 0, none⟩) (q.length + 1) cap) w W9.drew ∧ pv'.ownBlock = (Value.slice (some ⟨g, 0, none⟩) (q.length + 1) cap).ownBlock) := by
      have hlt := HLT.out
      have hg := HH.out.own_ne (g := g) rfl
      refine ⟨_, _, rfl, HI2.out.keep fun b hb hb2 => ?_, m3.keep fun b hb hb2 => ?_, ⟨(q4 _ _ (by omega) b3).drew, fun b hb h1 h2 => ?_⟩, rfl⟩
      · show W9.heap[b]? = _
        rw [q2 b (by have : b < K := hb; omega), k3 b (by have : b < K := hb; omega)]
      · refine q2 b ?_
        rcases hb2 with hb2 | hb2 | hb2
        · omega
        · omega
        · cases hb2; show g ≠ w.heap.size; omega
      · show W9.heap[b]? = _
        rw [q2 b (by omega), k3 b h1, HB2.out.block b hb]
    have HQ1 : Hid (W9.drew.heap[w.heap.size]? = _) := q1
    obtain ⟨u0, u1, u2, u3, u4, u5⟩ := six_box x3
    obtain ⟨v0', v1', v2', v3', v4', v5'⟩ := six_box y3
    have g0 := frozen_box y3 0
    have g1 := frozen_box y3 1
    have g2 := frozen_box y3 2
    have g3 := frozen_box y3 3
    have g4 := frozen_box y3 4
    have g5 := frozen_box y3 5
    clear m3 k3 x3 y3 b3 q1 q2 q3 q4
    try rw [hW3]
    go_wp2_with fail
    try rw [hW9]
    refine bodyPost_ret (results_cell_row rfl _ W9.drew w.heap.size 46 _ (0, 0) _ rfl HQ1.out Tryz.underlying46 rfl (by kernel_rfl)) rfl ?_
    exact HE.out
end Go.Proofs.YthjbknncbhkinaaGreatDoor.MBx
