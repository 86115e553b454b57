/- Contract of Longest. -/
import Derived.Test.YtkjgbmoimobgaaaIQuiet
namespace Go.Proofs.Ytkjgbmoimobgaaa.ILong
open Go.RowKit Go.Shelf Go.Proofs.Ytkjgbmoimobgaaa.IPure Go.Proofs.Ytkjgbmoimobgaaa.IBase Go.Proofs.Ytkjgbmoimobgaaa.ILen Go.Proofs.Ytkjgbmoimobgaaa.IBack Go.Proofs.Ytkjgbmoimobgaaa.IQuiet
set_option linter.unusedVariables false
attribute [local go_sem] Oper.semAt_some

/-- The places behind rounds. -/
def sts (L : List Int) (n : Nat) (pre : List (Fin n)) : Nat → Nat := (pre.map (·.val)).foldl (stp L) fun _ => 0
theorem sts_nil (L : List Int) (n : Nat) : sts L n [] = fun _ => 0 := rfl
theorem sts_snoc (L : List Int) (n : Nat) (pre : List (Fin n)) (x : Fin n) : sts L n (pre ++ [x]) = stp L (sts L n pre) x.val := by simp [sts]
theorem dw_pst (L : List Int) : ∀ k, (dw L.length k).foldl (stp L) (fun _ => 0) = pst L k := by
  intro k
  induction k with
  | zero => rfl
  | succ k ih => rw [dw_succ, List.foldl_append, ih]; rfl
theorem sts_all {L : List Int} {ys : List (Fin L.length)} (h : ys.map (·.val) = dw L.length L.length) : sts L L.length ys = fin L := by
  unfold sts
  rw [h, dw_pst]
  rfl
theorem sts_lt (L : List Int) (n : Nat) (hn : 0 < n) : ∀ (pre : List (Fin n)) (k : Nat), sts L n pre k < n := by
  intro pre
  induction h : pre.length generalizing pre with
  | zero => intro k; rw [List.eq_nil_of_length_eq_zero h]; exact hn
  | succ m ih =>
    intro k
    rcases snoc_of pre with rfl | ⟨r, x, rfl⟩
    · simp at h
    · rw [sts_snoc]
      unfold stp
      have := ih r (by simpa using h)
      split
      · unfold upd
        split
        · exact x.2
        · exact this k
      · exact this k
/-- A row keeps, where only what is no row turns. -/
theorem oi_own {β : Type} (B g n cap : Nat) (f : β → List Int) : Own (fun s W => Oi W B (.slice (some ⟨g, 0, none⟩) n cap) (f s)) := by
  intro s X Y row hs hg hrow
  refine hs.grown hg (.inr fun e => ?_)
  obtain ⟨o, ho, hc⟩ := hrow g e.symm
  rcases hs.2 with ⟨h, _⟩ | ⟨g', cap', cur, h, _, hh, _⟩
  · cases h
  · cases h
    rw [hh] at ho
    cases ho
    cases hc
theorem body_set {w W : World} {A q k c m n1 : Nat} {t t' : TypeId} {v0 kv pv : Value} {f : Nat → Int} (x : Int) (c0 : Boxed W A t v0) (c1 : Boxed W q 3 kv) (c2 : Boxed W (q + 2) t' pv) (cR : Oi W (q + 1) (.slice (some ⟨q + 1, 0, none⟩) c c) (ro c f))
    (hB : Below w.heap.size w W) (hA : A < q) (hw : w.heap.size ≤ q) :
    KeepsFrom n1 W ((W.drewN m).setCell ⟨q + 1, k, none⟩ (.int .i64 x)) ∧ Kq n1 (q + 1) W ((W.drewN m).setCell ⟨q + 1, k, none⟩ (.int .i64 x)) ∧
      (((Boxed ((W.drewN m).setCell ⟨q + 1, k, none⟩ (.int .i64 x)) A t v0 ∧ Boxed ((W.drewN m).setCell ⟨q + 1, k, none⟩ (.int .i64 x)) q 3 kv) ∧ Boxed ((W.drewN m).setCell ⟨q + 1, k, none⟩ (.int .i64 x)) (q + 2) t' pv) ∧
        Oi ((W.drewN m).setCell ⟨q + 1, k, none⟩ (.int .i64 x)) (q + 1) (.slice (some ⟨q + 1, 0, none⟩) c c) (ro c (upd f k x))) ∧ Below w.heap.size w ((W.drewN m).setCell ⟨q + 1, k, none⟩ (.int .i64 x)) := by
  have c0' : Boxed (W.drewN m) A t v0 := c0
  have c1' : Boxed (W.drewN m) q 3 kv := c1
  have c2' : Boxed (W.drewN m) (q + 2) t' pv := c2
  have cR' : Oi (W.drewN m) (q + 1) (.slice (some ⟨q + 1, 0, none⟩) c c) (ro c f) := cR
  have h := KeepsOthers.setCell (W.drewN m) ⟨q + 1, k, none⟩ (.int .i64 x)
  have hot : ∀ b, b ≠ q + 1 → ((W.drewN m).setCell ⟨q + 1, k, none⟩ (.int .i64 x)).heap[b]? = W.heap[b]? := fun b hb => (Below.heap_setCell (W.drewN m) ⟨q + 1, k, none⟩ (.int .i64 x) b hb)
  have hs := (cR'.set k x).1
  rw [ro_set] at hs
  exact ⟨⟨h.size, fun i o _ => h.same i o⟩, ⟨h.size, fun b _ hb => hot b hb⟩, ⟨⟨⟨(hot _ (by omega)).trans c0, (hot _ (by omega)).trans c1⟩, (hot _ (by omega)).trans c2⟩, hs⟩, (below_drewN hB).setCell (p := ⟨q + 1, k, none⟩) (by dsimp only; omega) _⟩
theorem cast_upd (p : Nat → Nat) (k x : Nat) : (fun j => ((upd p k x j : Nat) : Int)) = upd (fun j => (p j : Int)) k (x : Int) := by
  funext j
  unfold upd
  split <;> rfl
set_option maxRecDepth 100000 in
set_option maxHeartbeats 4000000 in
theorem long_c {w : World} {v : Value} {L : List Int} (hv : Ix w v L) (hn : L.length ≤ 17592186044416) :
    Calls Try.prog 9 #[v] w fun e w' => ∃ u, e = .returned u ∧ Oi w' w.heap.size u (ro (K L) fun k => (fin L k : Int)) ∧ Below w.heap.size w w' := by
  have hb0 : Below w.heap.size w (w.alloc (.cells #[v] 22)) := (Below.refl _ w).alloc (Nat.le_refl _) _
  have hx0 := Boxed.new w 22 v
  have hs0 : (w.alloc (.cells #[v] 22)).heap.size = w.heap.size + 1 := by simp
  have cL := lengths_c (hv.below hb0) hn
  rw [hs0] at cL
  have hKn := K_le L
  obtain ⟨a, cap, rfl, hl, hm, hnil, hL⟩ := hv
  refine (callsIn_wide (n := 6)).1 ?_
  refine callsIn_of_wp_marks Try.func9 rfl trivial ?_ rfl
  simp only [Try.ntmps9, List.size_toArray, List.length_cons, List.length_nil, Nat.reduceAdd, Nat.reduceSub, Array.replicate_succ, Array.replicate_zero, List.push_toArray, List.append_toArray, List.nil_append, List.cons_append]
  gi_wp2_with fail
  refine ⟨trivial, ?_⟩
  refine (callsIn_wide.2 cL).mono ?_
  rintro e w1 ⟨rfl, hO, hb1⟩
  have hmk := make_ints (n := K L) (by omega)
  gi_wp2_with fail
  refine ⟨trivial, ?_⟩
  refine (back_in _ _ _ _ _).mono ?_
  rintro e w2 ⟨rfl, rfl⟩
  have hs1 := hb1.size
  simp only [World.size_alloc] at hs1 ⊢
  obtain ⟨W0, hW0⟩ : ∃ W0, ((((w1.alloc (.cells #[.int .i64 (K L)] 3)).alloc (.cells (mz (K L)) 3)).alloc (.cells #[.slice (some ⟨w1.heap.size + 1, 0, none⟩) (K L) (K L)] 22)).alloc (.cells #[.slice (some ⟨w.heap.size + 1, 0, none⟩) L.length L.length] 22)) = W0 := ⟨_, rfl⟩
  have hsz : W0.heap.size = w1.heap.size + 4 := by rw [← hW0]; simp
  have hB10 : Below w1.heap.size w1 W0 := by
    rw [← hW0]
    exact ((((Below.refl _ w1).alloc (Nat.le_refl _) _).alloc (by simp) _).alloc (by simp; omega) _).alloc (by simp; omega) _
  have hB0 : Below w.heap.size w W0 := (hb0.trans (hb1.mono (by omega))).trans (hB10.mono (by omega))
  have b0 : Boxed W0 w.heap.size 22 (.slice a L.length cap) := (hB10.block _ (by omega)).trans ((hb1.block _ (by omega)).trans hx0)
  have bA := hO.below hB10
  have b1 : Boxed W0 w1.heap.size 3 (.int .i64 (K L)) := by
    rw [← hW0]
    exact (((Boxed.new w1 3 _).alloc _).alloc _).alloc _
  have bR : Oi W0 (w1.heap.size + 1) (.slice (some ⟨w1.heap.size + 1, 0, none⟩) (K L) (K L)) (ro (K L) fun _ => 0) := by
    have h := oi_made (n := K L) (by omega) (w1.alloc (.cells #[.int .i64 (K L)] 3))
    rw [World.size_alloc] at h
    rw [← hW0]
    exact World.ownsRow.alloc (World.ownsRow.alloc h _) _
  have b2 : Boxed W0 (w1.heap.size + 2) 22 (.slice (some ⟨w1.heap.size + 1, 0, none⟩) (K L) (K L)) := by
    have h := Boxed.new ((w1.alloc (.cells #[.int .i64 (K L)] 3)).alloc (.cells (mz (K L)) 3)) 22 (.slice (some ⟨w1.heap.size + 1, 0, none⟩) (K L) (K L))
    simp only [World.size_alloc] at h
    rw [← hW0]
    exact h.alloc _
  have b3 : Boxed W0 (w1.heap.size + 3) 22 (.slice (some ⟨w.heap.size + 1, 0, none⟩) L.length L.length) := by
    have h := Boxed.new (((w1.alloc (.cells #[.int .i64 (K L)] 3)).alloc (.cells (mz (K L)) 3)).alloc (.cells #[.slice (some ⟨w1.heap.size + 1, 0, none⟩) (K L) (K L)] 22)) 22 (.slice (some ⟨w.heap.size + 1, 0, none⟩) L.length L.length)
    simp only [World.size_alloc] at h
    rw [← hW0]
    exact h
  gi_wp2_with fail
  try rw [hW0]
  clear hW0
  have hoA : ∀ j, j < L.length → W0.cell? ⟨w.heap.size + 1, j, none⟩ = some (.int .i64 ((en L j : Nat) : Int)) := fun j hj => by
    have := (bA.at (k := j) (by rw [ro_len]; exact hj)).1
    rwa [Nat.zero_add, ro_get] at this
  have hmx : Try.prog.follows .mixedOrders = true := by kernel_rfl
  refine wpIn_rangeFunc_ownG rfl (by omega) (gf := 30) (lb := #[.pointer (some ⟨w1.heap.size + 1 + 1 + 1, 0, none⟩)]) rfl trivial (enters_of Try.func30 (by kernel_rfl) rfl)
    (back_stops 5 W0.heap.size (w1.heap.size + 1) (w1.heap.size + 1 + 1 + 1) (w.heap.size + 1) L.length L.length (fun j => ((en L j : Nat) : Int)) W0 (Nat.le_refl _) (by omega) (by omega) (by omega) (by omega) hn (Nat.le_refl _) b3.cell hoA)
    (fun {_ _ _} h k => Kq.trans h k) (Kq.book (Nat.le_refl _)) (Below.refl _ _) (fun _ => rfl)
    (fun pre W => (((Boxed W w.heap.size 22 (.slice a L.length cap) ∧ Boxed W w1.heap.size 3 (.int .i64 (K L))) ∧ Boxed W (w1.heap.size + 2) 22 (.slice (some ⟨w1.heap.size + 1, 0, none⟩) (K L) (K L))) ∧ Oi W (w1.heap.size + 1) (.slice (some ⟨w1.heap.size + 1, 0, none⟩) (K L) (K L)) (ro (K L) fun k => (sts L L.length pre k : Int))) ∧ Below w.heap.size w W)
    (fun _ _ _ => False)
    (OwnFrom.and (OwnFrom.and (OwnFrom.and (OwnFrom.and (Own.from (boxed_own _ _ _) _) (Own.from (boxed_own _ _ _) _)) (Own.from (boxed_own _ _ _) _)) (Own.from (oi_own _ _ _ _ _) _)) (ownFrom_below (Nat.le_refl _) (by omega)))
    (fun _ _ _ _ _ h _ _ => h)
    ⟨⟨⟨⟨b0, b1⟩, b2⟩, bR⟩, hB0⟩
    (fun x => { tmps := #[.slice a L.length cap, .pointer (some ⟨w.heap.size, 0, none⟩), .slice none 0 0, .slice (some ⟨w.heap.size + 1, 0, none⟩) L.length L.length, .pointer (some ⟨w1.heap.size, 0, none⟩), .pointer (some ⟨w1.heap.size + 1 + 1, 0, none⟩), .int .i64 (x.val : Int), .int .i64 ((en L x.val : Nat) : Int), .tuple #[.slice (some ⟨w.heap.size + 1, 0, none⟩) L.length L.length, .int .i64 (K L)], .slice a L.length cap, .tuple #[.slice (some ⟨w.heap.size + 1, 0, none⟩) L.length L.length, .int .i64 (K L)], .slice (some ⟨w.heap.size + 1, 0, none⟩) L.length L.length, .int .i64 (K L), .int .i64 (K L), .slice (some ⟨w1.heap.size + 1, 0, none⟩) (K L) (K L), .slice (some ⟨w.heap.size + 1, 0, none⟩) L.length L.length, .func (.func 30) #[] #[.pointer (some ⟨w1.heap.size + 1 + 1 + 1, 0, none⟩)], .int .i64 (x.val : Int), .int .i64 ((en L x.val : Nat) : Int), undef, undef, undef, undef, undef, undef, undef, undef, undef, undef, undef, undef, undef, undef, undef, undef, undef, undef, undef, undef, undef, undef, undef], defers := [] }) ?assign ?body ?done ?stop
  case assign =>
    intro l x W K hK
    gi_wp2
    exact hK
  case body =>
    rintro l pre ⟨x, hx⟩ W ⟨⟨⟨⟨c0, c1⟩, c2⟩, cR⟩, hB⟩ _
    dsimp only
    rcases hL with rfl | ⟨g, o, rfl, hc⟩
    · simp at hx
    have k0 := c0.cell
    have k1 := c1.cell
    have k2 := c2.cell
    have hep := en_pos L x
    have hel := en_le hx
    have hcx := below_cell (hc x hx) hB
    rw [← va_eq hx] at hcx
    have hst := sts_snoc L L.length pre ⟨x, hx⟩
    have hpl := sts_lt L L.length (by omega) pre
    have hBx := hB.size
    by_cases hE : en L x = K L
    · have HS : Hid (sts L L.length (pre ++ [⟨x, hx⟩]) = upd (sts L L.length pre) (K L - 1) x) := by
        show _ = _
        rw [hst]
        unfold stp
        rw [if_pos (.inl hE), hE]
      have hR1 := cR.at (k := K L - 1) (by rw [ro_len]; omega)
      rw [Nat.zero_add, ro_get] at hR1
      obtain ⟨r1, r2⟩ := hR1
      rw [hE] at hep ⊢
      have HF := fun m => body_set (w := w) (k := K L - 1) (m := m) (n1 := W0.heap.size) (x : Int) c0 c1 c2 cR hB (by omega) (by omega)
      clear hst hpl hE hc
      have HC := cast_upd (sts L L.length pre) (K L - 1) x
      rw [← HC, ← HS.out] at HF
      have HF2 : Hid (∀ m, _) := HF
      clear HF HC HS
      generalize K L = q at *
      have e1 : ((q : Int) == (q : Int)) = true := by simp
      gi_wp2
      refine region_quiet (by kernel_rfl) hmx (by kernel_rfl) ?_
      repeat (gi_big_quiet_step (fail))
      refine wpQuietIn_nil ?_
      intro _ hw'
      obtain ⟨nq, hw''⟩ := hw'
      subst hw''
      gi_wp2
      exact HF2.out nq
    · have hR0 := cR.at (k := en L x) (by rw [ro_len]; omega)
      rw [Nat.zero_add, ro_get] at hR0
      obtain ⟨r0, -⟩ := hR0
      have hpx := hpl (en L x)
      have hcp := below_cell (hc _ hpx) hB
      rw [← va_eq hpx] at hcp
      have e1 : ((en L x : Int) == (K L : Int)) = false := by simp; omega
      have hElt : en L x < K L := by omega
      by_cases hV : va L x < va L (sts L L.length pre (en L x))
      · have HS : Hid (sts L L.length (pre ++ [⟨x, hx⟩]) = upd (sts L L.length pre) (en L x - 1) x) := by
          show _ = _
          rw [hst]
          unfold stp
          rw [if_pos (.inr hV)]
        have hR1 := cR.at (k := en L x - 1) (by rw [ro_len]; omega)
        rw [Nat.zero_add, ro_get] at hR1
        obtain ⟨r1, r2⟩ := hR1
        have HF := fun m => body_set (w := w) (k := en L x - 1) (m := m) (n1 := W0.heap.size) (x : Int) c0 c1 c2 cR hB (by omega) (by omega)
        have HC := cast_upd (sts L L.length pre) (en L x - 1) x
        rw [← HC, ← HS.out] at HF
        have HF2 : Hid (∀ m, _) := HF
        have d1 : decide (va L x < va L (sts L L.length pre (en L x))) = true := decide_eq_true hV
        clear HF HC HS hst hpl hc hV hE
        generalize sts L L.length pre (en L x) = y at *
        generalize sts L L.length pre (en L x - 1) = y2 at *
        generalize va L y = z1 at *
        generalize va L x = z2 at *
        generalize en L x = E at *
        generalize K L = q at *
        gi_wp2
        refine region_quiet (by kernel_rfl) hmx (by kernel_rfl) ?_
        repeat (gi_big_quiet_step (fail))
        refine wpQuietIn_nil ?_
        intro _ hw'
        obtain ⟨nq, hw''⟩ := hw'
        subst hw''
        gi_wp2
        exact HF2.out nq
      · have HS : Hid (sts L L.length (pre ++ [⟨x, hx⟩]) = sts L L.length pre) := by
          show _ = _
          rw [hst]
          unfold stp
          rw [if_neg (by rintro (h | h); exact hE h; exact hV h)]
        have d1 : decide (va L x < va L (sts L L.length pre (en L x))) = false := decide_eq_false hV
        have HI : Hid (∀ m, KeepsFrom W0.heap.size W (W.drewN m) ∧ Kq W0.heap.size (w1.heap.size + 1) W (W.drewN m) ∧ (((Boxed (W.drewN m) w.heap.size 22 (.slice (some ⟨g, o, none⟩) L.length cap) ∧ Boxed (W.drewN m) w1.heap.size 3 (.int .i64 (K L))) ∧ Boxed (W.drewN m) (w1.heap.size + 2) 22 (.slice (some ⟨w1.heap.size + 1, 0, none⟩) (K L) (K L))) ∧ Oi (W.drewN m) (w1.heap.size + 1) (.slice (some ⟨w1.heap.size + 1, 0, none⟩) (K L) (K L)) (ro (K L) fun k => (sts L L.length (pre ++ [⟨x, hx⟩]) k : Int))) ∧ Below w.heap.size w (W.drewN m)) := fun m => by
          rw [HS.out]
          exact ⟨⟨Nat.le_refl _, fun _ _ _ h _ => h⟩, ⟨Nat.le_refl _, fun _ _ _ => rfl⟩, ⟨⟨⟨c0, c1⟩, c2⟩, cR⟩, below_drewN hB⟩
        clear HS hst hpl hc hV hE
        generalize sts L L.length pre (en L x) = y at *
        generalize va L y = z1 at *
        generalize va L x = z2 at *
        generalize en L x = E at *
        generalize K L = q at *
        gi_wp2
        refine region_quiet (by kernel_rfl) hmx (by kernel_rfl) ?_
        repeat (gi_big_quiet_step (fail))
        refine wpQuietIn_nil ?_
        intro _ hw'
        obtain ⟨nq, hw''⟩ := hw'
        subst hw''
        gi_wp2
        exact HI.out nq
  case done =>
    rintro D ys W hD hS ⟨⟨⟨⟨c0, c1⟩, c2⟩, cR⟩, hB⟩ hK
    rw [sts_all hS] at cR
    have k2 := c2.cell
    clear hL hoA
    gi_wp2
    refine ⟨by simp, .inl ⟨_, _, rfl, run_takeDeferred hK, ?_⟩⟩
    refine ⟨.slice (some ⟨w1.heap.size + 1, 0, none⟩) (K L) (K L), ?_, _, rfl, Oi.mono (B := w1.heap.size + 1) (ownsRow_putObj cR _ hK rfl) (by omega), hB.trans (belowK_b (w := w) (Nat.le_refl _) W D _ _ (by omega) hK rfl rfl)⟩
    simp [results, Try.f9, go_sem]
  case stop =>
    rintro D c pre W _ _ h _
    exact h.elim
end Go.Proofs.Ytkjgbmoimobgaaa.ILong
