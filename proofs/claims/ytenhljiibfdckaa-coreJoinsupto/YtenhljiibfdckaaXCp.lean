/- Copies of expressions: contracts of CopyExpr and CopyExprs. -/
import Derived.Test.YtenhljiibfdckaaXLend
namespace Go.Proofs.Ytenhljiibfdckaa.XCp
open Go.RowKit Go.Proofs.Ytenhljiibfdckaa.EPure Go.Proofs.Ytenhljiibfdckaa.XBase
open Go.Proofs.Ytenhljiibfdckaa.Base (nx All heap_alloc_new add_none Keep)
open Go.Proofs.Ytenhljiibfdckaa.XLend
set_option linter.unusedVariables false
def Copies (m : Nat) : Prop := ∀ (v : Value) (c : Ex) (w : World), In false All w m v c →
    Calls Try.prog 31 #[v] w fun e w' => ∃ u, e = .returned u ∧ In false (Rg w.heap.size w'.heap.size) w' m u c ∧ Below w.heap.size w w'
set_option maxRecDepth 20000 in
set_option maxHeartbeats 800000 in
theorem copyXs_of (m : Nat) (hm : Copies m) (v : Value) (l : List Ex) (w : World) (h : InL false All w m v l) :
    Calls Try.prog 25 #[v] w fun e w' => ∃ u, e = .returned u ∧ InL false (Rg w.heap.size w'.heap.size) w' m u l ∧ Below w.heap.size w w' := by
  obtain ⟨i0, hi, hz0, hz1, hz2⟩ := info_parts infoX
  obtain ⟨a, cap, rfl, hlc, hcm, hlen, hnil, hL⟩ := h
  go_enter Try.func25, Try.ntmps25
  go_wp2_with fail
  go_loopw [3, 4] (fun out i wr => ∃ (q : Nat) (us : List Value), q ≤ l.length ∧ us.length = q ∧ i = .int .i64 q ∧ OwnV wr w.heap.size out us ∧
      (∀ j (h : j < us.length) (h' : j < l.length), In false (El w.heap.size wr.heap.size out) wr m us[j] l[j]) ∧ Below w.heap.size w wr) (fun _ i _ => l.length - (intOf i).toNat)
  case atStart => exact ⟨0, [], by omega, rfl, rfl, ⟨World.ownsRow_nil _ _ _ _, fun x hx => by cases hx⟩, fun j h => by simp at h, Below.refl _ _⟩
  case round =>
    obtain ⟨q, us, hq, hus, rfl, hown, hels, hb⟩ := hrel
    have hsz := hb.size
    by_cases hlt : q < l.length
    · obtain ⟨g, o, u, rfl, -, hu, hin⟩ := elem_at hL hlt
      have hu := four_below hu hb
      have hin := hin.below hb
      obtain ⟨v0, v1, v2, v3, rfl, d0, d1, d2, d3⟩ := hu
      have c10 := hm _ _ wr hin
      have HH : Hid (∀ j (h : j < us.length) (h' : j < l.length), In false (El w.heap.size wr.heap.size u3) wr m us[j] l[j]) := hels
      have Hus : Hid (us.length = q) := hus
      have Hown : Hid (OwnV wr w.heap.size u3 us) := hown
      have hrow := hown.1
      have hlen2 : us.length = q := hus
      clear hels hin hus hown
      go_wp2_with (first
        | (go_at_call 31; refine c10.mono ?_; rintro e w1 ⟨u, rfl, hin1, b1⟩; obtain ⟨x0, x1, x2, x3, rfl, hone⟩ := (In.four hin1); have hrow1 := World.ownsRow.alloc (own_below hrow b1) (.cells #[x0, x1, x2, x3] 35); have hs1 := b1.size)
        | (at_builtin; refine wpList_append_own_at _ rfl _ _ 33 rfl w.heap.size 35 i0 (.agg #[.int .i64 0, .int .i64 0, .string ⟨#[]⟩, .slice none 0 0]) 4 56 Try.underlying33 hi hz0 hz1 hz2 rfl (by decide) _ _ _ rfl hrow1 ⟨w1.heap.size, 0, none⟩ 1 1 [x0, x1, x2, x3] rfl rfl (new_cells w1 _ 35) hone (by unfold maxLen; omega) (by omega) (by simp; omega) ?_))
      intro v' w2 hown' hgrow _ hat
      have hels2 := els_step HH.out Hus.out hlt Hown.out b1 hin1 hsz _ hgrow hat
      have hb3 := ((hb.trans (b1.mono hsz)).alloc (by omega) (.cells #[x0, x1, x2, x3] 35)).grown hgrow (by simp; omega) (fun k hk => (World.ownsRow.lt hrow k hk).1)
      have ho2 : OwnV w2 w.heap.size v' (us ++ [.agg #[x0, x1, x2, x3]]) := by
        refine ⟨?_, fours_snoc Hown.out.2 ⟨_, _, _, _, rfl, hone⟩⟩
        rw [flat_append, List.length_append, hlen2]
        exact hown'
      have hlen3 : (us ++ [Value.agg #[x0, x1, x2, x3]]).length = q + 1 := by simp [hlen2]
      obtain ⟨us2, hus2⟩ : ∃ us2, us ++ [Value.agg #[x0, x1, x2, x3]] = us2 := ⟨_, rfl⟩
      rw [hus2] at hels2 ho2 hlen3
      have H2 : Hid (∀ j (h : j < us2.length) (h' : j < l.length), In false (El w.heap.size w2.heap.size v') w2 m us2[j] l[j]) := fun j h h' => hels2 j h h'
      clear hown' hgrow hat hrow hrow1 Hown HH Hus hels2 hus2 hin1 hone c10
      go_wp2_with fail
      go_roundw
      case rel => exact ⟨q + 1, us2, by omega, hlen3, by go_num, ho2, H2.out, hb3⟩
      case measure => simp only [intOf]; omega
    · obtain rfl : q = l.length := by omega
      have hnlt : decide ((l.length : Int) < (l.length : Int)) = false := by simp
      have HH : Hid (∀ j (h : j < us.length) (h' : j < l.length), In false (El w.heap.size wr.heap.size u3) wr m us[j] l[j]) := hels
      have Hown : Hid (OwnV wr w.heap.size u3 us) := hown
      have Hus : Hid (us.length = l.length) := hus
      clear hels hus hown
      go_wp2_with fail
      go_ret
      have hus := Hus.out
      have ho2 := Hown.out
      rcases ho2.1.2 with ⟨h0, h1⟩ | ⟨g, cap2, cur, rfl, _, _, hn2, hm2, _⟩
      · have hl0 : l = [] := List.eq_nil_of_length_eq_zero (by omega)
        subst hl0
        exact ⟨_, rfl, ⟨none, 0, h0, by simp, by simp, by simp, fun _ => rfl, .inl ⟨rfl, rfl⟩⟩, hb⟩
      · have ho3 := ho2
        rw [hus] at ho3
        refine ⟨_, rfl, ?_, hb⟩
        try rw [hus]
        refine ⟨some ⟨g, 0, none⟩, cap2, rfl, by omega, hm2, hlen, (fun h => by cases h), .inr ⟨g, 0, rfl, ⟨(ownV_lt ho2).1, (ownV_lt ho2).2⟩, ?_, fun h => by cases h⟩⟩
        intro j hj
        exact ⟨_, ownV_four ho2 j (by omega), (HH.out j (by omega) hj).weak (fun b hS => ⟨hS.1, hS.2.1⟩) false id m (Nat.le_refl _)⟩
set_option maxRecDepth 20000 in
theorem copyX_of (m : Nat) (hm : ∀ (v : Value) (l : List Ex) (w : World), InL false All w m v l →
      Calls Try.prog 25 #[v] w fun e w' => ∃ u, e = .returned u ∧ InL false (Rg w.heap.size w'.heap.size) w' m u l ∧ Below w.heap.size w w') : Copies (m + 1) := by
  intro v c w h
  obtain ⟨o, i, s, l⟩ := c
  rw [in_iff] at h
  obtain ⟨lv, rfl, ho, hi, hs, hl⟩ := h
  obtain ⟨W0, hW0⟩ : ∃ W0, (w.alloc (.cells #[.int .i64 o, .int .i64 i, .string s, lv] 35)).alloc (.cells #[.int .i64 0, .int .i64 0, .string ⟨#[]⟩, .slice none 0 0] 35) = W0 := ⟨_, rfl⟩
  have hb0 : Below w.heap.size w W0 := by rw [← hW0]; exact ((Below.refl _ w).alloc (Nat.le_refl _) _).alloc (by simp) _
  have hsz0 : W0.heap.size = w.heap.size + 2 := by rw [← hW0]; simp
  have hx0 : W0.heap[w.heap.size]? = some (.cells #[.int .i64 o, .int .i64 i, .string s, lv] 35) := by
    rw [← hW0, Below.heap_alloc _ _ _ (by simp), heap_alloc_new]
  have hx1 : W0.heap[w.heap.size + 1]? = some (.cells #[.int .i64 0, .int .i64 0, .string ⟨#[]⟩, .slice none 0 0] 35) := by
    have := heap_alloc_new (w.alloc (.cells #[.int .i64 o, .int .i64 i, .string s, lv] 35)) (.cells #[.int .i64 0, .int .i64 0, .string ⟨#[]⟩, .slice none 0 0] 35)
    rwa [hW0, World.size_alloc] at this
  have c35 := hm lv l W0 (hl.below hb0)
  obtain ⟨-, -, -, e3⟩ := four_box hx0
  go_enter Try.func31, Try.ntmps31
  go_wp2_with fail
  refine c35.mono ?_
  rintro e w2 ⟨lu, rfl, hl2, b2⟩
  have hy0 := (b2.block w.heap.size (by omega)).trans hx0
  have hy1 := (b2.block (w.heap.size + 1) (by omega)).trans hx1
  clear c35 hx0 hx1 hW0 e3
  have f3 := frozen_box hy0 3
  have hs2 := b2.size
  obtain ⟨d0, d1, d2, d3⟩ := four_box hy0
  obtain ⟨W2, hW2⟩ : ∃ W2, w2.setCell ⟨w.heap.size, 3, none⟩ lu = W2 := ⟨_, rfl⟩
  have hz0 : W2.heap[w.heap.size]? = some (.cells #[.int .i64 o, .int .i64 i, .string s, lu] 35 (0, 0)) := by rw [← hW2, block_set hy0]; rfl
  have hz1 : W2.heap[w.heap.size + 1]? = some (.cells #[.int .i64 0, .int .i64 0, .string ⟨#[]⟩, .slice none 0 0] 35 (0, 0)) := by rw [← hW2, Below.heap_setCell _ _ _ _ (by simp)]; exact hy1
  have hsz2 : W2.heap.size = w2.heap.size := by rw [← hW2]; simp [World.setCell]
  have hb2 : Below w.heap.size w W2 := by rw [← hW2]; exact (hb0.trans (b2.mono (by omega))).setCell (p := ⟨w.heap.size, 3, none⟩) (Nat.le_refl _) _
  have hl3 : InL false (Rg W0.heap.size w2.heap.size) W2 m lu l := hl2.keep fun b hS hb => by rw [← hW2]; exact Below.heap_setCell _ _ _ _ (by have := hS.1; simp; omega)
  obtain ⟨al, cl, rfl, -⟩ := hl2
  clear hy0 hy1
  obtain ⟨k0, k1, k2, k3⟩ := four_box hz0
  obtain ⟨e0, e1, e2, e3⟩ := four_box hz1
  have g0 := frozen_box hz1 0
  have g1 := frozen_box hz1 1
  have g2 := frozen_box hz1 2
  have g3 := frozen_box hz1 3
  go_wp2_with fail
  obtain ⟨W3, hW3⟩ : ∃ W3, ((((W2.setCell ⟨w.heap.size + 1, 0, none⟩ (.int .i64 o)).setCell ⟨w.heap.size + 1, 1, none⟩ (.int .i64 i)).setCell
    ⟨w.heap.size + 1, 2, none⟩ (.string s)).setCell ⟨w.heap.size + 1, 3, none⟩ (.slice al l.length cl)) = W3 := ⟨_, rfl⟩
  rw [hW3]
  obtain ⟨q1, q2, q3, q4⟩ := set4 _ _ _ _ hz1 hW3
  refine bodyPost_ret (results_cell_row rfl _ W3 (w.heap.size + 1) 35 _ (0, 0) _ rfl q1 Try.underlying35 rfl (by kernel_rfl)) rfl ?_
  refine ⟨_, rfl, ?_, q4 _ _ (by omega) hb2⟩
  rw [in_iff]
  refine ⟨_, rfl, ho, hi, hs, ?_⟩
  exact (hl3.keep fun b hS hb => q2 b (by have := hS.1; omega)).weak (m := m) (fun b hS => ⟨by have := hS.1; omega, by have := hS.2; omega⟩) false id m (Nat.le_refl _)
theorem copyAll : ∀ m, Copies m := by
  intro m
  induction m with
  | zero => intro v c w h; rw [XBase.In] at h; exact h.elim
  | succ m ih => exact copyX_of m (copyXs_of m ih)
end Go.Proofs.Ytenhljiibfdckaa.XCp
