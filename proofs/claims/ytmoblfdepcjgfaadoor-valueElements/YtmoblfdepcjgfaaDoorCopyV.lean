/- Copies of values: contracts of CopyValue and CopyValues. -/
import Derived.Test.YtmoblfdepcjgfaaDoorLend
namespace Go.Proofs.YtmoblfdepcjgfaaDoor.CopyV
open Go.RowKit Go.Proofs.YtmoblfdepcjgfaaDoor.Base Go.Proofs.YtmoblfdepcjgfaaDoor.Lend
set_option linter.unusedVariables false

def CopiesV (m : Nat) : Prop := ∀ (v : Value) (c : C) (w : World), In false All w m v c →
    Calls Tryd.prog 22 #[v] w fun e w' => ∃ u, e = .returned u ∧ In false (Rg w.heap.size w'.heap.size) w' m u c ∧ Below w.heap.size w w'
theorem copyTx_c (v : Value) (L : List ByteArray) (w : World) (h : Tx false All w v L) :
    Calls Tryd.prog 44 #[v] w fun e w' => ∃ u, e = .returned u ∧ Tx false (Rg w.heap.size w'.heap.size) w' u L ∧ Below w.heap.size w w' := by
  refine (copyT_c v L w h).mono ?_
  rintro e w' ⟨u, rfl, hne, ho, hb⟩
  obtain ⟨a, cap, rfl, hlc, hm, hlen, hsz, hnil, hN⟩ := h.out
  rcases ho.2 with ⟨h0, _⟩ | ⟨g, cap2, cur, rfl, _, _, hn2, hm2, _⟩
  · exact absurd h0 hne
  · exact ⟨_, rfl, ⟨_, cap2, rfl, hn2, hm2, hlen, hsz, (fun h => by cases h), .inr ⟨g, 0, rfl, ⟨(ownT_lt ho).1, (ownT_lt ho).2⟩, ownT_cell ho, fun h => by cases h⟩⟩, hb⟩
set_option maxRecDepth 20000 in
set_option maxHeartbeats 800000 in
theorem copyVs_of (m : Nat) (hm : CopiesV m) (v : Value) (l : List C) (w : World) (h : InL false All w m v l) :
    Calls Tryd.prog 45 #[v] w fun e w' => ∃ u, e = .returned u ∧ InL false (Rg w.heap.size w'.heap.size) w' m u l ∧ Below w.heap.size w w' := by
  obtain ⟨i0, hi, hz0, hz1, hz2⟩ := info_parts info25
  obtain ⟨a, cap, rfl, hlc, hcm, hlen, hnil, hL⟩ := h.out
  clear h
  go_enter Tryd.func45, Tryd.ntmps45
  go_wp2_with fail
  go_loopw [3, 4] (fun out i wr => ∃ (q : Nat) (us : List Value), q ≤ l.length ∧ us.length = q ∧ i = .int .i64 q ∧ OwnV wr w.heap.size out us ∧
      (∀ j (h : j < us.length) (h' : j < l.length), In false (El w.heap.size wr.heap.size out) wr m us[j] l[j]) ∧ Below w.heap.size w wr) (fun _ i _ => l.length - (intOf i).toNat)
  case atStart => exact ⟨0, [], by omega, rfl, rfl, ⟨World.ownsRow_nil _ _ _ _, fun x hx => by cases hx⟩, fun j h => by simp at h, Below.refl _ _⟩
  case round =>
    obtain ⟨q, us, hq, hus, rfl, hown, hels, hb⟩ := hrel
    have hsz := hb.size
    by_cases hlt : q < l.length
    · obtain ⟨g, o, u, rfl, -, hu, hin⟩ := elem_at hL hlt
      have hu := six_below hu hb
      have hin := hin.below hb
      obtain ⟨v0, v1, v2, v3, v4, v5, rfl, d0, d1, d2, d3, d4, d5⟩ := hu
      have c10 := hm _ _ wr hin
      have HH : Hid (∀ j (h : j < us.length) (h' : j < l.length), In false (El w.heap.size wr.heap.size u3) wr m us[j] l[j]) := hels
      have Hus : Hid (us.length = q) := hus
      have Hown : Hid (OwnV wr w.heap.size u3 us) := hown
      have hrow := hown.1
      have hlen2 : us.length = q := hus
      clear hels hin hus hown
      go_wp2_with (first
        | (go_at_call 22; refine c10.mono ?_; rintro e w1 ⟨u, rfl, hin1, b1⟩; obtain ⟨x0, x1, x2, x3, x4, x5, rfl, hone⟩ := hin1.six; have hrow1 := World.ownsRow.alloc (own_below hrow b1) (.cells #[x0, x1, x2, x3, x4, x5] 25); have hs1 := b1.size)
        | (at_builtin; refine wpList_append_own_at _ rfl _ _ 23 rfl w.heap.size 25 i0 (.agg #[.int .i64 0, .bool false, .int .i64 0, .string ⟨#[]⟩, .slice none 0 0, .slice none 0 0]) 6 88 Tryd.underlying23 hi hz0 hz1 hz2 rfl (by decide) _ _ _ rfl hrow1 ⟨w1.heap.size, 0, none⟩ 1 1 [x0, x1, x2, x3, x4, x5] rfl rfl (new_cells w1 _ 25) hone (by unfold maxLen; omega) (by omega) (by simp; omega) ?_))
      intro v' w2 hown' hgrow _ hat
      have hels2 := els_step HH.out Hus.out hlt Hown.out b1 hin1 hsz _ hgrow hat
      have hb3 := ((hb.trans (b1.mono hsz)).alloc (by omega) (.cells #[x0, x1, x2, x3, x4, x5] 25)).grown hgrow (by simp; omega) (fun k hk => (World.ownsRow.lt hrow k hk).1)
      have ho2 : OwnV w2 w.heap.size v' (us ++ [.agg #[x0, x1, x2, x3, x4, x5]]) := by
        refine ⟨?_, sixes_snoc Hown.out.2 ⟨_, _, _, _, _, _, rfl, hone⟩⟩
        rw [flat_append, List.length_append, hlen2]
        exact hown'
      have hlen3 : (us ++ [Value.agg #[x0, x1, x2, x3, x4, x5]]).length = q + 1 := by simp [hlen2]
      obtain ⟨us2, hus2⟩ : ∃ us2, us ++ [Value.agg #[x0, x1, x2, x3, x4, x5]] = us2 := ⟨_, rfl⟩
      rw [hus2] at hels2 ho2 hlen3
      have H2 : Hid (∀ j (h : j < us2.length) (h' : j < l.length), In false (El w.heap.size w2.heap.size v') w2 m us2[j] l[j]) := fun j h h' => hels2 j h h'
      clear hown' hgrow hat hrow hrow1 Hown HH Hus hels2 hus2 hin1 hone c10
      go_wp2_with fail
      go_roundw
      case rel => exact ⟨q + 1, us2, by omega, hlen3, by go_num, ho2, H2.out, hb3⟩
      case measure => simp only [intOf]; omega
    · obtain rfl : q = l.length := by omega
      have hnlt : decide ((l.length : Int) < (l.length : Int)) = false := by simp
      have HH : Hid (∀ j (h : j < us.length) (h' : j < l.length), In false (El w.heap.size wr.heap.size u3) wr m us[j] l[j]) := hels
      have Hown : Hid (OwnV wr w.heap.size u3 us) := hown
      have Hus : Hid (us.length = l.length) := hus
      clear hels hus hown
      go_wp2_with fail
      go_ret
      have hus := Hus.out
      have ho2 := Hown.out
      rcases ho2.1.2 with ⟨h0, h1⟩ | ⟨g, cap2, cur, rfl, _, _, hn2, hm2, _⟩
      · have hl0 : l = [] := List.eq_nil_of_length_eq_zero (by omega)
        subst hl0
        exact ⟨_, rfl, ⟨none, 0, h0, by simp, by simp, by simp, fun _ => rfl, .inl ⟨rfl, rfl⟩⟩, hb⟩
      · have ho3 := ho2
        rw [hus] at ho3
        refine ⟨_, rfl, ?_, hb⟩
        try rw [hus]
        refine ⟨some ⟨g, 0, none⟩, cap2, rfl, by omega, hm2, hlen, (fun h => by cases h), .inr ⟨g, 0, rfl, ⟨(ownV_lt ho2).1, (ownV_lt ho2).2⟩, ?_, fun h => by cases h⟩⟩
        intro j hj
        exact ⟨_, ownV_six ho2 j (by omega), (HH.out j (by omega) hj).weak (fun b hS => ⟨hS.1, hS.2.1⟩) false id m (Nat.le_refl _)⟩
theorem copyV_of (m : Nat) (hm : ∀ (v : Value) (l : List C) (w : World), InL false All w m v l →
      Calls Tryd.prog 45 #[v] w fun e w' => ∃ u, e = .returned u ∧ InL false (Rg w.heap.size w'.heap.size) w' m u l ∧ Below w.heap.size w w') : CopiesV (m + 1) := by
  intro v c w h
  obtain ⟨k, b, i, s, n, l⟩ := c
  rw [in_iff] at h
  obtain ⟨nv, lv, rfl, hk, hi, hs, hn, hl⟩ := h
  obtain ⟨W0, hW0⟩ : ∃ W0, (w.alloc (.cells #[.int .i64 k, .bool b, .int .i64 i, .string s, nv, lv] 25)).alloc (.cells #[.int .i64 0, .bool false, .int .i64 0, .string ⟨#[]⟩, .slice none 0 0, .slice none 0 0] 25) = W0 := ⟨_, rfl⟩
  have hb0 : Below w.heap.size w W0 := by rw [← hW0]; exact ((Below.refl _ w).alloc (Nat.le_refl _) _).alloc (by simp) _
  have hsz0 : W0.heap.size = w.heap.size + 2 := by rw [← hW0]; simp
  have hx0 : W0.heap[w.heap.size]? = some (.cells #[.int .i64 k, .bool b, .int .i64 i, .string s, nv, lv] 25) := by
    rw [← hW0, Below.heap_alloc _ _ _ (by simp), heap_alloc_new]
  have hx1 : W0.heap[w.heap.size + 1]? = some (.cells #[.int .i64 0, .bool false, .int .i64 0, .string ⟨#[]⟩, .slice none 0 0, .slice none 0 0] 25) := by
    have := heap_alloc_new (w.alloc (.cells #[.int .i64 k, .bool b, .int .i64 i, .string s, nv, lv] 25)) (.cells #[.int .i64 0, .bool false, .int .i64 0, .string ⟨#[]⟩, .slice none 0 0, .slice none 0 0] 25)
    rwa [hW0, World.size_alloc] at this
  have c34 := copyTx_c nv n W0 (hn.below hb0)
  obtain ⟨-, -, -, -, e4, -⟩ := six_box hx0
  go_enter Tryd.func22, Tryd.ntmps22
  go_wp2_with fail
  refine c34.mono ?_
  rintro e w1 ⟨nu, rfl, ht1, b1⟩
  have hy0 := (b1.block w.heap.size (by omega)).trans hx0
  have hy1 := (b1.block (w.heap.size + 1) (by omega)).trans hx1
  clear c34 hx0 hx1 hW0
  obtain ⟨d0, d1, d2, d3, d4, d5⟩ := six_box hy0
  have f4 := frozen_box hy0 4
  have hs1 := b1.size
  obtain ⟨W1, hW1⟩ : ∃ W1, w1.setCell ⟨w.heap.size, 4, none⟩ nu = W1 := ⟨_, rfl⟩
  have hz0 : W1.heap[w.heap.size]? = some (.cells #[.int .i64 k, .bool b, .int .i64 i, .string s, nu, lv] 25 (0, 0)) := by rw [← hW1, block_set hy0]; rfl
  have hz1 : W1.heap[w.heap.size + 1]? = some (.cells #[.int .i64 0, .bool false, .int .i64 0, .string ⟨#[]⟩, .slice none 0 0, .slice none 0 0] 25 (0, 0)) := by rw [← hW1, Below.heap_setCell _ _ _ _ (by simp)]; exact hy1
  have hsz1 : W1.heap.size = w1.heap.size := by rw [← hW1]; simp [World.setCell]
  have hb1 : Below w.heap.size w W1 := by rw [← hW1]; exact (hb0.trans (b1.mono (by omega))).setCell (p := ⟨w.heap.size, 4, none⟩) (Nat.le_refl _) _
  have ht2 : Tx false (Rg W0.heap.size w1.heap.size) W1 nu n := ht1.keep fun b hS hb => by rw [← hW1]; exact Below.heap_setCell _ _ _ _ (by have := hS.1; simp; omega)
  have c35 := hm lv l W1 (hl.below hb1)
  obtain ⟨an, cn, rfl, -⟩ := ht1.out
  clear ht1 hy0 hy1
  obtain ⟨-, -, -, -, -, k5⟩ := six_box hz0
  go_wp2_with fail
  refine c35.mono ?_
  rintro e w2 ⟨lu, rfl, hl2, b2⟩
  have hy0 := (b2.block w.heap.size (by omega)).trans hz0
  have hy1 := (b2.block (w.heap.size + 1) (by omega)).trans hz1
  clear c35 hz0 hz1 hW1 d0 d1 d2 d3 d4 d5 f4 k5
  have f5 := frozen_box hy0 5
  have hs2 := b2.size
  obtain ⟨d0, d1, d2, d3, d4, d5⟩ := six_box hy0
  obtain ⟨W2, hW2⟩ : ∃ W2, w2.setCell ⟨w.heap.size, 5, none⟩ lu = W2 := ⟨_, rfl⟩
  have hz0 : W2.heap[w.heap.size]? = some (.cells #[.int .i64 k, .bool b, .int .i64 i, .string s, .slice an n.length cn, lu] 25 (0, 0)) := by rw [← hW2, block_set hy0]; rfl
  have hz1 : W2.heap[w.heap.size + 1]? = some (.cells #[.int .i64 0, .bool false, .int .i64 0, .string ⟨#[]⟩, .slice none 0 0, .slice none 0 0] 25 (0, 0)) := by rw [← hW2, Below.heap_setCell _ _ _ _ (by simp)]; exact hy1
  have hsz2 : W2.heap.size = w2.heap.size := by rw [← hW2]; simp [World.setCell]
  have hb2 : Below w.heap.size w W2 := by rw [← hW2]; exact (hb1.trans (b2.mono (by omega))).setCell (p := ⟨w.heap.size, 5, none⟩) (Nat.le_refl _) _
  have ht3 : Tx false (Rg W0.heap.size w1.heap.size) W2 (.slice an n.length cn) n := ht2.keep fun b hS hb => by
    rw [← hW2, Below.heap_setCell _ _ _ _ (by have := hS.1; simp; omega)]
    exact b2.block b hb
  have hl3 : InL false (Rg W1.heap.size w2.heap.size) W2 m lu l := hl2.keep fun b hS hb => by rw [← hW2]; exact Below.heap_setCell _ _ _ _ (by have := hS.1; simp; omega)
  obtain ⟨al, cl, rfl, -⟩ := hl2.out
  clear hl2 ht2 hy0 hy1
  obtain ⟨k0, k1, k2, k3, k4, k5⟩ := six_box hz0
  obtain ⟨e0, e1, e2, e3, e4, e5⟩ := six_box hz1
  have g0 := frozen_box hz1 0
  have g1 := frozen_box hz1 1
  have g2 := frozen_box hz1 2
  have g3 := frozen_box hz1 3
  have g4 := frozen_box hz1 4
  have g5 := frozen_box hz1 5
  go_wp2_with fail
  obtain ⟨W3, hW3⟩ : ∃ W3, ((((((W2.setCell ⟨w.heap.size + 1, 0, none⟩ (.int .i64 k)).setCell ⟨w.heap.size + 1, 1, none⟩ (.bool b)).setCell ⟨w.heap.size + 1, 2, none⟩ (.int .i64 i)).setCell ⟨w.heap.size + 1, 3, none⟩ (.string s)).setCell
    ⟨w.heap.size + 1, 4, none⟩ (.slice an n.length cn)).setCell ⟨w.heap.size + 1, 5, none⟩ (.slice al l.length cl)) = W3 := ⟨_, rfl⟩
  rw [hW3]
  obtain ⟨q1, q2, q3, q4⟩ := set6 _ _ _ _ _ _ hz1 hW3
  refine bodyPost_ret (results_cell_row rfl _ W3 (w.heap.size + 1) 25 _ (0, 0) _ rfl q1 Tryd.underlying25 rfl (by kernel_rfl)) rfl ?_
  refine ⟨_, rfl, ?_, q4 _ _ (by omega) hb2⟩
  rw [in_iff]
  refine ⟨_, _, rfl, hk, hi, hs, ?_, ?_⟩
  · exact (ht3.keep fun b hS hb => q2 b (by have := hS.1; omega)).weak (fun b hS => ⟨by have := hS.1; omega, by have := hS.2; omega⟩) false id
  · exact (hl3.keep fun b hS hb => q2 b (by have := hS.1; omega)).weak (fun b hS => ⟨by have := hS.1; omega, by have := hS.2; omega⟩) false id m (Nat.le_refl _)
theorem copiesV : ∀ m, CopiesV m := by
  intro m
  induction m with
  | zero => intro v c w h; rw [In] at h; exact h.elim
  | succ m ih => exact copyV_of m (copyVs_of m ih)
theorem copyV_c (m : Nat) (v : Value) (c : C) (w : World) (h : In false All w m v c) :
    Calls Tryd.prog 22 #[v] w fun e w' => ∃ u, e = .returned u ∧ In false (Rg w.heap.size w'.heap.size) w' m u c ∧ Below w.heap.size w w' := copiesV m v c w h
end Go.Proofs.YtmoblfdepcjgfaaDoor.CopyV
