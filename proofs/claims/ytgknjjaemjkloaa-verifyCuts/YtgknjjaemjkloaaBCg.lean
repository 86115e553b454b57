/- Rows of one's own, by a set of blocks; a program put together of them. -/
import Derived.Test.YtgknjjaemjkloaaTRow
import Derived.Test.YtgknjjaemjkloaaBCq
import Derived.Test.YtgknjjaemjkloaaYRt
namespace Go.Proofs.Ytgknjjaemjkloaa.TLend
open Go.RowKit Go.Proofs.Ytgknjjaemjkloaa.TBase
set_option linter.unusedVariables false

theorem copyA_c (v : Value) (L : List (ByteArray × ByteArray)) (w : World) (h : Ax false All w v L) :
    Calls Try.prog 107 #[v] w fun e w' => ∃ u, e = .returned u ∧ u ≠ .slice none 0 0 ∧ OwnA w' w.heap.size u L ∧ Below w.heap.size w w' := by
  obtain ⟨i0, hi, hz0, hz1, hz2⟩ := info_parts infoA
  obtain ⟨a, cap, rfl, hlc, hm, hlen, hsz, hnil, hN⟩ := h
  have ho : OwnA (w.alloc (.cells #[] 176)) w.heap.size (.slice (some ⟨w.heap.size, 0, none⟩) 0 0) [] := by
    refine ⟨rfl, .inr ⟨w.heap.size, 0, #[], rfl, Nat.le_refl _, heap_alloc_new w _, Nat.le_refl _, by simp [maxLen], rfl, rfl⟩⟩
  have hb : Below w.heap.size w (w.alloc (.cells #[] 176)) := (Below.refl _ w).alloc (Nat.le_refl _) _
  cases a with
  | none =>
    obtain rfl := hnil rfl
    obtain rfl : L = [] := List.eq_nil_of_length_eq_zero (by omega)
    go_enter Try.func107, Try.ntmps107
    go_wp2_with fail
    go_ret
    exact ⟨_, rfl, (fun h => by cases h), ho, hb⟩
  | some x =>
    obtain ⟨g, o, sp⟩ := x
    have hnews : ∀ j u, (flatA L)[j]? = some u → (w.alloc (.cells #[] 176)).cell? ((⟨g, o, sp⟩ : Addr).add j) = some u := by
      intro j u hj
      have hl : j < L.length * 2 := by
        have := (List.getElem?_eq_some_iff.1 hj).1
        rwa [flatA_len] at this
      have hq : j / 2 < L.length := by omega
      obtain ⟨g', o', e, -, hc, hc2⟩ := attr_at hN hq
      cases e
      rw [add_none]
      have hget := flatA_get L (j / 2) hq
      rcases Nat.mod_two_eq_zero_or_one j with hj2 | hj2
      · have e : j / 2 * 2 = j := by omega
        rw [e] at hget hc
        rw [hget.1] at hj
        cases hj
        exact below_cell hc hb
      · have e : j / 2 * 2 + 1 = j := by omega
        rw [e] at hget
        rw [show o + j / 2 * 2 + 1 = o + j by omega] at hc2
        rw [hget.2] at hj
        cases hj
        exact below_cell hc2 hb
    have hfl := flatA_len L
    clear hN
    go_enter Try.func107, Try.ntmps107
    go_wp2_with (first
      | (at_builtin; refine wpList_append_own _ rfl _ _ 51 rfl w.heap.size 176 i0 (.agg #[.string ⟨#[]⟩, .string ⟨#[]⟩]) 2 32 Try.underlying51 hi hz0 hz1 hz2 rfl (by decide) _ _ _ rfl ho ⟨g, o, sp⟩ L.length cap (flatA L) rfl (by rw [hfl]) hnews (one_attrs L) (by unfold maxLen; simp; omega) (by simp; omega) (by simp) ?_))
    intro v' w2 hown' hgrow hnn
    have hb3 := hb.grown hgrow (by simp) (fun k hk => by cases hk; exact Nat.le_refl _)
    have ho2 : OwnA w2 w.heap.size v' L := by
      unfold OwnA
      simpa [flatA] using hown'
    have hn2 : v' ≠ .slice none 0 0 := hnn
    clear hown' hgrow ho hb hnews hnn
    go_wp2_with fail
    go_ret
    exact ⟨_, rfl, hn2, ho2, hb3⟩
theorem copyAx_c (v : Value) (L : List (ByteArray × ByteArray)) (w : World) (h : Ax false All w v L) :
    Calls Try.prog 107 #[v] w fun e w' => ∃ u, e = .returned u ∧ Ax false (Rg w.heap.size w'.heap.size) w' u L ∧ Below w.heap.size w w' := by
  refine (copyA_c v L w h).mono ?_
  rintro e w' ⟨u, rfl, hne, ho, hb⟩
  obtain ⟨a, cap, rfl, hlc, hm, hlen, hsz, hnil, hN⟩ := h
  rcases ho.2 with ⟨h0, _⟩ | ⟨g, cap2, cur, rfl, _, _, hn2, hm2, _⟩
  · exact absurd h0 hne
  · exact ⟨_, rfl, ⟨_, cap2, rfl, hn2, hm2, hlen, hsz, (fun h => by cases h), .inr ⟨g, 0, rfl, ⟨(ownA_lt ho).1, (ownA_lt ho).2⟩, ownA_cell ho, fun h => by cases h⟩⟩, hb⟩
end Go.Proofs.Ytgknjjaemjkloaa.TLend

namespace Go.Proofs.Ytgknjjaemjkloaa.TCopy
open Go.RowKit Go.Proofs.Ytgknjjaemjkloaa.TBase Go.Proofs.Ytgknjjaemjkloaa.TLend
set_option linter.unusedVariables false

def Copies (m : Nat) : Prop := ∀ (v : Value) (c : T) (w : World), In false All w m v c →
    Calls Try.prog 67 #[v] w fun e w' => ∃ u, e = .returned u ∧ In false (Rg w.heap.size w'.heap.size) w' m u c ∧ Below w.heap.size w w'
set_option maxRecDepth 20000 in
set_option maxHeartbeats 800000 in
theorem copyTs_of (m : Nat) (hm : Copies m) (v : Value) (l : List T) (w : World) (h : InL false All w m v l) :
    Calls Try.prog 34 #[v] w fun e w' => ∃ u, e = .returned u ∧ InL false (Rg w.heap.size w'.heap.size) w' m u l ∧ Below w.heap.size w w' := by
  obtain ⟨i0, hi, hz0, hz1, hz2⟩ := info_parts infoT
  obtain ⟨a, cap, rfl, hlc, hcm, hlen, hnil, hL⟩ := h
  go_enter Try.func34, Try.ntmps34
  go_wp2_with fail
  go_loopw [3, 4] (fun out i wr => ∃ (q : Nat) (us : List Value), q ≤ l.length ∧ us.length = q ∧ i = .int .i64 q ∧ OwnV wr w.heap.size out us ∧
      (∀ j (h : j < us.length) (h' : j < l.length), In false (El w.heap.size wr.heap.size out) wr m us[j] l[j]) ∧ Below w.heap.size w wr) (fun _ i _ => l.length - (intOf i).toNat)
  case atStart => exact ⟨0, [], by omega, rfl, rfl, ⟨World.ownsRow_nil _ _ _ _, fun x hx => by cases hx⟩, fun j h => by simp at h, Below.refl _ _⟩
  case round =>
    obtain ⟨q, us, hq, hus, rfl, hown, hels, hb⟩ := hrel
    have hsz := hb.size
    by_cases hlt : q < l.length
    · obtain ⟨g, o, u, rfl, -, hu, hin⟩ := elem_at hL hlt
      have hu := four_below hu hb
      have hin := hin.below hb
      obtain ⟨v0, v1, v2, v3, rfl, d0, d1, d2, d3⟩ := hu
      have c10 := hm _ _ wr hin
      have HH : Hid (∀ j (h : j < us.length) (h' : j < l.length), In false (El w.heap.size wr.heap.size u3) wr m us[j] l[j]) := hels
      have Hus : Hid (us.length = q) := hus
      have Hown : Hid (OwnV wr w.heap.size u3 us) := hown
      have hrow := hown.1
      have hlen2 : us.length = q := hus
      clear hels hin hus hown
      go_wp2_with (first
        | (go_at_call 67; refine c10.mono ?_; rintro e w1 ⟨u, rfl, hin1, b1⟩; obtain ⟨x0, x1, x2, x3, rfl, hone⟩ := hin1.four; have hrow1 := World.ownsRow.alloc (own_below hrow b1) (.cells #[x0, x1, x2, x3] 53); have hs1 := b1.size)
        | (at_builtin; refine wpList_append_own_at _ rfl _ _ 24 rfl w.heap.size 53 i0 (.agg #[.string ⟨#[]⟩, .string ⟨#[]⟩, .slice none 0 0, .slice none 0 0]) 4 80 Try.underlying24 hi hz0 hz1 hz2 rfl (by decide) _ _ _ rfl hrow1 ⟨w1.heap.size, 0, none⟩ 1 1 [x0, x1, x2, x3] rfl rfl (new_cells w1 _ 53) hone (by unfold maxLen; omega) (by omega) (by simp; omega) ?_))
      intro v' w2 hown' hgrow _ hat
      have hels2 := els_step HH.out Hus.out hlt Hown.out b1 hin1 hsz _ hgrow hat
      have hb3 := ((hb.trans (b1.mono hsz)).alloc (by omega) (.cells #[x0, x1, x2, x3] 53)).grown hgrow (by simp; omega) (fun k hk => (World.ownsRow.lt hrow k hk).1)
      have ho2 : OwnV w2 w.heap.size v' (us ++ [.agg #[x0, x1, x2, x3]]) := by
        refine ⟨?_, fours_snoc Hown.out.2 ⟨_, _, _, _, rfl, hone⟩⟩
        rw [flat_append, List.length_append, hlen2]
        exact hown'
      have hlen3 : (us ++ [Value.agg #[x0, x1, x2, x3]]).length = q + 1 := by simp [hlen2]
      obtain ⟨us2, hus2⟩ : ∃ us2, us ++ [Value.agg #[x0, x1, x2, x3]] = us2 := ⟨_, rfl⟩
      rw [hus2] at hels2 ho2 hlen3
      have H2 : Hid (∀ j (h : j < us2.length) (h' : j < l.length), In false (El w.heap.size w2.heap.size v') w2 m us2[j] l[j]) := fun j h h' => hels2 j h h'
      clear hown' hgrow hat hrow hrow1 Hown HH Hus hels2 hus2 hin1 hone c10
      go_wp2_with fail
      go_roundw
      case rel => exact ⟨q + 1, us2, by omega, hlen3, by go_num, ho2, H2.out, hb3⟩
      case measure => simp only [intOf]; omega
    · obtain rfl : q = l.length := by omega
      have hnlt : decide ((l.length : Int) < (l.length : Int)) = false := by simp
      have HH : Hid (∀ j (h : j < us.length) (h' : j < l.length), In false (El w.heap.size wr.heap.size u3) wr m us[j] l[j]) := hels
      have Hown : Hid (OwnV wr w.heap.size u3 us) := hown
      have Hus : Hid (us.length = l.length) := hus
      clear hels hus hown
      go_wp2_with fail
      go_ret
      have hus := Hus.out
      have ho2 := Hown.out
      rcases ho2.1.2 with ⟨h0, h1⟩ | ⟨g, cap2, cur, rfl, _, _, hn2, hm2, _⟩
      · have hl0 : l = [] := List.eq_nil_of_length_eq_zero (by omega)
        subst hl0
        exact ⟨_, rfl, ⟨none, 0, h0, by simp, by simp, by simp, fun _ => rfl, .inl ⟨rfl, rfl⟩⟩, hb⟩
      · have ho3 := ho2
        rw [hus] at ho3
        refine ⟨_, rfl, ?_, hb⟩
        try rw [hus]
        refine ⟨some ⟨g, 0, none⟩, cap2, rfl, by omega, hm2, hlen, (fun h => by cases h), .inr ⟨g, 0, rfl, ⟨(ownV_lt ho2).1, (ownV_lt ho2).2⟩, ?_, fun h => by cases h⟩⟩
        intro j hj
        exact ⟨_, ownV_four ho2 j (by omega), (HH.out j (by omega) hj).weak (fun b hS => ⟨hS.1, hS.2.1⟩) false id m (Nat.le_refl _)⟩
theorem copyT_of (m : Nat) (hm : ∀ (v : Value) (l : List T) (w : World), InL false All w m v l →
      Calls Try.prog 34 #[v] w fun e w' => ∃ u, e = .returned u ∧ InL false (Rg w.heap.size w'.heap.size) w' m u l ∧ Below w.heap.size w w') : Copies (m + 1) := by
  intro v c w h
  obtain ⟨g, s, n, l⟩ := c
  rw [in_iff] at h
  obtain ⟨nv, lv, rfl, hg, hs, hn, hl⟩ := h
  obtain ⟨W0, hW0⟩ : ∃ W0, (w.alloc (.cells #[.string g, .string s, nv, lv] 53)).alloc (.cells #[.string ⟨#[]⟩, .string ⟨#[]⟩, .slice none 0 0, .slice none 0 0] 53) = W0 := ⟨_, rfl⟩
  have hb0 : Below w.heap.size w W0 := by rw [← hW0]; exact ((Below.refl _ w).alloc (Nat.le_refl _) _).alloc (by simp) _
  have hsz0 : W0.heap.size = w.heap.size + 2 := by rw [← hW0]; simp
  have hx0 : W0.heap[w.heap.size]? = some (.cells #[.string g, .string s, nv, lv] 53) := by
    rw [← hW0, Below.heap_alloc _ _ _ (by simp), heap_alloc_new]
  have hx1 : W0.heap[w.heap.size + 1]? = some (.cells #[.string ⟨#[]⟩, .string ⟨#[]⟩, .slice none 0 0, .slice none 0 0] 53) := by
    have := heap_alloc_new (w.alloc (.cells #[.string g, .string s, nv, lv] 53)) (.cells #[.string ⟨#[]⟩, .string ⟨#[]⟩, .slice none 0 0, .slice none 0 0] 53)
    rwa [hW0, World.size_alloc] at this
  have c34 := copyAx_c nv n W0 (hn.below hb0)
  obtain ⟨-, -, e2, -⟩ := four_box hx0
  go_enter Try.func67, Try.ntmps67
  go_wp2_with fail
  refine c34.mono ?_
  rintro e w1 ⟨nu, rfl, ht1, b1⟩
  have hy0 := (b1.block w.heap.size (by omega)).trans hx0
  have hy1 := (b1.block (w.heap.size + 1) (by omega)).trans hx1
  clear c34 hx0 hx1 hW0
  obtain ⟨d0, d1, d2, d3⟩ := four_box hy0
  have f2 := frozen_box hy0 2
  have hs1 := b1.size
  obtain ⟨W1, hW1⟩ : ∃ W1, w1.setCell ⟨w.heap.size, 2, none⟩ nu = W1 := ⟨_, rfl⟩
  have hz0 : W1.heap[w.heap.size]? = some (.cells #[.string g, .string s, nu, lv] 53 (0, 0)) := by rw [← hW1, block_set hy0]; rfl
  have hz1 : W1.heap[w.heap.size + 1]? = some (.cells #[.string ⟨#[]⟩, .string ⟨#[]⟩, .slice none 0 0, .slice none 0 0] 53 (0, 0)) := by rw [← hW1, Below.heap_setCell _ _ _ _ (by simp)]; exact hy1
  have hsz1 : W1.heap.size = w1.heap.size := by rw [← hW1]; simp [World.setCell]
  have hb1 : Below w.heap.size w W1 := by rw [← hW1]; exact (hb0.trans (b1.mono (by omega))).setCell (p := ⟨w.heap.size, 2, none⟩) (Nat.le_refl _) _
  have ht2 : Ax false (Rg W0.heap.size w1.heap.size) W1 nu n := ht1.keep fun b hS hb => by rw [← hW1]; exact Below.heap_setCell _ _ _ _ (by have := hS.1; simp; omega)
  have c35 := hm lv l W1 (hl.below hb1)
  obtain ⟨an, cn, rfl, -⟩ := ht1
  clear hy0 hy1
  obtain ⟨-, -, -, k3⟩ := four_box hz0
  go_wp2_with fail
  refine c35.mono ?_
  rintro e w2 ⟨lu, rfl, hl2, b2⟩
  have hy0 := (b2.block w.heap.size (by omega)).trans hz0
  have hy1 := (b2.block (w.heap.size + 1) (by omega)).trans hz1
  clear c35 hz0 hz1 hW1 d0 d1 d2 d3 f2 k3
  have f3 := frozen_box hy0 3
  have hs2 := b2.size
  obtain ⟨d0, d1, d2, d3⟩ := four_box hy0
  obtain ⟨W2, hW2⟩ : ∃ W2, w2.setCell ⟨w.heap.size, 3, none⟩ lu = W2 := ⟨_, rfl⟩
  have hz0 : W2.heap[w.heap.size]? = some (.cells #[.string g, .string s, .slice an n.length cn, lu] 53 (0, 0)) := by rw [← hW2, block_set hy0]; rfl
  have hz1 : W2.heap[w.heap.size + 1]? = some (.cells #[.string ⟨#[]⟩, .string ⟨#[]⟩, .slice none 0 0, .slice none 0 0] 53 (0, 0)) := by rw [← hW2, Below.heap_setCell _ _ _ _ (by simp)]; exact hy1
  have hsz2 : W2.heap.size = w2.heap.size := by rw [← hW2]; simp [World.setCell]
  have hb2 : Below w.heap.size w W2 := by rw [← hW2]; exact (hb1.trans (b2.mono (by omega))).setCell (p := ⟨w.heap.size, 3, none⟩) (Nat.le_refl _) _
  have ht3 : Ax false (Rg W0.heap.size w1.heap.size) W2 (.slice an n.length cn) n := ht2.keep fun b hS hb => by
    rw [← hW2, Below.heap_setCell _ _ _ _ (by have := hS.1; simp; omega)]
    exact b2.block b hb
  have hl3 : InL false (Rg W1.heap.size w2.heap.size) W2 m lu l := hl2.keep fun b hS hb => by rw [← hW2]; exact Below.heap_setCell _ _ _ _ (by have := hS.1; simp; omega)
  obtain ⟨al, cl, rfl, -⟩ := hl2
  clear ht2 hy0 hy1
  obtain ⟨k0, k1, k2, k3⟩ := four_box hz0
  obtain ⟨e0, e1, e2, e3⟩ := four_box hz1
  have g0 := frozen_box hz1 0
  have g1 := frozen_box hz1 1
  have g2 := frozen_box hz1 2
  have g3 := frozen_box hz1 3
  go_wp2_with fail
  obtain ⟨W3, hW3⟩ : ∃ W3, ((((W2.setCell ⟨w.heap.size + 1, 0, none⟩ (.string g)).setCell ⟨w.heap.size + 1, 1, none⟩ (.string s)).setCell
    ⟨w.heap.size + 1, 2, none⟩ (.slice an n.length cn)).setCell ⟨w.heap.size + 1, 3, none⟩ (.slice al l.length cl)) = W3 := ⟨_, rfl⟩
  rw [hW3]
  obtain ⟨q1, q2, q3, q4⟩ := set4 _ _ _ _ hz1 hW3
  refine bodyPost_ret (results_cell_row rfl _ W3 (w.heap.size + 1) 53 _ (0, 0) _ rfl q1 Try.underlying53 rfl (by kernel_rfl)) rfl ?_
  refine ⟨_, rfl, ?_, q4 _ _ (by omega) hb2⟩
  rw [in_iff]
  refine ⟨_, _, rfl, hg, hs, ?_, ?_⟩
  · exact (ht3.keep fun b hS hb => q2 b (by have := hS.1; omega)).weak (fun b hS => ⟨by have := hS.1; omega, by have := hS.2; omega⟩) false id
  · exact (hl3.keep fun b hS hb => q2 b (by have := hS.1; omega)).weak (fun b hS => ⟨by have := hS.1; omega, by have := hS.2; omega⟩) false id m (Nat.le_refl _)
theorem copyTAll : ∀ m, Copies m := by
  intro m
  induction m with
  | zero => intro v c w h; rw [In] at h; exact h.elim
  | succ m ih => exact copyT_of m (copyTs_of m ih)
theorem copyTs_c (m : Nat) (v : Value) (l : List T) (w : World) (h : InL false All w m v l) :
    Calls Try.prog 34 #[v] w fun e w' => ∃ u, e = .returned u ∧ InL false (Rg w.heap.size w'.heap.size) w' m u l ∧ Below w.heap.size w w' := copyTs_of m (copyTAll m) v l w h
end Go.Proofs.Ytgknjjaemjkloaa.TCopy

namespace Go.Proofs.Ytgknjjaemjkloaa.TRowJ
open Go.RowKit Go.Proofs.Ytgknjjaemjkloaa.TBase Go.Proofs.Ytgknjjaemjkloaa.TLend Go.Proofs.Ytgknjjaemjkloaa.TCopy
set_option linter.unusedVariables false

set_option maxRecDepth 20000 in
set_option maxHeartbeats 800000 in
theorem copyO_of (m : Nat) (hm : Copies m) (v : Value) (l : List T) (w : World) (h : InL false All w m v l) :
    Calls Try.prog 34 #[v] w fun e w' => ∃ u us, e = .returned u ∧ OwnV w' w.heap.size u us ∧ us.length = l.length ∧ Hid (∀ j (h : j < us.length) (h' : j < l.length), In false (El w.heap.size w'.heap.size u) w' m us[j] l[j]) ∧ Below w.heap.size w w' := by
  obtain ⟨i0, hi, hz0, hz1, hz2⟩ := info_parts infoT
  obtain ⟨a, cap, rfl, hlc, hcm, hlen, hnil, hL⟩ := h
  go_enter Try.func34, Try.ntmps34
  go_wp2_with fail
  go_loopw [3, 4] (fun out i wr => ∃ (q : Nat) (us : List Value), q ≤ l.length ∧ us.length = q ∧ i = .int .i64 q ∧ OwnV wr w.heap.size out us ∧
      (∀ j (h : j < us.length) (h' : j < l.length), In false (El w.heap.size wr.heap.size out) wr m us[j] l[j]) ∧ Below w.heap.size w wr) (fun _ i _ => l.length - (intOf i).toNat)
  case atStart => exact ⟨0, [], by omega, rfl, rfl, ⟨World.ownsRow_nil _ _ _ _, fun x hx => by cases hx⟩, fun j h => by simp at h, Below.refl _ _⟩
  case round =>
    obtain ⟨q, us, hq, hus, rfl, hown, hels, hb⟩ := hrel
    have hsz := hb.size
    by_cases hlt : q < l.length
    · obtain ⟨g, o, u, rfl, -, hu, hin⟩ := elem_at hL hlt
      have hu := four_below hu hb
      have hin := hin.below hb
      obtain ⟨v0, v1, v2, v3, rfl, d0, d1, d2, d3⟩ := hu
      have c10 := hm _ _ wr hin
      have HH : Hid (∀ j (h : j < us.length) (h' : j < l.length), In false (El w.heap.size wr.heap.size u3) wr m us[j] l[j]) := hels
      have Hus : Hid (us.length = q) := hus
      have Hown : Hid (OwnV wr w.heap.size u3 us) := hown
      have hrow := hown.1
      have hlen2 : us.length = q := hus
      clear hels hin hus hown
      go_wp2_with (first
        | (go_at_call 67; refine c10.mono ?_; rintro e w1 ⟨u, rfl, hin1, b1⟩; obtain ⟨x0, x1, x2, x3, rfl, hone⟩ := hin1.four; have hrow1 := World.ownsRow.alloc (own_below hrow b1) (.cells #[x0, x1, x2, x3] 53); have hs1 := b1.size)
        | (at_builtin; refine wpList_append_own_at _ rfl _ _ 24 rfl w.heap.size 53 i0 (.agg #[.string ⟨#[]⟩, .string ⟨#[]⟩, .slice none 0 0, .slice none 0 0]) 4 80 Try.underlying24 hi hz0 hz1 hz2 rfl (by decide) _ _ _ rfl hrow1 ⟨w1.heap.size, 0, none⟩ 1 1 [x0, x1, x2, x3] rfl rfl (new_cells w1 _ 53) hone (by unfold maxLen; omega) (by omega) (by simp; omega) ?_))
      intro v' w2 hown' hgrow _ hat
      have hels2 := els_step HH.out Hus.out hlt Hown.out b1 hin1 hsz _ hgrow hat
      have hb3 := ((hb.trans (b1.mono hsz)).alloc (by omega) (.cells #[x0, x1, x2, x3] 53)).grown hgrow (by simp; omega) (fun k hk => (World.ownsRow.lt hrow k hk).1)
      have ho2 : OwnV w2 w.heap.size v' (us ++ [.agg #[x0, x1, x2, x3]]) := by
        refine ⟨?_, fours_snoc Hown.out.2 ⟨_, _, _, _, rfl, hone⟩⟩
        rw [flat_append, List.length_append, hlen2]
        exact hown'
      have hlen3 : (us ++ [Value.agg #[x0, x1, x2, x3]]).length = q + 1 := by simp [hlen2]
      obtain ⟨us2, hus2⟩ : ∃ us2, us ++ [Value.agg #[x0, x1, x2, x3]] = us2 := ⟨_, rfl⟩
      rw [hus2] at hels2 ho2 hlen3
      have H2 : Hid (∀ j (h : j < us2.length) (h' : j < l.length), In false (El w.heap.size w2.heap.size v') w2 m us2[j] l[j]) := fun j h h' => hels2 j h h'
      clear hown' hgrow hat hrow hrow1 Hown HH Hus hels2 hus2 hin1 hone c10
      go_wp2_with fail
      go_roundw
      case rel => exact ⟨q + 1, us2, by omega, hlen3, by go_num, ho2, H2.out, hb3⟩
      case measure => simp only [intOf]; omega
    · obtain rfl : q = l.length := by omega
      have hnlt : decide ((l.length : Int) < (l.length : Int)) = false := by simp
      have HH : Hid (∀ j (h : j < us.length) (h' : j < l.length), In false (El w.heap.size wr.heap.size u3) wr m us[j] l[j]) := hels
      have Hown : Hid (OwnV wr w.heap.size u3 us) := hown
      have Hus : Hid (us.length = l.length) := hus
      clear hels hus hown
      go_wp2_with fail
      go_ret
      exact ⟨_, us, rfl, Hown.out, Hus.out, HH, hb⟩
theorem copyO_c (m : Nat) (v : Value) (l : List T) (w : World) (h : InL false All w m v l) :
    Calls Try.prog 34 #[v] w fun e w' => ∃ u us, e = .returned u ∧ OwnV w' w.heap.size u us ∧ us.length = l.length ∧ Hid (∀ j (h : j < us.length) (h' : j < l.length), In false (El w.heap.size w'.heap.size u) w' m us[j] l[j]) ∧ Below w.heap.size w w' :=
  copyO_of m (copyTAll m) v l w h
theorem inL_of_own {w : World} {B m : Nat} {v : Value} {us : List Value} {l : List T} (h : OwnV w B v us) (hl : us.length = l.length) (hb : l.length * 80 ≤ 140737488351232) (hel : ∀ j (h : j < us.length) (h' : j < l.length), In false All w m us[j] l[j]) : InL false All w m v l := by
  rcases h.1.2 with ⟨h0, h1⟩ | ⟨g, cap, cur, hv, _, _, hn, hm, _⟩
  · obtain rfl : l = [] := List.eq_nil_of_length_eq_zero (by omega)
    exact ⟨none, 0, h0, by simp, by simp, by simp, fun _ => rfl, .inl ⟨rfl, rfl⟩⟩
  · subst hv
    refine ⟨some ⟨g, 0, none⟩, cap, by rw [hl], by omega, hm, hb, (fun h => by cases h), .inr ⟨g, 0, rfl, trivial, fun j hj => ?_, fun h => by cases h⟩⟩
    exact ⟨_, ownV_four h j (by omega), hel j (by omega) hj⟩
theorem fours_append {a b : List Value} (h : Fours a) (k : Fours b) : Fours (a ++ b) := by
  intro x hx
  rcases List.mem_append.1 hx with hx | hx
  · exact h x hx
  · exact k x hx
theorem flat_one {us : List Value} (h : Fours us) : ∀ u ∈ flat us, u.oneCell' = true := by
  intro u hu
  obtain ⟨x, hx, hu⟩ := List.mem_flatMap.1 hu
  obtain ⟨v0, v1, v2, v3, rfl, ho⟩ := h x hx
  exact ho u (by simpa [Value.cells] using hu)
/-- Rows joined hold both. -/
theorem joined {w w1 w2 w3 : World} {m : Nat} {u1 u2 v' : Value} {us1 us2 : List Value} {L M : List T} (h1 : OwnV w1 w.heap.size u1 us1) (e1 : us1.length = L.length) (k1 : ∀ j (h : j < us1.length) (h' : j < L.length), In false (El w.heap.size w1.heap.size u1) w1 m us1[j] L[j])
    (b2 : Below w1.heap.size w1 w2) (h2 : OwnV w2 w1.heap.size u2 us2) (e2 : us2.length = M.length) (k2 : ∀ j (h : j < us2.length) (h' : j < M.length), In false (El w1.heap.size w2.heap.size u2) w2 m us2[j] M[j])
    (hown : w3.ownsRow w.heap.size 53 4 v' (us1.length + us2.length) (flat us1 ++ flat us2)) (hgrow : w2.grownBy w3 u1.ownBlock) (hb : (L ++ M).length * 80 ≤ 140737488351232) : InL false All w3 m v' (L ++ M) := by
  have hlt := World.ownsRow.lt h1.1
  have hs2 := b2.size
  refine inL_of_own (B := w.heap.size) (us := us1 ++ us2) ⟨?_, fours_append h1.2 h2.2⟩ (by simp [e1, e2]) hb ?_
  · rw [flat_append, List.length_append]
    exact hown
  · intro j hj hj'
    by_cases h : j < us1.length
    · rw [List.getElem_append_left h, List.getElem_append_left (by omega)]
      refine (((k1 j h (by omega)).keep (w' := w3) ?_).plain)
      intro b hS hb
      rw [hgrow.block b (by omega) (fun e => hS.2.2 e.symm), b2.block b hb]
    · have hj2 : j < us1.length + us2.length := by simpa using hj
      rw [List.getElem_append_right (by omega), List.getElem_append_right (by omega)]
      have key := (k2 (j - us1.length) (by omega) (by omega)).keep (w' := w3) (by
        intro b hS hb
        exact hgrow.block b hb (fun e => by have := (hlt b e.symm).2; have := hS.1; omega))
      simpa [e1] using key.plain
end Go.Proofs.Ytgknjjaemjkloaa.TRowJ

namespace Go.Proofs.Ytgknjjaemjkloaa.BCg
open Go.RowKit Go.Proofs.Ytgknjjaemjkloaa.YRr Go.Proofs.Ytgknjjaemjkloaa.YRs Go.Proofs.Ytgknjjaemjkloaa.YRl Go.Proofs.Ytgknjjaemjkloaa.BBx Go.Proofs.Ytgknjjaemjkloaa.BCp
open Go.Proofs.Ytgknjjaemjkloaa.YPl (Oq Bk Pg)
open Go.Proofs.Ytgknjjaemjkloaa.YEn (InPg)
open Go.Proofs.Ytgknjjaemjkloaa.BSf (hid)
open Go.Proofs.Ytgknjjaemjkloaa.TBase (T Keep heap_alloc_new)
open Go.Proofs.Ytgknjjaemjkloaa.CPu (Ins)
set_option linter.unusedVariables false

theorem own_mono {w : World} {B B' : Nat} {ty : TypeId} {n len : Nat} {v : Value} {xs : List Value} (h : w.ownsRow B ty n v len xs) (hb : B' ≤ B) : w.ownsRow B' ty n v len xs := by
  refine ⟨h.1, ?_⟩
  rcases h.2 with h2 | ⟨g, cap, cur, h1, h2, h3⟩
  · exact .inl h2
  · exact .inr ⟨g, cap, cur, h1, by omega, h3⟩
theorem own_keep {w w' : World} {B : Nat} {ty : TypeId} {n len : Nat} {v : Value} {xs : List Value} (h : w.ownsRow B ty n v len xs) (hk : ∀ g, v.ownBlock = some g → w'.heap[g]? = w.heap[g]?) : w'.ownsRow B ty n v len xs := by
  refine ⟨h.1, ?_⟩
  rcases h.2 with h2 | ⟨g, cap, cur, h1, h2, h3, h4⟩
  · exact .inl h2
  · exact .inr ⟨g, cap, cur, h1, h2, (hk g (by rw [h1]; rfl)).trans h3, h4⟩
/-- A row of one's own that holds the elements l; it and what it names lie in the blocks S. -/
def RowG {α : Type} (Hd : Hdt α) (ty : TypeId) (n lo : Nat) (S : Nat → Prop) (w : World) (v : Value) (l : List α) : Prop :=
  ∃ css : List (List Value), w.ownsRow lo ty n v l.length css.flatten ∧ css.length = l.length ∧ (∀ c ∈ css, c.length = n) ∧ (∀ g, v.ownBlock = some g → S g) ∧ ∀ j (h1 : j < css.length) (h2 : j < l.length), Hd (fun b => S b ∧ b < w.heap.size ∧ v.ownBlock ≠ some b) w css[j] l[j]
section
variable {α : Type} {Hd : Hdt α} {ty : TypeId} {n lo : Nat} {S S' : Nat → Prop} {w w' : World} {v : Value} {l : List α}
theorem RowG.of (hs : Stays Hd) (h : RowI Hd ty n lo w v l) {lo' : Nat} (hl : lo' ≤ lo) (hS : ∀ b, lo ≤ b → b < w.heap.size → S b) : RowG Hd ty n lo' S w v l := by
  obtain ⟨css, h1, h2, h3, h4⟩ := h
  refine ⟨css, own_mono h1 hl, h2, h3, fun g hg => ?_, fun j a b => hs.out (S := Sx lo w v) (fun _ _ _ => rfl) (fun b hb => ⟨hS b hb.1 hb.2.1, hb.2.1, hb.2.2⟩) (h4 j a b)⟩
  have := World.ownsRow.lt h1 g hg
  exact hS g this.1 this.2
theorem RowG.lt (h : RowG Hd ty n lo S w v l) : ∀ g, v.ownBlock = some g → S g ∧ lo ≤ g ∧ g < w.heap.size := fun g hg => by
  obtain ⟨css, h1, h2, h3, h4, -⟩ := h
  exact ⟨h4 g hg, World.ownsRow.lt h1 g hg⟩
theorem RowG.keep (hs : Stays Hd) (h : RowG Hd ty n lo S w v l) (hk : Keep S w w') (hsz : w.heap.size ≤ w'.heap.size) (hS : ∀ b, S b → S' b) : RowG Hd ty n lo S' w' v l := by
  obtain ⟨css, h1, h2, h3, h4, h5⟩ := h
  exact ⟨css, own_keep h1 fun g hg => hk g (h4 g hg) (World.ownsRow.lt h1 g hg).2, h2, h3, fun g hg => hS g (h4 g hg), fun j a b => hs.out (S := fun b => S b ∧ b < w.heap.size ∧ v.ownBlock ≠ some b) (fun b hb hl => hk b hb.1 hl) (fun b hb => ⟨hS b hb.1, by omega, hb.2.2⟩) (h5 j a b)⟩
theorem RowG.slice (h : RowG Hd ty n lo S w v l) : ∃ a c, v = .slice a l.length c := by
  obtain ⟨css, h1, -⟩ := h
  rcases h1.2 with ⟨rfl, e⟩ | ⟨g, cap, cur, rfl, -⟩
  · exact ⟨none, 0, by rw [e]⟩
  · exact ⟨_, _, rfl⟩
theorem RowG.rr {Ly : World → Nat → Nat → α → Prop} (h : RowG Hd ty n lo S w v l) (hl : l.length ≤ 140737488351232)
    (hly : ∀ g o c x, (∀ i u, c[i]? = some u → w.cell? ⟨g, o + i, none⟩ = some u) → Hd (fun b => S b ∧ b < w.heap.size ∧ v.ownBlock ≠ some b) w c x → Ly w g o x) : RrS n Ly S w v l := by
  obtain ⟨css, h1, h2, h3, hS, h4⟩ := h
  rcases h1.2 with ⟨rfl, h0⟩ | ⟨g, cap, cur, rfl, hb, hh, hn, hm, hcs, htk⟩
  · have : l = [] := List.eq_nil_of_length_eq_zero h0
    subst this
    exact ⟨none, 0, rfl, by simp, by omega, by simp, fun _ => rfl, .inl rfl⟩
  · refine ⟨_, cap, rfl, hn, by unfold maxLen at hm; omega, hl, (fun h => by cases h), .inr ⟨g, 0, rfl, hS g rfl, fun j hj => ?_⟩⟩
    have hjc : j < css.length := by omega
    refine hly g (0 + j * n) css[j] l[j] (fun i u hu => ?_) (h4 j hjc hj)
    have hi : i < n := by
      have := (List.getElem?_eq_some_iff.1 hu).1
      rw [h3 _ (List.getElem_mem hjc)] at this
      exact this
    have hcl := World.ownsRow.cells (g := g) h1 rfl (j * n + i) u (by rw [flat_at h3 j hjc i hi]; exact hu)
    rw [Leb.add_none] at hcl
    rw [Nat.add_assoc]
    exact hcl
/-- One element more, behind an append. -/
theorem RowG.snoc (hs : Stays Hd) {S0 : Nat → Prop} {x : α} {c : List Value} {css : List (List Value)} {v' : Value}
    (h2 : css.length = l.length) (h3 : ∀ c ∈ css, c.length = n) (hv : ∀ g, v.ownBlock = some g → S g ∧ g < w.heap.size) (h4 : ∀ j (h1 : j < css.length) (h2 : j < l.length), Hd (fun b => S b ∧ b < w.heap.size ∧ v.ownBlock ≠ some b) w css[j] l[j])
    (hx : Hd S0 w c x) (hx0 : ∀ b, S0 b → b < w.heap.size ∧ v.ownBlock ≠ some b) (hc : c.length = n) (hgr : w.grownBy w' v.ownBlock) (hown : w'.ownsRow lo ty n v' (l.length + 1) (css.flatten ++ c)) (hb : v'.ownBlock = v.ownBlock ∨ v'.ownBlock = some w.heap.size)
    (hS : ∀ b, S b → S' b) (hS0 : ∀ b, S0 b → S' b) (hSn : v'.ownBlock = some w.heap.size → S' w.heap.size) : RowG Hd ty n lo S' w' v' (l ++ [x]) := by
  have hne : ∀ b, b < w.heap.size → v.ownBlock ≠ some b → v'.ownBlock ≠ some b := fun b hl hne e => by
    rcases hb with hb | hb
    · exact hne (hb ▸ e)
    · rw [hb] at e; cases e; omega
  have hsz := hgr.size
  refine ⟨css ++ [c], by rw [List.length_append]; simpa using hown, by simp [h2], fun d hd => ?_, fun g hg => ?_, fun j a b => ?_⟩
  · rcases List.mem_append.1 hd with hd | hd
    · exact h3 d hd
    · simp at hd; rw [hd]; exact hc
  · rcases hb with hb | hb
    · exact hS g (hv g (hb ▸ hg)).1
    · have := hSn hb
      rw [hb] at hg
      cases hg
      exact this
  · by_cases hj : j < css.length
    · rw [List.getElem_append_left hj, List.getElem_append_left (by omega)]
      exact hs.out (S := fun b => S b ∧ b < w.heap.size ∧ v.ownBlock ≠ some b) (fun b hb' hl => hgr.block b hl (fun e => hb'.2.2 e.symm)) (fun b hb' => ⟨hS b hb'.1, by omega, hne b hb'.2.1 hb'.2.2⟩) (h4 j hj (by omega))
    · obtain rfl : j = css.length := by simp at a; omega
      have e1 : (css ++ [c])[css.length]'a = c := by simp
      have e2 : (l ++ [x])[css.length]'b = x := by simp [h2]
      rw [e1, e2]
      exact hs.out (S := S0) (fun b hb' hl => hgr.block b hl (fun e => (hx0 b hb').2 e.symm)) (fun b hb' => ⟨hS0 b hb', by have := (hx0 b hb').1; omega, hne b (hx0 b hb').1 (hx0 b hb').2⟩) hx
end
section
variable {S S0 : Nat → Prop} {w : World} {g o : Nat} {c : List Value}
theorem lyC {x : List Ins} (hSS : ∀ b, S0 b → S b) (hc : ∀ i u, c[i]? = some u → w.cell? ⟨g, o + i, none⟩ = some u) (h : HdC S0 w c x) : LyCs S w g o x := by
  obtain ⟨v0, rfl, h0⟩ := h; exact ⟨v0, hc 0 _ rfl, h0.keep hSS fun g o x _ hg h => h⟩
theorem lyO {x : Oq} (hSS : ∀ b, S0 b → S b) (hc : ∀ i u, c[i]? = some u → w.cell? ⟨g, o + i, none⟩ = some u) (h : HdO S0 w c x) : LyOs S w g o x := by
  obtain ⟨v0, rfl, h0, h1⟩ := h; exact ⟨v0, hc 0 _ rfl, hc 1 _ rfl, hc 2 _ rfl, hc 3 _ rfl, hc 4 _ rfl, h0, h1.keep hSS fun g o x _ hg h => h⟩
theorem lyB {x : Bk} (hSS : ∀ b, S0 b → S b) (hc : ∀ i u, c[i]? = some u → w.cell? ⟨g, o + i, none⟩ = some u) (h : HdB S0 w c x) : LyBs S w g o x := by
  obtain ⟨v0, u0, rfl, h0, h1, h2⟩ := h
  exact ⟨v0, u0, hc 0 _ rfl, hc 1 _ rfl, hc 2 _ rfl, h0, h1.keep hSS fun g o x _ hg h => kO (S := S0) (fun _ _ _ => rfl) hSS hg h, h2.keep hSS fun g o x _ hg h => h⟩
theorem lyT {m : Nat} {x : T} (hSS : ∀ b, S0 b → S b) (hc : ∀ i u, c[i]? = some u → w.cell? ⟨g, o + i, none⟩ = some u) (h : HdT m S0 w c x) : LyTs m S w g o x := by
  obtain ⟨nv, lv, rfl, h1⟩ := h
  exact ⟨_, ⟨_, _, _, _, rfl, hc 0 _ rfl, hc 1 _ rfl, hc 2 _ rfl, hc 3 _ rfl⟩, h1.weak hSS false id m (Nat.le_refl _)⟩
end
/-- Copied trees, as a row of one's own. -/
theorem trees_g {w : World} {m lo B : Nat} {S : Nat → Prop} {v : Value} {us : List Value} {l : List T} (h : TBase.OwnV w B v us) (hl : us.length = l.length) (hel : ∀ j (h : j < us.length) (h' : j < l.length), TBase.In false (TBase.El B w.heap.size v) w m us[j] l[j]) (hlo : lo ≤ B) (hS : ∀ b, B ≤ b → b < w.heap.size → S b) : RowG (HdT m) 53 4 lo S w v l := by
  have e : (us.map fun u => u.cells.toList).flatten = TBase.flat us := by unfold TBase.flat; rw [List.flatMap_def]
  refine ⟨us.map fun u => u.cells.toList, by rw [e, ← hl]; exact own_mono h.1 hlo, by simp [hl], fun c hc => ?_, fun g hg => ?_, fun j a b => ?_⟩
  · obtain ⟨u, hu, rfl⟩ := List.mem_map.1 hc
    obtain ⟨v0, v1, v2, v3, rfl, -⟩ := h.2 u hu
    rfl
  · have := World.ownsRow.lt h.1 g hg
    exact hS g this.1 this.2
  · have hj : j < us.length := by simpa using a
    have h1 := hel j hj b
    obtain ⟨m', nv, lv, -, e, -⟩ := h1.shape
    rw [List.getElem_map]
    generalize us[j] = u at *
    subst e
    exact ⟨nv, lv, rfl, h1.weak (fun b hb => ⟨hS b hb.1 hb.2.1, hb.2.1, hb.2.2⟩) false id m (Nat.le_refl _)⟩
theorem rrs_inl {m : Nat} {S : Nat → Prop} {w : World} {v : Value} {l : List T} (h : RrS 4 (LyTs m S) S w v l) (hl : l.length ≤ 90000) : TBase.InL false S w m v l := by
  obtain ⟨a, cap, h1, h2, h3, h4, h5, h6⟩ := h
  refine ⟨a, cap, h1, h2, h3, by omega, h5, ?_⟩
  rcases h6 with h6 | ⟨g, o, ha, hg, hc⟩
  · exact .inl ⟨h6, rfl⟩
  · exact .inr ⟨g, o, ha, hg, fun j hj => hc j hj, fun h => by cases h⟩
/-- A program of four rows. -/
theorem pg_of {K m : Nat} {St Sc Ss Sb : Nat → Prop} {w : World} {x : Pg} {a b c d : Option Addr} {n1 c1 n2 c2 n3 c3 n4 c4 : Nat} (h1 : RrS 1 LyS St w (.slice a n1 c1) x.t) (h2 : RrS 1 (LyCs Sc) Sc w (.slice b n2 c2) x.c) (h3 : TBase.InL false Ss w m (.slice c n3 c3) x.s) (h4 : RrS 3 (LyBs Sb) Sb w (.slice d n4 c4) x.b)
    (k1 : ∀ b, St b → b < K) (k2 : ∀ b, Sc b → b < K) (k3 : ∀ b, Ss b → b < K) (k4 : ∀ b, Sb b → b < K) : InPg K m w (.agg #[.slice a n1 c1, .slice b n2 c2, .slice c n3 c3, .slice d n4 c4]) x := by
  refine ⟨a, n1, c1, b, n2, c2, c, n3, c3, d, n4, c4, rfl, h1.rr k1 fun g o x _ h => h, h2.rr k2 fun g o x _ h => ?_, h3.weak k3 false id m (Nat.le_refl _), h4.rr k4 fun g o x _ h => ?_⟩
  · obtain ⟨v, k1, j2⟩ := h
    exact ⟨v, k1, j2.rr k2 fun g o x _ h => h⟩
  · obtain ⟨v, u, k1, k2, k3, j4, k5, k6⟩ := h
    refine ⟨v, u, k1, k2, k3, j4, k5.rr k4 fun g o x _ h => ?_, k6.rr k4 fun g o x _ h => h⟩
    obtain ⟨v, j1, j2, j3, j4, j5, j6, j7⟩ := h
    exact ⟨v, j1, j2, j3, j4, j5, j6, j7.rr k4 fun g o x _ h => h⟩
end Go.Proofs.Ytgknjjaemjkloaa.BCg
