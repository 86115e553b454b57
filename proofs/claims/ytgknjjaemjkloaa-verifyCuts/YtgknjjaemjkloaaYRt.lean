/- Trees read: lists of them. -/
import Derived.Test.YtgknjjaemjkloaaYRg
namespace Go.Proofs.Ytgknjjaemjkloaa.YRt
open Go.RowKit Go.Proofs.Ytgknjjaemjkloaa.Leb Go.Proofs.Ytgknjjaemjkloaa.YPl Go.Proofs.Ytgknjjaemjkloaa.YRd Go.Proofs.Ytgknjjaemjkloaa.YWr Go.Proofs.Ytgknjjaemjkloaa.YRr Go.Proofs.Ytgknjjaemjkloaa.YRs Go.Proofs.Ytgknjjaemjkloaa.YRb Go.Proofs.Ytgknjjaemjkloaa.YRl
open Go.Proofs.Ytgknjjaemjkloaa.TBase (T Keep)
set_option linter.unusedVariables false

/-- What a reader of trees answers. -/
def RT {α : Type} (K R : Nat) (b : By) (Hv : (Nat → Prop) → World → Value → α → Prop) (a : Rt α) (w : World) (e : Ending) (w' : World) : Prop := Gx R w w' ∧ match a with
  | .ok (x, q, k') => ∃ v, e = .returned v ∧ Hv (fun g => w.heap.size ≤ g ∧ g < w'.heap.size) w' v x ∧ Rb K w' R b q k' ∧ k' ≤ 4096
  | .error q => e = .panicked (pkF 2100 q)
/-- So many ahead. -/
def adT (xs : List T) (a : Rt (List T)) : Rt (List T) := match a with
  | .ok (l, p, k) => .ok (xs ++ l, p, k)
  | .error q => .error q
theorem adT_nil (a : Rt (List T)) : adT [] a = a := by
  unfold adT; cases a with
  | error q => rfl
  | ok t => obtain ⟨x, p, k⟩ := t; rfl
theorem manyT_step {f : Nat → Nat → Rt T} {n q p p2 k k2 q0 k0 : Nat} {xs : List T} {x : T} (hq : q < n) (h : adT xs (rmanyT f (n - q) p k) = rmanyT f n q0 k0) (hf : f p k = .ok (x, p2, k2)) : adT (xs ++ [x]) (rmanyT f (n - (q + 1)) p2 k2) = rmanyT f n q0 k0 := by
  obtain ⟨m, hm⟩ : ∃ m, n - q = m + 1 := ⟨n - q - 1, by omega⟩
  rw [show n - (q + 1) = m by omega]
  rw [hm, rmanyT, hf] at h
  rw [← h]
  simp only
  cases rmanyT f m p2 k2 with
  | error z => rfl
  | ok t => obtain ⟨l, r, s⟩ := t; simp [adT]
theorem manyT_stop {f : Nat → Nat → Rt T} {n q p k q0 k0 z : Nat} {xs : List T} (hq : q < n) (h : adT xs (rmanyT f (n - q) p k) = rmanyT f n q0 k0) (hf : f p k = .error z) : rmanyT f n q0 k0 = .error z := by
  obtain ⟨m, hm⟩ : ∃ m, n - q = m + 1 := ⟨n - q - 1, by omega⟩
  rw [hm, rmanyT, hf] at h
  exact h.symm
theorem manyT_end {f : Nat → Nat → Rt T} {n p k q0 k0 : Nat} {xs : List T} (h : adT xs (rmanyT f (n - n) p k) = rmanyT f n q0 k0) : rmanyT f n q0 k0 = .ok (xs, p, k) := by
  rw [Nat.sub_self, rmanyT] at h
  rw [← h]
  simp [adT]
theorem ly_t {m : Nat} {S : Nat → Prop} {lo : Nat} {w : World} {v : Value} (hSS : ∀ b, Sx lo w v b → S b) (g o : Nat) (c : List Value) (x : T) (hg : S g) (hc : ∀ i u, c[i]? = some u → w.cell? ⟨g, o + i, none⟩ = some u) (hl : c.length = 4) (h : HdT m (Sx lo w v) w c x) : LyTs m S w g o x := by
  obtain ⟨nv, lv, rfl, h1⟩ := h
  exact ⟨_, ⟨_, _, _, _, rfl, hc 0 _ rfl, hc 1 _ rfl, hc 2 _ rfl, hc 3 _ rfl⟩, h1.weak hSS false id m (Nat.le_refl _)⟩
theorem rrs_inl {m : Nat} {S : Nat → Prop} {w : World} {v : Value} {l : List T} (h : RrS 4 (LyTs m S) S w v l) (hl : l.length ≤ 4096) : TBase.InL false S w m v l := by
  obtain ⟨a, cap, h1, h2, h3, h4, h5, h6⟩ := h
  refine ⟨a, cap, h1, h2, h3, by omega, h5, ?_⟩
  rcases h6 with h6 | ⟨g, o, ha, hg, hc⟩
  · exact .inl ⟨h6, rfl⟩
  · exact .inr ⟨g, o, ha, hg, fun j hj => hc j hj, fun h => by cases h⟩
set_option maxRecDepth 20000 in
set_option maxHeartbeats 3200000 in
theorem rl_t {m K R p k : Nat} {w : World} {b : By} (lim : Nat) (hlim : lim ≤ 4096) (f : Nat → Nat → Rt T) (h : Rb K w R b p k) (hk0 : k ≤ 4096)
    (hone : Hid (∀ (W : World) (q k' : Nat), Rb K W R b q k' → k' ≤ 4096 → Gx R w W → Calls Try.prog 47 #[ptw R] W fun e w' => RT K R b (VA (HdT m)) (f q k') W e w')) :
    Calls Try.prog 46 #[ptw R, .int .i64 lim, .func (.func 47) #[ptw R] #[]] w fun e w' => RT K R b (fun S w v l => TBase.InL false S w m v l) (rlstT lim f b p k) w e w' := by
  have hRlt := h.lt
  have c1 := YRb.count_c lim (by omega) h
  obtain ⟨i0, hi, hz0, hz1, hz2⟩ := info_parts TBase.infoT
  have hE0 : rlstT lim f b p k = match rcnt lim b p with
    | .error q => .error q
    | .ok (n, q) => rmanyT f n q k := rfl
  clear h
  cases hE : rcnt lim b p with
  | error q =>
    rw [hE] at c1 hE0
    have HE : Hid (rlstT lim f b p k = .error q) := hE0
    clear hE0 hE
    go_enter Try.func46, Try.ntmps46
    go_wp2_with fail
    refine c1.mono ?_
    rintro e w1 ⟨g1, rfl⟩
    exact ⟨rfl, by rw [HE.out]; exact ⟨g1, rfl⟩⟩
  | ok t =>
  obtain ⟨n, q0⟩ := t
  rw [hE] at c1 hE0
  have HE : Hid (rlstT lim f b p k = rmanyT f n q0 k) := hE0
  clear hE0 hE
  go_enter Try.func46, Try.ntmps46
  go_wp2_with fail
  refine c1.mono ?_
  rintro e w1 ⟨g1, v, rfl, ⟨rfl, hn⟩, hR1⟩
  have HG1 : Hid (Gx R w w1 ∧ Rb K w1 R b q0 k) := ⟨g1, hR1⟩
  clear c1 g1 hR1
  go_wp2_with fail
  go_loopw [7, 11] (fun v i wr => ∃ (q p' k' : Nat) (xs : List T), i = .int .i64 q ∧ q ≤ n ∧ xs.length = q ∧ Hid (Gx R w wr ∧ RowI (HdT m) 53 4 w.heap.size wr v xs ∧ Rb K wr R b p' k' ∧ k' ≤ 4096) ∧ Hid (adT xs (rmanyT f (n - q) p' k') = rmanyT f n q0 k)) (fun _ i _ => n - (intOf i).toNat)
  case atStart => exact ⟨0, q0, k, [], rfl, by omega, rfl, ⟨HG1.out.1, RowI.nil _ _ _ _ _, HG1.out.2, hk0⟩, by show _ = _; rw [Nat.sub_zero]; exact adT_nil _⟩
  case round =>
    obtain ⟨q, p', k', xs, rfl, hq, hxl, HG, HS⟩ := hrel
    by_cases hlt : q < n
    · have cx := hone.out wr p' k' HG.out.2.2.1 HG.out.2.2.2 HG.out.1
      go_wp2_with fail
      refine cx.mono ?_
      rintro e w2 ⟨g2, hA⟩
      cases hfx : f p' k' with
      | error z =>
        rw [hfx] at hA
        obtain rfl := hA
        exact ⟨rfl, by rw [HE.out, manyT_stop hlt HS.out hfx]; exact ⟨Gx.trans HG.out.1 g2, rfl⟩⟩
      | ok t =>
        obtain ⟨x, p2, k2⟩ := t
        rw [hfx] at hA
        obtain ⟨ve, rfl, ⟨cc, rfl, nv, lv, rfl, hin⟩, hR2, hk2⟩ := hA
        obtain ⟨na, nn, nc, rfl⟩ : ∃ a n c, nv = .slice a n c := by obtain ⟨m', nv', lv', -, e, -, -, ⟨a, c, h, -⟩, -⟩ := hin.shape; cases e; exact ⟨_, _, _, h⟩
        obtain ⟨la, ln, lc, rfl⟩ : ∃ a n c, lv = .slice a n c := by obtain ⟨m', nv', lv', -, e, -, -, -, ⟨a, c, h, -⟩⟩ := hin.shape; cases e; exact ⟨_, _, _, h⟩
        obtain ⟨W3, hW3⟩ : ∃ W, w2.alloc (.cells #[.string x.g, .string x.s, .slice na nn nc, .slice la ln lc] 53) = W := ⟨_, rfl⟩
        have b3 : Below w2.heap.size w2 W3 := by rw [← hW3]; exact (Below.refl _ w2).alloc (Nat.le_refl _) _
        have n3 : W3.heap[w2.heap.size]? = some (.cells #[.string x.g, .string x.s, .slice na nn nc, .slice la ln lc] 53 (0, 0)) := by rw [← hW3]; exact heap_alloc_new w2 _
        obtain ⟨css, k1, k2', k3, k4, k5⟩ := RowI.push sT HG.out.2.1 hRlt HG.out.1.size g2 (c := [.string x.g, .string x.s, .slice na nn nc, .slice la ln lc]) (x := x) ⟨_, _, rfl, hin⟩ b3
        have HS2 : Hid _ := manyT_step hlt HS.out hfx
        have HP : Hid (_ ∧ _ ∧ _ ∧ _) := And.intro k2' (And.intro k3 (And.intro k4 k5))
        have HG2 : Hid (Gx R w W3 ∧ Rb K W3 R b p2 k2) := ⟨Gx.trans (Gx.trans HG.out.1 g2) (Gx.of b3), Rb.below hR2 b3⟩
        have hsz := HG2.out.1.size
        have hcl := src_of (c := [.string x.g, .string x.s, .slice na nn nc, .slice la ln lc]) n3
        have hl3 := k1.1
        clear hR2 b3 n3 k2' k3 k4 k5 g2 cx HG HS hin
        go_wp2_with (first
          | (at_builtin; (try rw [hW3]); refine YAp.app_seen rfl _ _ 24 rfl w.heap.size 53 i0 (.agg #[.string ⟨#[]⟩, .string ⟨#[]⟩, .slice none 0 0, .slice none 0 0]) 4 80 Try.underlying24 hi hz0 hz1 hz2 rfl (by decide) _ _ _ rfl k1 _ 1 _ [.string x.g, .string x.s, .slice na nn nc, .slice la ln lc] rfl hcl rfl (by intro u hu; simp only [List.mem_cons, List.not_mem_nil, or_false] at hu; rcases hu with rfl | rfl | rfl | rfl <;> rfl) (by unfold maxLen; omega) (by omega) hsz ?_))
        intro v' W4 hown hgrow hnb
        have HF : Hid (Gx R w W4 ∧ RowI (HdT m) 53 4 w.heap.size W4 v' (xs ++ [x]) ∧ Rb K W4 R b p2 k2 ∧ k2 ≤ 4096) := ⟨gx_row HG2.out.1 hgrow (fun r hr => (World.ownsRow.lt k1 r hr).1), RowI.snoc sT k1 HP.out.1 HP.out.2.1 HP.out.2.2.1 HP.out.2.2.2 rfl hgrow (by rw [hxl]; exact hown) hnb, Rb.row HG2.out.2 hgrow hRlt (fun r hr => (World.ownsRow.lt k1 r hr).1), hk2⟩
        clear hown hgrow hnb HG2 HP k1 hcl
        go_wp2_with fail
        go_roundw
        case rel => exact ⟨q + 1, p2, k2, xs ++ [x], by go_num, by omega, by simp [hxl], HF, HS2⟩
        case measure => simp only [intOf]; omega
    · obtain rfl : q = n := by omega
      obtain ⟨va, vm, vc, rfl⟩ := RowI.slice HG.out.2.1
      go_wp2_with fail
      go_ret
      rw [HE.out, manyT_end HS.out]
      exact ⟨HG.out.1, _, rfl, rrs_inl (RowI.rr (Ly := LyTs m (fun g => w.heap.size ≤ g ∧ g < wr.heap.size)) HG.out.2.1 (by omega) (fun b h1 h2 => ⟨h1, h2⟩) (ly_t (fun b hb => ⟨hb.1, hb.2.1⟩))) (by omega), HG.out.2.2.1, HG.out.2.2.2⟩
set_option maxRecDepth 20000 in
set_option maxHeartbeats 3200000 in
theorem rl_u {m K R p k P2 P3 : Nat} {w : World} {b : By} (lim : Nat) (hlim : lim ≤ 4096) (f : Nat → Nat → Rt T) (h : Rb K w R b p k) (hk0 : k ≤ 4096)
    (hone : Hid (∀ (W : World) (q k' : Nat), Rb K W R b q k' → k' ≤ 4096 → Gx R w W → Calls Try.prog 124 #[ptw P2, ptw P3] W fun e w' => RT K R b (VA (HdT m)) (f q k') W e w')) :
    Calls Try.prog 46 #[ptw R, .int .i64 lim, .func (.func 124) #[] #[ptw P2, ptw P3]] w fun e w' => RT K R b (fun S w v l => TBase.InL false S w m v l) (rlstT lim f b p k) w e w' := by
  have hRlt := h.lt
  have c1 := YRb.count_c lim (by omega) h
  obtain ⟨i0, hi, hz0, hz1, hz2⟩ := info_parts TBase.infoT
  have hE0 : rlstT lim f b p k = match rcnt lim b p with
    | .error q => .error q
    | .ok (n, q) => rmanyT f n q k := rfl
  clear h
  cases hE : rcnt lim b p with
  | error q =>
    rw [hE] at c1 hE0
    have HE : Hid (rlstT lim f b p k = .error q) := hE0
    clear hE0 hE
    go_enter Try.func46, Try.ntmps46
    go_wp2_with fail
    refine c1.mono ?_
    rintro e w1 ⟨g1, rfl⟩
    exact ⟨rfl, by rw [HE.out]; exact ⟨g1, rfl⟩⟩
  | ok t =>
  obtain ⟨n, q0⟩ := t
  rw [hE] at c1 hE0
  have HE : Hid (rlstT lim f b p k = rmanyT f n q0 k) := hE0
  clear hE0 hE
  go_enter Try.func46, Try.ntmps46
  go_wp2_with fail
  refine c1.mono ?_
  rintro e w1 ⟨g1, v, rfl, ⟨rfl, hn⟩, hR1⟩
  have HG1 : Hid (Gx R w w1 ∧ Rb K w1 R b q0 k) := ⟨g1, hR1⟩
  clear c1 g1 hR1
  go_wp2_with fail
  go_loopw [7, 11] (fun v i wr => ∃ (q p' k' : Nat) (xs : List T), i = .int .i64 q ∧ q ≤ n ∧ xs.length = q ∧ Hid (Gx R w wr ∧ RowI (HdT m) 53 4 w.heap.size wr v xs ∧ Rb K wr R b p' k' ∧ k' ≤ 4096) ∧ Hid (adT xs (rmanyT f (n - q) p' k') = rmanyT f n q0 k)) (fun _ i _ => n - (intOf i).toNat)
  case atStart => exact ⟨0, q0, k, [], rfl, by omega, rfl, ⟨HG1.out.1, RowI.nil _ _ _ _ _, HG1.out.2, hk0⟩, by show _ = _; rw [Nat.sub_zero]; exact adT_nil _⟩
  case round =>
    obtain ⟨q, p', k', xs, rfl, hq, hxl, HG, HS⟩ := hrel
    by_cases hlt : q < n
    · have cx := hone.out wr p' k' HG.out.2.2.1 HG.out.2.2.2 HG.out.1
      go_wp2_with fail
      refine cx.mono ?_
      rintro e w2 ⟨g2, hA⟩
      cases hfx : f p' k' with
      | error z =>
        rw [hfx] at hA
        obtain rfl := hA
        exact ⟨rfl, by rw [HE.out, manyT_stop hlt HS.out hfx]; exact ⟨Gx.trans HG.out.1 g2, rfl⟩⟩
      | ok t =>
        obtain ⟨x, p2, k2⟩ := t
        rw [hfx] at hA
        obtain ⟨ve, rfl, ⟨cc, rfl, nv, lv, rfl, hin⟩, hR2, hk2⟩ := hA
        obtain ⟨na, nn, nc, rfl⟩ : ∃ a n c, nv = .slice a n c := by obtain ⟨m', nv', lv', -, e, -, -, ⟨a, c, h, -⟩, -⟩ := hin.shape; cases e; exact ⟨_, _, _, h⟩
        obtain ⟨la, ln, lc, rfl⟩ : ∃ a n c, lv = .slice a n c := by obtain ⟨m', nv', lv', -, e, -, -, -, ⟨a, c, h, -⟩⟩ := hin.shape; cases e; exact ⟨_, _, _, h⟩
        obtain ⟨W3, hW3⟩ : ∃ W, w2.alloc (.cells #[.string x.g, .string x.s, .slice na nn nc, .slice la ln lc] 53) = W := ⟨_, rfl⟩
        have b3 : Below w2.heap.size w2 W3 := by rw [← hW3]; exact (Below.refl _ w2).alloc (Nat.le_refl _) _
        have n3 : W3.heap[w2.heap.size]? = some (.cells #[.string x.g, .string x.s, .slice na nn nc, .slice la ln lc] 53 (0, 0)) := by rw [← hW3]; exact heap_alloc_new w2 _
        obtain ⟨css, k1, k2', k3, k4, k5⟩ := RowI.push sT HG.out.2.1 hRlt HG.out.1.size g2 (c := [.string x.g, .string x.s, .slice na nn nc, .slice la ln lc]) (x := x) ⟨_, _, rfl, hin⟩ b3
        have HS2 : Hid _ := manyT_step hlt HS.out hfx
        have HP : Hid (_ ∧ _ ∧ _ ∧ _) := And.intro k2' (And.intro k3 (And.intro k4 k5))
        have HG2 : Hid (Gx R w W3 ∧ Rb K W3 R b p2 k2) := ⟨Gx.trans (Gx.trans HG.out.1 g2) (Gx.of b3), Rb.below hR2 b3⟩
        have hsz := HG2.out.1.size
        have hcl := src_of (c := [.string x.g, .string x.s, .slice na nn nc, .slice la ln lc]) n3
        have hl3 := k1.1
        clear hR2 b3 n3 k2' k3 k4 k5 g2 cx HG HS hin
        go_wp2_with (first
          | (at_builtin; (try rw [hW3]); refine YAp.app_seen rfl _ _ 24 rfl w.heap.size 53 i0 (.agg #[.string ⟨#[]⟩, .string ⟨#[]⟩, .slice none 0 0, .slice none 0 0]) 4 80 Try.underlying24 hi hz0 hz1 hz2 rfl (by decide) _ _ _ rfl k1 _ 1 _ [.string x.g, .string x.s, .slice na nn nc, .slice la ln lc] rfl hcl rfl (by intro u hu; simp only [List.mem_cons, List.not_mem_nil, or_false] at hu; rcases hu with rfl | rfl | rfl | rfl <;> rfl) (by unfold maxLen; omega) (by omega) hsz ?_))
        intro v' W4 hown hgrow hnb
        have HF : Hid (Gx R w W4 ∧ RowI (HdT m) 53 4 w.heap.size W4 v' (xs ++ [x]) ∧ Rb K W4 R b p2 k2 ∧ k2 ≤ 4096) := ⟨gx_row HG2.out.1 hgrow (fun r hr => (World.ownsRow.lt k1 r hr).1), RowI.snoc sT k1 HP.out.1 HP.out.2.1 HP.out.2.2.1 HP.out.2.2.2 rfl hgrow (by rw [hxl]; exact hown) hnb, Rb.row HG2.out.2 hgrow hRlt (fun r hr => (World.ownsRow.lt k1 r hr).1), hk2⟩
        clear hown hgrow hnb HG2 HP k1 hcl
        go_wp2_with fail
        go_roundw
        case rel => exact ⟨q + 1, p2, k2, xs ++ [x], by go_num, by omega, by simp [hxl], HF, HS2⟩
        case measure => simp only [intOf]; omega
    · obtain rfl : q = n := by omega
      obtain ⟨va, vm, vc, rfl⟩ := RowI.slice HG.out.2.1
      go_wp2_with fail
      go_ret
      rw [HE.out, manyT_end HS.out]
      exact ⟨HG.out.1, _, rfl, rrs_inl (RowI.rr (Ly := LyTs m (fun g => w.heap.size ≤ g ∧ g < wr.heap.size)) HG.out.2.1 (by omega) (fun b h1 h2 => ⟨h1, h2⟩) (ly_t (fun b hb => ⟨hb.1, hb.2.1⟩))) (by omega), HG.out.2.2.1, HG.out.2.2.2⟩
end Go.Proofs.Ytgknjjaemjkloaa.YRt
