/- Lists of a program written: o b. -/
import Derived.Test.YtgknjjaemjkloaaYRr
namespace Go.Proofs.Ytgknjjaemjkloaa.YLc
open Go.RowKit Go.Proofs.Ytgknjjaemjkloaa.Leb Go.Proofs.Ytgknjjaemjkloaa.YPl Go.Proofs.Ytgknjjaemjkloaa.YWr Go.Proofs.Ytgknjjaemjkloaa.YWo Go.Proofs.Ytgknjjaemjkloaa.YRr
set_option linter.unusedVariables false

set_option maxRecDepth 20000 in
set_option maxHeartbeats 1600000 in
theorem wl_o {K B : Nat} {w : World} {L : By} (lim : Nat) (hlim : lim ≤ 16384) {v : Value} {l : List Oq} (f : Oq → Pc) (h : Wr K w B L) (hK : K ≤ w.heap.size) (hv : Rr 5 (LyO K) K w v l)
    (hone : Hid (∀ (x : Oq) (v0 : Value) (W : World) (M : By), x ∈ l → Below K w W → Wr K W B M → K ≤ W.heap.size → ((i64 x.k ∧ i64 x.a ∧ i64 x.b ∧ i64 x.c) ∧ Rr 1 LyI K W v0 x.l) → Calls Try.prog 117 #[ptw B, (.agg #[.int .i64 x.k, .int .i64 x.a, .int .i64 x.b, .int .i64 x.c, v0])] W fun e w' => WP K B M (f x) W e w')) :
    Calls Try.prog 116 #[ptw B, .int .i64 lim, v, .func (.func 117) #[ptw B] #[]] w fun e w' => WP K B L (lst lim f l) w e w' := by
  obtain ⟨a, cap, rfl, hlc, hcm, hlb, hnil, hrow⟩ := hv
  have c1 := count_c lim hlim (l.length : Int) (by omega) (by omega) h hK
  have HR : Hid _ := hrow
  clear h hrow
  cases hcn : cnt lim (l.length : Int) with
  | none =>
    rw [hcn] at c1
    have HE : Hid (lst lim f l = none) := by show _ = _; unfold lst; rw [hcn, cat_none]
    go_enter Try.func116, Try.ntmps116
    go_wp2_with fail
    refine c1.mono ?_
    rintro e w1 ⟨b1, s1, rfl⟩
    exact ⟨rfl, by rw [HE.out]; exact ⟨b1, s1, rfl⟩⟩
  | some Cs =>
    rw [hcn] at c1
    have HE : Hid (lst lim f l = cat (some Cs) (lis f l)) := by show _ = _; unfold lst; rw [hcn]
    go_enter Try.func116, Try.ntmps116
    go_wp2_with fail
    refine c1.mono ?_
    rintro e w1 ⟨b1, s1, rfl, hW1⟩
    have HB1 : Hid _ := b1
    have HW1 : Hid _ := hW1
    clear b1 hW1 c1
    go_wp2_with fail
    go_loopw [17] (fun i wr => ∃ (q : Nat) (Xs : List By), i = .int .i64 q ∧ q ≤ l.length ∧ Hid (Below K w wr ∧ Fr B w wr ∧ Wr K wr B (pts (pts L Cs) Xs)) ∧ Hid (cat (some Xs) (lis f (l.drop q)) = lis f l)) (fun i _ => l.length - (intOf i).toNat)
    case atStart => exact ⟨0, [], rfl, by omega, ⟨HB1.out, s1, HW1.out⟩, by show _ = _; rw [List.drop_zero, cat_nil]⟩
    case round =>
      obtain ⟨q, Xs, rfl, hq, HG, HS⟩ := hrel
      by_cases hlt : q < l.length
      · rcases HR.out with h0 | ⟨g, o, rfl, hg, hc⟩
        · rw [h0] at hlt; simp at hlt
        have he := LyO.below HG.out.1 hg (hc q hlt)
        obtain ⟨x, hx⟩ : ∃ x, l[q] = x := ⟨_, rfl⟩
        have hmem : x ∈ l := hx ▸ List.getElem_mem hlt
        rw [hx] at he
        obtain ⟨v0, e0, e1, e2, e3, e4, k0, k1⟩ := he
        obtain ⟨xa, xc, rfl⟩ : ∃ a c, v0 = .slice a x.l.length c := by obtain ⟨a, c, h, -⟩ := k1; exact ⟨a, c, h⟩
        have hKw : K ≤ wr.heap.size := Nat.le_trans hK HG.out.2.1.1
        obtain ⟨Wb, hWb⟩ : ∃ W, wr.alloc (.cells #[.int .i64 x.k, .int .i64 x.a, .int .i64 x.b, .int .i64 x.c, .slice xa x.l.length xc] 46) = W := ⟨_, rfl⟩
        have bA : Below wr.heap.size wr Wb := by rw [← hWb]; exact (Below.refl _ wr).alloc (Nat.le_refl _) _
        have sA := bA.size
        have HA1 : Hid _ := bA
        have hbx : Wb.heap[wr.heap.size]? = some (.cells #[.int .i64 x.k, .int .i64 x.a, .int .i64 x.b, .int .i64 x.c, .slice xa x.l.length xc] 46 (0, 0)) := by rw [← hWb]; exact heap_alloc_new wr _
        have z0 : Wb.cell? ⟨wr.heap.size, 0, none⟩ = some (.int .i64 x.k) := cell_of hbx 0 _ rfl
        have z1 : Wb.cell? ⟨wr.heap.size, 1, none⟩ = some (.int .i64 x.a) := cell_of hbx 1 _ rfl
        have z2 : Wb.cell? ⟨wr.heap.size, 2, none⟩ = some (.int .i64 x.b) := cell_of hbx 2 _ rfl
        have z3 : Wb.cell? ⟨wr.heap.size, 3, none⟩ = some (.int .i64 x.c) := cell_of hbx 3 _ rfl
        have z4 : Wb.cell? ⟨wr.heap.size, 4, none⟩ = some (.slice xa x.l.length xc) := cell_of hbx 4 _ rfl
        clear hbx
        have cx := hone.out x _ Wb _ hmem (HG.out.1.trans (bA.mono hKw)) (Wr.below HG.out.2.2 bA) (by have := HG.out.2.1.1; omega) ⟨k0, (k1.keep (Nat.le_refl _) fun g o x _ hg h => h.below (bA.mono hKw) hg)⟩
        clear k0 k1 hc bA
        go_wp2_with fail
        try rw [hWb]
        refine cx.mono ?_
        rintro e w2 ⟨b2, s2, hA⟩
        cases hfx : f x with
        | none =>
          rw [hfx] at hA
          obtain rfl := hA
          exact ⟨rfl, by rw [HE.out, lis_stop hlt HS.out (by rw [hx]; exact hfx), cat_no]; exact ⟨((HG.out.1.trans (HA1.out.mono hKw)).trans b2), ((HG.out.2.1.trans (Fr.of HG.out.2.2.lt HA1.out)).trans s2), rfl⟩⟩
        | some Ys =>
          rw [hfx] at hA
          obtain ⟨rfl, hW2⟩ := hA
          have HG2 : Hid (Below K w w2 ∧ Fr B w w2 ∧ Wr K w2 B (pts (pts L Cs) (Xs ++ Ys))) := ⟨((HG.out.1.trans (HA1.out.mono hKw)).trans b2), ((HG.out.2.1.trans (Fr.of HG.out.2.2.lt HA1.out)).trans s2), by rw [pts_app]; exact hW2⟩
          have HS2 : Hid _ := lis_step hlt HS.out (by rw [hx]; exact hfx)
          clear hW2 b2 cx HG HS
          go_wp2_with fail
          go_roundw
          case rel => exact ⟨q + 1, Xs ++ Ys, by go_num, by omega, HG2, HS2⟩
          case measure => simp only [intOf]; omega
      · obtain rfl : q = l.length := by omega
        go_wp2_with fail
        go_end0
        rw [HE.out, lis_end HS.out]
        exact ⟨HG.out.1, HG.out.2.1, rfl, by rw [pts_app]; exact HG.out.2.2⟩
set_option maxRecDepth 20000 in
set_option maxHeartbeats 1600000 in
theorem wl_b {K B : Nat} {w : World} {L : By} (lim : Nat) (hlim : lim ≤ 16384) {v : Value} {l : List Bk} (f : Bk → Pc) (h : Wr K w B L) (hK : K ≤ w.heap.size) (hv : Rr 3 (LyB K) K w v l)
    (hone : Hid (∀ (x : Bk) (v0 u0 : Value) (W : World) (M : By), x ∈ l → Below K w W → Wr K W B M → K ≤ W.heap.size → (i64 x.d ∧ Rr 5 (LyO K) K W v0 x.o ∧ Rr 1 LyI K W u0 x.u) → Calls Try.prog 77 #[ptw B, (.agg #[.int .i64 x.d, v0, u0])] W fun e w' => WP K B M (f x) W e w')) :
    Calls Try.prog 76 #[ptw B, .int .i64 lim, v, .func (.func 77) #[ptw B] #[]] w fun e w' => WP K B L (lst lim f l) w e w' := by
  obtain ⟨a, cap, rfl, hlc, hcm, hlb, hnil, hrow⟩ := hv
  have c1 := count_c lim hlim (l.length : Int) (by omega) (by omega) h hK
  have HR : Hid _ := hrow
  clear h hrow
  cases hcn : cnt lim (l.length : Int) with
  | none =>
    rw [hcn] at c1
    have HE : Hid (lst lim f l = none) := by show _ = _; unfold lst; rw [hcn, cat_none]
    go_enter Try.func76, Try.ntmps76
    go_wp2_with fail
    refine c1.mono ?_
    rintro e w1 ⟨b1, s1, rfl⟩
    exact ⟨rfl, by rw [HE.out]; exact ⟨b1, s1, rfl⟩⟩
  | some Cs =>
    rw [hcn] at c1
    have HE : Hid (lst lim f l = cat (some Cs) (lis f l)) := by show _ = _; unfold lst; rw [hcn]
    go_enter Try.func76, Try.ntmps76
    go_wp2_with fail
    refine c1.mono ?_
    rintro e w1 ⟨b1, s1, rfl, hW1⟩
    have HB1 : Hid _ := b1
    have HW1 : Hid _ := hW1
    clear b1 hW1 c1
    go_wp2_with fail
    go_loopw [17] (fun i wr => ∃ (q : Nat) (Xs : List By), i = .int .i64 q ∧ q ≤ l.length ∧ Hid (Below K w wr ∧ Fr B w wr ∧ Wr K wr B (pts (pts L Cs) Xs)) ∧ Hid (cat (some Xs) (lis f (l.drop q)) = lis f l)) (fun i _ => l.length - (intOf i).toNat)
    case atStart => exact ⟨0, [], rfl, by omega, ⟨HB1.out, s1, HW1.out⟩, by show _ = _; rw [List.drop_zero, cat_nil]⟩
    case round =>
      obtain ⟨q, Xs, rfl, hq, HG, HS⟩ := hrel
      by_cases hlt : q < l.length
      · rcases HR.out with h0 | ⟨g, o, rfl, hg, hc⟩
        · rw [h0] at hlt; simp at hlt
        have he := LyB.below HG.out.1 hg (hc q hlt)
        obtain ⟨x, hx⟩ : ∃ x, l[q] = x := ⟨_, rfl⟩
        have hmem : x ∈ l := hx ▸ List.getElem_mem hlt
        rw [hx] at he
        obtain ⟨v0, u0, e0, e1, e2, k0, k1, k2⟩ := he
        obtain ⟨xa, xc, rfl⟩ : ∃ a c, v0 = .slice a x.o.length c := by obtain ⟨a, c, h, -⟩ := k1; exact ⟨a, c, h⟩
        obtain ⟨ya, yc, rfl⟩ : ∃ a c, u0 = .slice a x.u.length c := by obtain ⟨a, c, h, -⟩ := k2; exact ⟨a, c, h⟩
        have hKw : K ≤ wr.heap.size := Nat.le_trans hK HG.out.2.1.1
        obtain ⟨Wb, hWb⟩ : ∃ W, wr.alloc (.cells #[.int .i64 x.d, .slice xa x.o.length xc, .slice ya x.u.length yc] 44) = W := ⟨_, rfl⟩
        have bA : Below wr.heap.size wr Wb := by rw [← hWb]; exact (Below.refl _ wr).alloc (Nat.le_refl _) _
        have sA := bA.size
        have HA1 : Hid _ := bA
        have hbx : Wb.heap[wr.heap.size]? = some (.cells #[.int .i64 x.d, .slice xa x.o.length xc, .slice ya x.u.length yc] 44 (0, 0)) := by rw [← hWb]; exact heap_alloc_new wr _
        have z0 : Wb.cell? ⟨wr.heap.size, 0, none⟩ = some (.int .i64 x.d) := cell_of hbx 0 _ rfl
        have z1 : Wb.cell? ⟨wr.heap.size, 1, none⟩ = some (.slice xa x.o.length xc) := cell_of hbx 1 _ rfl
        have z2 : Wb.cell? ⟨wr.heap.size, 2, none⟩ = some (.slice ya x.u.length yc) := cell_of hbx 2 _ rfl
        clear hbx
        have cx := hone.out x _ _ Wb _ hmem (HG.out.1.trans (bA.mono hKw)) (Wr.below HG.out.2.2 bA) (by have := HG.out.2.1.1; omega) ⟨k0, (k1.keep (Nat.le_refl _) fun g o x _ hg h => h.below (bA.mono hKw) hg), (k2.keep (Nat.le_refl _) fun g o x _ hg h => h.below (bA.mono hKw) hg)⟩
        clear k0 k1 k2 hc bA
        go_wp2_with fail
        try rw [hWb]
        refine cx.mono ?_
        rintro e w2 ⟨b2, s2, hA⟩
        cases hfx : f x with
        | none =>
          rw [hfx] at hA
          obtain rfl := hA
          exact ⟨rfl, by rw [HE.out, lis_stop hlt HS.out (by rw [hx]; exact hfx), cat_no]; exact ⟨((HG.out.1.trans (HA1.out.mono hKw)).trans b2), ((HG.out.2.1.trans (Fr.of HG.out.2.2.lt HA1.out)).trans s2), rfl⟩⟩
        | some Ys =>
          rw [hfx] at hA
          obtain ⟨rfl, hW2⟩ := hA
          have HG2 : Hid (Below K w w2 ∧ Fr B w w2 ∧ Wr K w2 B (pts (pts L Cs) (Xs ++ Ys))) := ⟨((HG.out.1.trans (HA1.out.mono hKw)).trans b2), ((HG.out.2.1.trans (Fr.of HG.out.2.2.lt HA1.out)).trans s2), by rw [pts_app]; exact hW2⟩
          have HS2 : Hid _ := lis_step hlt HS.out (by rw [hx]; exact hfx)
          clear hW2 b2 cx HG HS
          go_wp2_with fail
          go_roundw
          case rel => exact ⟨q + 1, Xs ++ Ys, by go_num, by omega, HG2, HS2⟩
          case measure => simp only [intOf]; omega
      · obtain rfl : q = l.length := by omega
        go_wp2_with fail
        go_end0
        rw [HE.out, lis_end HS.out]
        exact ⟨HG.out.1, HG.out.2.1, rfl, by rw [pts_app]; exact HG.out.2.2⟩
end Go.Proofs.Ytgknjjaemjkloaa.YLc
