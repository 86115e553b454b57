/- Lists of a program written: i n a c. -/
import Derived.Test.YtgknjjaemjkloaaYRr
namespace Go.Proofs.Ytgknjjaemjkloaa.YLb
open Go.RowKit Go.Proofs.Ytgknjjaemjkloaa.Leb Go.Proofs.Ytgknjjaemjkloaa.YPl Go.Proofs.Ytgknjjaemjkloaa.YWr Go.Proofs.Ytgknjjaemjkloaa.YWo Go.Proofs.Ytgknjjaemjkloaa.YRr
set_option linter.unusedVariables false

set_option maxRecDepth 20000 in
set_option maxHeartbeats 1600000 in
theorem wl_i {K B : Nat} {w : World} {L : By} (lim : Nat) (hlim : lim ≤ 16384) {v : Value} {l : List Int} (f : Int → Pc) (h : Wr K w B L) (hK : K ≤ w.heap.size) (hv : Rr 1 LyI K w v l)
    (hone : Hid (∀ (x : Int) (W : World) (M : By), x ∈ l → Below K w W → Wr K W B M → K ≤ W.heap.size → (i64 x) → Calls Try.prog 119 #[ptw B, (.int .i64 x)] W fun e w' => WP K B M (f x) W e w')) :
    Calls Try.prog 118 #[ptw B, .int .i64 lim, v, .func (.func 119) #[ptw B] #[]] w fun e w' => WP K B L (lst lim f l) w e w' := by
  obtain ⟨a, cap, rfl, hlc, hcm, hlb, hnil, hrow⟩ := hv
  have c1 := count_c lim hlim (l.length : Int) (by omega) (by omega) h hK
  have HR : Hid _ := hrow
  clear h hrow
  cases hcn : cnt lim (l.length : Int) with
  | none =>
    rw [hcn] at c1
    have HE : Hid (lst lim f l = none) := by show _ = _; unfold lst; rw [hcn, cat_none]
    go_enter Try.func118, Try.ntmps118
    go_wp2_with fail
    refine c1.mono ?_
    rintro e w1 ⟨b1, s1, rfl⟩
    exact ⟨rfl, by rw [HE.out]; exact ⟨b1, s1, rfl⟩⟩
  | some Cs =>
    rw [hcn] at c1
    have HE : Hid (lst lim f l = cat (some Cs) (lis f l)) := by show _ = _; unfold lst; rw [hcn]
    go_enter Try.func118, Try.ntmps118
    go_wp2_with fail
    refine c1.mono ?_
    rintro e w1 ⟨b1, s1, rfl, hW1⟩
    have HB1 : Hid _ := b1
    have HW1 : Hid _ := hW1
    clear b1 hW1 c1
    go_wp2_with fail
    go_loopw [17] (fun i wr => ∃ (q : Nat) (Xs : List By), i = .int .i64 q ∧ q ≤ l.length ∧ Hid (Below K w wr ∧ Fr B w wr ∧ Wr K wr B (pts (pts L Cs) Xs)) ∧ Hid (cat (some Xs) (lis f (l.drop q)) = lis f l)) (fun i _ => l.length - (intOf i).toNat)
    case atStart => exact ⟨0, [], rfl, by omega, ⟨HB1.out, s1, HW1.out⟩, by show _ = _; rw [List.drop_zero, cat_nil]⟩
    case round =>
      obtain ⟨q, Xs, rfl, hq, HG, HS⟩ := hrel
      by_cases hlt : q < l.length
      · rcases HR.out with h0 | ⟨g, o, rfl, hg, hc⟩
        · rw [h0] at hlt; simp at hlt
        have he := LyI.below HG.out.1 hg (hc q hlt)
        rw [Nat.mul_one] at he
        obtain ⟨x, hx⟩ : ∃ x, l[q] = x := ⟨_, rfl⟩
        have hmem : x ∈ l := hx ▸ List.getElem_mem hlt
        rw [hx] at he
        obtain ⟨e0, k0⟩ := he
        have cx := hone.out x  wr _ hmem HG.out.1 HG.out.2.2 (by have := HG.out.2.1.1; omega) k0
        clear k0 hc
        go_wp2_with fail
        refine cx.mono ?_
        rintro e w2 ⟨b2, s2, hA⟩
        cases hfx : f x with
        | none =>
          rw [hfx] at hA
          obtain rfl := hA
          exact ⟨rfl, by rw [HE.out, lis_stop hlt HS.out (by rw [hx]; exact hfx), cat_no]; exact ⟨(HG.out.1.trans b2), (HG.out.2.1.trans s2), rfl⟩⟩
        | some Ys =>
          rw [hfx] at hA
          obtain ⟨rfl, hW2⟩ := hA
          have HG2 : Hid (Below K w w2 ∧ Fr B w w2 ∧ Wr K w2 B (pts (pts L Cs) (Xs ++ Ys))) := ⟨(HG.out.1.trans b2), (HG.out.2.1.trans s2), by rw [pts_app]; exact hW2⟩
          have HS2 : Hid _ := lis_step hlt HS.out (by rw [hx]; exact hfx)
          clear hW2 b2 cx HG HS
          go_wp2_with fail
          go_roundw
          case rel => exact ⟨q + 1, Xs ++ Ys, by go_num, by omega, HG2, HS2⟩
          case measure => simp only [intOf]; omega
      · obtain rfl : q = l.length := by omega
        go_wp2_with fail
        go_end0
        rw [HE.out, lis_end HS.out]
        exact ⟨HG.out.1, HG.out.2.1, rfl, by rw [pts_app]; exact HG.out.2.2⟩
set_option maxRecDepth 20000 in
set_option maxHeartbeats 1600000 in
theorem wl_n {K B : Nat} {w : World} {L : By} (lim : Nat) (hlim : lim ≤ 16384) {v : Value} {l : List Ins} (f : Ins → Pc) (h : Wr K w B L) (hK : K ≤ w.heap.size) (hv : Rr 2 LyN K w v l)
    (hone : Hid (∀ (x : Ins) (W : World) (M : By), x ∈ l → Below K w W → Wr K W B M → K ≤ W.heap.size → (i64 x.1 ∧ i64 x.2) → Calls Try.prog 114 #[ptw B, (.agg #[.int .i64 x.1, .int .i64 x.2])] W fun e w' => WP K B M (f x) W e w')) :
    Calls Try.prog 113 #[ptw B, .int .i64 lim, v, .func (.func 114) #[ptw B] #[]] w fun e w' => WP K B L (lst lim f l) w e w' := by
  obtain ⟨a, cap, rfl, hlc, hcm, hlb, hnil, hrow⟩ := hv
  have c1 := count_c lim hlim (l.length : Int) (by omega) (by omega) h hK
  have HR : Hid _ := hrow
  clear h hrow
  cases hcn : cnt lim (l.length : Int) with
  | none =>
    rw [hcn] at c1
    have HE : Hid (lst lim f l = none) := by show _ = _; unfold lst; rw [hcn, cat_none]
    go_enter Try.func113, Try.ntmps113
    go_wp2_with fail
    refine c1.mono ?_
    rintro e w1 ⟨b1, s1, rfl⟩
    exact ⟨rfl, by rw [HE.out]; exact ⟨b1, s1, rfl⟩⟩
  | some Cs =>
    rw [hcn] at c1
    have HE : Hid (lst lim f l = cat (some Cs) (lis f l)) := by show _ = _; unfold lst; rw [hcn]
    go_enter Try.func113, Try.ntmps113
    go_wp2_with fail
    refine c1.mono ?_
    rintro e w1 ⟨b1, s1, rfl, hW1⟩
    have HB1 : Hid _ := b1
    have HW1 : Hid _ := hW1
    clear b1 hW1 c1
    go_wp2_with fail
    go_loopw [17] (fun i wr => ∃ (q : Nat) (Xs : List By), i = .int .i64 q ∧ q ≤ l.length ∧ Hid (Below K w wr ∧ Fr B w wr ∧ Wr K wr B (pts (pts L Cs) Xs)) ∧ Hid (cat (some Xs) (lis f (l.drop q)) = lis f l)) (fun i _ => l.length - (intOf i).toNat)
    case atStart => exact ⟨0, [], rfl, by omega, ⟨HB1.out, s1, HW1.out⟩, by show _ = _; rw [List.drop_zero, cat_nil]⟩
    case round =>
      obtain ⟨q, Xs, rfl, hq, HG, HS⟩ := hrel
      by_cases hlt : q < l.length
      · rcases HR.out with h0 | ⟨g, o, rfl, hg, hc⟩
        · rw [h0] at hlt; simp at hlt
        have he := LyN.below HG.out.1 hg (hc q hlt)
        obtain ⟨x, hx⟩ : ∃ x, l[q] = x := ⟨_, rfl⟩
        have hmem : x ∈ l := hx ▸ List.getElem_mem hlt
        rw [hx] at he
        obtain ⟨e0, e1, k0, k1⟩ := he
        have hKw : K ≤ wr.heap.size := Nat.le_trans hK HG.out.2.1.1
        obtain ⟨Wb, hWb⟩ : ∃ W, wr.alloc (.cells #[.int .i64 x.1, .int .i64 x.2] 49) = W := ⟨_, rfl⟩
        have bA : Below wr.heap.size wr Wb := by rw [← hWb]; exact (Below.refl _ wr).alloc (Nat.le_refl _) _
        have sA := bA.size
        have HA1 : Hid _ := bA
        have hbx : Wb.heap[wr.heap.size]? = some (.cells #[.int .i64 x.1, .int .i64 x.2] 49 (0, 0)) := by rw [← hWb]; exact heap_alloc_new wr _
        have z0 : Wb.cell? ⟨wr.heap.size, 0, none⟩ = some (.int .i64 x.1) := cell_of hbx 0 _ rfl
        have z1 : Wb.cell? ⟨wr.heap.size, 1, none⟩ = some (.int .i64 x.2) := cell_of hbx 1 _ rfl
        clear hbx
        have cx := hone.out x  Wb _ hmem (HG.out.1.trans (bA.mono hKw)) (Wr.below HG.out.2.2 bA) (by have := HG.out.2.1.1; omega) ⟨k0, k1⟩
        clear k0 k1 hc bA
        go_wp2_with fail
        try rw [hWb]
        refine cx.mono ?_
        rintro e w2 ⟨b2, s2, hA⟩
        cases hfx : f x with
        | none =>
          rw [hfx] at hA
          obtain rfl := hA
          exact ⟨rfl, by rw [HE.out, lis_stop hlt HS.out (by rw [hx]; exact hfx), cat_no]; exact ⟨((HG.out.1.trans (HA1.out.mono hKw)).trans b2), ((HG.out.2.1.trans (Fr.of HG.out.2.2.lt HA1.out)).trans s2), rfl⟩⟩
        | some Ys =>
          rw [hfx] at hA
          obtain ⟨rfl, hW2⟩ := hA
          have HG2 : Hid (Below K w w2 ∧ Fr B w w2 ∧ Wr K w2 B (pts (pts L Cs) (Xs ++ Ys))) := ⟨((HG.out.1.trans (HA1.out.mono hKw)).trans b2), ((HG.out.2.1.trans (Fr.of HG.out.2.2.lt HA1.out)).trans s2), by rw [pts_app]; exact hW2⟩
          have HS2 : Hid _ := lis_step hlt HS.out (by rw [hx]; exact hfx)
          clear hW2 b2 cx HG HS
          go_wp2_with fail
          go_roundw
          case rel => exact ⟨q + 1, Xs ++ Ys, by go_num, by omega, HG2, HS2⟩
          case measure => simp only [intOf]; omega
      · obtain rfl : q = l.length := by omega
        go_wp2_with fail
        go_end0
        rw [HE.out, lis_end HS.out]
        exact ⟨HG.out.1, HG.out.2.1, rfl, by rw [pts_app]; exact HG.out.2.2⟩
set_option maxRecDepth 20000 in
set_option maxHeartbeats 1600000 in
theorem wl_a {K B : Nat} {w : World} {L : By} (lim : Nat) (hlim : lim ≤ 16384) {v : Value} {l : List (ByteArray × ByteArray)} (f : (ByteArray × ByteArray) → Pc) (h : Wr K w B L) (hK : K ≤ w.heap.size) (hv : Rr 2 LyA K w v l)
    (hone : Hid (∀ (x : (ByteArray × ByteArray)) (W : World) (M : By), x ∈ l → Below K w W → Wr K W B M → K ≤ W.heap.size → (x.1.size ≤ 140737488351232 ∧ x.2.size ≤ 140737488351232) → Calls Try.prog 146 #[ptw B, (.agg #[.string x.1, .string x.2])] W fun e w' => WP K B M (f x) W e w')) :
    Calls Try.prog 145 #[ptw B, .int .i64 lim, v, .func (.func 146) #[ptw B] #[]] w fun e w' => WP K B L (lst lim f l) w e w' := by
  obtain ⟨a, cap, rfl, hlc, hcm, hlb, hnil, hrow⟩ := hv
  have c1 := count_c lim hlim (l.length : Int) (by omega) (by omega) h hK
  have HR : Hid _ := hrow
  clear h hrow
  cases hcn : cnt lim (l.length : Int) with
  | none =>
    rw [hcn] at c1
    have HE : Hid (lst lim f l = none) := by show _ = _; unfold lst; rw [hcn, cat_none]
    go_enter Try.func145, Try.ntmps145
    go_wp2_with fail
    refine c1.mono ?_
    rintro e w1 ⟨b1, s1, rfl⟩
    exact ⟨rfl, by rw [HE.out]; exact ⟨b1, s1, rfl⟩⟩
  | some Cs =>
    rw [hcn] at c1
    have HE : Hid (lst lim f l = cat (some Cs) (lis f l)) := by show _ = _; unfold lst; rw [hcn]
    go_enter Try.func145, Try.ntmps145
    go_wp2_with fail
    refine c1.mono ?_
    rintro e w1 ⟨b1, s1, rfl, hW1⟩
    have HB1 : Hid _ := b1
    have HW1 : Hid _ := hW1
    clear b1 hW1 c1
    go_wp2_with fail
    go_loopw [17] (fun i wr => ∃ (q : Nat) (Xs : List By), i = .int .i64 q ∧ q ≤ l.length ∧ Hid (Below K w wr ∧ Fr B w wr ∧ Wr K wr B (pts (pts L Cs) Xs)) ∧ Hid (cat (some Xs) (lis f (l.drop q)) = lis f l)) (fun i _ => l.length - (intOf i).toNat)
    case atStart => exact ⟨0, [], rfl, by omega, ⟨HB1.out, s1, HW1.out⟩, by show _ = _; rw [List.drop_zero, cat_nil]⟩
    case round =>
      obtain ⟨q, Xs, rfl, hq, HG, HS⟩ := hrel
      by_cases hlt : q < l.length
      · rcases HR.out with h0 | ⟨g, o, rfl, hg, hc⟩
        · rw [h0] at hlt; simp at hlt
        have he := LyA.below HG.out.1 hg (hc q hlt)
        obtain ⟨x, hx⟩ : ∃ x, l[q] = x := ⟨_, rfl⟩
        have hmem : x ∈ l := hx ▸ List.getElem_mem hlt
        rw [hx] at he
        obtain ⟨e0, e1, k0, k1⟩ := he
        have hKw : K ≤ wr.heap.size := Nat.le_trans hK HG.out.2.1.1
        obtain ⟨Wb, hWb⟩ : ∃ W, wr.alloc (.cells #[.string x.1, .string x.2] 176) = W := ⟨_, rfl⟩
        have bA : Below wr.heap.size wr Wb := by rw [← hWb]; exact (Below.refl _ wr).alloc (Nat.le_refl _) _
        have sA := bA.size
        have HA1 : Hid _ := bA
        have hbx : Wb.heap[wr.heap.size]? = some (.cells #[.string x.1, .string x.2] 176 (0, 0)) := by rw [← hWb]; exact heap_alloc_new wr _
        have z0 : Wb.cell? ⟨wr.heap.size, 0, none⟩ = some (.string x.1) := cell_of hbx 0 _ rfl
        have z1 : Wb.cell? ⟨wr.heap.size, 1, none⟩ = some (.string x.2) := cell_of hbx 1 _ rfl
        clear hbx
        have cx := hone.out x  Wb _ hmem (HG.out.1.trans (bA.mono hKw)) (Wr.below HG.out.2.2 bA) (by have := HG.out.2.1.1; omega) ⟨k0, k1⟩
        clear k0 k1 hc bA
        go_wp2_with fail
        try rw [hWb]
        refine cx.mono ?_
        rintro e w2 ⟨b2, s2, hA⟩
        cases hfx : f x with
        | none =>
          rw [hfx] at hA
          obtain rfl := hA
          exact ⟨rfl, by rw [HE.out, lis_stop hlt HS.out (by rw [hx]; exact hfx), cat_no]; exact ⟨((HG.out.1.trans (HA1.out.mono hKw)).trans b2), ((HG.out.2.1.trans (Fr.of HG.out.2.2.lt HA1.out)).trans s2), rfl⟩⟩
        | some Ys =>
          rw [hfx] at hA
          obtain ⟨rfl, hW2⟩ := hA
          have HG2 : Hid (Below K w w2 ∧ Fr B w w2 ∧ Wr K w2 B (pts (pts L Cs) (Xs ++ Ys))) := ⟨((HG.out.1.trans (HA1.out.mono hKw)).trans b2), ((HG.out.2.1.trans (Fr.of HG.out.2.2.lt HA1.out)).trans s2), by rw [pts_app]; exact hW2⟩
          have HS2 : Hid _ := lis_step hlt HS.out (by rw [hx]; exact hfx)
          clear hW2 b2 cx HG HS
          go_wp2_with fail
          go_roundw
          case rel => exact ⟨q + 1, Xs ++ Ys, by go_num, by omega, HG2, HS2⟩
          case measure => simp only [intOf]; omega
      · obtain rfl : q = l.length := by omega
        go_wp2_with fail
        go_end0
        rw [HE.out, lis_end HS.out]
        exact ⟨HG.out.1, HG.out.2.1, rfl, by rw [pts_app]; exact HG.out.2.2⟩
set_option maxRecDepth 20000 in
set_option maxHeartbeats 1600000 in
theorem wl_c {K B : Nat} {w : World} {L : By} (lim : Nat) (hlim : lim ≤ 16384) {v : Value} {l : List (List Ins)} (f : (List Ins) → Pc) (h : Wr K w B L) (hK : K ≤ w.heap.size) (hv : Rr 1 (LyC K) K w v l)
    (hone : Hid (∀ (x : (List Ins)) (v0 : Value) (W : World) (M : By), x ∈ l → Below K w W → Wr K W B M → K ≤ W.heap.size → (Rr 2 LyN K W v0 x) → Calls Try.prog 73 #[ptw B, v0] W fun e w' => WP K B M (f x) W e w')) :
    Calls Try.prog 72 #[ptw B, .int .i64 lim, v, .func (.func 73) #[ptw B] #[]] w fun e w' => WP K B L (lst lim f l) w e w' := by
  obtain ⟨a, cap, rfl, hlc, hcm, hlb, hnil, hrow⟩ := hv
  have c1 := count_c lim hlim (l.length : Int) (by omega) (by omega) h hK
  have HR : Hid _ := hrow
  clear h hrow
  cases hcn : cnt lim (l.length : Int) with
  | none =>
    rw [hcn] at c1
    have HE : Hid (lst lim f l = none) := by show _ = _; unfold lst; rw [hcn, cat_none]
    go_enter Try.func72, Try.ntmps72
    go_wp2_with fail
    refine c1.mono ?_
    rintro e w1 ⟨b1, s1, rfl⟩
    exact ⟨rfl, by rw [HE.out]; exact ⟨b1, s1, rfl⟩⟩
  | some Cs =>
    rw [hcn] at c1
    have HE : Hid (lst lim f l = cat (some Cs) (lis f l)) := by show _ = _; unfold lst; rw [hcn]
    go_enter Try.func72, Try.ntmps72
    go_wp2_with fail
    refine c1.mono ?_
    rintro e w1 ⟨b1, s1, rfl, hW1⟩
    have HB1 : Hid _ := b1
    have HW1 : Hid _ := hW1
    clear b1 hW1 c1
    go_wp2_with fail
    go_loopw [17] (fun i wr => ∃ (q : Nat) (Xs : List By), i = .int .i64 q ∧ q ≤ l.length ∧ Hid (Below K w wr ∧ Fr B w wr ∧ Wr K wr B (pts (pts L Cs) Xs)) ∧ Hid (cat (some Xs) (lis f (l.drop q)) = lis f l)) (fun i _ => l.length - (intOf i).toNat)
    case atStart => exact ⟨0, [], rfl, by omega, ⟨HB1.out, s1, HW1.out⟩, by show _ = _; rw [List.drop_zero, cat_nil]⟩
    case round =>
      obtain ⟨q, Xs, rfl, hq, HG, HS⟩ := hrel
      by_cases hlt : q < l.length
      · rcases HR.out with h0 | ⟨g, o, rfl, hg, hc⟩
        · rw [h0] at hlt; simp at hlt
        have he := LyC.below HG.out.1 hg (hc q hlt)
        rw [Nat.mul_one] at he
        obtain ⟨x, hx⟩ : ∃ x, l[q] = x := ⟨_, rfl⟩
        have hmem : x ∈ l := hx ▸ List.getElem_mem hlt
        rw [hx] at he
        obtain ⟨v0, e0, k0⟩ := he
        obtain ⟨xa, xc, rfl⟩ : ∃ a c, v0 = .slice a x.length c := by obtain ⟨a, c, h, -⟩ := k0; exact ⟨a, c, h⟩
        have cx := hone.out x _ wr _ hmem HG.out.1 HG.out.2.2 (by have := HG.out.2.1.1; omega) k0
        clear k0 hc
        go_wp2_with fail
        refine cx.mono ?_
        rintro e w2 ⟨b2, s2, hA⟩
        cases hfx : f x with
        | none =>
          rw [hfx] at hA
          obtain rfl := hA
          exact ⟨rfl, by rw [HE.out, lis_stop hlt HS.out (by rw [hx]; exact hfx), cat_no]; exact ⟨(HG.out.1.trans b2), (HG.out.2.1.trans s2), rfl⟩⟩
        | some Ys =>
          rw [hfx] at hA
          obtain ⟨rfl, hW2⟩ := hA
          have HG2 : Hid (Below K w w2 ∧ Fr B w w2 ∧ Wr K w2 B (pts (pts L Cs) (Xs ++ Ys))) := ⟨(HG.out.1.trans b2), (HG.out.2.1.trans s2), by rw [pts_app]; exact hW2⟩
          have HS2 : Hid _ := lis_step hlt HS.out (by rw [hx]; exact hfx)
          clear hW2 b2 cx HG HS
          go_wp2_with fail
          go_roundw
          case rel => exact ⟨q + 1, Xs ++ Ys, by go_num, by omega, HG2, HS2⟩
          case measure => simp only [intOf]; omega
      · obtain rfl : q = l.length := by omega
        go_wp2_with fail
        go_end0
        rw [HE.out, lis_end HS.out]
        exact ⟨HG.out.1, HG.out.2.1, rfl, by rw [pts_app]; exact HG.out.2.2⟩
end Go.Proofs.Ytgknjjaemjkloaa.YLb
