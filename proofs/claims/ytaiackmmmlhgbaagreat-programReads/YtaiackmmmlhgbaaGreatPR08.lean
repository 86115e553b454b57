import Derived.Test.YtaiackmmmlhgbaaGreatPR07
open Go.Proofs.Tryz
set_option linter.unusedVariables false
set_option maxRecDepth 20000
set_option maxHeartbeats 3200000
namespace Go.Proofs.YtaiackmmmlhgbaaGreat.YLb
open Go.RowKit YPl YWr YWo YRr
theorem wl_i {K B : Nat} {w : World} {L : By} (lim : Nat) (hlim : lim <= 16384) {v : Value} {l : List Int} (f : Int -> Pc) (h : Wr K w B L) (hK : K <= w.heap.size) (hv : Rr 1 LyI K w v l)
    (hone : Hid (∀ (x : Int) (W : World) (M : By), x ∈ l -> Below K w W -> Wr K W B M -> K <= W.heap.size -> (i64 x) -> Calls prog 212 #[ptw B, (.int .i64 x)] W fun e w' => WP K B M (f x) W e w')) :
    Calls prog 211 #[ptw B, .int .i64 lim, v, .func (.func 212) #[ptw B] #[]] w fun e w' => WP K B L (lst lim f l) w e w' := by
  obtain ⟨a, cap, rfl, hlc, hcm, hlb, hnil, hrow⟩ := hv
  have c1 := count_c lim hlim (l.length : Int) (by omega) (by omega) h hK
  have HR : Hid _ := hrow
  clear h hrow
  cases hcn : cnt lim (l.length : Int) with
  | none =>
    rw [hcn] at c1
    have HE : Hid (lst lim f l = none) := by show _ = _; unfold lst; rw [hcn, cat_none]
    go_enter func211, ntmps211
    go_wp2_with fail
    refine c1.mono ?_
    rintro e w1 ⟨b1, s1, rfl⟩
    exact ⟨rfl, by rw [HE.out]; exact ⟨b1, s1, rfl⟩⟩
  | some Cs =>
    rw [hcn] at c1
    have HE : Hid (lst lim f l = cat (some Cs) (lis f l)) := by show _ = _; unfold lst; rw [hcn]
    go_enter func211, ntmps211
    go_wp2_with fail
    refine c1.mono ?_
    rintro e w1 ⟨b1, s1, rfl, hW1⟩
    have HB1 : Hid _ := b1
    have HW1 : Hid _ := hW1
    clear b1 hW1 c1
    go_wp2_with fail
    go_loopw [17] (fun i wr => ∃ (q : Nat) (Xs : List By), i = .int .i64 q /\ q <= l.length /\ Hid (Below K w wr /\ Fr B w wr /\ Wr K wr B (pts (pts L Cs) Xs)) /\ Hid (cat (some Xs) (lis f (l.drop q)) = lis f l)) (fun i _ => l.length - (intOf i).toNat)
    case atStart => exact ⟨0, [], rfl, by omega, ⟨HB1.out, s1, HW1.out⟩, by show _ = _; rw [List.drop_zero, cat_nil]⟩
    case round =>
      obtain ⟨q, Xs, rfl, hq, HG, HS⟩ := hrel
      by_cases hlt : q < l.length
      · rcases HR.out with h0 | ⟨g, o, rfl, hg, hc⟩
        · rw [h0] at hlt; simp at hlt
        have he := LyI.below HG.out.1 hg (hc q hlt)
        rw [Nat.mul_one] at he
        obtain ⟨x, hx⟩ : ∃ x, l[q] = x := ⟨_, rfl⟩
        have hmem : x ∈ l := hx ▸ List.getElem_mem hlt
        rw [hx] at he
        obtain ⟨e0, k0⟩ := he
        have cx := hone.out x  wr _ hmem HG.out.1 HG.out.2.2 (by have := HG.out.2.1.1; omega) k0
        clear k0 hc
        go_wp2_with fail
        refine cx.mono ?_
        rintro e w2 ⟨b2, s2, hA⟩
        cases hfx : f x with
        | none =>
          rw [hfx] at hA
          obtain rfl := hA
          exact ⟨rfl, by rw [HE.out, lis_stop hlt HS.out (by rw [hx]; exact hfx), cat_no]; exact ⟨(HG.out.1.trans b2), (HG.out.2.1.trans s2), rfl⟩⟩
        | some Ys =>
          rw [hfx] at hA
          obtain ⟨rfl, hW2⟩ := hA
          have HG2 : Hid (Below K w w2 /\ Fr B w w2 /\ Wr K w2 B (pts (pts L Cs) (Xs ++ Ys))) := ⟨(HG.out.1.trans b2), (HG.out.2.1.trans s2), by rw [pts_app]; exact hW2⟩
          have HS2 : Hid _ := lis_step hlt HS.out (by rw [hx]; exact hfx)
          clear hW2 b2 cx HG HS
          go_wp2_with fail
          go_roundw
          case rel => exact ⟨q + 1, Xs ++ Ys, by go_num, by omega, HG2, HS2⟩
          case measure => simp only [intOf]; omega
      · obtain rfl : q = l.length := by omega
        go_wp2_with fail
        go_end0
        rw [HE.out, lis_end HS.out]
        exact ⟨HG.out.1, HG.out.2.1, rfl, by rw [pts_app]; exact HG.out.2.2⟩
theorem wl_n {K B : Nat} {w : World} {L : By} (lim : Nat) (hlim : lim <= 16384) {v : Value} {l : List Ins} (f : Ins -> Pc) (h : Wr K w B L) (hK : K <= w.heap.size) (hv : Rr 2 LyN K w v l)
    (hone : Hid (∀ (x : Ins) (W : World) (M : By), x ∈ l -> Below K w W -> Wr K W B M -> K <= W.heap.size -> (i64 x.1 /\ i64 x.2) -> Calls prog 207 #[ptw B, (.agg #[.int .i64 x.1, .int .i64 x.2])] W fun e w' => WP K B M (f x) W e w')) :
    Calls prog 206 #[ptw B, .int .i64 lim, v, .func (.func 207) #[ptw B] #[]] w fun e w' => WP K B L (lst lim f l) w e w' := by
  obtain ⟨a, cap, rfl, hlc, hcm, hlb, hnil, hrow⟩ := hv
  have c1 := count_c lim hlim (l.length : Int) (by omega) (by omega) h hK
  have HR : Hid _ := hrow
  clear h hrow
  cases hcn : cnt lim (l.length : Int) with
  | none =>
    rw [hcn] at c1
    have HE : Hid (lst lim f l = none) := by show _ = _; unfold lst; rw [hcn, cat_none]
    go_enter func206, ntmps206
    go_wp2_with fail
    refine c1.mono ?_
    rintro e w1 ⟨b1, s1, rfl⟩
    exact ⟨rfl, by rw [HE.out]; exact ⟨b1, s1, rfl⟩⟩
  | some Cs =>
    rw [hcn] at c1
    have HE : Hid (lst lim f l = cat (some Cs) (lis f l)) := by show _ = _; unfold lst; rw [hcn]
    go_enter func206, ntmps206
    go_wp2_with fail
    refine c1.mono ?_
    rintro e w1 ⟨b1, s1, rfl, hW1⟩
    have HB1 : Hid _ := b1
    have HW1 : Hid _ := hW1
    clear b1 hW1 c1
    go_wp2_with fail
    go_loopw [17] (fun i wr => ∃ (q : Nat) (Xs : List By), i = .int .i64 q /\ q <= l.length /\ Hid (Below K w wr /\ Fr B w wr /\ Wr K wr B (pts (pts L Cs) Xs)) /\ Hid (cat (some Xs) (lis f (l.drop q)) = lis f l)) (fun i _ => l.length - (intOf i).toNat)
    case atStart => exact ⟨0, [], rfl, by omega, ⟨HB1.out, s1, HW1.out⟩, by show _ = _; rw [List.drop_zero, cat_nil]⟩
    case round =>
      obtain ⟨q, Xs, rfl, hq, HG, HS⟩ := hrel
      by_cases hlt : q < l.length
      · rcases HR.out with h0 | ⟨g, o, rfl, hg, hc⟩
        · rw [h0] at hlt; simp at hlt
        have he := LyN.below HG.out.1 hg (hc q hlt)
        obtain ⟨x, hx⟩ : ∃ x, l[q] = x := ⟨_, rfl⟩
        have hmem : x ∈ l := hx ▸ List.getElem_mem hlt
        rw [hx] at he
        obtain ⟨e0, e1, k0, k1⟩ := he
        have hKw : K <= wr.heap.size := Nat.le_trans hK HG.out.2.1.1
        obtain ⟨Wb, hWb⟩ : ∃ W, wr.alloc (.cells #[.int .i64 x.1, .int .i64 x.2] 65) = W := ⟨_, rfl⟩
        have bA : Below wr.heap.size wr Wb := by rw [<- hWb]; exact (Below.refl _ wr).alloc (Nat.le_refl _) _
        have sA := bA.size
        have HA1 : Hid _ := bA
        have hbx : Wb.heap[wr.heap.size]? = some (.cells #[.int .i64 x.1, .int .i64 x.2] 65 (0, 0)) := by rw [<- hWb]; exact heap_alloc_new wr _
        have z0 : Wb.cell? ⟨wr.heap.size, 0, none⟩ = some (.int .i64 x.1) := cell_of hbx 0 _ rfl
        have z1 : Wb.cell? ⟨wr.heap.size, 1, none⟩ = some (.int .i64 x.2) := cell_of hbx 1 _ rfl
        clear hbx
        have cx := hone.out x  Wb _ hmem (HG.out.1.trans (bA.mono hKw)) (Wr.below HG.out.2.2 bA) (by have := HG.out.2.1.1; omega) ⟨k0, k1⟩
        clear k0 k1 hc bA
        go_wp2_with fail
        try rw [hWb]
        refine cx.mono ?_
        rintro e w2 ⟨b2, s2, hA⟩
        cases hfx : f x with
        | none =>
          rw [hfx] at hA
          obtain rfl := hA
          exact ⟨rfl, by rw [HE.out, lis_stop hlt HS.out (by rw [hx]; exact hfx), cat_no]; exact ⟨((HG.out.1.trans (HA1.out.mono hKw)).trans b2), ((HG.out.2.1.trans (Fr.of HG.out.2.2.lt HA1.out)).trans s2), rfl⟩⟩
        | some Ys =>
          rw [hfx] at hA
          obtain ⟨rfl, hW2⟩ := hA
          have HG2 : Hid (Below K w w2 /\ Fr B w w2 /\ Wr K w2 B (pts (pts L Cs) (Xs ++ Ys))) := ⟨((HG.out.1.trans (HA1.out.mono hKw)).trans b2), ((HG.out.2.1.trans (Fr.of HG.out.2.2.lt HA1.out)).trans s2), by rw [pts_app]; exact hW2⟩
          have HS2 : Hid _ := lis_step hlt HS.out (by rw [hx]; exact hfx)
          clear hW2 b2 cx HG HS
          go_wp2_with fail
          go_roundw
          case rel => exact ⟨q + 1, Xs ++ Ys, by go_num, by omega, HG2, HS2⟩
          case measure => simp only [intOf]; omega
      · obtain rfl : q = l.length := by omega
        go_wp2_with fail
        go_end0
        rw [HE.out, lis_end HS.out]
        exact ⟨HG.out.1, HG.out.2.1, rfl, by rw [pts_app]; exact HG.out.2.2⟩
theorem wl_a {K B : Nat} {w : World} {L : By} (lim : Nat) (hlim : lim <= 16384) {v : Value} {l : List (ByteArray × ByteArray)} (f : (ByteArray × ByteArray) -> Pc) (h : Wr K w B L) (hK : K <= w.heap.size) (hv : Rr 2 LyA K w v l)
    (hone : Hid (∀ (x : (ByteArray × ByteArray)) (W : World) (M : By), x ∈ l -> Below K w W -> Wr K W B M -> K <= W.heap.size -> (x.1.size <= 140737488351232 /\ x.2.size <= 140737488351232) -> Calls prog 222 #[ptw B, (.agg #[.string x.1, .string x.2])] W fun e w' => WP K B M (f x) W e w')) :
    Calls prog 221 #[ptw B, .int .i64 lim, v, .func (.func 222) #[ptw B] #[]] w fun e w' => WP K B L (lst lim f l) w e w' := by
  obtain ⟨a, cap, rfl, hlc, hcm, hlb, hnil, hrow⟩ := hv
  have c1 := count_c lim hlim (l.length : Int) (by omega) (by omega) h hK
  have HR : Hid _ := hrow
  clear h hrow
  cases hcn : cnt lim (l.length : Int) with
  | none =>
    rw [hcn] at c1
    have HE : Hid (lst lim f l = none) := by show _ = _; unfold lst; rw [hcn, cat_none]
    go_enter func221, ntmps221
    go_wp2_with fail
    refine c1.mono ?_
    rintro e w1 ⟨b1, s1, rfl⟩
    exact ⟨rfl, by rw [HE.out]; exact ⟨b1, s1, rfl⟩⟩
  | some Cs =>
    rw [hcn] at c1
    have HE : Hid (lst lim f l = cat (some Cs) (lis f l)) := by show _ = _; unfold lst; rw [hcn]
    go_enter func221, ntmps221
    go_wp2_with fail
    refine c1.mono ?_
    rintro e w1 ⟨b1, s1, rfl, hW1⟩
    have HB1 : Hid _ := b1
    have HW1 : Hid _ := hW1
    clear b1 hW1 c1
    go_wp2_with fail
    go_loopw [17] (fun i wr => ∃ (q : Nat) (Xs : List By), i = .int .i64 q /\ q <= l.length /\ Hid (Below K w wr /\ Fr B w wr /\ Wr K wr B (pts (pts L Cs) Xs)) /\ Hid (cat (some Xs) (lis f (l.drop q)) = lis f l)) (fun i _ => l.length - (intOf i).toNat)
    case atStart => exact ⟨0, [], rfl, by omega, ⟨HB1.out, s1, HW1.out⟩, by show _ = _; rw [List.drop_zero, cat_nil]⟩
    case round =>
      obtain ⟨q, Xs, rfl, hq, HG, HS⟩ := hrel
      by_cases hlt : q < l.length
      · rcases HR.out with h0 | ⟨g, o, rfl, hg, hc⟩
        · rw [h0] at hlt; simp at hlt
        have he := LyA.below HG.out.1 hg (hc q hlt)
        obtain ⟨x, hx⟩ : ∃ x, l[q] = x := ⟨_, rfl⟩
        have hmem : x ∈ l := hx ▸ List.getElem_mem hlt
        rw [hx] at he
        obtain ⟨e0, e1, k0, k1⟩ := he
        have hKw : K <= wr.heap.size := Nat.le_trans hK HG.out.2.1.1
        obtain ⟨Wb, hWb⟩ : ∃ W, wr.alloc (.cells #[.string x.1, .string x.2] 124) = W := ⟨_, rfl⟩
        have bA : Below wr.heap.size wr Wb := by rw [<- hWb]; exact (Below.refl _ wr).alloc (Nat.le_refl _) _
        have sA := bA.size
        have HA1 : Hid _ := bA
        have hbx : Wb.heap[wr.heap.size]? = some (.cells #[.string x.1, .string x.2] 124 (0, 0)) := by rw [<- hWb]; exact heap_alloc_new wr _
        have z0 : Wb.cell? ⟨wr.heap.size, 0, none⟩ = some (.string x.1) := cell_of hbx 0 _ rfl
        have z1 : Wb.cell? ⟨wr.heap.size, 1, none⟩ = some (.string x.2) := cell_of hbx 1 _ rfl
        clear hbx
        have cx := hone.out x  Wb _ hmem (HG.out.1.trans (bA.mono hKw)) (Wr.below HG.out.2.2 bA) (by have := HG.out.2.1.1; omega) ⟨k0, k1⟩
        clear k0 k1 hc bA
        go_wp2_with fail
        try rw [hWb]
        refine cx.mono ?_
        rintro e w2 ⟨b2, s2, hA⟩
        cases hfx : f x with
        | none =>
          rw [hfx] at hA
          obtain rfl := hA
          exact ⟨rfl, by rw [HE.out, lis_stop hlt HS.out (by rw [hx]; exact hfx), cat_no]; exact ⟨((HG.out.1.trans (HA1.out.mono hKw)).trans b2), ((HG.out.2.1.trans (Fr.of HG.out.2.2.lt HA1.out)).trans s2), rfl⟩⟩
        | some Ys =>
          rw [hfx] at hA
          obtain ⟨rfl, hW2⟩ := hA
          have HG2 : Hid (Below K w w2 /\ Fr B w w2 /\ Wr K w2 B (pts (pts L Cs) (Xs ++ Ys))) := ⟨((HG.out.1.trans (HA1.out.mono hKw)).trans b2), ((HG.out.2.1.trans (Fr.of HG.out.2.2.lt HA1.out)).trans s2), by rw [pts_app]; exact hW2⟩
          have HS2 : Hid _ := lis_step hlt HS.out (by rw [hx]; exact hfx)
          clear hW2 b2 cx HG HS
          go_wp2_with fail
          go_roundw
          case rel => exact ⟨q + 1, Xs ++ Ys, by go_num, by omega, HG2, HS2⟩
          case measure => simp only [intOf]; omega
      · obtain rfl : q = l.length := by omega
        go_wp2_with fail
        go_end0
        rw [HE.out, lis_end HS.out]
        exact ⟨HG.out.1, HG.out.2.1, rfl, by rw [pts_app]; exact HG.out.2.2⟩
theorem wl_c {K B : Nat} {w : World} {L : By} (lim : Nat) (hlim : lim <= 16384) {v : Value} {l : List (List Ins)} (f : (List Ins) -> Pc) (h : Wr K w B L) (hK : K <= w.heap.size) (hv : Rr 1 (LyC K) K w v l)
    (hone : Hid (∀ (x : (List Ins)) (v0 : Value) (W : World) (M : By), x ∈ l -> Below K w W -> Wr K W B M -> K <= W.heap.size -> (Rr 2 LyN K W v0 x) -> Calls prog 174 #[ptw B, v0] W fun e w' => WP K B M (f x) W e w')) :
    Calls prog 173 #[ptw B, .int .i64 lim, v, .func (.func 174) #[ptw B] #[]] w fun e w' => WP K B L (lst lim f l) w e w' := by
  obtain ⟨a, cap, rfl, hlc, hcm, hlb, hnil, hrow⟩ := hv
  have c1 := count_c lim hlim (l.length : Int) (by omega) (by omega) h hK
  have HR : Hid _ := hrow
  clear h hrow
  cases hcn : cnt lim (l.length : Int) with
  | none =>
    rw [hcn] at c1
    have HE : Hid (lst lim f l = none) := by show _ = _; unfold lst; rw [hcn, cat_none]
    go_enter func173, ntmps173
    go_wp2_with fail
    refine c1.mono ?_
    rintro e w1 ⟨b1, s1, rfl⟩
    exact ⟨rfl, by rw [HE.out]; exact ⟨b1, s1, rfl⟩⟩
  | some Cs =>
    rw [hcn] at c1
    have HE : Hid (lst lim f l = cat (some Cs) (lis f l)) := by show _ = _; unfold lst; rw [hcn]
    go_enter func173, ntmps173
    go_wp2_with fail
    refine c1.mono ?_
    rintro e w1 ⟨b1, s1, rfl, hW1⟩
    have HB1 : Hid _ := b1
    have HW1 : Hid _ := hW1
    clear b1 hW1 c1
    go_wp2_with fail
    go_loopw [17] (fun i wr => ∃ (q : Nat) (Xs : List By), i = .int .i64 q /\ q <= l.length /\ Hid (Below K w wr /\ Fr B w wr /\ Wr K wr B (pts (pts L Cs) Xs)) /\ Hid (cat (some Xs) (lis f (l.drop q)) = lis f l)) (fun i _ => l.length - (intOf i).toNat)
    case atStart => exact ⟨0, [], rfl, by omega, ⟨HB1.out, s1, HW1.out⟩, by show _ = _; rw [List.drop_zero, cat_nil]⟩
    case round =>
      obtain ⟨q, Xs, rfl, hq, HG, HS⟩ := hrel
      by_cases hlt : q < l.length
      · rcases HR.out with h0 | ⟨g, o, rfl, hg, hc⟩
        · rw [h0] at hlt; simp at hlt
        have he := LyC.below HG.out.1 hg (hc q hlt)
        rw [Nat.mul_one] at he
        obtain ⟨x, hx⟩ : ∃ x, l[q] = x := ⟨_, rfl⟩
        have hmem : x ∈ l := hx ▸ List.getElem_mem hlt
        rw [hx] at he
        obtain ⟨v0, e0, k0⟩ := he
        obtain ⟨xa, xc, rfl⟩ : ∃ a c, v0 = .slice a x.length c := by obtain ⟨a, c, h, -⟩ := k0; exact ⟨a, c, h⟩
        have cx := hone.out x _ wr _ hmem HG.out.1 HG.out.2.2 (by have := HG.out.2.1.1; omega) k0
        clear k0 hc
        go_wp2_with fail
        refine cx.mono ?_
        rintro e w2 ⟨b2, s2, hA⟩
        cases hfx : f x with
        | none =>
          rw [hfx] at hA
          obtain rfl := hA
          exact ⟨rfl, by rw [HE.out, lis_stop hlt HS.out (by rw [hx]; exact hfx), cat_no]; exact ⟨(HG.out.1.trans b2), (HG.out.2.1.trans s2), rfl⟩⟩
        | some Ys =>
          rw [hfx] at hA
          obtain ⟨rfl, hW2⟩ := hA
          have HG2 : Hid (Below K w w2 /\ Fr B w w2 /\ Wr K w2 B (pts (pts L Cs) (Xs ++ Ys))) := ⟨(HG.out.1.trans b2), (HG.out.2.1.trans s2), by rw [pts_app]; exact hW2⟩
          have HS2 : Hid _ := lis_step hlt HS.out (by rw [hx]; exact hfx)
          clear hW2 b2 cx HG HS
          go_wp2_with fail
          go_roundw
          case rel => exact ⟨q + 1, Xs ++ Ys, by go_num, by omega, HG2, HS2⟩
          case measure => simp only [intOf]; omega
      · obtain rfl : q = l.length := by omega
        go_wp2_with fail
        go_end0
        rw [HE.out, lis_end HS.out]
        exact ⟨HG.out.1, HG.out.2.1, rfl, by rw [pts_app]; exact HG.out.2.2⟩
end Go.Proofs.YtaiackmmmlhgbaaGreat.YLb
namespace Go.Proofs.YtaiackmmmlhgbaaGreat.YLc
open Go.RowKit YPl YWr YWo YRr
theorem wl_o {K B : Nat} {w : World} {L : By} (lim : Nat) (hlim : lim <= 16384) {v : Value} {l : List Oq} (f : Oq -> Pc) (h : Wr K w B L) (hK : K <= w.heap.size) (hv : Rr 5 (LyO K) K w v l)
    (hone : Hid (∀ (x : Oq) (v0 : Value) (W : World) (M : By), x ∈ l -> Below K w W -> Wr K W B M -> K <= W.heap.size -> ((i64 x.k /\ i64 x.a /\ i64 x.b /\ i64 x.c) /\ Rr 1 LyI K W v0 x.l) -> Calls prog 210 #[ptw B, (.agg #[.int .i64 x.k, .int .i64 x.a, .int .i64 x.b, .int .i64 x.c, v0])] W fun e w' => WP K B M (f x) W e w')) :
    Calls prog 209 #[ptw B, .int .i64 lim, v, .func (.func 210) #[ptw B] #[]] w fun e w' => WP K B L (lst lim f l) w e w' := by
  obtain ⟨a, cap, rfl, hlc, hcm, hlb, hnil, hrow⟩ := hv
  have c1 := count_c lim hlim (l.length : Int) (by omega) (by omega) h hK
  have HR : Hid _ := hrow
  clear h hrow
  cases hcn : cnt lim (l.length : Int) with
  | none =>
    rw [hcn] at c1
    have HE : Hid (lst lim f l = none) := by show _ = _; unfold lst; rw [hcn, cat_none]
    go_enter func209, ntmps209
    go_wp2_with fail
    refine c1.mono ?_
    rintro e w1 ⟨b1, s1, rfl⟩
    exact ⟨rfl, by rw [HE.out]; exact ⟨b1, s1, rfl⟩⟩
  | some Cs =>
    rw [hcn] at c1
    have HE : Hid (lst lim f l = cat (some Cs) (lis f l)) := by show _ = _; unfold lst; rw [hcn]
    go_enter func209, ntmps209
    go_wp2_with fail
    refine c1.mono ?_
    rintro e w1 ⟨b1, s1, rfl, hW1⟩
    have HB1 : Hid _ := b1
    have HW1 : Hid _ := hW1
    clear b1 hW1 c1
    go_wp2_with fail
    go_loopw [17] (fun i wr => ∃ (q : Nat) (Xs : List By), i = .int .i64 q /\ q <= l.length /\ Hid (Below K w wr /\ Fr B w wr /\ Wr K wr B (pts (pts L Cs) Xs)) /\ Hid (cat (some Xs) (lis f (l.drop q)) = lis f l)) (fun i _ => l.length - (intOf i).toNat)
    case atStart => exact ⟨0, [], rfl, by omega, ⟨HB1.out, s1, HW1.out⟩, by show _ = _; rw [List.drop_zero, cat_nil]⟩
    case round =>
      obtain ⟨q, Xs, rfl, hq, HG, HS⟩ := hrel
      by_cases hlt : q < l.length
      · rcases HR.out with h0 | ⟨g, o, rfl, hg, hc⟩
        · rw [h0] at hlt; simp at hlt
        have he := LyO.below HG.out.1 hg (hc q hlt)
        obtain ⟨x, hx⟩ : ∃ x, l[q] = x := ⟨_, rfl⟩
        have hmem : x ∈ l := hx ▸ List.getElem_mem hlt
        rw [hx] at he
        obtain ⟨v0, e0, e1, e2, e3, e4, k0, k1⟩ := he
        obtain ⟨xa, xc, rfl⟩ : ∃ a c, v0 = .slice a x.l.length c := by obtain ⟨a, c, h, -⟩ := k1; exact ⟨a, c, h⟩
        have hKw : K <= wr.heap.size := Nat.le_trans hK HG.out.2.1.1
        obtain ⟨Wb, hWb⟩ : ∃ W, wr.alloc (.cells #[.int .i64 x.k, .int .i64 x.a, .int .i64 x.b, .int .i64 x.c, .slice xa x.l.length xc] 127) = W := ⟨_, rfl⟩
        have bA : Below wr.heap.size wr Wb := by rw [<- hWb]; exact (Below.refl _ wr).alloc (Nat.le_refl _) _
        have sA := bA.size
        have HA1 : Hid _ := bA
        have hbx : Wb.heap[wr.heap.size]? = some (.cells #[.int .i64 x.k, .int .i64 x.a, .int .i64 x.b, .int .i64 x.c, .slice xa x.l.length xc] 127 (0, 0)) := by rw [<- hWb]; exact heap_alloc_new wr _
        have z0 : Wb.cell? ⟨wr.heap.size, 0, none⟩ = some (.int .i64 x.k) := cell_of hbx 0 _ rfl
        have z1 : Wb.cell? ⟨wr.heap.size, 1, none⟩ = some (.int .i64 x.a) := cell_of hbx 1 _ rfl
        have z2 : Wb.cell? ⟨wr.heap.size, 2, none⟩ = some (.int .i64 x.b) := cell_of hbx 2 _ rfl
        have z3 : Wb.cell? ⟨wr.heap.size, 3, none⟩ = some (.int .i64 x.c) := cell_of hbx 3 _ rfl
        have z4 : Wb.cell? ⟨wr.heap.size, 4, none⟩ = some (.slice xa x.l.length xc) := cell_of hbx 4 _ rfl
        clear hbx
        have cx := hone.out x _ Wb _ hmem (HG.out.1.trans (bA.mono hKw)) (Wr.below HG.out.2.2 bA) (by have := HG.out.2.1.1; omega) ⟨k0, (k1.keep (Nat.le_refl _) fun g o x _ hg h => h.below (bA.mono hKw) hg)⟩
        clear k0 k1 hc bA
        go_wp2_with fail
        try rw [hWb]
        refine cx.mono ?_
        rintro e w2 ⟨b2, s2, hA⟩
        cases hfx : f x with
        | none =>
          rw [hfx] at hA
          obtain rfl := hA
          exact ⟨rfl, by rw [HE.out, lis_stop hlt HS.out (by rw [hx]; exact hfx), cat_no]; exact ⟨((HG.out.1.trans (HA1.out.mono hKw)).trans b2), ((HG.out.2.1.trans (Fr.of HG.out.2.2.lt HA1.out)).trans s2), rfl⟩⟩
        | some Ys =>
          rw [hfx] at hA
          obtain ⟨rfl, hW2⟩ := hA
          have HG2 : Hid (Below K w w2 /\ Fr B w w2 /\ Wr K w2 B (pts (pts L Cs) (Xs ++ Ys))) := ⟨((HG.out.1.trans (HA1.out.mono hKw)).trans b2), ((HG.out.2.1.trans (Fr.of HG.out.2.2.lt HA1.out)).trans s2), by rw [pts_app]; exact hW2⟩
          have HS2 : Hid _ := lis_step hlt HS.out (by rw [hx]; exact hfx)
          clear hW2 b2 cx HG HS
          go_wp2_with fail
          go_roundw
          case rel => exact ⟨q + 1, Xs ++ Ys, by go_num, by omega, HG2, HS2⟩
          case measure => simp only [intOf]; omega
      · obtain rfl : q = l.length := by omega
        go_wp2_with fail
        go_end0
        rw [HE.out, lis_end HS.out]
        exact ⟨HG.out.1, HG.out.2.1, rfl, by rw [pts_app]; exact HG.out.2.2⟩
theorem wl_b {K B : Nat} {w : World} {L : By} (lim : Nat) (hlim : lim <= 16384) {v : Value} {l : List Bk} (f : Bk -> Pc) (h : Wr K w B L) (hK : K <= w.heap.size) (hv : Rr 3 (LyB K) K w v l)
    (hone : Hid (∀ (x : Bk) (v0 u0 : Value) (W : World) (M : By), x ∈ l -> Below K w W -> Wr K W B M -> K <= W.heap.size -> (i64 x.d /\ Rr 5 (LyO K) K W v0 x.o /\ Rr 1 LyI K W u0 x.u) -> Calls prog 178 #[ptw B, (.agg #[.int .i64 x.d, v0, u0])] W fun e w' => WP K B M (f x) W e w')) :
    Calls prog 177 #[ptw B, .int .i64 lim, v, .func (.func 178) #[ptw B] #[]] w fun e w' => WP K B L (lst lim f l) w e w' := by
  obtain ⟨a, cap, rfl, hlc, hcm, hlb, hnil, hrow⟩ := hv
  have c1 := count_c lim hlim (l.length : Int) (by omega) (by omega) h hK
  have HR : Hid _ := hrow
  clear h hrow
  cases hcn : cnt lim (l.length : Int) with
  | none =>
    rw [hcn] at c1
    have HE : Hid (lst lim f l = none) := by show _ = _; unfold lst; rw [hcn, cat_none]
    go_enter func177, ntmps177
    go_wp2_with fail
    refine c1.mono ?_
    rintro e w1 ⟨b1, s1, rfl⟩
    exact ⟨rfl, by rw [HE.out]; exact ⟨b1, s1, rfl⟩⟩
  | some Cs =>
    rw [hcn] at c1
    have HE : Hid (lst lim f l = cat (some Cs) (lis f l)) := by show _ = _; unfold lst; rw [hcn]
    go_enter func177, ntmps177
    go_wp2_with fail
    refine c1.mono ?_
    rintro e w1 ⟨b1, s1, rfl, hW1⟩
    have HB1 : Hid _ := b1
    have HW1 : Hid _ := hW1
    clear b1 hW1 c1
    go_wp2_with fail
    go_loopw [17] (fun i wr => ∃ (q : Nat) (Xs : List By), i = .int .i64 q /\ q <= l.length /\ Hid (Below K w wr /\ Fr B w wr /\ Wr K wr B (pts (pts L Cs) Xs)) /\ Hid (cat (some Xs) (lis f (l.drop q)) = lis f l)) (fun i _ => l.length - (intOf i).toNat)
    case atStart => exact ⟨0, [], rfl, by omega, ⟨HB1.out, s1, HW1.out⟩, by show _ = _; rw [List.drop_zero, cat_nil]⟩
    case round =>
      obtain ⟨q, Xs, rfl, hq, HG, HS⟩ := hrel
      by_cases hlt : q < l.length
      · rcases HR.out with h0 | ⟨g, o, rfl, hg, hc⟩
        · rw [h0] at hlt; simp at hlt
        have he := LyB.below HG.out.1 hg (hc q hlt)
        obtain ⟨x, hx⟩ : ∃ x, l[q] = x := ⟨_, rfl⟩
        have hmem : x ∈ l := hx ▸ List.getElem_mem hlt
        rw [hx] at he
        obtain ⟨v0, u0, e0, e1, e2, k0, k1, k2⟩ := he
        obtain ⟨xa, xc, rfl⟩ : ∃ a c, v0 = .slice a x.o.length c := by obtain ⟨a, c, h, -⟩ := k1; exact ⟨a, c, h⟩
        obtain ⟨ya, yc, rfl⟩ : ∃ a c, u0 = .slice a x.u.length c := by obtain ⟨a, c, h, -⟩ := k2; exact ⟨a, c, h⟩
        have hKw : K <= wr.heap.size := Nat.le_trans hK HG.out.2.1.1
        obtain ⟨Wb, hWb⟩ : ∃ W, wr.alloc (.cells #[.int .i64 x.d, .slice xa x.o.length xc, .slice ya x.u.length yc] 74) = W := ⟨_, rfl⟩
        have bA : Below wr.heap.size wr Wb := by rw [<- hWb]; exact (Below.refl _ wr).alloc (Nat.le_refl _) _
        have sA := bA.size
        have HA1 : Hid _ := bA
        have hbx : Wb.heap[wr.heap.size]? = some (.cells #[.int .i64 x.d, .slice xa x.o.length xc, .slice ya x.u.length yc] 74 (0, 0)) := by rw [<- hWb]; exact heap_alloc_new wr _
        have z0 : Wb.cell? ⟨wr.heap.size, 0, none⟩ = some (.int .i64 x.d) := cell_of hbx 0 _ rfl
        have z1 : Wb.cell? ⟨wr.heap.size, 1, none⟩ = some (.slice xa x.o.length xc) := cell_of hbx 1 _ rfl
        have z2 : Wb.cell? ⟨wr.heap.size, 2, none⟩ = some (.slice ya x.u.length yc) := cell_of hbx 2 _ rfl
        clear hbx
        have cx := hone.out x _ _ Wb _ hmem (HG.out.1.trans (bA.mono hKw)) (Wr.below HG.out.2.2 bA) (by have := HG.out.2.1.1; omega) ⟨k0, (k1.keep (Nat.le_refl _) fun g o x _ hg h => h.below (bA.mono hKw) hg), (k2.keep (Nat.le_refl _) fun g o x _ hg h => h.below (bA.mono hKw) hg)⟩
        clear k0 k1 k2 hc bA
        go_wp2_with fail
        try rw [hWb]
        refine cx.mono ?_
        rintro e w2 ⟨b2, s2, hA⟩
        cases hfx : f x with
        | none =>
          rw [hfx] at hA
          obtain rfl := hA
          exact ⟨rfl, by rw [HE.out, lis_stop hlt HS.out (by rw [hx]; exact hfx), cat_no]; exact ⟨((HG.out.1.trans (HA1.out.mono hKw)).trans b2), ((HG.out.2.1.trans (Fr.of HG.out.2.2.lt HA1.out)).trans s2), rfl⟩⟩
        | some Ys =>
          rw [hfx] at hA
          obtain ⟨rfl, hW2⟩ := hA
          have HG2 : Hid (Below K w w2 /\ Fr B w w2 /\ Wr K w2 B (pts (pts L Cs) (Xs ++ Ys))) := ⟨((HG.out.1.trans (HA1.out.mono hKw)).trans b2), ((HG.out.2.1.trans (Fr.of HG.out.2.2.lt HA1.out)).trans s2), by rw [pts_app]; exact hW2⟩
          have HS2 : Hid _ := lis_step hlt HS.out (by rw [hx]; exact hfx)
          clear hW2 b2 cx HG HS
          go_wp2_with fail
          go_roundw
          case rel => exact ⟨q + 1, Xs ++ Ys, by go_num, by omega, HG2, HS2⟩
          case measure => simp only [intOf]; omega
      · obtain rfl : q = l.length := by omega
        go_wp2_with fail
        go_end0
        rw [HE.out, lis_end HS.out]
        exact ⟨HG.out.1, HG.out.2.1, rfl, by rw [pts_app]; exact HG.out.2.2⟩
end Go.Proofs.YtaiackmmmlhgbaaGreat.YLc
namespace Go.Proofs.YtaiackmmmlhgbaaGreat.YSq
open Go.RowKit YPl YWr YWo YRr
theorem inst_c {K B : Nat} {w : World} {L : By} (x : Ins) (hx : i64 x.1 /\ i64 x.2) (h : Wr K w B L) (hK : K <= w.heap.size) :
    Calls prog 207 #[ptw B, .agg #[.int .i64 x.1, .int .i64 x.2]] w fun e w' => WP K B L (ins x) w e w' := by
  obtain ⟨W0, hW0⟩ : ∃ W, w.alloc (.cells #[.int .i64 x.1, .int .i64 x.2] 65) = W := ⟨_, rfl⟩
  have b0 : Below w.heap.size w W0 := by rw [<- hW0]; exact (Below.refl _ w).alloc (Nat.le_refl _) _
  have s0 : w.heap.size < W0.heap.size := by rw [<- hW0]; simp
  have g0 : W0.heap[w.heap.size]? = some (.cells #[.int .i64 x.1, .int .i64 x.2] 65 (0, 0)) := by rw [<- hW0]; exact heap_alloc_new w _
  have HB : Hid (∀ W', Fr B W0 W' -> W'.heap[w.heap.size]? = some (.cells #[.int .i64 x.1, .int .i64 x.2] 65 (0, 0))) := fun W' hf => (Fr.box h b0 hf (Nat.le_refl _) s0).trans g0
  have G0 : Hid (Below K w W0 /\ Fr B w W0 /\ Fr B W0 W0 /\ Wr K W0 B (pts L [])) := ⟨b0.mono hK, Fr.of h.lt b0, Fr.refl _ _, Wr.below h b0⟩
  clear h b0 g0
  go_enter func207, ntmps207
  have c0 := octet_c x.1 G0.out.2.2.2 (Nat.le_trans hK G0.out.2.1.1)
  have z0 := cell_of (HB.out _ G0.out.2.2.1) 0 _ rfl
  go_wp2_with fail
  try rw [hW0]
  refine c0.mono ?_
  rintro e W1 ⟨b1, f1, hA⟩
  cases hP0 : oct x.1 with
  | none =>
    rw [hP0] at hA
    obtain rfl := hA
    exact ⟨rfl, by rw [show ins x = none by simp only [ins, hP0, cat_none]]; exact ⟨G0.out.1.trans b1, G0.out.2.1.trans f1, rfl⟩⟩
  | some Y0 =>
  rw [hP0] at hA
  obtain ⟨rfl, hWr0⟩ := hA
  have G1 : Hid (Below K w W1 /\ Fr B w W1 /\ Fr B W0 W1 /\ Wr K W1 B (pts L ([] ++ Y0))) := ⟨G0.out.1.trans b1, G0.out.2.1.trans f1, G0.out.2.2.1.trans f1, by rw [pts_app]; exact hWr0⟩
  clear b1 f1 hWr0 c0 z0
  have c1 := whole_c x.2 hx.2.1 hx.2.2 G1.out.2.2.2 (Nat.le_trans hK G1.out.2.1.1)
  have z1 := cell_of (HB.out _ G1.out.2.2.1) 1 _ rfl
  go_wp2_with fail
  try rw [hW0]
  refine c1.mono ?_
  rintro e W2 ⟨b2, f2, hA⟩
  cases hP1 : whl x.2 with
  | none =>
    rw [hP1] at hA
    obtain rfl := hA
    exact ⟨rfl, by rw [show ins x = none by simp only [ins, hP0, hP1, cat_no]]; exact ⟨G1.out.1.trans b2, G1.out.2.1.trans f2, rfl⟩⟩
  | some Y1 =>
  rw [hP1] at hA
  obtain ⟨rfl, hWr1⟩ := hA
  have G2 : Hid (Below K w W2 /\ Fr B w W2 /\ Fr B W0 W2 /\ Wr K W2 B (pts L (([] ++ Y0) ++ Y1))) := ⟨G1.out.1.trans b2, G1.out.2.1.trans f2, G1.out.2.2.1.trans f2, by rw [pts_app]; exact hWr1⟩
  clear b2 f2 hWr1 c1 z1
  go_wp2_with fail
  go_end0
  rw [show ins x = some (([] ++ Y0) ++ Y1) by simp only [ins, hP0, hP1, cat, List.nil_append]]
  exact ⟨G2.out.1, G2.out.2.1, rfl, G2.out.2.2.2⟩
theorem attr_c {K B : Nat} {w : World} {L : By} (x : ByteArray × ByteArray) (hx : x.1.size <= 140737488351232 /\ x.2.size <= 140737488351232) (h : Wr K w B L) (hK : K <= w.heap.size) :
    Calls prog 222 #[ptw B, .agg #[.string x.1, .string x.2]] w fun e w' => WP K B L (att x) w e w' := by
  obtain ⟨W0, hW0⟩ : ∃ W, w.alloc (.cells #[.string x.1, .string x.2] 124) = W := ⟨_, rfl⟩
  have b0 : Below w.heap.size w W0 := by rw [<- hW0]; exact (Below.refl _ w).alloc (Nat.le_refl _) _
  have s0 : w.heap.size < W0.heap.size := by rw [<- hW0]; simp
  have g0 : W0.heap[w.heap.size]? = some (.cells #[.string x.1, .string x.2] 124 (0, 0)) := by rw [<- hW0]; exact heap_alloc_new w _
  have HB : Hid (∀ W', Fr B W0 W' -> W'.heap[w.heap.size]? = some (.cells #[.string x.1, .string x.2] 124 (0, 0))) := fun W' hf => (Fr.box h b0 hf (Nat.le_refl _) s0).trans g0
  have G0 : Hid (Below K w W0 /\ Fr B w W0 /\ Fr B W0 W0 /\ Wr K W0 B (pts L [])) := ⟨b0.mono hK, Fr.of h.lt b0, Fr.refl _ _, Wr.below h b0⟩
  clear h b0 g0
  go_enter func222, ntmps222
  have c0 := text_c x.1 hx.1 G0.out.2.2.2 (Nat.le_trans hK G0.out.2.1.1)
  have z0 := cell_of (HB.out _ G0.out.2.2.1) 0 _ rfl
  go_wp2_with fail
  try rw [hW0]
  refine c0.mono ?_
  rintro e W1 ⟨b1, f1, hA⟩
  cases hP0 : txt x.1 with
  | none =>
    rw [hP0] at hA
    obtain rfl := hA
    exact ⟨rfl, by rw [show att x = none by simp only [att, hP0, cat_none]]; exact ⟨G0.out.1.trans b1, G0.out.2.1.trans f1, rfl⟩⟩
  | some Y0 =>
  rw [hP0] at hA
  obtain ⟨rfl, hWr0⟩ := hA
  have G1 : Hid (Below K w W1 /\ Fr B w W1 /\ Fr B W0 W1 /\ Wr K W1 B (pts L ([] ++ Y0))) := ⟨G0.out.1.trans b1, G0.out.2.1.trans f1, G0.out.2.2.1.trans f1, by rw [pts_app]; exact hWr0⟩
  clear b1 f1 hWr0 c0 z0
  have c1 := text_c x.2 hx.2 G1.out.2.2.2 (Nat.le_trans hK G1.out.2.1.1)
  have z1 := cell_of (HB.out _ G1.out.2.2.1) 1 _ rfl
  go_wp2_with fail
  try rw [hW0]
  refine c1.mono ?_
  rintro e W2 ⟨b2, f2, hA⟩
  cases hP1 : txt x.2 with
  | none =>
    rw [hP1] at hA
    obtain rfl := hA
    exact ⟨rfl, by rw [show att x = none by simp only [att, hP0, hP1, cat_no]]; exact ⟨G1.out.1.trans b2, G1.out.2.1.trans f2, rfl⟩⟩
  | some Y1 =>
  rw [hP1] at hA
  obtain ⟨rfl, hWr1⟩ := hA
  have G2 : Hid (Below K w W2 /\ Fr B w W2 /\ Fr B W0 W2 /\ Wr K W2 B (pts L (([] ++ Y0) ++ Y1))) := ⟨G1.out.1.trans b2, G1.out.2.1.trans f2, G1.out.2.2.1.trans f2, by rw [pts_app]; exact hWr1⟩
  clear b2 f2 hWr1 c1 z1
  go_wp2_with fail
  go_end0
  rw [show att x = some (([] ++ Y0) ++ Y1) by simp only [att, hP0, hP1, cat, List.nil_append]]
  exact ⟨G2.out.1, G2.out.2.1, rfl, G2.out.2.2.2⟩
theorem op_c {K B : Nat} {w : World} {L : By} {a : Option Addr} {n cp : Nat} (x : Oq) (hx : i64 x.k /\ i64 x.a /\ i64 x.b /\ i64 x.c) (hr : Rr 1 LyI K w (.slice a n cp) x.l) (h : Wr K w B L) (hK : K <= w.heap.size) :
    Calls prog 210 #[ptw B, .agg #[.int .i64 x.k, .int .i64 x.a, .int .i64 x.b, .int .i64 x.c, .slice a n cp]] w fun e w' => WP K B L (opc x) w e w' := by
  obtain ⟨W0, hW0⟩ : ∃ W, w.alloc (.cells #[.int .i64 x.k, .int .i64 x.a, .int .i64 x.b, .int .i64 x.c, .slice a n cp] 127) = W := ⟨_, rfl⟩
  have b0 : Below w.heap.size w W0 := by rw [<- hW0]; exact (Below.refl _ w).alloc (Nat.le_refl _) _
  have s0 : w.heap.size < W0.heap.size := by rw [<- hW0]; simp
  have g0 : W0.heap[w.heap.size]? = some (.cells #[.int .i64 x.k, .int .i64 x.a, .int .i64 x.b, .int .i64 x.c, .slice a n cp] 127 (0, 0)) := by rw [<- hW0]; exact heap_alloc_new w _
  have HB : Hid (∀ W', Fr B W0 W' -> W'.heap[w.heap.size]? = some (.cells #[.int .i64 x.k, .int .i64 x.a, .int .i64 x.b, .int .i64 x.c, .slice a n cp] 127 (0, 0))) := fun W' hf => (Fr.box h b0 hf (Nat.le_refl _) s0).trans g0
  have G0 : Hid (Below K w W0 /\ Fr B w W0 /\ Fr B W0 W0 /\ Wr K W0 B (pts L [])) := ⟨b0.mono hK, Fr.of h.lt b0, Fr.refl _ _, Wr.below h b0⟩
  have HR : Hid _ := hr
  clear h b0 g0 hr
  go_enter func210, ntmps210
  have c0 := octet_c x.k G0.out.2.2.2 (Nat.le_trans hK G0.out.2.1.1)
  have z0 := cell_of (HB.out _ G0.out.2.2.1) 0 _ rfl
  go_wp2_with fail
  try rw [hW0]
  refine c0.mono ?_
  rintro e W1 ⟨b1, f1, hA⟩
  cases hP0 : oct x.k with
  | none =>
    rw [hP0] at hA
    obtain rfl := hA
    exact ⟨rfl, by rw [show opc x = none by simp only [opc, hP0, cat_none]]; exact ⟨G0.out.1.trans b1, G0.out.2.1.trans f1, rfl⟩⟩
  | some Y0 =>
  rw [hP0] at hA
  obtain ⟨rfl, hWr0⟩ := hA
  have G1 : Hid (Below K w W1 /\ Fr B w W1 /\ Fr B W0 W1 /\ Wr K W1 B (pts L ([] ++ Y0))) := ⟨G0.out.1.trans b1, G0.out.2.1.trans f1, G0.out.2.2.1.trans f1, by rw [pts_app]; exact hWr0⟩
  clear b1 f1 hWr0 c0 z0
  have c1 := whole_c x.a hx.2.1.1 hx.2.1.2 G1.out.2.2.2 (Nat.le_trans hK G1.out.2.1.1)
  have z1 := cell_of (HB.out _ G1.out.2.2.1) 1 _ rfl
  go_wp2_with fail
  try rw [hW0]
  refine c1.mono ?_
  rintro e W2 ⟨b2, f2, hA⟩
  cases hP1 : whl x.a with
  | none =>
    rw [hP1] at hA
    obtain rfl := hA
    exact ⟨rfl, by rw [show opc x = none by simp only [opc, hP0, hP1, cat_none, cat_no]]; exact ⟨G1.out.1.trans b2, G1.out.2.1.trans f2, rfl⟩⟩
  | some Y1 =>
  rw [hP1] at hA
  obtain ⟨rfl, hWr1⟩ := hA
  have G2 : Hid (Below K w W2 /\ Fr B w W2 /\ Fr B W0 W2 /\ Wr K W2 B (pts L (([] ++ Y0) ++ Y1))) := ⟨G1.out.1.trans b2, G1.out.2.1.trans f2, G1.out.2.2.1.trans f2, by rw [pts_app]; exact hWr1⟩
  clear b2 f2 hWr1 c1 z1
  have c2 := whole_c x.b hx.2.2.1.1 hx.2.2.1.2 G2.out.2.2.2 (Nat.le_trans hK G2.out.2.1.1)
  have z2 := cell_of (HB.out _ G2.out.2.2.1) 2 _ rfl
  go_wp2_with fail
  try rw [hW0]
  refine c2.mono ?_
  rintro e W3 ⟨b3, f3, hA⟩
  cases hP2 : whl x.b with
  | none =>
    rw [hP2] at hA
    obtain rfl := hA
    exact ⟨rfl, by rw [show opc x = none by simp only [opc, hP0, hP1, hP2, cat_none, cat_no]]; exact ⟨G2.out.1.trans b3, G2.out.2.1.trans f3, rfl⟩⟩
  | some Y2 =>
  rw [hP2] at hA
  obtain ⟨rfl, hWr2⟩ := hA
  have G3 : Hid (Below K w W3 /\ Fr B w W3 /\ Fr B W0 W3 /\ Wr K W3 B (pts L ((([] ++ Y0) ++ Y1) ++ Y2))) := ⟨G2.out.1.trans b3, G2.out.2.1.trans f3, G2.out.2.2.1.trans f3, by rw [pts_app]; exact hWr2⟩
  clear b3 f3 hWr2 c2 z2
  have c3 := whole_c x.c hx.2.2.2.1 hx.2.2.2.2 G3.out.2.2.2 (Nat.le_trans hK G3.out.2.1.1)
  have z3 := cell_of (HB.out _ G3.out.2.2.1) 3 _ rfl
  go_wp2_with fail
  try rw [hW0]
  refine c3.mono ?_
  rintro e W4 ⟨b4, f4, hA⟩
  cases hP3 : whl x.c with
  | none =>
    rw [hP3] at hA
    obtain rfl := hA
    exact ⟨rfl, by rw [show opc x = none by simp only [opc, hP0, hP1, hP2, hP3, cat_none, cat_no]]; exact ⟨G3.out.1.trans b4, G3.out.2.1.trans f4, rfl⟩⟩
  | some Y3 =>
  rw [hP3] at hA
  obtain ⟨rfl, hWr3⟩ := hA
  have G4 : Hid (Below K w W4 /\ Fr B w W4 /\ Fr B W0 W4 /\ Wr K W4 B (pts L (((([] ++ Y0) ++ Y1) ++ Y2) ++ Y3))) := ⟨G3.out.1.trans b4, G3.out.2.1.trans f4, G3.out.2.2.1.trans f4, by rw [pts_app]; exact hWr3⟩
  clear b4 f4 hWr3 c3 z3
  have c4 := YLb.wl_i 64 (by omega) whl G4.out.2.2.2 (Nat.le_trans hK G4.out.2.1.1) (Rr.keep HR.out (Nat.le_refl _) fun g o x _ hg h => h.below G4.out.1 hg) (show _ from fun y W M _ _ hW hK hy => whole_c y hy.1 hy.2 hW hK)
  have z4 := cell_of (HB.out _ G4.out.2.2.1) 4 _ rfl
  go_wp2_with fail
  try rw [hW0]
  refine c4.mono ?_
  rintro e W5 ⟨b5, f5, hA⟩
  cases hP4 : lst 64 whl x.l with
  | none =>
    rw [hP4] at hA
    obtain rfl := hA
    exact ⟨rfl, by rw [show opc x = none by simp only [opc, hP0, hP1, hP2, hP3, hP4, cat_no]]; exact ⟨G4.out.1.trans b5, G4.out.2.1.trans f5, rfl⟩⟩
  | some Y4 =>
  rw [hP4] at hA
  obtain ⟨rfl, hWr4⟩ := hA
  have G5 : Hid (Below K w W5 /\ Fr B w W5 /\ Fr B W0 W5 /\ Wr K W5 B (pts L ((((([] ++ Y0) ++ Y1) ++ Y2) ++ Y3) ++ Y4))) := ⟨G4.out.1.trans b5, G4.out.2.1.trans f5, G4.out.2.2.1.trans f5, by rw [pts_app]; exact hWr4⟩
  clear b5 f5 hWr4 c4 z4
  go_wp2_with fail
  go_end0
  rw [show opc x = some ((((([] ++ Y0) ++ Y1) ++ Y2) ++ Y3) ++ Y4) by simp only [opc, hP0, hP1, hP2, hP3, hP4, cat, List.nil_append, List.append_assoc]]
  exact ⟨G5.out.1, G5.out.2.1, rfl, G5.out.2.2.2⟩
theorem op_v {K B : Nat} {w : World} {L : By} {v : Value} (x : Oq) (hx : i64 x.k /\ i64 x.a /\ i64 x.b /\ i64 x.c) (hr : Rr 1 LyI K w v x.l) (h : Wr K w B L) (hK : K <= w.heap.size) :
    Calls prog 210 #[ptw B, .agg #[.int .i64 x.k, .int .i64 x.a, .int .i64 x.b, .int .i64 x.c, v]] w fun e w' => WP K B L (opc x) w e w' := by
  obtain ⟨a, c, rfl⟩ : ∃ a c, v = .slice a x.l.length c := by obtain ⟨a, c, h, -⟩ := hr; exact ⟨a, c, h⟩
  exact op_c x hx hr h hK
theorem block_c {K B : Nat} {w : World} {L : By} {a b : Option Addr} {n m cp dp : Nat} (x : Bk) (hx : i64 x.d) (hr : Rr 5 (LyO K) K w (.slice a n cp) x.o) (hs : Rr 1 LyI K w (.slice b m dp) x.u) (h : Wr K w B L) (hK : K <= w.heap.size) :
    Calls prog 178 #[ptw B, .agg #[.int .i64 x.d, .slice a n cp, .slice b m dp]] w fun e w' => WP K B L (blk x) w e w' := by
  obtain ⟨W0, hW0⟩ : ∃ W, w.alloc (.cells #[.int .i64 x.d, .slice a n cp, .slice b m dp] 74) = W := ⟨_, rfl⟩
  have b0 : Below w.heap.size w W0 := by rw [<- hW0]; exact (Below.refl _ w).alloc (Nat.le_refl _) _
  have s0 : w.heap.size < W0.heap.size := by rw [<- hW0]; simp
  have g0 : W0.heap[w.heap.size]? = some (.cells #[.int .i64 x.d, .slice a n cp, .slice b m dp] 74 (0, 0)) := by rw [<- hW0]; exact heap_alloc_new w _
  have HB : Hid (∀ W', Fr B W0 W' -> W'.heap[w.heap.size]? = some (.cells #[.int .i64 x.d, .slice a n cp, .slice b m dp] 74 (0, 0))) := fun W' hf => (Fr.box h b0 hf (Nat.le_refl _) s0).trans g0
  have G0 : Hid (Below K w W0 /\ Fr B w W0 /\ Fr B W0 W0 /\ Wr K W0 B (pts L [])) := ⟨b0.mono hK, Fr.of h.lt b0, Fr.refl _ _, Wr.below h b0⟩
  have HR : Hid _ := hr
  have HQ : Hid _ := hs
  clear h b0 g0 hr hs
  go_enter func178, ntmps178
  have c0 := count_c 64 (by omega) x.d hx.1 hx.2 G0.out.2.2.2 (Nat.le_trans hK G0.out.2.1.1)
  have z0 := cell_of (HB.out _ G0.out.2.2.1) 0 _ rfl
  go_wp2_with fail
  try rw [hW0]
  refine c0.mono ?_
  rintro e W1 ⟨b1, f1, hA⟩
  cases hP0 : cnt 64 x.d with
  | none =>
    rw [hP0] at hA
    obtain rfl := hA
    exact ⟨rfl, by rw [show blk x = none by simp only [blk, hP0, cat_none]]; exact ⟨G0.out.1.trans b1, G0.out.2.1.trans f1, rfl⟩⟩
  | some Y0 =>
  rw [hP0] at hA
  obtain ⟨rfl, hWr0⟩ := hA
  have G1 : Hid (Below K w W1 /\ Fr B w W1 /\ Fr B W0 W1 /\ Wr K W1 B (pts L ([] ++ Y0))) := ⟨G0.out.1.trans b1, G0.out.2.1.trans f1, G0.out.2.2.1.trans f1, by rw [pts_app]; exact hWr0⟩
  clear b1 f1 hWr0 c0 z0
  have c1 := YLc.wl_o 8192 (by omega) opc G1.out.2.2.2 (Nat.le_trans hK G1.out.2.1.1) (Rr.keep HR.out (Nat.le_refl _) fun g o x _ hg h => h.below G1.out.1 hg) (show _ from fun y v0 W M _ _ hW hK hy => op_v y hy.1 hy.2 hW hK)
  have z1 := cell_of (HB.out _ G1.out.2.2.1) 1 _ rfl
  go_wp2_with fail
  try rw [hW0]
  refine c1.mono ?_
  rintro e W2 ⟨b2, f2, hA⟩
  cases hP1 : lst 8192 opc x.o with
  | none =>
    rw [hP1] at hA
    obtain rfl := hA
    exact ⟨rfl, by rw [show blk x = none by simp only [blk, hP0, hP1, cat_none, cat_no]]; exact ⟨G1.out.1.trans b2, G1.out.2.1.trans f2, rfl⟩⟩
  | some Y1 =>
  rw [hP1] at hA
  obtain ⟨rfl, hWr1⟩ := hA
  have G2 : Hid (Below K w W2 /\ Fr B w W2 /\ Fr B W0 W2 /\ Wr K W2 B (pts L (([] ++ Y0) ++ Y1))) := ⟨G1.out.1.trans b2, G1.out.2.1.trans f2, G1.out.2.2.1.trans f2, by rw [pts_app]; exact hWr1⟩
  clear b2 f2 hWr1 c1 z1
  have c2 := YLb.wl_i 8192 (by omega) whl G2.out.2.2.2 (Nat.le_trans hK G2.out.2.1.1) (Rr.keep HQ.out (Nat.le_refl _) fun g o x _ hg h => h.below G2.out.1 hg) (show _ from fun y W M _ _ hW hK hy => whole_c y hy.1 hy.2 hW hK)
  have z2 := cell_of (HB.out _ G2.out.2.2.1) 2 _ rfl
  go_wp2_with fail
  try rw [hW0]
  refine c2.mono ?_
  rintro e W3 ⟨b3, f3, hA⟩
  cases hP2 : lst 8192 whl x.u with
  | none =>
    rw [hP2] at hA
    obtain rfl := hA
    exact ⟨rfl, by rw [show blk x = none by simp only [blk, hP0, hP1, hP2, cat_no]]; exact ⟨G2.out.1.trans b3, G2.out.2.1.trans f3, rfl⟩⟩
  | some Y2 =>
  rw [hP2] at hA
  obtain ⟨rfl, hWr2⟩ := hA
  have G3 : Hid (Below K w W3 /\ Fr B w W3 /\ Fr B W0 W3 /\ Wr K W3 B (pts L ((([] ++ Y0) ++ Y1) ++ Y2))) := ⟨G2.out.1.trans b3, G2.out.2.1.trans f3, G2.out.2.2.1.trans f3, by rw [pts_app]; exact hWr2⟩
  clear b3 f3 hWr2 c2 z2
  go_wp2_with fail
  go_end0
  rw [show blk x = some ((([] ++ Y0) ++ Y1) ++ Y2) by simp only [blk, hP0, hP1, hP2, cat, List.nil_append, List.append_assoc]]
  exact ⟨G3.out.1, G3.out.2.1, rfl, G3.out.2.2.2⟩
theorem block_v {K B : Nat} {w : World} {L : By} {v u : Value} (x : Bk) (hx : i64 x.d) (hr : Rr 5 (LyO K) K w v x.o) (hs : Rr 1 LyI K w u x.u) (h : Wr K w B L) (hK : K <= w.heap.size) :
    Calls prog 178 #[ptw B, .agg #[.int .i64 x.d, v, u]] w fun e w' => WP K B L (blk x) w e w' := by
  obtain ⟨a, c, rfl⟩ : ∃ a c, v = .slice a x.o.length c := by obtain ⟨a, c, h, -⟩ := hr; exact ⟨a, c, h⟩
  obtain ⟨a', c', rfl⟩ : ∃ a c, u = .slice a x.u.length c := by obtain ⟨a, c, h, -⟩ := hs; exact ⟨a, c, h⟩
  exact block_c x hx hr hs h hK
theorem code_c {K B : Nat} {w : World} {L : By} {v : Value} (x : List Ins) (hr : Rr 2 LyN K w v x) (h : Wr K w B L) (hK : K <= w.heap.size) :
    Calls prog 174 #[ptw B, v] w fun e w' => WP K B L (lst 8192 ins x) w e w' := by
  have c1 := YLb.wl_n 8192 (by omega) ins h hK hr (show _ from fun y W M _ _ hW hK hy => inst_c y hy hW hK)
  obtain ⟨a, c, rfl⟩ : ∃ a c, v = .slice a x.length c := by obtain ⟨a, c, h, -⟩ := hr; exact ⟨a, c, h⟩
  clear h hr
  go_enter func174, ntmps174
  go_wp2_with fail
  refine c1.mono ?_
  rintro e W1 ⟨b1, f1, hA⟩
  cases hP : lst 8192 ins x with
  | none =>
    rw [hP] at hA
    obtain rfl := hA
    exact ⟨rfl, b1, f1, by rw [hP]⟩
  | some Y =>
    rw [hP] at hA
    obtain ⟨rfl, hW⟩ := hA
    go_wp2_with fail
    go_end0
    exact ⟨b1, f1, by rw [hP]; exact ⟨rfl, hW⟩⟩
end Go.Proofs.YtaiackmmmlhgbaaGreat.YSq
