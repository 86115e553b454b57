import Derived.Test.YtaiackmmmlhgbaaGreatPR05
import Derived.Test.YtaiackmmmlhgbaaGreatPR06
import Derived.Test.YtaiackmmmlhgbaaGreatPR09
import Derived.Test.YtaiackmmmlhgbaaGreatPR11
open Go.Proofs.Tryz
set_option linter.unusedVariables false
set_option maxRecDepth 20000
set_option maxHeartbeats 3200000
namespace Go.Proofs.YtaiackmmmlhgbaaGreat.RLook
open Go.RowKit TBase TMay TVisit TMeas TShallow
def lk : List T -> Nat -> Nat -> Nat × Nat
  | [], _, k => (k, 0)
  | .mk g s n l :: cs, d, k =>
    if flt (.mk g s n l) d (k + 1) = 0 then
      if (lk l (d + 1) (k + 1)).2 = 0 then lk cs d (lk l (d + 1) (k + 1)).1 else lk l (d + 1) (k + 1)
    else (k, flt (.mk g s n l) d (k + 1))
theorem lk_nil (d k : Nat) : lk [] d k = (k, 0) := by rw [lk]
theorem lk_cons (c : T) (cs : List T) (d k : Nat) : lk (c :: cs) d k =
    if flt c d (k + 1) = 0 then
      if (lk c.l (d + 1) (k + 1)).2 = 0 then lk cs d (lk c.l (d + 1) (k + 1)).1 else lk c.l (d + 1) (k + 1)
    else (k, flt c d (k + 1)) := by
  obtain ⟨g, s, n, l⟩ := c
  rw [lk]
  rfl
theorem vis_lk : ∀ (m : Nat) (l : List T) (d k e : Nat), SizeOf.sizeOf l <= m -> 1 <= d -> (vis l d k e).2.2 = (lk l d k).2 /\
    ((lk l d k).2 = 0 -> (vis l d k e).1 = (lk l d k).1 /\ (vis l d k e).2.1 = if l.isEmpty = true then e else max e (depL l + d - 1)) := by
  intro m
  induction m with
  | zero =>
    intro l d k e hm hd
    cases l with
    | nil => rw [vis_nil, lk_nil]; exact ⟨rfl, fun _ => ⟨rfl, rfl⟩⟩
    | cons c cs => simp at hm
  | succ m ih =>
    intro l d k e hm hd
    cases l with
    | nil => rw [vis_nil, lk_nil]; exact ⟨rfl, fun _ => ⟨rfl, rfl⟩⟩
    | cons c cs =>
      obtain ⟨g, s, n, l⟩ := c
      simp at hm
      rw [vis_cons, lk_cons, depL_cons]
      have hl : (T.mk g s n l).l = l := rfl
      rw [hl]
      by_cases h1 : flt (.mk g s n l) d (k + 1) = 0
      · rw [if_pos h1, if_pos h1]
        obtain ⟨i0, i1⟩ := ih l (d + 1) (k + 1) (max e d) (by omega) (by omega)
        by_cases h4 : (lk l (d + 1) (k + 1)).2 = 0
        · obtain ⟨j1, j2⟩ := i1 h4
          rw [if_pos h4, if_pos (by rw [i0]; exact h4)]
          obtain ⟨k0, k1⟩ := ih cs d (lk l (d + 1) (k + 1)).1 (vis l (d + 1) (k + 1) (max e d)).2.1 (by omega) hd
          rw [j1]
          refine ⟨k0, fun h => ⟨(k1 h).1, ?_⟩⟩
          rw [(k1 h).2, j2]
          cases l with
          | nil =>
            cases cs with
            | nil => simp [depL] <;> omega
            | cons a b => simp [depL] <;> omega
          | cons a b =>
            cases cs with
            | nil => simp [depL] <;> omega
            | cons c d => simp <;> omega
        · rw [if_neg h4, if_neg (by rw [i0]; exact h4)]
          exact ⟨i0, fun h => (h4 h).elim⟩
      · rw [if_neg h1, if_neg h1]
        exact ⟨rfl, fun h => (h1 h).elim⟩
theorem ck_lk (l : List T) : ck l = (lk l 1 0).2 := (vis_lk _ l 1 0 0 (Nat.le_refl _) (by omega)).1
theorem ct_lk (l : List T) (h : ck l = 0) : ct l = (lk l 1 0).1 := by
  unfold ct
  rw [if_pos h]
  exact ((vis_lk _ l 1 0 0 (Nat.le_refl _) (by omega)).2 (by rw [<- ck_lk]; exact h)).1
theorem dp_lk (l : List T) (h : ck l = 0) : dp l = depL l := by
  unfold dp
  rw [if_pos h, ((vis_lk _ l 1 0 0 (Nat.le_refl _) (by omega)).2 (by rw [<- ck_lk]; exact h)).2]
  cases l with
  | nil => simp [depL]
  | cons c cs => simp
end Go.Proofs.YtaiackmmmlhgbaaGreat.RLook
namespace Go.Proofs.YtaiackmmmlhgbaaGreat.TJk
open Go.RowKit TBase TPure TMay TVisit TMeas TShallow RLook
def cn : List T -> Nat
  | [] => 0
  | .mk _ _ _ l :: cs => 1 + cn l + cn cs
def ak : List T -> Bool
  | [] => true
  | .mk g s n l :: cs => alone (.mk g s n l) && (ak l && ak cs)
theorem cn_nil : cn [] = 0 := by rw [cn]
theorem cn_cons (c : T) (cs : List T) : cn (c :: cs) = 1 + cn c.l + cn cs := by
  obtain ⟨g, s, n, l⟩ := c
  rw [cn]
  rfl
theorem ak_nil : ak [] = true := by rw [ak]
theorem ak_cons (c : T) (cs : List T) : ak (c :: cs) = (alone c && (ak c.l && ak cs)) := by
  obtain ⟨g, s, n, l⟩ := c
  rw [ak]
  rfl
theorem flt_ok {c : T} {d k : Nat} (h1 : k <= 4096) (h2 : d <= 64) (h : alone c = true) : flt c d k = 0 := by
  unfold flt
  rw [if_neg (by omega), if_neg (by omega), if_pos h]
theorem lk_yes : ∀ (m : Nat) (l : List T) (d k : Nat), SizeOf.sizeOf l <= m -> ak l = true -> k + cn l <= 4096 -> depL l + d <= 65 -> lk l d k = (k + cn l, 0) := by
  intro m
  induction m with
  | zero =>
    intro l d k hm ha hk hd
    cases l with
    | nil => rw [lk_nil, cn_nil]; rfl
    | cons c cs => simp at hm
  | succ m ih =>
    intro l d k hm ha hk hd
    cases l with
    | nil => rw [lk_nil, cn_nil]; rfl
    | cons c cs =>
      obtain ⟨g, s, n, l⟩ := c
      simp at hm
      rw [ak_cons, Bool.and_eq_true, Bool.and_eq_true] at ha
      rw [cn_cons] at hk
      rw [depL_cons] at hd
      simp only [T.l] at ha hk hd
      have e : lk l (d + 1) (k + 1) = (k + 1 + cn l, 0) := ih l (d + 1) (k + 1) (by omega) ha.2.1 (by omega) (by omega)
      have hl : (T.mk g s n l).l = l := rfl
      rw [lk_cons, if_pos (flt_ok (by omega) (by omega) ha.1), hl]
      rw [e, if_pos rfl, ih cs d _ (by omega) ha.2.2 (by show k + 1 + cn l + cn cs <= 4096; omega) (by omega), cn_cons]
      simp only [T.l, Prod.mk.injEq, and_true]
      omega
theorem lk_inv : ∀ (m : Nat) (l : List T) (d k : Nat), SizeOf.sizeOf l <= m -> k <= 4096 -> d <= 65 -> (lk l d k).2 = 0 -> ak l = true /\ (lk l d k).1 = k + cn l /\ k + cn l <= 4096 /\ depL l + d <= 65 := by
  intro m
  induction m with
  | zero =>
    intro l d k hm hk hd h
    cases l with
    | nil => rw [lk_nil, cn_nil, ak_nil]; exact ⟨rfl, rfl, hk, by simp [depL]; omega⟩
    | cons c cs => simp at hm
  | succ m ih =>
    intro l d k hm hk hd h
    cases l with
    | nil => rw [lk_nil, cn_nil, ak_nil]; exact ⟨rfl, rfl, hk, by simp [depL]; omega⟩
    | cons c cs =>
      obtain ⟨g, s, n, l⟩ := c
      simp at hm
      have hl : (T.mk g s n l).l = l := rfl
      rw [lk_cons, hl] at h ⊢
      by_cases h1 : flt (.mk g s n l) d (k + 1) = 0
      · rw [if_pos h1] at h ⊢
        obtain ⟨f1, f2, f3⟩ := flt_zero h1
        by_cases h2 : (lk l (d + 1) (k + 1)).2 = 0
        · rw [if_pos h2] at h ⊢
          obtain ⟨i1, i2, i3, i4⟩ := ih l (d + 1) (k + 1) (by omega) f1 (by omega) h2
          rw [i2] at h ⊢
          obtain ⟨j1, j2, j3, j4⟩ := ih cs d _ (by omega) i3 hd h
          rw [ak_cons, cn_cons, depL_cons]
          simp only [T.l]
          exact ⟨by rw [f3, i1, j1]; rfl, by rw [j2]; omega, by omega, by omega⟩
        · rw [if_neg h2] at h
          exact (h2 h).elim
      · rw [if_neg h1] at h
        exact (h1 h).elim
theorem ck_inv {l : List T} (h : ck l = 0) : ak l = true /\ ct l = cn l /\ cn l <= 4096 /\ dp l = depL l /\ depL l <= 64 := by
  have h2 := h
  rw [ck_lk] at h2
  obtain ⟨h3, h4, h5, h6⟩ := lk_inv _ l 1 0 (Nat.le_refl _) (by omega) (by omega) h2
  exact ⟨h3, by rw [ct_lk l h, h4]; omega, by omega, dp_lk l h, by omega⟩
theorem ck_yes {l : List T} (ha : ak l = true) (hk : cn l <= 4096) (hd : depL l <= 64) : ck l = 0 /\ ct l = cn l /\ dp l = depL l := by
  have e := lk_yes _ l 1 0 (Nat.le_refl _) ha (by omega) (by omega)
  have h : ck l = 0 := by rw [ck_lk, e]
  exact ⟨h, (ck_inv h).2.1, (ck_inv h).2.2.2.1⟩
end Go.Proofs.YtaiackmmmlhgbaaGreat.TJk
namespace Go.Proofs.YtaiackmmmlhgbaaGreat.YLd
open Go.RowKit YPl YWr YWo YRr
open YTr
open TBase (T)
open TVisit (Lo keep_lo)
theorem wl_t {m K B : Nat} {w : World} {L : By} (lim : Nat) (hlim : lim <= 16384) {v : Value} {l : List T} (f : T -> Pc) (h : Wr K w B L) (hK : K <= w.heap.size) (hv : Rr 4 (LyT m K) K w v l)
    (hone : Hid (∀ (x : T) (u : Value) (W : World) (M : By), x ∈ l -> Below K w W -> Wr K W B M -> K <= W.heap.size -> (TBase.In false (Lo K) W m u x) -> Calls prog 208 #[ptw B, u] W fun e w' => WP K B M (f x) W e w')) :
    Calls prog 175 #[ptw B, .int .i64 lim, v, .func (.func 208) #[ptw B] #[]] w fun e w' => WP K B L (lst lim f l) w e w' := by
  obtain ⟨a, cap, rfl, hlc, hcm, hlb, hnil, hrow⟩ := hv
  have c1 := count_c lim hlim (l.length : Int) (by omega) (by omega) h hK
  have HR : Hid _ := hrow
  clear h hrow
  cases hcn : cnt lim (l.length : Int) with
  | none =>
    rw [hcn] at c1
    have HE : Hid (lst lim f l = none) := by show _ = _; unfold lst; rw [hcn, cat_none]
    go_enter func175, ntmps175
    go_wp2_with fail
    refine c1.mono ?_
    rintro e w1 ⟨b1, s1, rfl⟩
    exact ⟨rfl, by rw [HE.out]; exact ⟨b1, s1, rfl⟩⟩
  | some Cs =>
    rw [hcn] at c1
    have HE : Hid (lst lim f l = cat (some Cs) (lis f l)) := by show _ = _; unfold lst; rw [hcn]
    go_enter func175, ntmps175
    go_wp2_with fail
    refine c1.mono ?_
    rintro e w1 ⟨b1, s1, rfl, hW1⟩
    have HB1 : Hid _ := b1
    have HW1 : Hid _ := hW1
    clear b1 hW1 c1
    go_wp2_with fail
    go_loopw [17] (fun i wr => ∃ (q : Nat) (Xs : List By), i = .int .i64 q /\ q <= l.length /\ Hid (Below K w wr /\ Fr B w wr /\ Wr K wr B (pts (pts L Cs) Xs)) /\ Hid (cat (some Xs) (lis f (l.drop q)) = lis f l)) (fun i _ => l.length - (intOf i).toNat)
    case atStart => exact ⟨0, [], rfl, by omega, ⟨HB1.out, s1, HW1.out⟩, by show _ = _; rw [List.drop_zero, cat_nil]⟩
    case round =>
      obtain ⟨q, Xs, rfl, hq, HG, HS⟩ := hrel
      by_cases hlt : q < l.length
      · rcases HR.out with h0 | ⟨g, o, rfl, hg, hc⟩
        · rw [h0] at hlt; simp at hlt
        have he := LyT.below HG.out.1 hg (hc q hlt)
        obtain ⟨x, hx⟩ : ∃ x, l[q] = x := ⟨_, rfl⟩
        have hmem : x ∈ l := hx ▸ List.getElem_mem hlt
        rw [hx] at he
        obtain ⟨na, nn, nc, la, ln, lc, e0, e1, e2, e3, k0⟩ := he.cells
        have hKw : K <= wr.heap.size := Nat.le_trans hK HG.out.2.1.1
        obtain ⟨Wb, hWb⟩ : ∃ W, wr.alloc (.cells #[.string x.g, .string x.s, .slice na nn nc, .slice la ln lc] 68) = W := ⟨_, rfl⟩
        have bA : Below wr.heap.size wr Wb := by rw [<- hWb]; exact (Below.refl _ wr).alloc (Nat.le_refl _) _
        have sA := bA.size
        have HA1 : Hid _ := bA
        have hbx : Wb.heap[wr.heap.size]? = some (.cells #[.string x.g, .string x.s, .slice na nn nc, .slice la ln lc] 68 (0, 0)) := by rw [<- hWb]; exact heap_alloc_new wr _
        have z0 : Wb.cell? ⟨wr.heap.size, 0, none⟩ = some (.string x.g) := cell_of hbx 0 _ rfl
        have z1 : Wb.cell? ⟨wr.heap.size, 1, none⟩ = some (.string x.s) := cell_of hbx 1 _ rfl
        have z2 : Wb.cell? ⟨wr.heap.size, 2, none⟩ = some (.slice na nn nc) := cell_of hbx 2 _ rfl
        have z3 : Wb.cell? ⟨wr.heap.size, 3, none⟩ = some (.slice la ln lc) := cell_of hbx 3 _ rfl
        clear hbx
        have cx := hone.out x _ Wb _ hmem (HG.out.1.trans (bA.mono hKw)) (Wr.below HG.out.2.2 bA) (by have := HG.out.2.1.1; omega) (k0.keep (keep_lo (bA.mono hKw)))
        clear k0 hc bA
        go_wp2_with fail
        try rw [hWb]
        refine cx.mono ?_
        rintro e w2 ⟨b2, s2, hA⟩
        cases hfx : f x with
        | none =>
          rw [hfx] at hA
          obtain rfl := hA
          exact ⟨rfl, by rw [HE.out, lis_stop hlt HS.out (by rw [hx]; exact hfx), cat_no]; exact ⟨((HG.out.1.trans (HA1.out.mono hKw)).trans b2), ((HG.out.2.1.trans (Fr.of HG.out.2.2.lt HA1.out)).trans s2), rfl⟩⟩
        | some Ys =>
          rw [hfx] at hA
          obtain ⟨rfl, hW2⟩ := hA
          have HG2 : Hid (Below K w w2 /\ Fr B w w2 /\ Wr K w2 B (pts (pts L Cs) (Xs ++ Ys))) := ⟨((HG.out.1.trans (HA1.out.mono hKw)).trans b2), ((HG.out.2.1.trans (Fr.of HG.out.2.2.lt HA1.out)).trans s2), by rw [pts_app]; exact hW2⟩
          have HS2 : Hid _ := lis_step hlt HS.out (by rw [hx]; exact hfx)
          clear hW2 b2 cx HG HS
          go_wp2_with fail
          go_roundw
          case rel => exact ⟨q + 1, Xs ++ Ys, by go_num, by omega, HG2, HS2⟩
          case measure => simp only [intOf]; omega
      · obtain rfl : q = l.length := by omega
        go_wp2_with fail
        go_end0
        rw [HE.out, lis_end HS.out]
        exact ⟨HG.out.1, HG.out.2.1, rfl, by rw [pts_app]; exact HG.out.2.2⟩
theorem wl_u {m K B : Nat} {w : World} {L : By} (lim : Nat) (hlim : lim <= 16384) {v : Value} {l : List T} (f : T -> Pc) (h : Wr K w B L) (hK : K <= w.heap.size) (hv : Rr 4 (LyT m K) K w v l)
    (hone : Hid (∀ (x : T) (u : Value) (W : World) (M : By), x ∈ l -> Below K w W -> Wr K W B M -> K <= W.heap.size -> (TBase.In false (Lo K) W m u x) -> Calls prog 176 #[ptw B, u] W fun e w' => WP K B M (f x) W e w')) :
    Calls prog 175 #[ptw B, .int .i64 lim, v, .func (.func 176) #[ptw B] #[]] w fun e w' => WP K B L (lst lim f l) w e w' := by
  obtain ⟨a, cap, rfl, hlc, hcm, hlb, hnil, hrow⟩ := hv
  have c1 := count_c lim hlim (l.length : Int) (by omega) (by omega) h hK
  have HR : Hid _ := hrow
  clear h hrow
  cases hcn : cnt lim (l.length : Int) with
  | none =>
    rw [hcn] at c1
    have HE : Hid (lst lim f l = none) := by show _ = _; unfold lst; rw [hcn, cat_none]
    go_enter func175, ntmps175
    go_wp2_with fail
    refine c1.mono ?_
    rintro e w1 ⟨b1, s1, rfl⟩
    exact ⟨rfl, by rw [HE.out]; exact ⟨b1, s1, rfl⟩⟩
  | some Cs =>
    rw [hcn] at c1
    have HE : Hid (lst lim f l = cat (some Cs) (lis f l)) := by show _ = _; unfold lst; rw [hcn]
    go_enter func175, ntmps175
    go_wp2_with fail
    refine c1.mono ?_
    rintro e w1 ⟨b1, s1, rfl, hW1⟩
    have HB1 : Hid _ := b1
    have HW1 : Hid _ := hW1
    clear b1 hW1 c1
    go_wp2_with fail
    go_loopw [17] (fun i wr => ∃ (q : Nat) (Xs : List By), i = .int .i64 q /\ q <= l.length /\ Hid (Below K w wr /\ Fr B w wr /\ Wr K wr B (pts (pts L Cs) Xs)) /\ Hid (cat (some Xs) (lis f (l.drop q)) = lis f l)) (fun i _ => l.length - (intOf i).toNat)
    case atStart => exact ⟨0, [], rfl, by omega, ⟨HB1.out, s1, HW1.out⟩, by show _ = _; rw [List.drop_zero, cat_nil]⟩
    case round =>
      obtain ⟨q, Xs, rfl, hq, HG, HS⟩ := hrel
      by_cases hlt : q < l.length
      · rcases HR.out with h0 | ⟨g, o, rfl, hg, hc⟩
        · rw [h0] at hlt; simp at hlt
        have he := LyT.below HG.out.1 hg (hc q hlt)
        obtain ⟨x, hx⟩ : ∃ x, l[q] = x := ⟨_, rfl⟩
        have hmem : x ∈ l := hx ▸ List.getElem_mem hlt
        rw [hx] at he
        obtain ⟨na, nn, nc, la, ln, lc, e0, e1, e2, e3, k0⟩ := he.cells
        have hKw : K <= wr.heap.size := Nat.le_trans hK HG.out.2.1.1
        obtain ⟨Wb, hWb⟩ : ∃ W, wr.alloc (.cells #[.string x.g, .string x.s, .slice na nn nc, .slice la ln lc] 68) = W := ⟨_, rfl⟩
        have bA : Below wr.heap.size wr Wb := by rw [<- hWb]; exact (Below.refl _ wr).alloc (Nat.le_refl _) _
        have sA := bA.size
        have HA1 : Hid _ := bA
        have hbx : Wb.heap[wr.heap.size]? = some (.cells #[.string x.g, .string x.s, .slice na nn nc, .slice la ln lc] 68 (0, 0)) := by rw [<- hWb]; exact heap_alloc_new wr _
        have z0 : Wb.cell? ⟨wr.heap.size, 0, none⟩ = some (.string x.g) := cell_of hbx 0 _ rfl
        have z1 : Wb.cell? ⟨wr.heap.size, 1, none⟩ = some (.string x.s) := cell_of hbx 1 _ rfl
        have z2 : Wb.cell? ⟨wr.heap.size, 2, none⟩ = some (.slice na nn nc) := cell_of hbx 2 _ rfl
        have z3 : Wb.cell? ⟨wr.heap.size, 3, none⟩ = some (.slice la ln lc) := cell_of hbx 3 _ rfl
        clear hbx
        have cx := hone.out x _ Wb _ hmem (HG.out.1.trans (bA.mono hKw)) (Wr.below HG.out.2.2 bA) (by have := HG.out.2.1.1; omega) (k0.keep (keep_lo (bA.mono hKw)))
        clear k0 hc bA
        go_wp2_with fail
        try rw [hWb]
        refine cx.mono ?_
        rintro e w2 ⟨b2, s2, hA⟩
        cases hfx : f x with
        | none =>
          rw [hfx] at hA
          obtain rfl := hA
          exact ⟨rfl, by rw [HE.out, lis_stop hlt HS.out (by rw [hx]; exact hfx), cat_no]; exact ⟨((HG.out.1.trans (HA1.out.mono hKw)).trans b2), ((HG.out.2.1.trans (Fr.of HG.out.2.2.lt HA1.out)).trans s2), rfl⟩⟩
        | some Ys =>
          rw [hfx] at hA
          obtain ⟨rfl, hW2⟩ := hA
          have HG2 : Hid (Below K w w2 /\ Fr B w w2 /\ Wr K w2 B (pts (pts L Cs) (Xs ++ Ys))) := ⟨((HG.out.1.trans (HA1.out.mono hKw)).trans b2), ((HG.out.2.1.trans (Fr.of HG.out.2.2.lt HA1.out)).trans s2), by rw [pts_app]; exact hW2⟩
          have HS2 : Hid _ := lis_step hlt HS.out (by rw [hx]; exact hfx)
          clear hW2 b2 cx HG HS
          go_wp2_with fail
          go_roundw
          case rel => exact ⟨q + 1, Xs ++ Ys, by go_num, by omega, HG2, HS2⟩
          case measure => simp only [intOf]; omega
      · obtain rfl : q = l.length := by omega
        go_wp2_with fail
        go_end0
        rw [HE.out, lis_end HS.out]
        exact ⟨HG.out.1, HG.out.2.1, rfl, by rw [pts_app]; exact HG.out.2.2⟩
end Go.Proofs.YtaiackmmmlhgbaaGreat.YLd
namespace Go.Proofs.YtaiackmmmlhgbaaGreat.YNd
open Go.RowKit YPl YWr YWo YRr YTr
open TBase (T)
open TVisit (Lo keep_lo)
theorem ndL_lis (l : List T) : ndL l = lis nd l := by
  induction l with
  | nil => rw [ndL, lis]
  | cons t r ih =>
    obtain ⟨g, s, n, k⟩ := t
    rw [ndL, lis, nd, ndL, ndL, cat_nil', ih]
theorem nd_text {t : T} (h : t.g.size = 0) : nd t = cat (txt t.g) (txt t.s) := by
  obtain ⟨g, s, n, k⟩ := t
  rw [nd, ndL, ndL, cat_nil']
  simp only [T.g] at h
  simp only [T.g, T.s, h, if_true]
theorem nd_elem {t : T} (h : ¬ t.g.size = 0) : nd t = cat (txt t.g) (cat (lst 4096 att t.n) (lst 4096 nd t.l)) := by
  obtain ⟨g, s, n, k⟩ := t
  rw [nd, ndL, ndL, cat_nil']
  simp only [T.g] at h
  simp only [T.g, T.n, T.l, h, if_false, ndL_lis, lst]
def Nds (K B m : Nat) : Prop := ∀ (u : Value) (t : T) (w : World) (L : By), TBase.In false (Lo K) w m u t -> Wr K w B L -> K <= w.heap.size ->
  Calls prog 208 #[ptw B, u] w fun e w' => WP K B L (nd t) w e w'
theorem nds_of {K B m : Nat} (ih : ∀ m', m = m' + 1 -> Nds K B m') : Nds K B m := by
  intro u t w L hI h hK
  obtain ⟨m', nv, lv, hm, rfl, hg, hs, hA, hL⟩ := hI.shape
  obtain ⟨na, nn, nc, rfl⟩ : ∃ a n c, nv = .slice a n c := by obtain ⟨a, c, h, -⟩ := hA; exact ⟨_, _, _, h⟩
  obtain ⟨la, ln, lc, rfl⟩ : ∃ a n c, lv = .slice a n c := by obtain ⟨a, c, h, -⟩ := hL; exact ⟨_, _, _, h⟩
  have IH : Hid _ := ih m' hm
  have HA : Hid _ := hA
  have HL : Hid _ := hL
  obtain ⟨W0, hW0⟩ : ∃ W, w.alloc (.cells #[.string t.g, .string t.s, .slice na nn nc, .slice la ln lc] 68) = W := ⟨_, rfl⟩
  have b0 : Below w.heap.size w W0 := by rw [<- hW0]; exact (Below.refl _ w).alloc (Nat.le_refl _) _
  have s0 : w.heap.size < W0.heap.size := by rw [<- hW0]; simp
  have g0 : W0.heap[w.heap.size]? = some (.cells #[.string t.g, .string t.s, .slice na nn nc, .slice la ln lc] 68 (0, 0)) := by rw [<- hW0]; exact heap_alloc_new w _
  have HB : Hid (∀ W', Fr B W0 W' -> W'.heap[w.heap.size]? = some (.cells #[.string t.g, .string t.s, .slice na nn nc, .slice la ln lc] 68 (0, 0))) := fun W' hf => (Fr.box h b0 hf (Nat.le_refl _) s0).trans g0
  have G0 : Hid (Below K w W0 /\ Fr B w W0 /\ Fr B W0 W0 /\ Wr K W0 B (pts L [])) := ⟨b0.mono hK, Fr.of h.lt b0, Fr.refl _ _, Wr.below h b0⟩
  have c0 := text_c t.g hg G0.out.2.2.2 (Nat.le_trans hK G0.out.2.1.1)
  have z0 := cell_of (HB.out _ G0.out.2.2.1) 0 _ rfl
  clear h b0 g0 hA hL hI ih
  go_enter func208, ntmps208
  go_wp2_with fail
  try rw [hW0]
  refine c0.mono ?_
  rintro e W1 ⟨b1, f1, hA⟩
  cases hP0 : txt t.g with
  | none =>
    rw [hP0] at hA
    obtain rfl := hA
    refine ⟨rfl, ?_⟩
    rw [show nd t = none by by_cases hz : t.g.size = 0; · rw [nd_text hz, hP0, cat_none]
                            · rw [nd_elem hz, hP0, cat_none]]
    exact ⟨G0.out.1.trans b1, G0.out.2.1.trans f1, rfl⟩
  | some Y0 =>
  rw [hP0] at hA
  obtain ⟨rfl, hWr0⟩ := hA
  have G1 : Hid (Below K w W1 /\ Fr B w W1 /\ Fr B W0 W1 /\ Wr K W1 B (pts L ([] ++ Y0))) := ⟨G0.out.1.trans b1, G0.out.2.1.trans f1, G0.out.2.2.1.trans f1, by rw [pts_app]; exact hWr0⟩
  clear b1 f1 hWr0 c0 z0
  have z0 := cell_of (HB.out _ G1.out.2.2.1) 0 _ rfl
  have z1 := cell_of (HB.out _ G1.out.2.2.1) 1 _ rfl
  have z2 := cell_of (HB.out _ G1.out.2.2.1) 2 _ rfl
  by_cases hz : t.g.size = 0
  · have hz' : t.g = ⟨#[]⟩ := by
      have : t.g.data = #[] := Array.eq_empty_of_size_eq_zero hz
      cases hg2 : t.g; rw [hg2] at this; simp at this; rw [this]
    rw [hz'] at z0
    have c1 := text_c t.s hs G1.out.2.2.2 (Nat.le_trans hK G1.out.2.1.1)
    have E : Hid (nd t = cat (txt t.g) (txt t.s)) := nd_text hz
    go_wp2_with fail
    refine c1.mono ?_
    rintro e W2 ⟨b2, f2, hA⟩
    cases hP1 : txt t.s with
    | none =>
      rw [hP1] at hA
      obtain rfl := hA
      exact ⟨rfl, by rw [E.out, hP0, hP1, cat_no]; exact ⟨G1.out.1.trans b2, G1.out.2.1.trans f2, rfl⟩⟩
    | some Y1 =>
      rw [hP1] at hA
      obtain ⟨rfl, hWr1⟩ := hA
      go_wp2_with fail
      first | go_end0 | refine bodyPost_ret (results_none rfl _ _ _) rfl ?_
      rw [E.out, hP0, hP1]
      exact ⟨G1.out.1.trans b2, G1.out.2.1.trans f2, rfl, by rw [pts_app]; exact hWr1⟩
  · have hz' : (t.g.toList == ([] : List UInt8)) = false := by
      rw [TPure.list_eq]
      cases hl : t.g.data.toList with
      | nil => exact absurd (show t.g.size = 0 by have := congrArg List.length hl; simpa using this) hz
      | cons c r => rfl
    have c1 := YLb.wl_a 4096 (by omega) att G1.out.2.2.2 (Nat.le_trans hK G1.out.2.1.1) (Rr.keep (ax_rr HA.out) (Nat.le_refl _) fun g o x _ hg h => h.below G1.out.1 hg) (show _ from fun y W M _ _ hW hK hy => YSq.attr_c y hy hW hK)
    have E : Hid (nd t = cat (txt t.g) (cat (lst 4096 att t.n) (lst 4096 nd t.l))) := nd_elem hz
    go_wp2_with fail
    refine c1.mono ?_
    rintro e W2 ⟨b2, f2, hA⟩
    cases hP1 : lst 4096 att t.n with
    | none =>
      rw [hP1] at hA
      obtain rfl := hA
      exact ⟨rfl, by rw [E.out, hP0, hP1, cat_none, cat_no]; exact ⟨G1.out.1.trans b2, G1.out.2.1.trans f2, rfl⟩⟩
    | some Y1 =>
    rw [hP1] at hA
    obtain ⟨rfl, hWr1⟩ := hA
    have G2 : Hid (Below K w W2 /\ Fr B w W2 /\ Fr B W0 W2 /\ Wr K W2 B (pts L ([] ++ Y0 ++ Y1))) := ⟨G1.out.1.trans b2, G1.out.2.1.trans f2, G1.out.2.2.1.trans f2, by rw [pts_app]; exact hWr1⟩
    clear b2 f2 hWr1 c1 z0 z1 z2
    have z3 := cell_of (HB.out _ G2.out.2.2.1) 3 _ rfl
    have c2 := YLd.wl_t 4096 (by omega) nd G2.out.2.2.2 (Nat.le_trans hK G2.out.2.1.1) (Rr.keep (inl_rr HL.out) (Nat.le_refl _) fun g o x _ hg h => h.below G2.out.1 hg) (show _ from fun y u W M _ _ hW hK hy => IH.out u y W M hy hW hK)
    go_wp2_with fail
    refine c2.mono ?_
    rintro e W3 ⟨b3, f3, hA⟩
    cases hP2 : lst 4096 nd t.l with
    | none =>
      rw [hP2] at hA
      obtain rfl := hA
      exact ⟨rfl, by rw [E.out, hP0, hP1, hP2, cat_no, cat_no]; exact ⟨G2.out.1.trans b3, G2.out.2.1.trans f3, rfl⟩⟩
    | some Y2 =>
      rw [hP2] at hA
      obtain ⟨rfl, hWr2⟩ := hA
      go_wp2_with fail
      go_end0
      rw [E.out, hP0, hP1, hP2]
      exact ⟨G2.out.1.trans b3, G2.out.2.1.trans f3, rfl, by show Wr _ _ _ (pts L (Y0 ++ (Y1 ++ Y2))); rw [<- List.append_assoc, pts_app]; exact hWr2⟩
theorem nds {K B : Nat} : ∀ m, Nds K B m := by
  intro m
  induction m with
  | zero => exact nds_of (fun m' h => by omega)
  | succ m ih => exact nds_of (fun m' h => by obtain rfl : m = m' := by omega
                                              exact ih)
theorem one_tree {K : Nat} {W : World} {m B n c k d : Nat} {a b : Option Addr} {t : T} (hW : W.heap[B]? = some (.cells #[.string t.g, .string t.s, .slice a n c, .slice b k d] 68 (0, 0))) (h : TBase.In false (Lo K) W m (.agg #[.string t.g, .string t.s, .slice a n c, .slice b k d]) t) :
    TBase.InL false TBase.All W m (.slice (some ⟨B, 0, none⟩) 1 1) [t] := by
  refine ⟨_, 1, rfl, by simp, by omega, by simp, by simp, .inr ⟨B, 0, rfl, trivial, fun j hj => ?_, fun h => by cases h⟩⟩
  obtain rfl : j = 0 := by simp at hj; omega
  exact ⟨.agg #[.string t.g, .string t.s, .slice a n c, .slice b k d], ⟨_, _, _, _, rfl, cell_of hW 0 _ rfl, cell_of hW 1 _ rfl, cell_of hW 2 _ rfl, cell_of hW 3 _ rfl⟩, h.weak (fun _ _ => trivial) false id m (Nat.le_refl _)⟩
theorem static_c {K B m : Nat} {w : World} {L : By} {u : Value} (t : T) (hI : TBase.In false (Lo K) w m u t) (h : Wr K w B L) (hK : K <= w.heap.size) :
    Calls prog 176 #[ptw B, u] w fun e w' => WP K B L (stt t) w e w' := by
  obtain ⟨na, nn, nc, la, ln, lc, rfl⟩ := tree_cells hI
  obtain ⟨W0, hW0⟩ : ∃ W, w.alloc (.cells #[.string t.g, .string t.s, .slice na nn nc, .slice la ln lc] 68) = W := ⟨_, rfl⟩
  have b0 : Below w.heap.size w W0 := by rw [<- hW0]; exact (Below.refl _ w).alloc (Nat.le_refl _) _
  have s0 : w.heap.size < W0.heap.size := by rw [<- hW0]; simp
  have g0 : W0.heap[w.heap.size]? = some (.cells #[.string t.g, .string t.s, .slice na nn nc, .slice la ln lc] 68 (0, 0)) := by rw [<- hW0]; exact heap_alloc_new w _
  obtain ⟨W1, hW1⟩ : ∃ W, W0.alloc (.cells #[.string t.g, .string t.s, .slice na nn nc, .slice la ln lc] 68) = W := ⟨_, rfl⟩
  have b1 : Below W0.heap.size W0 W1 := by rw [<- hW1]; exact (Below.refl _ W0).alloc (Nat.le_refl _) _
  have g1 : W1.heap[W0.heap.size]? = some (.cells #[.string t.g, .string t.s, .slice na nn nc, .slice la ln lc] 68 (0, 0)) := by rw [<- hW1]; exact heap_alloc_new W0 _
  have b01 : Below w.heap.size w W1 := b0.trans (b1.mono b0.size)
  have cC := TMeas.check_c m _ _ W1 (one_tree g1 (hI.keep (keep_lo (b01.mono hK))))
  have HZ : Hid (∀ W', Below W1.heap.size W1 W' -> W'.heap[w.heap.size]? = some (.cells #[.string t.g, .string t.s, .slice na nn nc, .slice la ln lc] 68 (0, 0)) /\ Below w.heap.size w W') := fun W' hb => ⟨((hb.block _ (by have := b1.size; omega)).trans (b1.block _ s0)).trans g0, b01.trans (hb.mono b01.size)⟩
  have HW : Hid _ := h
  have HI : Hid _ := hI
  obtain ⟨z0, z1, z2, z3⟩ : W0.cell? ⟨w.heap.size, 0, none⟩ = some (.string t.g) /\ W0.cell? ⟨w.heap.size, 1, none⟩ = some (.string t.s) /\ W0.cell? ⟨w.heap.size, 2, none⟩ = some (.slice na nn nc) /\ W0.cell? ⟨w.heap.size, 3, none⟩ = some (.slice la ln lc) := ⟨cell_of g0 0 _ rfl, cell_of g0 1 _ rfl, cell_of g0 2 _ rfl, cell_of g0 3 _ rfl⟩
  clear b0 b1 g0 g1 b01 h hI s0
  go_enter func176, ntmps176
  go_wp2_with fail
  try rw [hW0]
  try rw [hW1]
  refine cC.mono ?_
  rintro e W2 ⟨rfl, b2⟩
  obtain ⟨q2, w2⟩ := HZ.out W2 b2
  clear cC z0 z1 z2 z3 hW1
  by_cases hc : TMeas.ck [t] = 0
  · have hm := must_ok W2
    have E : Hid (stt t = nd t) := by show _ = _; unfold stt; rw [if_pos hc]
    have z0 := cell_of q2 0 _ rfl
    have z1 := cell_of q2 1 _ rfl
    have z2 := cell_of q2 2 _ rfl
    have z3 := cell_of q2 3 _ rfl
    have cN := nds (K := K) (B := B) m _ t W2 L (HI.out.keep (keep_lo (w2.mono hK))) (Wr.below HW.out w2) (Nat.le_trans hK w2.size)
    have HW2 : Hid _ := w2
    rw [hc]
    clear w2 b2 q2
    go_wp2_with fail
    refine hm.mono ?_
    rintro e W3 ⟨rfl, rfl⟩
    go_wp2_with fail
    refine cN.mono ?_
    rintro e W4 ⟨b4, f4, hA⟩
    cases hP : nd t with
    | none =>
      rw [hP] at hA
      obtain rfl := hA
      exact ⟨rfl, by rw [E.out, hP]; exact ⟨(HW2.out.mono hK).trans b4, (Fr.of (Wr.lt HW.out) HW2.out).trans f4, rfl⟩⟩
    | some Y =>
      rw [hP] at hA
      obtain ⟨rfl, hWr⟩ := hA
      go_wp2_with fail
      go_end0
      rw [E.out, hP]
      exact ⟨(HW2.out.mono hK).trans b4, (Fr.of (Wr.lt HW.out) HW2.out).trans f4, rfl, hWr⟩
  · have hm := must_no W2
    have E : Hid (stt t = none) := by show _ = _; unfold stt; rw [if_neg hc]
    have hc1 : (((TMeas.ck [t] : Nat) : Int) == 0) = false := by simp [hc]
    have HW2 : Hid _ := w2
    clear w2 b2 q2
    go_wp2_with fail
    refine hm.mono ?_
    rintro e W3 ⟨rfl, rfl⟩
    exact ⟨rfl, by rw [E.out]; exact ⟨HW2.out.mono hK, Fr.of (Wr.lt HW.out) HW2.out, rfl⟩⟩
end Go.Proofs.YtaiackmmmlhgbaaGreat.YNd
