/- How many nodes a core has, how many fors lie around one another: Count, Loops (package core). -/
import Derived.Test.YtofjedecjlodmaaGreatKVp
namespace Go.Proofs.YtofjedecjlodmaaGreat.KVl
open Go.RowKit Go.Proofs.YtofjedecjlodmaaGreat.Base Go.Proofs.YtofjedecjlodmaaGreat.EPure Go.Proofs.YtofjedecjlodmaaGreat.KBase Go.Proofs.YtofjedecjlodmaaGreat.KAr Go.Proofs.YtofjedecjlodmaaGreat.KEx Go.Proofs.YtofjedecjlodmaaGreat.KLe Go.Proofs.YtofjedecjlodmaaGreat.KNp Go.Proofs.YtofjedecjlodmaaGreat.KNd Go.Proofs.YtofjedecjlodmaaGreat.KVp
open Go.Proofs.YtofjedecjlodmaaGreat.XBase (frozen_box)
set_option linter.unusedVariables false

abbrev Bx (W : World) (B : Nat) (x : Int) : Prop := W.heap[B]? = some (.cells #[.int .i64 x] 3 (0, 0))
theorem one_c {w : World} {B : Nat} {x i : Int} (h : Bx w B x) (hx : 0 ≤ x ∧ x ≤ 1000000) (hi : 0 ≤ i ∧ i ≤ 1000) :
    Calls Tryz.prog 25 #[.int .i64 i, .pointer (some ⟨B, 0, none⟩)] w fun e w' => (∃ v, e = .returned v) ∧ Kr B w w' ∧ Bx w' B (max x i) := by
  have c0 := box_one h
  have f0 := frozen_box h 0
  have HB : Hid (Bx w B x) := h
  clear h
  by_cases hxi : x < i
  · rw [show max x i = i by omega]
    go_enter Tryz.func25, Tryz.ntmps25
    go_wp2_with fail
    go_end0
    exact ⟨⟨_, rfl⟩, Kr.set B w _, heap_setCell_same _ _ _ _ _ _ HB.out⟩
  · rw [show max x i = x by omega]
    go_enter Tryz.func25, Tryz.ntmps25
    go_wp2_with fail
    go_end0
    exact ⟨⟨_, rfl⟩, Kr.set B w _, heap_setCell_same _ _ _ _ _ _ HB.out⟩
/-- What is gathered. -/
def vf : Int → List Co → Int → Int
  | _, [], x => x
  | lo, .mk k t f p xs l u :: cs, x => vf lo cs (vf (if k = 4 then lo + 1 else lo) u (vf (if k = 4 then lo + 1 else lo) l (max x (if k = 4 then lo + 1 else lo))))
theorem vf_nil (lo x : Int) : vf lo [] x = x := by rw [vf]
theorem vf_one (lo : Int) (c : Co) (x : Int) : vf lo [c] x = vf (if c.k = 4 then lo + 1 else lo) c.u (vf (if c.k = 4 then lo + 1 else lo) c.l (max x (if c.k = 4 then lo + 1 else lo))) := by
  obtain ⟨k, t, f, p, xs, l, u⟩ := c
  rw [vf, vf_nil]
  rfl
theorem vf_cons (lo : Int) (c : Co) (t : List Co) (x : Int) : vf lo (c :: t) x = vf lo t (vf lo [c] x) := by
  obtain ⟨k, tg, f, p, xs, l, u⟩ := c
  rw [vf, vf_one]
  rfl
theorem vf_bd : ∀ (n : Nat) (cs : List Co) (lo x : Int), SizeOf.sizeOf cs ≤ n → 0 ≤ x ∧ x ≤ 100 → lbL lo cs = true → 0 ≤ vf lo cs x ∧ vf lo cs x ≤ 100 := by
  intro n
  induction n with
  | zero =>
    intro cs lo x h hx _
    cases cs with
    | nil => rw [vf_nil]; exact hx
    | cons c t => exact absurd h (by simp)
  | succ n ih =>
    intro cs lo x h hx hb
    cases cs with
    | nil => rw [vf_nil]; exact hx
    | cons c t =>
      rw [vf_cons, vf_one]
      rw [lbL_cons] at hb
      obtain ⟨k, tg, f, p, xs, l, u⟩ := c
      obtain ⟨b1, b2, b3, b4⟩ := hb
      exact ih t _ _ (by simp at h; omega) (ih u _ _ (by simp at h; omega) (ih l _ _ (by simp at h; omega) (by omega) b2) b3) b4
def VI (m : Nat) : Prop := ∀ (w : World) (v : Value) (cs : List Co) (B : Nat) (lo x : Int), InL false (fun b => b ≠ B) w m v cs → Bx w B x → 0 ≤ lo → lbL lo cs = true → 0 ≤ x ∧ x ≤ 100 →
    Calls Tryz.prog 22 #[v, .int .i64 lo, .func (.func 25) #[] #[.pointer (some ⟨B, 0, none⟩)]] w fun e w' => (∃ v, e = .returned v) ∧ Kr B w w' ∧ Bx w' B (vf lo cs x)
set_option maxRecDepth 20000 in
set_option maxHeartbeats 3200000 in
theorem visit_of {m : Nat} (ih : ∀ m', m = m' + 1 → VI m') : VI m := by
  intro w v cs B lo x hin hB hlo hlb hx
  have hBl : B < w.heap.size := (Array.getElem?_eq_some_iff.1 hB).1
  have Hih : Hid (∀ m', m = m' + 1 → VI m') := ih
  obtain ⟨a, cap, rfl, hlc, hcm, hlen, hnil, hL⟩ := hin
  have HL : Hid (RwAt 7 Co7 rmC false (fun b => b ≠ B) w (KBase.In false (fun b => b ≠ B) w m) a cap cs) := hL
  have HB : Hid (Bx w B x) := hB
  have HLB : Hid (lbL lo (cs.drop 0) = true) := hlb
  have HXB : Hid (0 ≤ x ∧ x ≤ 100) := hx
  obtain ⟨X, hX⟩ : ∃ X, vf lo cs x = X := ⟨_, rfl⟩
  rw [hX]
  have HX : Hid (vf lo (cs.drop 0) x = X) := hX
  clear hL ih hX hB hlb hx
  go_enter Tryz.func22, Tryz.ntmps22
  go_wp2_with fail
  go_loopw [11] (fun i wr => ∃ (q : Nat) (y : Int), i = .int .i64 q ∧ q ≤ cs.length ∧ Kr B w wr ∧ Bx wr B y ∧ lbL lo (cs.drop q) = true ∧ (0 ≤ y ∧ y ≤ 100) ∧ vf lo (cs.drop q) y = X) (fun i _ => cs.length - (intOf i).toNat)
  case atStart => exact ⟨0, x, rfl, by omega, Kr.refl _ _, HB.out, HLB.out, HXB.out, HX.out⟩
  case round =>
    clear HB HX HLB HXB
    obtain ⟨q, y, rfl, hq, hK, hBr, hlb, hyb, hM⟩ := hrel
    have HK : Hid (Kr B w wr) := hK
    have HB : Hid (Bx wr B y) := hBr
    have HM : Hid (vf lo (cs.drop q) y = X) := hM
    have HLB : Hid (lbL lo (cs.drop q) = true) := hlb
    have HYB : Hid (0 ≤ y ∧ y ≤ 100) := hyb
    have hsz := hK.below.size
    clear hM hBr hlb hyb
    by_cases hlt : q < cs.length
    · have d0 : decide ((q : Int) < (cs.length : Int)) = true := by simp; omega
      obtain ⟨g, o, u, ha, hSg, hu, hi⟩ := HL.out.elem hlt
      subst ha
      have hu := Keep.co hK.keep hSg hu
      have hi2 := hi.keep hK.keep
      obtain ⟨v0, v1, v2, v3, v4, v5, v6, rfl, k0, k1, k2, k3, k4, k5, k6⟩ := hu
      obtain ⟨m', fv, pv, xv, lv, uv, hm, hv, -, -, hF, hP, ⟨mx, hX⟩, hLl, hUl⟩ := hi2.shape
      simp only [Value.agg.injEq, Array.mk.injEq, List.cons.injEq, and_true] at hv
      obtain ⟨rfl, rfl, rfl, rfl, rfl, rfl, rfl⟩ := hv
      have HLl : Hid (InL false (fun b => b ≠ B) wr m' v5 cs[q].l) := hLl
      have HUl : Hid (InL false (fun b => b ≠ B) wr m' v6 cs[q].u) := hUl
      obtain ⟨a1, c1, rfl, -⟩ := hF
      obtain ⟨a2, c2, rfl, -⟩ := hP
      obtain ⟨a3, c3, rfl, -⟩ := hX
      obtain ⟨a4, c4, rfl, -⟩ := hLl
      obtain ⟨a5, c5, rfl, -⟩ := hUl
      have hvi := Hih.out m' hm
      obtain ⟨z, hz⟩ : ∃ z, cs[q] = z := ⟨_, rfl⟩
      rw [hz] at k0 k1 k2 k3 k4 k5 k6 HLl HUl
      obtain ⟨W4, hW4⟩ : ∃ W4, wr.alloc (.cells #[.int .i64 z.k, .string z.t, .slice a1 z.f.length c1, .slice a2 z.p.length c2, .slice a3 z.x.length c3, .slice a4 z.l.length c4, .slice a5 z.u.length c5] 40) = W4 := ⟨_, rfl⟩
      have b4 : Below wr.heap.size wr W4 := by rw [← hW4]; exact (Below.refl _ wr).alloc (Nat.le_refl _) _
      have HQ4 : Hid (W4.heap[wr.heap.size]? = some (.cells #[.int .i64 z.k, .string z.t, .slice a1 z.f.length c1, .slice a2 z.p.length c2, .slice a3 z.x.length c3, .slice a4 z.l.length c4, .slice a5 z.u.length c5] 40 (0, 0))) := by rw [← hW4]; exact heap_alloc_new wr _
      have hs4 : W4.heap.size = wr.heap.size + 1 := by rw [← hW4]; simp
      obtain ⟨z0, z1, z2, z3, z4, z5, z6⟩ := seven_box HQ4.out
      have HK4 : Hid (Kr B wr W4) := Kr.of_below b4 (by omega)
      have HB4 : Hid (Bx W4 B y) := (b4.block _ (by omega)).trans HB.out
      have hdrop : cs.drop q = z :: cs.drop (q + 1) := by rw [← hz]; exact List.drop_eq_getElem_cons hlt
      have hstep := HM.out
      rw [hdrop, vf_cons, vf_one] at hstep
      have hlb := HLB.out
      rw [hdrop, lbL_cons] at hlb
      have hyb := HYB.out
      try rw [hdrop] at hyb
      obtain ⟨i, hi'⟩ : ∃ i, (if z.k = 4 then lo + 1 else lo) = i := ⟨_, rfl⟩
      rw [hi'] at hstep hlb
      obtain ⟨hl1, hl2, hl3, hl4⟩ := hlb
      have hi0 : 0 ≤ i := by rw [← hi']; split <;> omega
      have HBA : Hid (0 ≤ max y i ∧ max y i ≤ 100) := by constructor <;> omega
      have HBU : Hid (0 ≤ vf i z.l (max y i) ∧ vf i z.l (max y i) ≤ 100) := vf_bd _ z.l i _ (Nat.le_refl _) HBA.out hl2
      have HBT : Hid (0 ≤ vf i z.u (vf i z.l (max y i)) ∧ vf i z.u (vf i z.l (max y i)) ≤ 100) := vf_bd _ z.u i _ (Nat.le_refl _) HBU.out hl3
      have c1' := one_c HB4.out (i := i) (by omega) (by omega)
      have hcapq : cs.length ≤ cap := hlc
      have HST : Hid (vf lo (cs.drop (q + 1)) (vf i z.u (vf i z.l (max y i))) = X) := hstep
      have HL4 : Hid (lbL lo (cs.drop (q + 1)) = true) := hl4
      have hmain : ∀ (W5 : World), Kr B W4 W5 → Bx W5 B (max y i) → (∃ W, W = W5) := fun W5 _ _ => ⟨_, rfl⟩
      clear hstep hdrop hi hi2 b4 HM hz hK hl4 HLB HYB hmain
      by_cases hk4 : z.k = 4
      · have e4 : (z.k == 4) = true := by simpa using hk4
        obtain rfl : lo + 1 = i := by rw [← hi', if_pos hk4]
        clear hi' hk4
        go_wp2_with fail
        try rw [hW4]
        refine c1'.mono ?_
        rintro e W5 ⟨⟨v9, rfl⟩, k5', h5'⟩
        have HB5 : Hid _ := h5'
        have HK5 : Hid (Kr B wr W5) := HK4.out.trans k5'
        have HQ5 : Hid _ := (k5'.other wr.heap.size (by omega) (by omega)).trans HQ4.out
        have hs5 := k5'.below.size
        obtain ⟨y0, y1, y2, y3, y4, y5, y6⟩ := seven_box HQ5.out
        have cA := hvi W5 _ z.l B _ _ (InL.keep HK5.out.keep HLl.out) h5' hi0 hl2 HBA.out
        clear c1' k5' h5' hW4 k0 k1 k2 k3 k4 k5 k6 z0 z1 z2 z3 z4 z5 z6
        go_wp2_with fail
        refine cA.mono ?_
        rintro e W6 ⟨⟨v9, rfl⟩, k6', h6'⟩
        have HB6 : Hid _ := h6'
        have HK6 : Hid (Kr B wr W6) := HK5.out.trans k6'
        have HQ6 : Hid _ := (k6'.other wr.heap.size (by omega) (by omega)).trans HQ5.out
        have hs6 := k6'.below.size
        obtain ⟨x0, x1, x2, x3, x4, x5, x6⟩ := seven_box HQ6.out
        have cU := hvi W6 _ z.u B _ _ (InL.keep HK6.out.keep HUl.out) h6' hi0 hl3 HBU.out
        clear cA k6' h6' y0 y1 y2 y3 y4 y5 y6
        go_wp2_with fail
        refine cU.mono ?_
        rintro e W7 ⟨⟨v9, rfl⟩, k7', h7'⟩
        have HB7 : Hid _ := h7'
        have HK7 : Hid (Kr B wr W7) := HK6.out.trans k7'
        clear cU k7' h7' x0 x1 x2 x3 x4 x5 x6
        go_wp2_with fail
        go_roundw
        case rel => exact ⟨q + 1, _, by go_num, by omega, HK.out.trans HK7.out, HB7.out, HL4.out, HBT.out, HST.out⟩
        case measure => simp only [intOf]; omega
      · have e4 : (z.k == 4) = false := by simpa using hk4
        obtain rfl : lo = i := by rw [← hi', if_neg hk4]
        clear hi' hk4
        go_wp2_with fail
        try rw [hW4]
        refine c1'.mono ?_
        rintro e W5 ⟨⟨v9, rfl⟩, k5', h5'⟩
        have HB5 : Hid _ := h5'
        have HK5 : Hid (Kr B wr W5) := HK4.out.trans k5'
        have HQ5 : Hid _ := (k5'.other wr.heap.size (by omega) (by omega)).trans HQ4.out
        have hs5 := k5'.below.size
        obtain ⟨y0, y1, y2, y3, y4, y5, y6⟩ := seven_box HQ5.out
        have cA := hvi W5 _ z.l B _ _ (InL.keep HK5.out.keep HLl.out) h5' hi0 hl2 HBA.out
        clear c1' k5' h5' hW4 k0 k1 k2 k3 k4 k5 k6 z0 z1 z2 z3 z4 z5 z6
        go_wp2_with fail
        refine cA.mono ?_
        rintro e W6 ⟨⟨v9, rfl⟩, k6', h6'⟩
        have HB6 : Hid _ := h6'
        have HK6 : Hid (Kr B wr W6) := HK5.out.trans k6'
        have HQ6 : Hid _ := (k6'.other wr.heap.size (by omega) (by omega)).trans HQ5.out
        have hs6 := k6'.below.size
        obtain ⟨x0, x1, x2, x3, x4, x5, x6⟩ := seven_box HQ6.out
        have cU := hvi W6 _ z.u B _ _ (InL.keep HK6.out.keep HUl.out) h6' hi0 hl3 HBU.out
        clear cA k6' h6' y0 y1 y2 y3 y4 y5 y6
        go_wp2_with fail
        refine cU.mono ?_
        rintro e W7 ⟨⟨v9, rfl⟩, k7', h7'⟩
        have HB7 : Hid _ := h7'
        have HK7 : Hid (Kr B wr W7) := HK6.out.trans k7'
        clear cU k7' h7' x0 x1 x2 x3 x4 x5 x6
        go_wp2_with fail
        go_roundw
        case rel => exact ⟨q + 1, _, by go_num, by omega, HK.out.trans HK7.out, HB7.out, HL4.out, HBT.out, HST.out⟩
        case measure => simp only [intOf]; omega
    · have d0 : decide ((q : Int) < (cs.length : Int)) = false := by simp; omega
      have hx : y = X := by
        have := HM.out
        rw [List.drop_eq_nil_of_le (by omega), vf_nil] at this
        exact this
      subst hx
      go_wp2_with fail
      go_end0
      exact ⟨⟨_, rfl⟩, HK.out, HB.out⟩
theorem visit_all : ∀ m, VI m
  | 0 => visit_of (fun m' h => by omega)
  | m + 1 => visit_of (fun m' h => by obtain rfl : m = m' := by omega
                                      exact visit_all m)
end Go.Proofs.YtofjedecjlodmaaGreat.KVl

namespace Go.Proofs.YtofjedecjlodmaaGreat.KVc
open Go.RowKit Go.Proofs.YtofjedecjlodmaaGreat.Base Go.Proofs.YtofjedecjlodmaaGreat.EPure Go.Proofs.YtofjedecjlodmaaGreat.KBase Go.Proofs.YtofjedecjlodmaaGreat.KAr Go.Proofs.YtofjedecjlodmaaGreat.KEx Go.Proofs.YtofjedecjlodmaaGreat.KLe Go.Proofs.YtofjedecjlodmaaGreat.KNp Go.Proofs.YtofjedecjlodmaaGreat.KNd Go.Proofs.YtofjedecjlodmaaGreat.KVp
open Go.Proofs.YtofjedecjlodmaaGreat.XBase (frozen_box)
set_option linter.unusedVariables false

abbrev Bx (W : World) (B : Nat) (x : Int) : Prop := W.heap[B]? = some (.cells #[.int .i64 x] 3 (0, 0))
theorem one_c {w : World} {B : Nat} {x i : Int} (h : Bx w B x) (hx : 0 ≤ x ∧ x ≤ 1000000) (hi : 0 ≤ i ∧ i ≤ 1000) :
    Calls Tryz.prog 24 #[.int .i64 i, .pointer (some ⟨B, 0, none⟩)] w fun e w' => (∃ v, e = .returned v) ∧ Kr B w w' ∧ Bx w' B (x + 1) := by
  have c0 := box_one h
  have f0 := frozen_box h 0
  have HB : Hid (Bx w B x) := h
  clear h
  go_enter Tryz.func24, Tryz.ntmps24
  go_wp2_with fail
  go_end0
  exact ⟨⟨_, rfl⟩, Kr.set B w _, heap_setCell_same _ _ _ _ _ _ HB.out⟩
/-- What is gathered. -/
def vf : Int → List Co → Int → Int
  | _, [], x => x
  | lo, .mk k t f p xs l u :: cs, x => vf lo cs (vf (if k = 4 then lo + 1 else lo) u (vf (if k = 4 then lo + 1 else lo) l (x + 1)))
theorem vf_nil (lo x : Int) : vf lo [] x = x := by rw [vf]
theorem vf_one (lo : Int) (c : Co) (x : Int) : vf lo [c] x = vf (if c.k = 4 then lo + 1 else lo) c.u (vf (if c.k = 4 then lo + 1 else lo) c.l (x + 1)) := by
  obtain ⟨k, t, f, p, xs, l, u⟩ := c
  rw [vf, vf_nil]
  rfl
theorem vf_cons (lo : Int) (c : Co) (t : List Co) (x : Int) : vf lo (c :: t) x = vf lo t (vf lo [c] x) := by
  obtain ⟨k, tg, f, p, xs, l, u⟩ := c
  rw [vf, vf_one]
  rfl
theorem vf_sz : ∀ (n : Nat) (cs : List Co) (lo x : Int), SizeOf.sizeOf cs ≤ n → vf lo cs x = x + szL cs := by
  intro n
  induction n with
  | zero =>
    intro cs lo x h
    cases cs with
    | nil => rw [vf_nil, szL_nil]; simp
    | cons c t => exact absurd h (by simp)
  | succ n ih =>
    intro cs lo x h
    cases cs with
    | nil => rw [vf_nil, szL_nil]; simp
    | cons c t =>
      rw [vf_cons, vf_one, szL_cons]
      obtain ⟨k, tg, f, p, xs, l, u⟩ := c
      have e1 : (Co.mk k tg f p xs l u).l = l := rfl
      have e2 : (Co.mk k tg f p xs l u).u = u := rfl
      rw [e1, e2, ih l _ _ (by simp at h; omega), ih u _ _ (by simp at h; omega), ih t _ _ (by simp at h; omega)]
      omega
def VI (m : Nat) : Prop := ∀ (w : World) (v : Value) (cs : List Co) (B : Nat) (lo x : Int), InL false (fun b => b ≠ B) w m v cs → Bx w B x → 0 ≤ lo → lbL lo cs = true → 0 ≤ x ∧ x + (szL cs : Int) ≤ 1000000 →
    Calls Tryz.prog 22 #[v, .int .i64 lo, .func (.func 24) #[] #[.pointer (some ⟨B, 0, none⟩)]] w fun e w' => (∃ v, e = .returned v) ∧ Kr B w w' ∧ Bx w' B (vf lo cs x)
set_option maxRecDepth 20000 in
set_option maxHeartbeats 3200000 in
theorem visit_of {m : Nat} (ih : ∀ m', m = m' + 1 → VI m') : VI m := by
  intro w v cs B lo x hin hB hlo hlb hx
  have hBl : B < w.heap.size := (Array.getElem?_eq_some_iff.1 hB).1
  have Hih : Hid (∀ m', m = m' + 1 → VI m') := ih
  obtain ⟨a, cap, rfl, hlc, hcm, hlen, hnil, hL⟩ := hin
  have HL : Hid (RwAt 7 Co7 rmC false (fun b => b ≠ B) w (KBase.In false (fun b => b ≠ B) w m) a cap cs) := hL
  have HB : Hid (Bx w B x) := hB
  have HLB : Hid (lbL lo (cs.drop 0) = true) := hlb
  have HXB : Hid (0 ≤ x ∧ x + (szL cs : Int) ≤ 1000000) := hx
  obtain ⟨X, hX⟩ : ∃ X, vf lo cs x = X := ⟨_, rfl⟩
  rw [hX]
  have HX : Hid (vf lo (cs.drop 0) x = X) := hX
  clear hL ih hX hB hlb hx
  go_enter Tryz.func22, Tryz.ntmps22
  go_wp2_with fail
  go_loopw [11] (fun i wr => ∃ (q : Nat) (y : Int), i = .int .i64 q ∧ q ≤ cs.length ∧ Kr B w wr ∧ Bx wr B y ∧ lbL lo (cs.drop q) = true ∧ (0 ≤ y ∧ y + (szL (cs.drop q) : Int) ≤ 1000000) ∧ vf lo (cs.drop q) y = X) (fun i _ => cs.length - (intOf i).toNat)
  case atStart => exact ⟨0, x, rfl, by omega, Kr.refl _ _, HB.out, HLB.out, HXB.out, HX.out⟩
  case round =>
    clear HB HX HLB HXB
    obtain ⟨q, y, rfl, hq, hK, hBr, hlb, hyb, hM⟩ := hrel
    have HK : Hid (Kr B w wr) := hK
    have HB : Hid (Bx wr B y) := hBr
    have HM : Hid (vf lo (cs.drop q) y = X) := hM
    have HLB : Hid (lbL lo (cs.drop q) = true) := hlb
    have HYB : Hid (0 ≤ y ∧ y + (szL (cs.drop q) : Int) ≤ 1000000) := hyb
    have hsz := hK.below.size
    clear hM hBr hlb hyb
    by_cases hlt : q < cs.length
    · have d0 : decide ((q : Int) < (cs.length : Int)) = true := by simp; omega
      obtain ⟨g, o, u, ha, hSg, hu, hi⟩ := HL.out.elem hlt
      subst ha
      have hu := Keep.co hK.keep hSg hu
      have hi2 := hi.keep hK.keep
      obtain ⟨v0, v1, v2, v3, v4, v5, v6, rfl, k0, k1, k2, k3, k4, k5, k6⟩ := hu
      obtain ⟨m', fv, pv, xv, lv, uv, hm, hv, -, -, hF, hP, ⟨mx, hX⟩, hLl, hUl⟩ := hi2.shape
      simp only [Value.agg.injEq, Array.mk.injEq, List.cons.injEq, and_true] at hv
      obtain ⟨rfl, rfl, rfl, rfl, rfl, rfl, rfl⟩ := hv
      have HLl : Hid (InL false (fun b => b ≠ B) wr m' v5 cs[q].l) := hLl
      have HUl : Hid (InL false (fun b => b ≠ B) wr m' v6 cs[q].u) := hUl
      obtain ⟨a1, c1, rfl, -⟩ := hF
      obtain ⟨a2, c2, rfl, -⟩ := hP
      obtain ⟨a3, c3, rfl, -⟩ := hX
      obtain ⟨a4, c4, rfl, -⟩ := hLl
      obtain ⟨a5, c5, rfl, -⟩ := hUl
      have hvi := Hih.out m' hm
      obtain ⟨z, hz⟩ : ∃ z, cs[q] = z := ⟨_, rfl⟩
      rw [hz] at k0 k1 k2 k3 k4 k5 k6 HLl HUl
      obtain ⟨W4, hW4⟩ : ∃ W4, wr.alloc (.cells #[.int .i64 z.k, .string z.t, .slice a1 z.f.length c1, .slice a2 z.p.length c2, .slice a3 z.x.length c3, .slice a4 z.l.length c4, .slice a5 z.u.length c5] 40) = W4 := ⟨_, rfl⟩
      have b4 : Below wr.heap.size wr W4 := by rw [← hW4]; exact (Below.refl _ wr).alloc (Nat.le_refl _) _
      have HQ4 : Hid (W4.heap[wr.heap.size]? = some (.cells #[.int .i64 z.k, .string z.t, .slice a1 z.f.length c1, .slice a2 z.p.length c2, .slice a3 z.x.length c3, .slice a4 z.l.length c4, .slice a5 z.u.length c5] 40 (0, 0))) := by rw [← hW4]; exact heap_alloc_new wr _
      have hs4 : W4.heap.size = wr.heap.size + 1 := by rw [← hW4]; simp
      obtain ⟨z0, z1, z2, z3, z4, z5, z6⟩ := seven_box HQ4.out
      have HK4 : Hid (Kr B wr W4) := Kr.of_below b4 (by omega)
      have HB4 : Hid (Bx W4 B y) := (b4.block _ (by omega)).trans HB.out
      have hdrop : cs.drop q = z :: cs.drop (q + 1) := by rw [← hz]; exact List.drop_eq_getElem_cons hlt
      have hstep := HM.out
      rw [hdrop, vf_cons, vf_one] at hstep
      have hlb := HLB.out
      rw [hdrop, lbL_cons] at hlb
      have hyb := HYB.out
      try rw [hdrop] at hyb
      obtain ⟨i, hi'⟩ : ∃ i, (if z.k = 4 then lo + 1 else lo) = i := ⟨_, rfl⟩
      rw [hi'] at hstep hlb
      obtain ⟨hl1, hl2, hl3, hl4⟩ := hlb
      have hi0 : 0 ≤ i := by rw [← hi']; split <;> omega
      rw [szL_cons] at hyb
      have s1 := vf_sz _ z.l i (y + 1) (Nat.le_refl _)
      have s2 := vf_sz _ z.u i (vf i z.l (y + 1)) (Nat.le_refl _)
      have HBA : Hid (0 ≤ y + 1 ∧ y + 1 + (szL z.l : Int) ≤ 1000000) := by constructor <;> omega
      have HBU : Hid (0 ≤ vf i z.l (y + 1) ∧ vf i z.l (y + 1) + (szL z.u : Int) ≤ 1000000) := by rw [s1]; constructor <;> omega
      have HBT : Hid (0 ≤ vf i z.u (vf i z.l (y + 1)) ∧ vf i z.u (vf i z.l (y + 1)) + (szL (cs.drop (q + 1)) : Int) ≤ 1000000) := by rw [s2, s1]; constructor <;> omega
      clear s1 s2
      have c1' := one_c HB4.out (i := i) (by omega) (by omega)
      have hcapq : cs.length ≤ cap := hlc
      have HST : Hid (vf lo (cs.drop (q + 1)) (vf i z.u (vf i z.l (y + 1))) = X) := hstep
      have HL4 : Hid (lbL lo (cs.drop (q + 1)) = true) := hl4
      have hmain : ∀ (W5 : World), Kr B W4 W5 → Bx W5 B (y + 1) → (∃ W, W = W5) := fun W5 _ _ => ⟨_, rfl⟩
      clear hstep hdrop hi hi2 b4 HM hz hK hl4 HLB HYB hmain
      by_cases hk4 : z.k = 4
      · have e4 : (z.k == 4) = true := by simpa using hk4
        obtain rfl : lo + 1 = i := by rw [← hi', if_pos hk4]
        clear hi' hk4
        go_wp2_with fail
        try rw [hW4]
        refine c1'.mono ?_
        rintro e W5 ⟨⟨v9, rfl⟩, k5', h5'⟩
        have HB5 : Hid _ := h5'
        have HK5 : Hid (Kr B wr W5) := HK4.out.trans k5'
        have HQ5 : Hid _ := (k5'.other wr.heap.size (by omega) (by omega)).trans HQ4.out
        have hs5 := k5'.below.size
        obtain ⟨y0, y1, y2, y3, y4, y5, y6⟩ := seven_box HQ5.out
        have cA := hvi W5 _ z.l B _ _ (InL.keep HK5.out.keep HLl.out) h5' hi0 hl2 HBA.out
        clear c1' k5' h5' hW4 k0 k1 k2 k3 k4 k5 k6 z0 z1 z2 z3 z4 z5 z6
        go_wp2_with fail
        refine cA.mono ?_
        rintro e W6 ⟨⟨v9, rfl⟩, k6', h6'⟩
        have HB6 : Hid _ := h6'
        have HK6 : Hid (Kr B wr W6) := HK5.out.trans k6'
        have HQ6 : Hid _ := (k6'.other wr.heap.size (by omega) (by omega)).trans HQ5.out
        have hs6 := k6'.below.size
        obtain ⟨x0, x1, x2, x3, x4, x5, x6⟩ := seven_box HQ6.out
        have cU := hvi W6 _ z.u B _ _ (InL.keep HK6.out.keep HUl.out) h6' hi0 hl3 HBU.out
        clear cA k6' h6' y0 y1 y2 y3 y4 y5 y6
        go_wp2_with fail
        refine cU.mono ?_
        rintro e W7 ⟨⟨v9, rfl⟩, k7', h7'⟩
        have HB7 : Hid _ := h7'
        have HK7 : Hid (Kr B wr W7) := HK6.out.trans k7'
        clear cU k7' h7' x0 x1 x2 x3 x4 x5 x6
        go_wp2_with fail
        go_roundw
        case rel => exact ⟨q + 1, _, by go_num, by omega, HK.out.trans HK7.out, HB7.out, HL4.out, HBT.out, HST.out⟩
        case measure => simp only [intOf]; omega
      · have e4 : (z.k == 4) = false := by simpa using hk4
        obtain rfl : lo = i := by rw [← hi', if_neg hk4]
        clear hi' hk4
        go_wp2_with fail
        try rw [hW4]
        refine c1'.mono ?_
        rintro e W5 ⟨⟨v9, rfl⟩, k5', h5'⟩
        have HB5 : Hid _ := h5'
        have HK5 : Hid (Kr B wr W5) := HK4.out.trans k5'
        have HQ5 : Hid _ := (k5'.other wr.heap.size (by omega) (by omega)).trans HQ4.out
        have hs5 := k5'.below.size
        obtain ⟨y0, y1, y2, y3, y4, y5, y6⟩ := seven_box HQ5.out
        have cA := hvi W5 _ z.l B _ _ (InL.keep HK5.out.keep HLl.out) h5' hi0 hl2 HBA.out
        clear c1' k5' h5' hW4 k0 k1 k2 k3 k4 k5 k6 z0 z1 z2 z3 z4 z5 z6
        go_wp2_with fail
        refine cA.mono ?_
        rintro e W6 ⟨⟨v9, rfl⟩, k6', h6'⟩
        have HB6 : Hid _ := h6'
        have HK6 : Hid (Kr B wr W6) := HK5.out.trans k6'
        have HQ6 : Hid _ := (k6'.other wr.heap.size (by omega) (by omega)).trans HQ5.out
        have hs6 := k6'.below.size
        obtain ⟨x0, x1, x2, x3, x4, x5, x6⟩ := seven_box HQ6.out
        have cU := hvi W6 _ z.u B _ _ (InL.keep HK6.out.keep HUl.out) h6' hi0 hl3 HBU.out
        clear cA k6' h6' y0 y1 y2 y3 y4 y5 y6
        go_wp2_with fail
        refine cU.mono ?_
        rintro e W7 ⟨⟨v9, rfl⟩, k7', h7'⟩
        have HB7 : Hid _ := h7'
        have HK7 : Hid (Kr B wr W7) := HK6.out.trans k7'
        clear cU k7' h7' x0 x1 x2 x3 x4 x5 x6
        go_wp2_with fail
        go_roundw
        case rel => exact ⟨q + 1, _, by go_num, by omega, HK.out.trans HK7.out, HB7.out, HL4.out, HBT.out, HST.out⟩
        case measure => simp only [intOf]; omega
    · have d0 : decide ((q : Int) < (cs.length : Int)) = false := by simp; omega
      have hx : y = X := by
        have := HM.out
        rw [List.drop_eq_nil_of_le (by omega), vf_nil] at this
        exact this
      subst hx
      go_wp2_with fail
      go_end0
      exact ⟨⟨_, rfl⟩, HK.out, HB.out⟩
theorem visit_all : ∀ m, VI m
  | 0 => visit_of (fun m' h => by omega)
  | m + 1 => visit_of (fun m' h => by obtain rfl : m = m' := by omega
                                      exact visit_all m)
end Go.Proofs.YtofjedecjlodmaaGreat.KVc

namespace Go.Proofs.YtofjedecjlodmaaGreat.KCo
open Go.RowKit Go.Proofs.YtofjedecjlodmaaGreat.Base Go.Proofs.YtofjedecjlodmaaGreat.EPure Go.Proofs.YtofjedecjlodmaaGreat.KBase Go.Proofs.YtofjedecjlodmaaGreat.KAr Go.Proofs.YtofjedecjlodmaaGreat.KEx Go.Proofs.YtofjedecjlodmaaGreat.KLe Go.Proofs.YtofjedecjlodmaaGreat.KNp Go.Proofs.YtofjedecjlodmaaGreat.KNd Go.Proofs.YtofjedecjlodmaaGreat.KVp
set_option linter.unusedVariables false

/-- A core that may be, or none. -/
def tk (cs : List Co) : List Co := if chk cs = 0 then cs else []
theorem tk_ok {cs : List Co} (h : chk cs = 0) : lbL 0 cs = true ∧ (szL cs : Int) ≤ 4096 := by
  have := ok_small _ cs 4096 1 0 0 (Nat.le_refl _) h (by omega)
  have r := ndL_room _ cs 4096 1 0 0 (Nat.le_refl _) h (by omega)
  exact ⟨this.1, by omega⟩
theorem tk_small (cs : List Co) : lbL 0 (tk cs) = true ∧ (szL (tk cs) : Int) ≤ 4096 := by
  unfold tk
  split
  · next h => exact tk_ok h
  · exact ⟨lbL_nil 0, by rw [szL_nil]; simp⟩
set_option maxRecDepth 20000 in
theorem taken_c {m : Nat} {w : World} {v : Value} {cs : List Co} (hin : InL false (fun _ => True) w m v cs) :
    Calls Tryz.prog 23 #[v] w fun x w' => ∃ u, x = .returned u ∧ (∀ (w0 : World) (S : Nat → Prop), InL false S w0 m v cs → InL false S w0 m u (tk cs)) ∧ Below w.heap.size w w' := by
  have cC := check_c hin
  have HIN : Hid (InL false (fun _ => True) w m v cs) := hin
  obtain ⟨X, hX⟩ : ∃ X, chk cs = X := ⟨_, rfl⟩
  rw [hX] at cC
  obtain ⟨a, cap, rfl, -⟩ := hin
  have HT : Hid (tk cs = if X = 0 then cs else []) := by show _ = _; unfold tk; rw [hX]
  clear hX
  by_cases h0 : X = 0
  · subst h0
    have HT1 : Hid (tk cs = cs) := by show _ = _; rw [HT.out, if_pos rfl]
    clear HT
    go_enter Tryz.func23, Tryz.ntmps23
    go_wp2_with fail
    refine cC.mono ?_
    rintro x W1 ⟨rfl, b1⟩
    go_wp2_with fail
    go_ret
    refine ⟨_, rfl, fun w0 S h => ?_, b1⟩
    rw [HT1.out]
    exact h
  · have hne : (X != 0) = true := by simpa using h0
    have HT2 : Hid (tk cs = []) := by show _ = _; rw [HT.out, if_neg h0]
    clear h0 HT
    go_enter Tryz.func23, Tryz.ntmps23
    go_wp2_with fail
    refine cC.mono ?_
    rintro x W1 ⟨rfl, b1⟩
    go_wp2_with fail
    go_ret
    refine ⟨_, rfl, fun w0 S h => ?_, b1⟩
    rw [HT2.out]
    exact Rw.nil
set_option maxRecDepth 20000 in
theorem count_c {m : Nat} {w : World} {v : Value} {cs : List Co} (hin : InL false (fun _ => True) w m v cs) :
    Calls Tryz.prog 7 #[v] w fun x w' => x = .returned (.int .i64 (szL (tk cs))) ∧ Below w.heap.size w w' := by
  obtain ⟨W0, hW0⟩ : ∃ W0, w.alloc (.cells #[.int .i64 0] 3) = W0 := ⟨_, rfl⟩
  have b0 : Below w.heap.size w W0 := by rw [← hW0]; exact (Below.refl _ w).alloc (Nat.le_refl _) _
  have hs0 : W0.heap.size = w.heap.size + 1 := by rw [← hW0]; simp
  have HQ : Hid (W0.heap[w.heap.size]? = some (.cells #[.int .i64 0] 3 (0, 0))) := by rw [← hW0]; exact heap_alloc_new w _
  have cT := taken_c (InL.below hin b0)
  have HIN : Hid (InL false (fun _ => True) w m v cs) := hin
  obtain ⟨a0, cap0, hv0, -⟩ := hin
  have HB0 : Hid (Below w.heap.size w W0) := b0
  have hsm := tk_small cs
  have vz := KVc.vf_sz _ (tk cs) 0 0 (Nat.le_refl _)
  obtain ⟨L, hL⟩ : ∃ L, tk cs = L := ⟨_, rfl⟩
  have HL : Hid (tk cs = L) := hL
  rw [hL] at cT hsm vz ⊢
  obtain ⟨N, hN⟩ : ∃ N, (szL L : Int) = N := ⟨_, rfl⟩
  have HN : Hid (0 + (szL L : Int) = N) := by show _ = _; omega
  rw [hN]
  have HLB : Hid (lbL 0 L = true) := hsm.1
  have HSZ : Hid ((0 : Int) ≤ 0 ∧ 0 + (szL L : Int) ≤ 1000000) := by constructor <;> omega
  have HV : Hid (KVc.vf 0 L 0 = N) := vz.trans HN.out
  subst hv0
  clear hsm b0 hN vz hL
  have HW0 : Hid (w.alloc (.cells #[.int .i64 0] 3) = W0) := hW0
  clear hW0
  go_enter Tryz.func7, Tryz.ntmps7
  go_wp2_with fail
  try rw [HW0.out]
  refine cT.mono ?_
  rintro x W1 ⟨u, rfl, hu, b1⟩
  have hs1 := b1.size
  have hu2 : InL false (fun b => b ≠ w.heap.size) W1 m u L := by
    have h1 : InL false (fun _ => True) w m u L := hu _ _ HIN.out
    exact h1.other (nx HB0.out b1) (Nat.le_refl _)
  have HQ1 : Hid (W1.heap[w.heap.size]? = some (.cells #[.int .i64 0] 3 (0, 0))) := (b1.block _ (by omega)).trans HQ.out
  have HB1 : Hid (Below w.heap.size w W1) := nx HB0.out b1
  have cV := KVc.visit_all m W1 u L w.heap.size 0 0 hu2 HQ1.out (by omega) HLB.out HSZ.out
  rw [HV.out] at cV
  clear cT hu hu2 b1
  go_wp2_with fail
  refine cV.mono ?_
  rintro x W2 ⟨⟨v9, rfl⟩, k2, h2⟩
  have HQ2 : Hid _ := h2
  have HB2 : Hid (Below w.heap.size w W2) := HB1.out.trans k2.below
  have c2 := box_one h2
  clear cV k2 h2
  go_wp2_with fail
  go_ret
  exact ⟨rfl, HB2.out⟩
set_option maxRecDepth 20000 in
theorem loops_c {m : Nat} {w : World} {v : Value} {cs : List Co} (hin : InL false (fun _ => True) w m v cs) :
    Calls Tryz.prog 8 #[v] w fun x w' => x = .returned (.int .i64 (KVl.vf 0 (tk cs) 0)) ∧ Below w.heap.size w w' := by
  obtain ⟨W0, hW0⟩ : ∃ W0, w.alloc (.cells #[.int .i64 0] 3) = W0 := ⟨_, rfl⟩
  have b0 : Below w.heap.size w W0 := by rw [← hW0]; exact (Below.refl _ w).alloc (Nat.le_refl _) _
  have hs0 : W0.heap.size = w.heap.size + 1 := by rw [← hW0]; simp
  have HQ : Hid (W0.heap[w.heap.size]? = some (.cells #[.int .i64 0] 3 (0, 0))) := by rw [← hW0]; exact heap_alloc_new w _
  have cT := taken_c (InL.below hin b0)
  have HIN : Hid (InL false (fun _ => True) w m v cs) := hin
  obtain ⟨a0, cap0, hv0, -⟩ := hin
  have HB0 : Hid (Below w.heap.size w W0) := b0
  have hsm := tk_small cs
  obtain ⟨L, hL⟩ : ∃ L, tk cs = L := ⟨_, rfl⟩
  have HL : Hid (tk cs = L) := hL
  rw [hL] at cT hsm ⊢
  obtain ⟨N, hN⟩ : ∃ N, KVl.vf 0 L 0 = N := ⟨_, rfl⟩
  have HV : Hid (KVl.vf 0 L 0 = N) := hN
  rw [hN]
  have HLB : Hid (lbL 0 L = true) := hsm.1
  have HSZ : Hid ((0 : Int) ≤ 0 ∧ (0 : Int) ≤ 100) := by constructor <;> omega
  subst hv0
  clear hsm b0 hN hL
  have HW0 : Hid (w.alloc (.cells #[.int .i64 0] 3) = W0) := hW0
  clear hW0
  go_enter Tryz.func8, Tryz.ntmps8
  go_wp2_with fail
  try rw [HW0.out]
  refine cT.mono ?_
  rintro x W1 ⟨u, rfl, hu, b1⟩
  have hs1 := b1.size
  have hu2 : InL false (fun b => b ≠ w.heap.size) W1 m u L := by
    have h1 : InL false (fun _ => True) w m u L := hu _ _ HIN.out
    exact h1.other (nx HB0.out b1) (Nat.le_refl _)
  have HQ1 : Hid (W1.heap[w.heap.size]? = some (.cells #[.int .i64 0] 3 (0, 0))) := (b1.block _ (by omega)).trans HQ.out
  have HB1 : Hid (Below w.heap.size w W1) := nx HB0.out b1
  have cV := KVl.visit_all m W1 u L w.heap.size 0 0 hu2 HQ1.out (by omega) HLB.out HSZ.out
  rw [HV.out] at cV
  clear cT hu hu2 b1
  go_wp2_with fail
  refine cV.mono ?_
  rintro x W2 ⟨⟨v9, rfl⟩, k2, h2⟩
  have HQ2 : Hid _ := h2
  have HB2 : Hid (Below w.heap.size w W2) := HB1.out.trans k2.below
  have c2 := box_one h2
  clear cV k2 h2
  go_wp2_with fail
  go_ret
  exact ⟨rfl, HB2.out⟩
end Go.Proofs.YtofjedecjlodmaaGreat.KCo
