/- code.Run, whatever it is given: all its ways. -/
import Derived.Test.YtpaigpijaifeoaaGreatDoorCopyP
import Derived.Deep.RegionWith
import Derived.Test.YtpaigpijaifeoaaGreatDoorMCo
import Derived.Test.YtpaigpijaifeoaaGreatDoorMRg
import Derived.Test.YtpaigpijaifeoaaGreatDoorMRu
import Derived.Test.YtpaigpijaifeoaaGreatDoorGWf
namespace Go.Proofs.YtpaigpijaifeoaaGreatDoor.Copied
open Go.RowKit Go.Proofs.YtpaigpijaifeoaaGreatDoor.Base Go.Proofs.YtpaigpijaifeoaaGreatDoor.Clone Go.Proofs.YtpaigpijaifeoaaGreatDoor.Fresh
set_option linter.unusedVariables false

def CopiedIs (m : Nat) : Prop := ∀ (v : Value) (c : C) (w : World), In false All w m v c →
    Calls Tryz.prog 47 #[v] w fun e w' => ∃ u, e = .returned u ∧ Fr w' m w.heap.size w'.heap.size u c ∧ Below w.heap.size w w'
/-- The elements so far: the first q are copies. -/
structure Mid (w wr : World) (m : Nat) (l : List C) (os : List Value) (lu : Value) (b1 b2 q : Nat) (us : List Value) (cut : Nat → Nat) : Prop where
  own : OwnV wr b1 lu us
  len : us.length = l.length
  fr : ∀ j (h : j < us.length) (h' : j < l.length), j < q → Fr wr m (cut j) (cut (j + 1)) us[j] l[j]
  rest : ∀ j, q ≤ j → us[j]? = os[j]?
  cut0 : cut 0 = b2
  cutq : cut q ≤ wr.heap.size
  mono : ∀ j, j < q → cut j ≤ cut (j + 1)
theorem mid_step {w wr WP w3 W4 : World} {m b1 b2 q g cl : Nat} {l : List C} {os us : List Value} {cut : Nat → Nat} {v0 v1 v2 v3 v4 v5 : Value} (hM : Mid w wr m l os (.slice (some ⟨g, 0, none⟩) l.length cl) b1 b2 q us cut) (hq : q < l.length)
    (bP : Below wr.heap.size wr WP) (b3 : Below WP.heap.size WP w3) (hfr : Fr w3 m WP.heap.size w3.heap.size (.agg #[v0, v1, v2, v3, v4, v5]) l[q]) (hg : g < b2) (hone : ∀ x ∈ [v0, v1, v2, v3, v4, v5], x.oneCell' = true)
    (hW : ((((((w3.setCell ⟨g, q * 6, none⟩ v0).setCell ⟨g, q * 6 + 1, none⟩ v1).setCell ⟨g, q * 6 + 2, none⟩ v2).setCell ⟨g, q * 6 + 3, none⟩ v3).setCell ⟨g, q * 6 + 4, none⟩ v4).setCell ⟨g, q * 6 + 5, none⟩ v5) = W4) :
    Mid w W4 m l os (.slice (some ⟨g, 0, none⟩) l.length cl) b1 b2 (q + 1) (us.set q (.agg #[v0, v1, v2, v3, v4, v5])) (fun j => if j ≤ q then cut j else w3.heap.size) ∧ (∀ b, b ≠ g → b < wr.heap.size → W4.heap[b]? = wr.heap[b]?) ∧ wr.heap.size ≤ W4.heap.size ∧
      ∀ x k, k ≤ g → k ≤ wr.heap.size → Below k x wr → Below k x W4 := by
  have hlen := hM.len
  have b4 : Below wr.heap.size wr w3 := nx bP b3
  have hV3 : OwnV w3 b1 (.slice (some ⟨g, 0, none⟩) l.length cl) us := ⟨own_below hM.own.1 b4, hM.own.2⟩
  obtain ⟨hV4, hot, hsz, hbel⟩ := ownV_set hV3 (by omega) hone hW
  have hsP := bP.size
  have hs3 := b3.size
  have hcc : ∀ j, j ≤ q → b2 ≤ cut j := by
    intro j hj
    have := cut_le (n := q) hM.mono 0 j (by omega) hj
    rw [hM.cut0] at this
    exact this
  have hkeep : ∀ lo hi, b2 ≤ lo → Keep (Rg lo hi) w3 W4 := fun lo hi hlo b hb _ => hot b (by have := hb.1; omega)
  refine ⟨⟨hV4, by rw [List.length_set]; exact hlen, fun j h h' hj => ?_, fun j hj => ?_, ?_, ?_, fun j hj => ?_⟩, fun b hb hlt => by rw [hot b hb, b4.block b hlt], by omega, fun x k hk hkw hb => hbel x k hk (hb.trans (b4.mono hkw))⟩
  · have hcq := hM.cutq
    by_cases e : j = q
    · subst e
      rw [List.getElem_set_self]
      simp only [Nat.le_refl, if_true]
      rw [if_neg (by omega)]
      exact (Fr.weak hfr (by omega) (Nat.le_refl _)).keep (hkeep _ _ (hcc j (Nat.le_refl _)))
    · rw [List.getElem_set_ne (by omega)]
      try dsimp only
      rw [if_pos (by omega), if_pos (by omega)]
      exact ((hM.fr j (by simpa using h) h' (by omega)).below b4).keep (hkeep _ _ (hcc j (by omega)))
  · rw [List.getElem?_set_ne (by omega)]
    exact hM.rest j (by omega)
  · simp [hM.cut0]
  · try dsimp only
    rw [if_neg (by omega)]
    omega
  · have hcq := hM.cutq
    by_cases e : j = q
    · subst e
      simp only [Nat.le_refl, if_true]
      rw [if_neg (by omega)]
      omega
    · try dsimp only
      rw [if_pos (by omega), if_pos (by omega)]
      exact hM.mono j (by omega)
/-- What a list of copies is. -/
def ListIs (m : Nat) : Prop := ∀ (S : Nat → Prop) (lv : Value) (l : List C) (w : World), (∀ b, S b → b < w.heap.size) → InL false S w m lv l →
    Calls Tryz.prog 80 #[lv, .func (.func 47) #[] #[]] w fun e w' => ∃ al cl os us cut b2, e = .returned (.slice al l.length cl) ∧ Mid w w' m l os (.slice al l.length cl) w.heap.size b2 l.length us cut ∧ w.heap.size ≤ b2 ∧ (∀ g, (Value.slice al l.length cl).ownBlock = some g → g < b2) ∧ Below w.heap.size w w'
set_option maxRecDepth 20000 in
set_option maxHeartbeats 1600000 in
theorem list_of (m : Nat) (ih : CopiedIs m) : ListIs m := by
  intro S lv l w hS h
  have c70 := cloneV_c m lv l w h
  obtain ⟨la, lc, e2, -, -, hl1, -⟩ := h.out
  clear h e2 la lc
  go_enter Tryz.func80, Tryz.ntmps80
  go_wp2_with fail
  refine c70.mono ?_
  rintro e w2 ⟨lu, rfl, os, hV0, hos, hins, b2⟩
  clear c70
  have hs2 := b2.size
  have hltV := World.ownsRow.lt hV0.1
  have hlu : ∃ a1 c1, lu = .slice a1 l.length c1 := by
    rcases hV0.1.2 with ⟨h, h0⟩ | ⟨_, _, _, h, _⟩
    · exact ⟨none, 0, by rw [h]; congr 1; omega⟩
    · exact ⟨_, _, by rw [h, hos]⟩
  obtain ⟨al, cl, rfl⟩ := hlu
  have HM0 : Hid (Mid w w2 m l os (.slice al l.length cl) w.heap.size w2.heap.size 0 os (fun _ => w2.heap.size)) := ⟨hV0, hos, fun j _ _ h => by omega, fun j _ => rfl, rfl, by omega, fun j h => by omega⟩
  have HI : Hid (∀ wr, Below w.heap.size w wr → ∀ j (h : j < os.length) (h' : j < l.length), In false All wr m os[j] l[j]) := fun wr hbr j h h' =>
    ((hins j h h').keep (w' := wr) fun b hb _ => hbr.block b (hS b hb)).plain
  clear hV0 hins hS
  have HB2 : Hid (Below w.heap.size w w2) := b2
  clear b2
  go_wp2_with fail
  go_loopw [12] (fun i' wr => ∃ (q : Nat) (us : List Value) (cut : Nat → Nat), q ≤ l.length ∧ i' = .int .i64 q ∧ Mid w wr m l os (.slice al l.length cl) w.heap.size w2.heap.size q us cut ∧ Below w.heap.size w wr ∧ w2.heap.size ≤ wr.heap.size) (fun i' _ => l.length - (intOf i').toNat)
  case atStart => exact ⟨0, os, fun _ => w2.heap.size, by omega, rfl, HM0.out, HB2.out, by omega⟩
  case round =>
    clear HM0 HB2
    obtain ⟨q, us, cut, hq, rfl, hM, hb, hsw⟩ := hrel
    by_cases hlt : q < l.length
    · have hus := hM.len
      obtain ⟨g, ⟨rfl⟩⟩ : ∃ g, al = some ⟨g, 0, none⟩ := by
        rcases hM.own.1.2 with ⟨h, h0⟩ | ⟨g, _, _, h, _⟩
        · omega
        · exact ⟨g, (Value.slice.inj h).1⟩
      have hgl := ownV_lt hM.own
      have hx : us[q]'(by omega) = os[q]'(by rw [hos]; omega) := by
        have := hM.rest q (Nat.le_refl _)
        rw [List.getElem?_eq_getElem (by omega), List.getElem?_eq_getElem (by rw [hos]; omega)] at this
        exact Option.some.inj this
      have hin := HI.out wr hb q (by rw [hos]; omega) hlt
      have hsx := ownV_six hM.own q (by omega)
      rw [hx] at hsx
      generalize os[q]'(by rw [hos]; omega) = x at hin hsx
      rw [Nat.zero_add] at hsx
      obtain ⟨x0, x1, x2, x3, x4, x5, rfl, e0, e1, e2, e3, e4, e5⟩ := hsx
      obtain ⟨p1, q1, r1, p2, q2, r2, rfl, rfl, rfl, rfl, rfl, rfl⟩ := hin.kinds
      generalize l[q].k = kk, l[q].b = bb, l[q].i = ii, l[q].s = ss at *
      obtain ⟨WP, hWP⟩ : ∃ WP, wr.alloc (.cells #[.int .i64 kk, .bool bb, .int .i64 ii, .string ss, .slice p1 q1 r1, .slice p2 q2 r2] 26) = WP := ⟨_, rfl⟩
      have bP : Below wr.heap.size wr WP := by rw [← hWP]; exact (Below.refl _ wr).alloc (Nat.le_refl _) _
      have hsP : WP.heap.size = wr.heap.size + 1 := by rw [← hWP]; simp
      obtain ⟨t0, t1, t2, t3, t4, t5⟩ := six_box (show WP.heap[wr.heap.size]? = some (.cells #[.int .i64 kk, .bool bb, .int .i64 ii, .string ss, .slice p1 q1 r1, .slice p2 q2 r2] 26 (0, 0)) by rw [← hWP, heap_alloc_new])
      have c60 := ih _ l[q] WP (hin.below bP)
      have HM : Hid (Mid w wr m l os (.slice (some ⟨g, 0, none⟩) l.length cl) w.heap.size w2.heap.size q us cut) := hM
      clear hM ih hx hin
      have c61 : Calls Tryz.prog 47 #[.agg #[.int .i64 kk, .bool bb, .int .i64 ii, .string ss, .slice p1 q1 r1, .slice p2 q2 r2]] WP fun e w3 => ∃ K B I S A1 N1 C1 A2 N2 C2, e = .returned (.agg #[.int .i64 K, .bool B, .int .i64 I, .string S, .slice A1 N1 C1, .slice A2 N2 C2]) ∧
          (w3.cell? ⟨g, q * 6, none⟩ = some (.int .i64 kk) ∧ w3.cell? ⟨g, q * 6 + 1, none⟩ = some (.bool bb) ∧ w3.cell? ⟨g, q * 6 + 2, none⟩ = some (.int .i64 ii) ∧ w3.cell? ⟨g, q * 6 + 3, none⟩ = some (.string ss) ∧ w3.cell? ⟨g, q * 6 + 4, none⟩ = some (.slice p1 q1 r1) ∧ w3.cell? ⟨g, q * 6 + 5, none⟩ = some (.slice p2 q2 r2)) ∧ (w3.frozen? ⟨g, q * 6, none⟩ = false ∧ w3.frozen? ⟨g, q * 6 + 1, none⟩ = false ∧ w3.frozen? ⟨g, q * 6 + 2, none⟩ = false ∧ w3.frozen? ⟨g, q * 6 + 3, none⟩ = false ∧ w3.frozen? ⟨g, q * 6 + 4, none⟩ = false ∧ w3.frozen? ⟨g, q * 6 + 5, none⟩ = false) ∧
          Hid (Fr w3 m WP.heap.size w3.heap.size (.agg #[.int .i64 K, .bool B, .int .i64 I, .string S, .slice A1 N1 C1, .slice A2 N2 C2]) l[q] ∧ Below WP.heap.size WP w3) := by
        refine c60.mono ?_
        rintro e w3 ⟨u, rfl, hfr, b3⟩
        obtain ⟨y0, y1, y2, y3, y4, y5, rfl, hone⟩ := hfr.in.six
        obtain ⟨a1, n1, c1, a2, n2, c2, rfl, rfl, rfl, rfl, rfl, rfl⟩ := hfr.in.kinds
        have hV3 := own_below (own_below HM.out.own.1 bP) b3
        exact ⟨_, _, _, _, _, _, _, _, _, _, rfl, ⟨below_cell (below_cell e0 bP) b3, below_cell (below_cell e1 bP) b3, below_cell (below_cell e2 bP) b3, below_cell (below_cell e3 bP) b3, below_cell (below_cell e4 bP) b3, below_cell (below_cell e5 bP) b3⟩,
          ⟨frozen_own hV3 _, frozen_own hV3 _, frozen_own hV3 _, frozen_own hV3 _, frozen_own hV3 _, frozen_own hV3 _⟩, hfr, b3⟩
      clear c60
      go_wp2_with fail
      try rw [hWP]
      clear hWP
      refine c61.mono ?_
      rintro e w3 ⟨K, B, I, S, A1, N1, C1, A2, N2, C2, rfl, ⟨s10, s11, s12, s13, s14, s15⟩, ⟨z0, z1, z2, z3, z4, z5⟩, HF⟩
      obtain ⟨W4, hW4⟩ : ∃ W4, ((((((w3.setCell ⟨g, q * 6, none⟩ (.int .i64 K)).setCell ⟨g, q * 6 + 1, none⟩ (.bool B)).setCell ⟨g, q * 6 + 2, none⟩ (.int .i64 I)).setCell ⟨g, q * 6 + 3, none⟩ (.string S)).setCell ⟨g, q * 6 + 4, none⟩ (.slice A1 N1 C1)).setCell ⟨g, q * 6 + 5, none⟩ (.slice A2 N2 C2)) = W4 := ⟨_, rfl⟩
      obtain ⟨hM4, hot4, hsz4, hbel4⟩ := mid_step HM.out hlt bP HF.out.2 HF.out.1 (hltV g rfl).2 (by intro x hx; simp at hx; rcases hx with rfl | rfl | rfl | rfl | rfl | rfl <;> rfl) hW4
      have HM5 : Hid (Mid w W4 m l os (.slice (some ⟨g, 0, none⟩) l.length cl) w.heap.size w2.heap.size (q + 1) (us.set q (.agg #[.int .i64 K, .bool B, .int .i64 I, .string S, .slice A1 N1 C1, .slice A2 N2 C2])) (fun j => if j ≤ q then cut j else w3.heap.size)) := hM4
      clear hM4 HF c61 e0 e1 e2 e3 e4 e5 t0 t1 t2 t3 t4 t5
      go_wp2_with fail
      try rw [hW4]
      go_roundw
      case rel =>
        have hgW := (hltV g rfl).1
        exact ⟨q + 1, _, _, by omega, by go_num, HM5.out, hbel4 w _ (by omega) (by omega) hb, by omega⟩
      case measure => simp only [intOf]; omega
    · have hlt' : decide ((q : Int) < (l.length : Int)) = false := by simp; omega
      obtain rfl : q = l.length := by omega
      have HM : Hid (Mid w wr m l os (.slice al l.length cl) w.heap.size w2.heap.size l.length us cut) := hM
      clear hM
      go_wp2_with fail
      go_ret
      exact ⟨_, _, _, _, _, _, rfl, HM.out, hs2, fun g hg => (hltV g hg).2, hb⟩
set_option maxRecDepth 20000 in
set_option maxHeartbeats 1600000 in
theorem copied_of (m : Nat) (ih : CopiedIs m) : CopiedIs (m + 1) := by
  have hli := list_of m ih
  intro v c w h
  have h' := In.low h
  obtain ⟨k, b, i, s, n, l⟩ := c
  rw [in_iff] at h'
  obtain ⟨nv, lv, rfl, hk, hi, hs, hn, hl⟩ := h'
  clear h ih
  obtain ⟨na, nc, e1, -, -, hn1, hn2, -⟩ := hn.out
  obtain ⟨la, lc, e2, -, -, hl1, -⟩ := hl.out
  clear e1 e2
  obtain ⟨W0, hW0⟩ : ∃ W0, (w.alloc (.cells #[.int .i64 k, .bool b, .int .i64 i, .string s, nv, lv] 26)).alloc (.cells #[.int .i64 0, .bool false, .int .i64 0, .string ⟨#[]⟩, .slice none 0 0, .slice none 0 0] 26) = W0 := ⟨_, rfl⟩
  have hb0 : Below w.heap.size w W0 := by rw [← hW0]; exact ((Below.refl _ w).alloc (Nat.le_refl _) _).alloc (by simp) _
  have hsz0 : W0.heap.size = w.heap.size + 2 := by rw [← hW0]; simp
  have hx0 : W0.heap[w.heap.size]? = some (.cells #[.int .i64 k, .bool b, .int .i64 i, .string s, nv, lv] 26 (0, 0)) := by
    rw [← hW0, Below.heap_alloc _ _ _ (by simp), heap_alloc_new]
  have hx1 : W0.heap[w.heap.size + 1]? = some (.cells #[.int .i64 0, .bool false, .int .i64 0, .string ⟨#[]⟩, .slice none 0 0, .slice none 0 0] 26 (0, 0)) := by
    have := heap_alloc_new (w.alloc (.cells #[.int .i64 k, .bool b, .int .i64 i, .string s, nv, lv] 26)) (.cells #[.int .i64 0, .bool false, .int .i64 0, .string ⟨#[]⟩, .slice none 0 0, .slice none 0 0] 26)
    rwa [hW0, World.size_alloc] at this
  have c69 := cloneT_c nv n W0 (hn.below hb0).plain
  obtain ⟨-, -, -, -, e4, -⟩ := six_box hx0
  go_enter Tryz.func47, Tryz.ntmps47
  go_wp2_with fail
  refine c69.mono ?_
  rintro e w1 ⟨nu, rfl, ht1, b1⟩
  have hy0 := (b1.block w.heap.size (by omega)).trans hx0
  have hy1 := (b1.block (w.heap.size + 1) (by omega)).trans hx1
  clear c69 hx0 hx1 hW0 e4
  obtain ⟨d0, d1, d2, d3, d4, d5⟩ := six_box hy0
  have f4 := frozen_box hy0 4
  have hs1 := b1.size
  obtain ⟨W1, hW1⟩ : ∃ W1, w1.setCell ⟨w.heap.size, 4, none⟩ nu = W1 := ⟨_, rfl⟩
  have hz0 : W1.heap[w.heap.size]? = some (.cells #[.int .i64 k, .bool b, .int .i64 i, .string s, nu, lv] 26 (0, 0)) := by rw [← hW1, block_set hy0]; rfl
  have hz1 : W1.heap[w.heap.size + 1]? = some (.cells #[.int .i64 0, .bool false, .int .i64 0, .string ⟨#[]⟩, .slice none 0 0, .slice none 0 0] 26 (0, 0)) := by rw [← hW1, Below.heap_setCell _ _ _ _ (by simp)]; exact hy1
  have hsz1 : W1.heap.size = w1.heap.size := by rw [← hW1]; simp [World.setCell]
  have hb1 : Below w.heap.size w W1 := by rw [← hW1]; exact (hb0.trans (b1.mono (by omega))).setCell (p := ⟨w.heap.size, 4, none⟩) (Nat.le_refl _) _
  have hlt1 := World.ownsRow.lt ht1
  have ht2 : OwnT W1 W0.heap.size nu n := own_keep ht1 fun g hg => by rw [← hW1]; exact Below.heap_setCell _ _ _ _ (by have := hlt1 g hg; simp; omega)
  have c70 := hli (fun b => b < w.heap.size) lv l W1 (fun b hb => by show b < _; have := hb1.size; omega) (hl.keep (w' := W1) fun b hb _ => hb1.block b hb)
  have hnu : ∃ a1 n1 c1, nu = .slice a1 n1 c1 := by
    rcases ht1.2 with ⟨h, _⟩ | ⟨_, _, _, h, _⟩
    · exact ⟨_, _, _, h⟩
    · exact ⟨_, _, _, h⟩
  obtain ⟨an, nn, cn, rfl⟩ := hnu
  clear ht1 hy0 hy1
  obtain ⟨-, -, -, -, -, k5⟩ := six_box hz0
  go_wp2_with fail
  refine c70.mono ?_
  rintro e w2 ⟨al, cl, os, us, cut, x2, rfl, hM, hx2, hgx, b2⟩
  have hy0 := (b2.block w.heap.size (by omega)).trans hz0
  have hy1 := (b2.block (w.heap.size + 1) (by omega)).trans hz1
  clear c70 hz0 hz1 hW1 d0 d1 d2 d3 d4 d5 f4 k5
  have f5 := frozen_box hy0 5
  have hs2 := b2.size
  obtain ⟨d0, d1, d2, d3, d4, d5⟩ := six_box hy0
  obtain ⟨W2, hW2⟩ : ∃ W2, w2.setCell ⟨w.heap.size, 5, none⟩ (.slice al l.length cl) = W2 := ⟨_, rfl⟩
  have hz0 : W2.heap[w.heap.size]? = some (.cells #[.int .i64 k, .bool b, .int .i64 i, .string s, .slice an nn cn, .slice al l.length cl] 26 (0, 0)) := by rw [← hW2, block_set hy0]; rfl
  have hz1 : W2.heap[w.heap.size + 1]? = some (.cells #[.int .i64 0, .bool false, .int .i64 0, .string ⟨#[]⟩, .slice none 0 0, .slice none 0 0] 26 (0, 0)) := by rw [← hW2, Below.heap_setCell _ _ _ _ (by simp)]; exact hy1
  have hsz2 : W2.heap.size = w2.heap.size := by rw [← hW2]; simp [World.setCell]
  have hb2 : Below w.heap.size w W2 := by rw [← hW2]; exact (hb1.trans (b2.mono (by omega))).setCell (p := ⟨w.heap.size, 5, none⟩) (Nat.le_refl _) _
  have hlt2 := World.ownsRow.lt ht2
  have hltV := World.ownsRow.lt hM.own.1
  have hot2 : ∀ x, x ≠ w.heap.size → W2.heap[x]? = w2.heap[x]? := fun x hx => by rw [← hW2]; exact Below.heap_setCell _ _ _ _ hx
  have ht3 : OwnT W2 W0.heap.size (.slice an nn cn) n := own_keep ht2 fun g hg => by
    have := hlt2 g hg
    rw [hot2 g (by omega)]
    exact b2.block g (by omega)
  obtain ⟨e0, e1, e2, e3, e4, e5⟩ := six_box hz1
  obtain ⟨j0, j1, j2, j3, j4, j5⟩ := six_box hz0
  have g0 := frozen_box hz1 0
  have g1 := frozen_box hz1 1
  have g2 := frozen_box hz1 2
  have g3 := frozen_box hz1 3
  have g4 := frozen_box hz1 4
  have g5 := frozen_box hz1 5
  have HM : Hid _ := hM
  have HZ1 : Hid _ := hz1
  clear hM hy0 hy1 hz0 hz1 hli
  go_wp2_with fail
  try rw [hW2]
  clear d0 d1 d2 d3 d4 d5 f5
  obtain ⟨W3, hW3⟩ : ∃ W3, ((((((W2.setCell ⟨w.heap.size + 1, 0, none⟩ (.int .i64 k)).setCell ⟨w.heap.size + 1, 1, none⟩ (.bool b)).setCell ⟨w.heap.size + 1, 2, none⟩ (.int .i64 i)).setCell ⟨w.heap.size + 1, 3, none⟩ (.string s)).setCell
    ⟨w.heap.size + 1, 4, none⟩ (.slice an nn cn)).setCell ⟨w.heap.size + 1, 5, none⟩ (.slice al l.length cl)) = W3 := ⟨_, rfl⟩
  go_wp2_with fail
  try rw [hW3]
  obtain ⟨q1, q2, q3, q4⟩ := set6 _ _ _ _ _ _ HZ1.out hW3
  refine bodyPost_ret (results_cell_row rfl _ W3 (w.heap.size + 1) 26 _ (0, 0) _ rfl q1 Tryz.underlying26 rfl (by kernel_rfl)) rfl ?_
  have hM := HM.out
  have hot3 : ∀ x, x ≠ w.heap.size → x ≠ w.heap.size + 1 → W3.heap[x]? = w2.heap[x]? := fun x h1 h2 => (q2 x h2).trans (hot2 x h1)
  refine ⟨_, rfl, ?_, q4 _ _ (by omega) hb2⟩
  rw [Fr]
  refine ⟨_, _, w1.heap.size, x2, us, cut, by omega, by have := hM.cutq; have := cut_le (n := l.length) hM.mono 0 l.length (by omega) (by omega); rw [hM.cut0] at this; omega, rfl, hk, hi, hs, hn1, hn2, hl1, ?_, fun g hg => ?_, ?_, fun g hg => hgx g hg, hM.len, hM.cut0, by have := hM.cutq; omega, hM.mono, fun j h h' => ?_⟩
  · have := own_keep ht3 (w' := W3) fun x hx => q2 x (by have := hlt2 x hx; omega)
    refine ⟨this.1, ?_⟩
    rcases this.2 with h0 | ⟨x, y, z, e, hx, r⟩
    · exact .inl h0
    · exact .inr ⟨x, y, z, e, by omega, r⟩
  · have := hlt1 g hg
    omega
  · refine ⟨?_, hM.own.2⟩
    have := own_keep hM.own.1 (w' := W3) fun x hx => hot3 x (by have := (hltV x hx).1; omega) (by have := (hltV x hx).1; omega)
    rw [hsz1] at this
    exact this
  · refine (hM.fr j h h' h').keep fun x hx _ => hot3 x ?_ ?_
    all_goals
      have h1 := cut_le (n := l.length) hM.mono 0 j (by omega) (by omega)
      rw [hM.cut0] at h1
      have := hx.1
      omega
theorem copieds : ∀ m, CopiedIs m := by
  intro m
  induction m with
  | zero => intro v c w h; rw [In] at h; exact h.elim
  | succ m ih => exact copied_of m ih
theorem copied_c {m : Nat} {v : Value} {c : C} {w : World} (h : In false All w m v c) :
    Calls Tryz.prog 47 #[v] w fun e w' => ∃ u, e = .returned u ∧ Fr w' m w.heap.size w'.heap.size u c ∧ Below w.heap.size w w' := copieds m v c w h
end Go.Proofs.YtpaigpijaifeoaaGreatDoor.Copied

namespace Go.Proofs.YtpaigpijaifeoaaGreatDoor.MCg
open Go.RowKit Go.Proofs.YtpaigpijaifeoaaGreatDoor.Base Go.Proofs.YtpaigpijaifeoaaGreatDoor.VSm Go.Proofs.YtpaigpijaifeoaaGreatDoor.VRs Go.Proofs.YtpaigpijaifeoaaGreatDoor.MBx Go.Proofs.YtpaigpijaifeoaaGreatDoor.MSe Go.Proofs.YtpaigpijaifeoaaGreatDoor.MDo Go.Proofs.YtpaigpijaifeoaaGreatDoor.MCd Go.Proofs.YtpaigpijaifeoaaGreatDoor.MRg
set_option linter.unusedVariables false

theorem as_yes (v : Value) (w : World) : (Instr.typeAssert (.iface 31 v) 20 31 true).run Tryz.prog w = .ok (.tuple #[v, .bool true]) w := by
  simp [Instr.typeAssert, run_underlying Tryz.underlying31]
set_option maxRecDepth 20000 in
set_option maxHeartbeats 1600000 in
theorem catch_fault (V M : Nat) (hVM : V ≠ M) (c0 : Int) (older : List PanicEntry) (w : World) (y0 y1 y2 y3 y4 y5 z0 : Value) (hV : w.heap[V]? = some (.cells #[y0, y1, y2, y3, y4, y5] 26 (0, 0))) (hM : w.heap[M]? = some (.cells #[z0] 31 (0, 0))) :
    CallsD Tryz.prog 97 #[.pointer (some ⟨V, 0, none⟩), .pointer (some ⟨M, 0, none⟩)] (.panicking ({ v := .iface 31 (.int .i64 c0), recovered := false } :: older)) w fun e u' w' => e = .returned (.tuple #[]) ∧
      u' = .panicking ({ v := .iface 31 (.int .i64 c0), recovered := true } :: older) ∧ w'.heap[V]? = some (.cells #[.int .i64 0, .bool false, .int .i64 0, .string ⟨#[]⟩, .slice none 0 0, .slice none 0 0] 26 (0, 0)) ∧
        w'.heap[M]? = some (.cells #[.int .i64 c0] 31 (0, 0)) ∧ ∀ n, n ≤ V → n ≤ M → Below n w w' := by
  obtain ⟨d0, d1, d2, d3, d4, d5⟩ := six_box hV
  have f0 := frozen_box hV 0
  have f1 := frozen_box hV 1
  have f2 := frozen_box hV 2
  have f3 := frozen_box hV 3
  have f4 := frozen_box hV 4
  have f5 := frozen_box hV 5
  have e0 : w.cell? ⟨M, 0, none⟩ = some z0 := by simp [World.cell?, hM]
  have g0 := frozen_box hM 0
  have n1 : V ≠ M := hVM
  have n2 : M ≠ V := hVM.symm
  refine callsD_of_wpS Tryz.func97 rfl fun c₀ cs hu => ?_
  apply wpS_seq
  apply wpS_region
  simp [wpOpsS, go_sem, recoverD, hu, Tryz.ntmps97, Exit.thenS, as_yes]
  refine wpS_of_wp ?_
  refine wp_tmps (L := #[.pointer (some ⟨V, 0, none⟩), .pointer (some ⟨M, 0, none⟩), .int .i64 c0, .bool true, .tuple #[.int .i64 c0, .bool true], .iface 31 (.int .i64 c0), .tuple #[.int .i64 c0, .bool true], .int .i64 c0, .bool true, undef, undef, undef]) ?e1 ?e2
  case e1 => simp [Array.replicate_succ]
  case e2 =>
    obtain ⟨W6, hW6⟩ : ∃ W6, ((((((w.setCell ⟨V, 0, none⟩ (.int .i64 0)).setCell ⟨V, 1, none⟩ (.bool false)).setCell ⟨V, 2, none⟩ (.int .i64 0)).setCell ⟨V, 3, none⟩ (.string ⟨#[]⟩)).setCell ⟨V, 4, none⟩ (.slice none 0 0)).setCell ⟨V, 5, none⟩ (.slice none 0 0)) = W6 := ⟨_, rfl⟩
    obtain ⟨q1, q2, q3, q4⟩ := set6 _ _ _ _ _ _ hV hW6
    have hM6 : W6.heap[M]? = some (.cells #[z0] 31 (0, 0)) := (q2 M n2).trans hM
    have m0 : W6.cell? ⟨M, 0, none⟩ = some z0 := by simp [World.cell?, hM6]
    have m1 := frozen_box hM6 0
    have HQ : Hid (_ ∧ _ ∧ _) := And.intro q1 (And.intro hM6 q4)
    clear hV hM q1 q2 q3 q4 hM6
    go_wp2_with fail
    refine ⟨rfl, _, rfl, .tuple #[], results_none rfl _ _ _, rfl, rfl, ?_, ?_, fun n h1 h2 => (HQ.out.2.2 _ n h1 (Below.refl _ _)).setCell (p := ⟨M, 0, none⟩) h2 _⟩
    · rw [Below.heap_setCell _ _ _ _ n1]
      exact HQ.out.1
    · simp [World.setCell, Array.getElem?_modify, HQ.out.2.1]
set_option maxRecDepth 20000 in
set_option maxHeartbeats 1600000 in
theorem code1_err {M B n0 : Nat} {w : World} {cv : Value} (hcv : ∃ a n c, cv = .slice a n c) (hM : M < w.heap.size) (hB : w.heap[B]? = some (.cells #[cv] 51 (0, 0))) (cR : ∀ W, Below w.heap.size w W → Calls Tryz.prog 78 #[ptr M, cv] W fun e w' => e = .panicked (pkE n0) ∧ Km M nilS W w') :
    Calls Tryz.prog 77 #[ptr M, ptr B] w fun e w' => e = .panicked (pkE n0) ∧ Km M nilS w w' := by
  obtain ⟨a, n, c, rfl⟩ := hcv
  obtain ⟨W0, hW0⟩ : ∃ W0, w.alloc (.cells #[.int .i64 0, .bool false, .int .i64 0, .string ⟨#[]⟩, .slice none 0 0, .slice none 0 0] 26) = W0 := ⟨_, rfl⟩
  have b0 : Below w.heap.size w W0 := by rw [← hW0]; exact (Below.refl _ w).alloc (Nat.le_refl _) _
  have hBl : B < w.heap.size := (Array.getElem?_eq_some_iff.1 hB).1
  have kB : W0.cell? ⟨B, 0, none⟩ = some (.slice a n c) := by
    have := (b0.block B hBl).trans hB
    simp [World.cell?, this]
  have c1 := cR W0 b0
  have HB0 : Hid _ := b0
  clear cR b0 hB
  go_enter Tryz.func77, Tryz.ntmps77
  go_wp2_with fail
  try rw [hW0]
  refine c1.mono ?_
  rintro e W1 ⟨rfl, b1⟩
  exact ⟨rfl, rfl, (Km.of_below (pv := nilS) HB0.out (Nat.le_of_lt hM)).trans b1 (.inl rfl)⟩
set_option maxRecDepth 20000 in
set_option maxHeartbeats 3200000 in
theorem caught_err {M B n0 : Nat} {w : World} (hM : M < w.heap.size) (cV : ∀ W, Below w.heap.size w W → Calls Tryz.prog 77 #[ptr M, ptr B] W fun e w' => e = .panicked (pkE n0) ∧ Km M nilS W w') :
    Calls Tryz.prog 76 #[clo M B] w fun e w' => e = .returned (.tuple #[v0 0 false 0 ⟨#[]⟩, .int .i64 (n0 : Nat)]) ∧ Below M w w' := by
  have hmf : ∀ (fn : Fn) (first cap : Array Value) (w : World), (Instr.makeFunc fn first cap).run Tryz.prog w = .ok (.func fn first cap) w := fun _ _ _ _ => rfl
  obtain ⟨W, hW⟩ : ∃ W, (w.alloc (.cells #[.int .i64 0, .bool false, .int .i64 0, .string ⟨#[]⟩, .slice none 0 0, .slice none 0 0] 26)).alloc (.cells #[.int .i64 0] 31) = W := ⟨_, rfl⟩
  have bW : Below w.heap.size w W := by rw [← hW]; exact ((Below.refl _ w).alloc (Nat.le_refl _) _).alloc (by simp) _
  have sW : W.heap.size = w.heap.size + 2 := by rw [← hW]; simp
  have zV : W.heap[w.heap.size]? = some (.cells #[.int .i64 0, .bool false, .int .i64 0, .string ⟨#[]⟩, .slice none 0 0, .slice none 0 0] 26 (0, 0)) := by rw [← hW, Below.heap_alloc _ _ _ (by simp), heap_alloc_new]
  have zM : W.heap[w.heap.size + 1]? = some (.cells #[.int .i64 0] 31 (0, 0)) := by
    rw [← hW]
    have := heap_alloc_new (w.alloc (.cells #[.int .i64 0, .bool false, .int .i64 0, .string ⟨#[]⟩, .slice none 0 0, .slice none 0 0] 26)) (.cells #[.int .i64 0] 31)
    rwa [World.size_alloc] at this
  have c1 := cV W bW
  have HB : Hid (Below w.heap.size w W) := bW
  have HV : Hid _ := zV
  have HM : Hid _ := zM
  clear bW zV zM cV
  go_enter_defers Tryz.func76, Tryz.ntmps76
  go_wp2_with fail
  try rw [hW]
  refine c1.mono ?_
  rintro e W1 ⟨rfl, k1⟩
  have v1 := (k1.other w.heap.size (by omega) (by omega) (fun e => by cases e)).trans HV.out
  have m1 := (k1.other (w.heap.size + 1) (by omega) (by omega) (fun e => by cases e)).trans HM.out
  have HK1 : Hid (Below M w W1) := (HB.out.mono (Nat.le_of_lt hM)).trans k1.below
  clear c1 k1 HB HV HM hW
  refine leaves_cons (f := 97) (args := #[.pointer (some ⟨w.heap.size, 0, none⟩), .pointer (some ⟨w.heap.size + 1, 0, none⟩)]) (by simp) (by simp [go_sem]) ?_
  refine (catch_fault w.heap.size (w.heap.size + 1) (by omega) (n0 : Nat) [] W1 _ _ _ _ _ _ _ v1 m1).mono ?_
  rintro e u' w5 ⟨rfl, rfl, r1, r2, r3⟩
  obtain ⟨c0, c1, c2, c3, c4, c5⟩ := six_box r1
  have q0 : w5.cell? ⟨w.heap.size + 1, 0, none⟩ = some (.int .i64 (n0 : Nat)) := by simp [World.cell?, r2]
  have HD : Hid (Below M w w5) := HK1.out.trans (r3 _ (by omega) (by omega))
  simp [Leaves, settle, results, Tryz.results76, go_sem, c0, c1, c2, c3, c4, c5, q0]
  exact HD.out
set_option maxRecDepth 20000 in
set_option maxHeartbeats 3200000 in
theorem code_err {m n0 : Nat} {w : World} {a1 a2 a3 : Option Addr} {n1 n2 n3 c1 c2 c3 : Nat} (cR : ∀ W, Below w.heap.size w W → Mc w.heap.size m W (w.heap.size + 2) (.slice a2 n2 c2) (.slice a3 n3 c3) nilS [] → Calls Tryz.prog 78 #[ptr (w.heap.size + 2), .slice a1 n1 c1] W fun e w' => e = .panicked (pkE n0) ∧ Km (w.heap.size + 2) nilS W w') :
    Calls Tryz.prog 46 #[.slice a1 n1 c1, .slice a2 n2 c2, .slice a3 n3 c3] w fun e w' => e = .returned (.tuple #[v0 0 false 0 ⟨#[]⟩, .int .i64 (n0 : Nat)]) ∧ Below w.heap.size w w' := by
  have hmf : ∀ (fn : Fn) (first cap : Array Value) (w : World), (Instr.makeFunc fn first cap).run Tryz.prog w = .ok (.func fn first cap) w := fun _ _ _ _ => rfl
  obtain ⟨W, hW⟩ : ∃ W, ((w.alloc (.cells #[.slice a1 n1 c1] 51)).alloc (.cells #[.int .i64 0, .bool false, .int .i64 0, .string ⟨#[]⟩, .slice none 0 0, .slice none 0 0] 26)).alloc (.cells #[.slice a2 n2 c2, .slice a3 n3 c3, nilS] 129) = W := ⟨_, rfl⟩
  have bW : Below w.heap.size w W := by rw [← hW]; exact (((Below.refl _ w).alloc (Nat.le_refl _) _).alloc (by simp) _).alloc (by simp <;> omega) _
  have sW : W.heap.size = w.heap.size + 3 := by rw [← hW]; simp
  have z0 : W.heap[w.heap.size]? = some (.cells #[.slice a1 n1 c1] 51 (0, 0)) := by rw [← hW, Below.heap_alloc _ _ _ (by simp <;> omega), Below.heap_alloc _ _ _ (by simp), heap_alloc_new]
  have z1 : W.heap[w.heap.size + 1]? = some (.cells #[.int .i64 0, .bool false, .int .i64 0, .string ⟨#[]⟩, .slice none 0 0, .slice none 0 0] 26 (0, 0)) := by
    rw [← hW, Below.heap_alloc _ _ _ (by simp)]
    have := heap_alloc_new (w.alloc (.cells #[.slice a1 n1 c1] 51)) (.cells #[.int .i64 0, .bool false, .int .i64 0, .string ⟨#[]⟩, .slice none 0 0, .slice none 0 0] 26)
    rwa [World.size_alloc] at this
  have z2 : W.heap[w.heap.size + 2]? = some (.cells #[.slice a2 n2 c2, .slice a3 n3 c3, nilS] 129 (0, 0)) := by
    rw [← hW]
    have := heap_alloc_new ((w.alloc (.cells #[.slice a1 n1 c1] 51)).alloc (.cells #[.int .i64 0, .bool false, .int .i64 0, .string ⟨#[]⟩, .slice none 0 0, .slice none 0 0] 26)) (.cells #[.slice a2 n2 c2, .slice a3 n3 c3, nilS] 129)
    rwa [World.size_alloc, World.size_alloc] at this
  have mW : Mc w.heap.size m W (w.heap.size + 2) (.slice a2 n2 c2) (.slice a3 n3 c3) nilS [] := ⟨z2, by omega, [], ⟨World.ownsRow_nil _ _ _ _, fun u hu => by cases hu⟩, rfl, fun j hj => by cases hj⟩
  have cK := caught_err (M := w.heap.size + 2) (B := w.heap.size) (w := W) (n0 := n0) (by omega) (fun W1 b1 => code1_err ⟨_, _, _, rfl⟩ (by have := b1.size; omega) ((b1.block w.heap.size (by omega)).trans z0) fun W2 b2 => cR W2 ((bW.trans (b1.mono (by omega))).trans (b2.mono (by have := b1.size; omega))) ((mW.below b1).below b2))
  have HB : Hid (Below w.heap.size w W) := bW
  have HZ : Hid _ := z1
  have HW : Hid (_ = W) := hW
  clear cR bW z0 z1 z2 mW hW
  go_enter Tryz.func46, Tryz.ntmps46
  go_wp2_with fail
  rw [HW.out]
  refine cK.mono ?_
  rintro e W1 ⟨rfl, k1⟩
  have y1 := (k1.block (w.heap.size + 1) (by omega)).trans HZ.out
  obtain ⟨W9, hW9⟩ : ∃ W9, (((((W1.setCell ⟨w.heap.size + 1, 0, none⟩ (.int .i64 0)).setCell ⟨w.heap.size + 1, 1, none⟩ (.bool false)).setCell ⟨w.heap.size + 1, 2, none⟩ (.int .i64 0)).setCell ⟨w.heap.size + 1, 3, none⟩ (.string ⟨#[]⟩)).setCell ⟨w.heap.size + 1, 4, none⟩ (.slice none 0 0)).setCell ⟨w.heap.size + 1, 5, none⟩ (.slice none 0 0) = W9 := ⟨_, rfl⟩
  obtain ⟨q1, q2, q3, q4⟩ := set6 _ _ _ _ _ _ y1 hW9
  have HE : Hid (Below w.heap.size w W9) := q4 _ _ (by omega) (HB.out.trans (k1.mono (by omega)))
  have HQ1 : Hid _ := q1
  have HW9 : Hid (_ = W9) := hW9
  obtain ⟨v0', v1', v2', v3', v4', v5'⟩ := six_box y1
  have g0 := frozen_box y1 0
  have g1 := frozen_box y1 1
  have g2 := frozen_box y1 2
  have g3 := frozen_box y1 3
  have g4 := frozen_box y1 4
  have g5 := frozen_box y1 5
  clear k1 y1 q1 q2 q3 q4 cK hW9
  go_wp2_with fail
  rw [HW9.out]
  refine bodyPost_ret (Part.res_row_tmp rfl _ W9 (w.heap.size + 1) 26 _ (0, 0) _ rfl HQ1.out Tryz.underlying26 rfl (by kernel_rfl)) rfl ?_
  exact ⟨rfl, HE.out⟩
end Go.Proofs.YtpaigpijaifeoaaGreatDoor.MCg

namespace Go.Proofs.YtpaigpijaifeoaaGreatDoor.MRv
open Go.RowKit Go.Proofs.YtpaigpijaifeoaaGreatDoor.Base Go.Proofs.YtpaigpijaifeoaaGreatDoor.VSm Go.Proofs.YtpaigpijaifeoaaGreatDoor.VRs Go.Proofs.YtpaigpijaifeoaaGreatDoor.MBx Go.Proofs.YtpaigpijaifeoaaGreatDoor.MSe Go.Proofs.YtpaigpijaifeoaaGreatDoor.MDo Go.Proofs.YtpaigpijaifeoaaGreatDoor.MCd Go.Proofs.YtpaigpijaifeoaaGreatDoor.MPl Go.Proofs.YtpaigpijaifeoaaGreatDoor.MRg Go.Proofs.YtpaigpijaifeoaaGreatDoor.MRu
open Go.Proofs.YtpaigpijaifeoaaGreatDoor.VPure
open Go.Proofs.YtpaigpijaifeoaaGreatDoor.CPu (Ins ck)
open Go.Proofs.YtpaigpijaifeoaaGreatDoor.CBx (Cx)
set_option linter.unusedVariables false

theorem copied_new {m : Nat} {c : C} (W : World) (v : Value) (h : Base.In false All W m v c) : Calls Tryz.prog 47 #[v] W fun e w' => ∃ u, e = .returned u ∧ Base.In false (fun b => W.heap.size ≤ b) w' m u c ∧ Below W.heap.size W w' := by
  refine (Copied.copied_c h).mono ?_
  rintro e w' ⟨u, rfl, hf, b⟩
  exact ⟨u, rfl, hf.in.weak (fun b hb => hb.1) false id _ (Nat.le_refl _), b⟩
/-- What Run tells: an error's number, or a value. -/
def rn (L : List Ins) (T : List ByteArray) (S : List C) : Except Int C :=
  if (T.any fun s => !STx.tg s) = true then .error 2000
  else if ck L T.length S.length ≠ 0 then .error (ck L T.length S.length)
  else if S.any MEi.bd = true then .error 1108
  else match mrun L T S L.length 0 [] with
    | .ok r => .ok r
    | .error n => .error (n : Nat)
def RV (m : Nat) (w : World) (X : Except Int C) (e : Ending) (w' : World) : Prop := Below w.heap.size w w' ∧ match X with
  | .ok r => ∃ u, e = .returned (.tuple #[u, .int .i64 0]) ∧ Base.In false All w' m u r
  | .error n => ∃ an ln cn al ll cl, e = .returned (.tuple #[vl 0 false 0 ⟨#[]⟩ (.slice an ln cn) (.slice al ll cl), .int .i64 n])
set_option maxRecDepth 20000 in
set_option maxHeartbeats 3200000 in
theorem good_c {K m : Nat} {w : World} {cv tv sv : Value} {L : List Ins} {T : List ByteArray} {S : List C} {r : C} {z : Int} (hL : Cx K w cv L) (hT : Tz K w tv T) (hS : Base.InL false All w (m + 1) sv S) (hK : K ≤ w.heap.size) (h1 : (T.any fun s => !STx.tg s) = false) (h2 : ck L T.length S.length = 0) (h3 : S.any MEi.bd = false)
    (cC : ∀ W, Below w.heap.size w W → Calls Tryz.prog 46 #[cv, tv, sv] W fun e w' => ∃ u, e = .returned (.tuple #[u, .int .i64 z]) ∧ Base.In false (fun b => b < W.heap.size) w' (m + 1) u r ∧ Below W.heap.size W w') :
    Calls Tryz.prog 21 #[cv, tv, sv] w fun e w' => ∃ u, e = .returned (.tuple #[u, .int .i64 z]) ∧ Base.In false All w' (m + 1) u r ∧ Below w.heap.size w w' := by
  obtain ⟨W0, hW0⟩ : ∃ W0, w.alloc (.cells #[.int .i64 0, .bool false, .int .i64 0, .string ⟨#[]⟩, .slice none 0 0, .slice none 0 0] 26) = W0 := ⟨_, rfl⟩
  have b0 : Below w.heap.size w W0 := by rw [← hW0]; exact (Below.refl _ w).alloc (Nat.le_refl _) _
  have s0 : W0.heap.size = w.heap.size + 1 := by rw [← hW0]; simp
  have x0 : W0.heap[w.heap.size]? = some (.cells #[.int .i64 0, .bool false, .int .i64 0, .string ⟨#[]⟩, .slice none 0 0, .slice none 0 0] 26 (0, 0)) := by rw [← hW0]; exact heap_alloc_new w _
  have cT := METx.contains_c (hT.below (b0.mono hK)) (by omega)
  rw [h1] at cT
  have HL : Hid (Cx K w cv L) := hL
  have HS : Hid (Base.InL false All w (m + 1) sv S) := hS
  have HCC : Hid _ := cC
  have HB0 : Hid _ := b0
  have HX0 : Hid _ := x0
  obtain ⟨a1, c1, rfl, hl1, hl2, -⟩ := hL
  obtain ⟨a2, c2, rfl, ht1, ht2, -⟩ := hT
  obtain ⟨a3, c3, rfl, hs1, hs2, -⟩ := hS
  have HCK : Hid (ck L T.length S.length = 0) := h2
  have HAN : Hid (S.any MEi.bd = false) := h3
  clear b0 x0 cC h1 h2 h3
  go_enter Tryz.func21, Tryz.ntmps21
  go_wp2_with fail
  try rw [hW0]
  refine cT.mono ?_
  rintro e W1 ⟨rfl, b1⟩
  have hb1 : Below w.heap.size w W1 := HB0.out.trans (b1.mono (by omega))
  have cK := CCk.check_c (HL.out.below (hb1.mono hK)) (by have := hb1.size; omega) (T.length : Int) (S.length : Int)
  rw [HCK.out] at cK
  have HB1 : Hid _ := hb1
  have HX1 : Hid _ := (b1.block w.heap.size (by omega)).trans HX0.out
  have hz1 := b1.size
  clear cT b1 hb1
  go_wp2_with fail
  refine cK.mono ?_
  rintro e W2 ⟨rfl, b2⟩
  have hz2 := b2.size
  have hb2 : Below w.heap.size w W2 := HB1.out.trans (b2.mono (by omega))
  have cS := MEi.contains_c (HS.out.below hb2)
  rw [HAN.out] at cS
  have HB2 : Hid _ := hb2
  have HX2 : Hid _ := (b2.block w.heap.size (by omega)).trans HX1.out
  clear cK b2 hb2
  go_wp2_with fail
  refine cS.mono ?_
  rintro e W3 ⟨rfl, b3⟩
  have hz3 := b3.size
  have hb3 : Below w.heap.size w W3 := HB2.out.trans (b3.mono (by omega))
  have cD := HCC.out W3 hb3
  have HB3 : Hid _ := hb3
  have HX3 : Hid _ := (b3.block w.heap.size (by omega)).trans HX2.out
  clear cS b3 hb3
  go_wp2_with fail
  refine cD.mono ?_
  rintro e W4 ⟨u, rfl, hin, b4⟩
  obtain ⟨an, ln, cn, al, ll, cl, rfl⟩ : ∃ an ln cn al ll cl, u = vl r.k r.b r.i r.s (.slice an ln cn) (.slice al ll cl) := in_shape hin
  have hz4 := b4.size
  obtain ⟨W5, hW5⟩ : ∃ W5, W4.alloc (.cells #[.int .i64 r.k, .bool r.b, .int .i64 r.i, .string r.s, .slice an ln cn, .slice al ll cl] 26) = W5 := ⟨_, rfl⟩
  have b5 : Below W4.heap.size W4 W5 := by rw [← hW5]; exact (Below.refl _ W4).alloc (Nat.le_refl _) _
  have x5 : W5.heap[W4.heap.size]? = some (.cells #[.int .i64 r.k, .bool r.b, .int .i64 r.i, .string r.s, .slice an ln cn, .slice al ll cl] 26 (0, 0)) := by rw [← hW5]; exact heap_alloc_new W4 _
  obtain ⟨z0, z1, z2, z3, z4, z5⟩ := six_box x5
  have hz5 := b5.size
  have cF := copied_new W5 _ (in_all (hin.below b5))
  have HB5 : Hid (Below w.heap.size w W5) := (HB3.out.trans (b4.mono (by omega))).trans (b5.mono (by omega))
  have HX5 : Hid (W5.heap[w.heap.size]? = _) := (b5.block w.heap.size (by omega)).trans ((b4.block w.heap.size (by omega)).trans HX3.out)
  have HW5 : Hid (_ = W5) := hW5
  clear cD b4 b5 x5 hin hW5
  go_wp2_with fail
  rw [HW5.out]
  refine cF.mono ?_
  rintro e W6 ⟨u6, rfl, hin6, b6⟩
  obtain ⟨an6, ln6, cn6, al6, ll6, cl6, rfl⟩ : ∃ an ln cn al ll cl, u6 = vl r.k r.b r.i r.s (.slice an ln cn) (.slice al ll cl) := in_shape hin6
  have y1 := (b6.block w.heap.size (by omega)).trans HX5.out
  obtain ⟨W9, hW9⟩ : ∃ W9, (((((W6.setCell ⟨w.heap.size, 0, none⟩ (.int .i64 r.k)).setCell ⟨w.heap.size, 1, none⟩ (.bool r.b)).setCell ⟨w.heap.size, 2, none⟩ (.int .i64 r.i)).setCell ⟨w.heap.size, 3, none⟩ (.string r.s)).setCell ⟨w.heap.size, 4, none⟩ (.slice an6 ln6 cn6)).setCell ⟨w.heap.size, 5, none⟩ (.slice al6 ll6 cl6) = W9 := ⟨_, rfl⟩
  obtain ⟨q1, q2, q3, q4⟩ := set6 _ _ _ _ _ _ y1 hW9
  have HE : Hid (Base.In false All W9 (m + 1) (vl r.k r.b r.i r.s (.slice an6 ln6 cn6) (.slice al6 ll6 cl6)) r ∧ Below w.heap.size w W9) := ⟨in_all (hin6.keep fun c hc _ => q2 c (by have : W5.heap.size ≤ c := hc; omega)), q4 _ _ (by omega) (HB5.out.trans (b6.mono (by omega)))⟩
  have HQ1 : Hid _ := q1
  obtain ⟨v0', v1', v2', v3', v4', v5'⟩ := six_box y1
  have g0 := frozen_box y1 0
  have g1 := frozen_box y1 1
  have g2 := frozen_box y1 2
  have g3 := frozen_box y1 3
  have g4 := frozen_box y1 4
  have g5 := frozen_box y1 5
  clear hin6 b6 y1 q1 q2 q3 q4 cF
  go_wp2_with fail
  try rw [hW9]
  refine bodyPost_ret (Part.res_row_tmp rfl _ W9 w.heap.size 26 _ (0, 0) _ rfl HQ1.out Tryz.underlying26 rfl (by kernel_rfl)) rfl ?_
  exact ⟨_, rfl, HE.out⟩
end Go.Proofs.YtpaigpijaifeoaaGreatDoor.MRv

namespace Go.Proofs.YtpaigpijaifeoaaGreatDoor.MRw
open Go.RowKit Go.Proofs.YtpaigpijaifeoaaGreatDoor.Base Go.Proofs.YtpaigpijaifeoaaGreatDoor.VSm Go.Proofs.YtpaigpijaifeoaaGreatDoor.VJn Go.Proofs.YtpaigpijaifeoaaGreatDoor.VRs Go.Proofs.YtpaigpijaifeoaaGreatDoor.MBx Go.Proofs.YtpaigpijaifeoaaGreatDoor.MSe Go.Proofs.YtpaigpijaifeoaaGreatDoor.MDo Go.Proofs.YtpaigpijaifeoaaGreatDoor.MCd Go.Proofs.YtpaigpijaifeoaaGreatDoor.MPl Go.Proofs.YtpaigpijaifeoaaGreatDoor.MRg Go.Proofs.YtpaigpijaifeoaaGreatDoor.MRu Go.Proofs.YtpaigpijaifeoaaGreatDoor.MRv
open Go.Proofs.YtpaigpijaifeoaaGreatDoor.VPure
open Go.Proofs.YtpaigpijaifeoaaGreatDoor.CPu (Ins ck)
open Go.Proofs.YtpaigpijaifeoaaGreatDoor.CBx (Cx)
set_option linter.unusedVariables false

set_option maxHeartbeats 1600000 in
/-- The good way. -/
theorem way_c {K m : Nat} {w : World} {cv tv sv : Value} {L : List Ins} {T : List ByteArray} {S : List C} (hL : Cx K w cv L) (hT : Tz K w tv T) (hS : Base.InL false (fun b => b < K) w (m + 1) sv S) (hK : K ≤ w.heap.size) (hOk : ∀ x ∈ L, -9223372036854775808 ≤ x.2 ∧ x.2 ≤ 9223372036854775807) (hTb : Tb w) (h1 : (T.any fun s => !STx.tg s) = false) (h2 : ck L T.length S.length = 0) (h3 : S.any MEi.bd = false) :
    Calls Tryz.prog 21 #[cv, tv, sv] w fun e w' => RV (m + 1) w (match mrun L T S L.length 0 [] with
      | .ok r => .ok r
      | .error n => .error (n : Nat)) e w' := by
  have hSA : Base.InL false All w (m + 1) sv S := hS.weak (fun _ _ => trivial) false id _ (Nat.le_refl _)
  have hSw : ∀ c ∈ S, wf c := fun c hc => GWf.code_wf (by
    have : MEi.bd c = false := by
      cases e : MEi.bd c with
      | false => rfl
      | true => rw [List.any_eq_true.2 ⟨c, hc, e⟩] at h3; cases h3
    unfold MEi.bd MEi.cd at this
    simpa using this)
  obtain ⟨hn, H, hh0, hh1, hst⟩ := MHt.ck_st h2
  have hmem : ∀ W, Below w.heap.size w W → Cx W.heap.size W cv L ∧ Tz W.heap.size W tv T ∧ Base.InL false (fun b => b < W.heap.size) W (m + 1) sv S ∧ TK W.heap.size W := fun W hW => by
    have hz := hW.size
    refine ⟨(hL.below (hW.mono hK)).mono (by omega), ?_, (hS.keep (w' := W) fun b hb hl => hW.block b hl).weak (fun b hb => by show b < W.heap.size; have : b < K := hb; omega) false id _ (Nat.le_refl _), hTb.below hW⟩
    obtain ⟨a, cap, g1, g2, g3, g4⟩ := hT.below (hW.mono hK)
    exact ⟨a, cap, g1, g2, g3, g4.imp id fun ⟨g, o, ha, hg, hc⟩ => ⟨g, o, ha, by omega, hc⟩⟩
  have hrun : ∀ W, Below w.heap.size w W → ∀ W2, Below W.heap.size W W2 → Mc W.heap.size (m + 1) W2 (W.heap.size + 2) tv sv nilS [] → Calls Tryz.prog 78 #[ptr (W.heap.size + 2), cv] W2 fun e w' => RA W.heap.size (m + 1) (W.heap.size + 2) nilS W2 (mrun L T S L.length 0 []) e w' := fun W hW W2 b2 m2 => by
    obtain ⟨p1, p2, p3, p4⟩ := hmem W hW
    exact run_c (p1.below b2) m2 hn (p2.below b2) (p3.keep (w' := W2) fun b hb _ => b2.block b hb) (p4.below b2) hSw hOk hh0 hh1 hst
  obtain ⟨a1, c1, rfl, -⟩ := id hL
  obtain ⟨a2, c2, rfl, -⟩ := id hT
  obtain ⟨a3, c3, rfl, -⟩ := id hS
  cases hX : mrun L T S L.length 0 [] with
  | ok r =>
    refine (good_c (r := r) (z := 0) hL hT hSA hK h1 h2 h3 fun W hW => MCo.code_ok fun W2 b2 m2 => ?_).mono fun e w' ⟨u, he, hin, hb⟩ => ⟨hb, u, he, hin⟩
    have := hrun W hW W2 b2 m2
    rw [hX] at this
    exact this
  | error n =>
    have cE : ∀ W, Below w.heap.size w W → Calls Tryz.prog 46 #[.slice a1 L.length c1, .slice a2 T.length c2, .slice a3 S.length c3] W fun e w' => ∃ u, e = .returned (.tuple #[u, .int .i64 (n : Nat)]) ∧ Base.In false (fun b => b < W.heap.size) w' (m + 1) u zerC ∧ Below W.heap.size W w' := fun W hW => by
      refine (MCg.code_err (m := m + 1) (n0 := n) fun W2 b2 m2 => ?_).mono fun e w' ⟨he, hb⟩ => ⟨_, he, in_v0 _ w' m false (by decide) (by decide) (by decide), hb⟩
      have := hrun W hW W2 b2 m2
      rw [hX] at this
      exact this
    refine (good_c (r := zerC) (z := (n : Nat)) hL hT hSA hK h1 h2 h3 cE).mono fun e w' ⟨u, he, hin, hb⟩ => ⟨hb, ?_⟩
    obtain ⟨an, ln, cn, al, ll, cl, hu⟩ := in_shape hin
    exact ⟨an, ln, cn, al, ll, cl, by rw [he, hu]; rfl⟩
set_option maxRecDepth 20000 in
set_option maxHeartbeats 3200000 in
theorem bad_text {K m : Nat} {w : World} {cv tv sv : Value} {L : List Ins} {T : List ByteArray} {S : List C} (hL : Cx K w cv L) (hT : Tz K w tv T) (hS : Base.InL false All w (m + 1) sv S) (hK : K ≤ w.heap.size) (h1 : (T.any fun s => !STx.tg s) = true) :
    Calls Tryz.prog 21 #[cv, tv, sv] w fun e w' => RV (m + 1) w (.error 2000) e w' := by
  obtain ⟨W0, hW0⟩ : ∃ W0, w.alloc (.cells #[.int .i64 0, .bool false, .int .i64 0, .string ⟨#[]⟩, .slice none 0 0, .slice none 0 0] 26) = W0 := ⟨_, rfl⟩
  have b0 : Below w.heap.size w W0 := by rw [← hW0]; exact (Below.refl _ w).alloc (Nat.le_refl _) _
  have s0 : W0.heap.size = w.heap.size + 1 := by rw [← hW0]; simp
  have x0 : W0.heap[w.heap.size]? = some (.cells #[.int .i64 0, .bool false, .int .i64 0, .string ⟨#[]⟩, .slice none 0 0, .slice none 0 0] 26 (0, 0)) := by rw [← hW0]; exact heap_alloc_new w _
  have cT := METx.contains_c (hT.below (b0.mono hK)) (by omega)
  rw [h1] at cT
  have HL : Hid (Cx K w cv L) := hL
  have HS : Hid (Base.InL false All w (m + 1) sv S) := hS
  have HB0 : Hid _ := b0
  have HX0 : Hid _ := x0
  obtain ⟨a1, c1, rfl, hl1, hl2, -⟩ := hL
  obtain ⟨a2, c2, rfl, ht1, ht2, -⟩ := hT
  obtain ⟨a3, c3, rfl, hs1, hs2, -⟩ := hS
  clear b0 x0 h1
  go_enter Tryz.func21, Tryz.ntmps21
  go_wp2_with fail
  try rw [hW0]
  refine cT.mono ?_
  rintro e W1 ⟨rfl, b1⟩
  have hb1 : Below w.heap.size w W1 := HB0.out.trans (b1.mono (by omega))
  have y1 := (b1.block w.heap.size (by omega)).trans HX0.out
  obtain ⟨W9, hW9⟩ : ∃ W9, (((((W1.setCell ⟨w.heap.size, 0, none⟩ (.int .i64 0)).setCell ⟨w.heap.size, 1, none⟩ (.bool false)).setCell ⟨w.heap.size, 2, none⟩ (.int .i64 0)).setCell ⟨w.heap.size, 3, none⟩ (.string ⟨#[]⟩)).setCell ⟨w.heap.size, 4, none⟩ (.slice none 0 0)).setCell ⟨w.heap.size, 5, none⟩ (.slice none 0 0) = W9 := ⟨_, rfl⟩
  obtain ⟨q1, q2, q3, q4⟩ := set6 _ _ _ _ _ _ y1 hW9
  have HE : Hid (Below w.heap.size w W9) := q4 _ _ (Nat.le_refl _) hb1
  have HQ1 : Hid _ := q1
  have HW9 : Hid (_ = W9) := hW9
  obtain ⟨v0', v1', v2', v3', v4', v5'⟩ := six_box y1
  have g0 := frozen_box y1 0
  have g1 := frozen_box y1 1
  have g2 := frozen_box y1 2
  have g3 := frozen_box y1 3
  have g4 := frozen_box y1 4
  have g5 := frozen_box y1 5
  clear cT b1 hb1 y1 q1 q2 q3 q4 hW9
  go_wp2_with fail
  rw [HW9.out]
  refine bodyPost_ret (Part.res_row_tmp rfl _ W9 w.heap.size 26 _ (0, 0) _ rfl HQ1.out Tryz.underlying26 rfl (by kernel_rfl)) rfl ?_
  exact ⟨HE.out, none, 0, 0, none, 0, 0, rfl⟩
set_option maxRecDepth 20000 in
set_option maxHeartbeats 3200000 in
theorem bad_code {K m : Nat} {w : World} {cv tv sv : Value} {L : List Ins} {T : List ByteArray} {S : List C} (hL : Cx K w cv L) (hT : Tz K w tv T) (hS : Base.InL false All w (m + 1) sv S) (hK : K ≤ w.heap.size) (h1 : (T.any fun s => !STx.tg s) = false) (h2 : ck L T.length S.length ≠ 0) :
    Calls Tryz.prog 21 #[cv, tv, sv] w fun e w' => RV (m + 1) w (.error (ck L T.length S.length)) e w' := by
  obtain ⟨W0, hW0⟩ : ∃ W0, w.alloc (.cells #[.int .i64 0, .bool false, .int .i64 0, .string ⟨#[]⟩, .slice none 0 0, .slice none 0 0] 26) = W0 := ⟨_, rfl⟩
  have b0 : Below w.heap.size w W0 := by rw [← hW0]; exact (Below.refl _ w).alloc (Nat.le_refl _) _
  have s0 : W0.heap.size = w.heap.size + 1 := by rw [← hW0]; simp
  have x0 : W0.heap[w.heap.size]? = some (.cells #[.int .i64 0, .bool false, .int .i64 0, .string ⟨#[]⟩, .slice none 0 0, .slice none 0 0] 26 (0, 0)) := by rw [← hW0]; exact heap_alloc_new w _
  have cT := METx.contains_c (hT.below (b0.mono hK)) (by omega)
  rw [h1] at cT
  have HL : Hid (Cx K w cv L) := hL
  have HS : Hid (Base.InL false All w (m + 1) sv S) := hS
  have HB0 : Hid _ := b0
  have HX0 : Hid _ := x0
  obtain ⟨a1, c1, rfl, hl1, hl2, -⟩ := hL
  obtain ⟨a2, c2, rfl, ht1, ht2, -⟩ := hT
  obtain ⟨a3, c3, rfl, hs1, hs2, -⟩ := hS
  obtain ⟨z, hz⟩ : ∃ z, ck L T.length S.length = z := ⟨_, rfl⟩
  rw [hz] at h2 ⊢
  have HZ : Hid (ck L T.length S.length = z) := hz
  have dz : (z == 0) = false := by simp [h2]
  clear b0 x0 h1 h2 hz
  go_enter Tryz.func21, Tryz.ntmps21
  go_wp2_with fail
  try rw [hW0]
  refine cT.mono ?_
  rintro e W1 ⟨rfl, b1⟩
  have hb1 : Below w.heap.size w W1 := HB0.out.trans (b1.mono (by omega))
  have cK := CCk.check_c (HL.out.below (hb1.mono hK)) (by have := hb1.size; omega) (T.length : Int) (S.length : Int)
  have HB1 : Hid _ := hb1
  have HX1 : Hid _ := (b1.block w.heap.size (by omega)).trans HX0.out
  have hz1 := b1.size
  rw [HZ.out] at cK
  clear cT b1 hb1 HZ
  go_wp2_with fail
  refine cK.mono ?_
  rintro e W2 ⟨rfl, b2⟩
  have hz2 := b2.size
  have hb2 : Below w.heap.size w W2 := HB1.out.trans (b2.mono (by omega))
  have y1 := (b2.block w.heap.size (by omega)).trans HX1.out
  obtain ⟨W9, hW9⟩ : ∃ W9, (((((W2.setCell ⟨w.heap.size, 0, none⟩ (.int .i64 0)).setCell ⟨w.heap.size, 1, none⟩ (.bool false)).setCell ⟨w.heap.size, 2, none⟩ (.int .i64 0)).setCell ⟨w.heap.size, 3, none⟩ (.string ⟨#[]⟩)).setCell ⟨w.heap.size, 4, none⟩ (.slice none 0 0)).setCell ⟨w.heap.size, 5, none⟩ (.slice none 0 0) = W9 := ⟨_, rfl⟩
  obtain ⟨q1, q2, q3, q4⟩ := set6 _ _ _ _ _ _ y1 hW9
  have HE : Hid (Below w.heap.size w W9) := q4 _ _ (Nat.le_refl _) hb2
  have HQ1 : Hid _ := q1
  have HW9 : Hid (_ = W9) := hW9
  obtain ⟨v0', v1', v2', v3', v4', v5'⟩ := six_box y1
  have g0 := frozen_box y1 0
  have g1 := frozen_box y1 1
  have g2 := frozen_box y1 2
  have g3 := frozen_box y1 3
  have g4 := frozen_box y1 4
  have g5 := frozen_box y1 5
  clear cK b2 hb2 y1 q1 q2 q3 q4 hW9
  go_wp2_with fail
  rw [HW9.out]
  refine bodyPost_ret (Part.res_row_tmp rfl _ W9 w.heap.size 26 _ (0, 0) _ rfl HQ1.out Tryz.underlying26 rfl (by kernel_rfl)) rfl ?_
  exact ⟨HE.out, none, 0, 0, none, 0, 0, rfl⟩
set_option maxRecDepth 20000 in
set_option maxHeartbeats 3200000 in
theorem bad_value {K m : Nat} {w : World} {cv tv sv : Value} {L : List Ins} {T : List ByteArray} {S : List C} (hL : Cx K w cv L) (hT : Tz K w tv T) (hS : Base.InL false All w (m + 1) sv S) (hK : K ≤ w.heap.size) (h1 : (T.any fun s => !STx.tg s) = false) (h2 : ck L T.length S.length = 0) (h3 : S.any MEi.bd = true) :
    Calls Tryz.prog 21 #[cv, tv, sv] w fun e w' => RV (m + 1) w (.error 1108) e w' := by
  obtain ⟨W0, hW0⟩ : ∃ W0, w.alloc (.cells #[.int .i64 0, .bool false, .int .i64 0, .string ⟨#[]⟩, .slice none 0 0, .slice none 0 0] 26) = W0 := ⟨_, rfl⟩
  have b0 : Below w.heap.size w W0 := by rw [← hW0]; exact (Below.refl _ w).alloc (Nat.le_refl _) _
  have s0 : W0.heap.size = w.heap.size + 1 := by rw [← hW0]; simp
  have x0 : W0.heap[w.heap.size]? = some (.cells #[.int .i64 0, .bool false, .int .i64 0, .string ⟨#[]⟩, .slice none 0 0, .slice none 0 0] 26 (0, 0)) := by rw [← hW0]; exact heap_alloc_new w _
  have cT := METx.contains_c (hT.below (b0.mono hK)) (by omega)
  rw [h1] at cT
  have HL : Hid (Cx K w cv L) := hL
  have HS : Hid (Base.InL false All w (m + 1) sv S) := hS
  have HB0 : Hid _ := b0
  have HX0 : Hid _ := x0
  obtain ⟨a1, c1, rfl, hl1, hl2, -⟩ := hL
  obtain ⟨a2, c2, rfl, ht1, ht2, -⟩ := hT
  obtain ⟨a3, c3, rfl, hs1, hs2, -⟩ := hS
  have HCK : Hid (ck L T.length S.length = 0) := h2
  have HAN : Hid (S.any MEi.bd = true) := h3
  clear b0 x0 h1 h2 h3
  go_enter Tryz.func21, Tryz.ntmps21
  go_wp2_with fail
  try rw [hW0]
  refine cT.mono ?_
  rintro e W1 ⟨rfl, b1⟩
  have hb1 : Below w.heap.size w W1 := HB0.out.trans (b1.mono (by omega))
  have cK := CCk.check_c (HL.out.below (hb1.mono hK)) (by have := hb1.size; omega) (T.length : Int) (S.length : Int)
  have HB1 : Hid _ := hb1
  have HX1 : Hid _ := (b1.block w.heap.size (by omega)).trans HX0.out
  have hz1 := b1.size
  rw [HCK.out] at cK
  clear cT b1 hb1
  go_wp2_with fail
  refine cK.mono ?_
  rintro e W2 ⟨rfl, b2⟩
  have hz2 := b2.size
  have hb2 : Below w.heap.size w W2 := HB1.out.trans (b2.mono (by omega))
  have cS := MEi.contains_c (HS.out.below hb2)
  rw [HAN.out] at cS
  have HB2 : Hid _ := hb2
  have HX2 : Hid _ := (b2.block w.heap.size (by omega)).trans HX1.out
  clear cK b2 hb2
  go_wp2_with fail
  refine cS.mono ?_
  rintro e W3 ⟨rfl, b3⟩
  have hz3 := b3.size
  have hb3 : Below w.heap.size w W3 := HB2.out.trans (b3.mono (by omega))
  have y1 := (b3.block w.heap.size (by omega)).trans HX2.out
  obtain ⟨W9, hW9⟩ : ∃ W9, (((((W3.setCell ⟨w.heap.size, 0, none⟩ (.int .i64 0)).setCell ⟨w.heap.size, 1, none⟩ (.bool false)).setCell ⟨w.heap.size, 2, none⟩ (.int .i64 0)).setCell ⟨w.heap.size, 3, none⟩ (.string ⟨#[]⟩)).setCell ⟨w.heap.size, 4, none⟩ (.slice none 0 0)).setCell ⟨w.heap.size, 5, none⟩ (.slice none 0 0) = W9 := ⟨_, rfl⟩
  obtain ⟨q1, q2, q3, q4⟩ := set6 _ _ _ _ _ _ y1 hW9
  have HE : Hid (Below w.heap.size w W9) := q4 _ _ (Nat.le_refl _) hb3
  have HQ1 : Hid _ := q1
  have HW9 : Hid (_ = W9) := hW9
  obtain ⟨v0', v1', v2', v3', v4', v5'⟩ := six_box y1
  have g0 := frozen_box y1 0
  have g1 := frozen_box y1 1
  have g2 := frozen_box y1 2
  have g3 := frozen_box y1 3
  have g4 := frozen_box y1 4
  have g5 := frozen_box y1 5
  clear cS b3 hb3 y1 q1 q2 q3 q4 hW9
  go_wp2_with fail
  rw [HW9.out]
  refine bodyPost_ret (Part.res_row_tmp rfl _ W9 w.heap.size 26 _ (0, 0) _ rfl HQ1.out Tryz.underlying26 rfl (by kernel_rfl)) rfl ?_
  exact ⟨HE.out, none, 0, 0, none, 0, 0, rfl⟩
theorem run_g {K m : Nat} {w : World} {cv tv sv : Value} {L : List Ins} {T : List ByteArray} {S : List C} (hL : Cx K w cv L) (hT : Tz K w tv T) (hS : Base.InL false (fun b => b < K) w (m + 1) sv S) (hK : K ≤ w.heap.size) (hOk : ∀ x ∈ L, -9223372036854775808 ≤ x.2 ∧ x.2 ≤ 9223372036854775807) (hTb : Tb w) :
    Calls Tryz.prog 21 #[cv, tv, sv] w fun e w' => RV (m + 1) w (rn L T S) e w' := by
  have hSA : Base.InL false All w (m + 1) sv S := hS.weak (fun _ _ => trivial) false id _ (Nat.le_refl _)
  unfold rn
  by_cases h1 : (T.any fun s => !STx.tg s) = true
  · rw [if_pos h1]; exact bad_text hL hT hSA hK h1
  rw [if_neg h1]
  simp only [Bool.not_eq_true] at h1
  by_cases h2 : ck L T.length S.length ≠ 0
  · rw [if_pos h2]; exact bad_code hL hT hSA hK h1 h2
  rw [if_neg h2]
  have h2 : ck L T.length S.length = 0 := Decidable.not_not.1 h2
  by_cases h3 : S.any MEi.bd = true
  · rw [if_pos h3]; exact bad_value hL hT hSA hK h1 h2 h3
  rw [if_neg h3]
  simp only [Bool.not_eq_true] at h3
  exact way_c hL hT hS hK hOk hTb h1 h2 h3
end Go.Proofs.YtpaigpijaifeoaaGreatDoor.MRw
