/- Which cores may be: the document's own answer (stencilref15.look). -/
import Derived.Test.YtofjedecjlodmaaGreatKRa
import Derived.Test.YtofjedecjlodmaaGreatKRc
import Derived.Test.YtofjedecjlodmaaGreatKRx
import Derived.Test.YtofjedecjlodmaaGreatKRpl
import Derived.Test.YtofjedecjlodmaaGreatKNd
import Derived.Deep.RegionWith
import Derived.Deep.RegionHeld3
import Derived.Deep.CutBlock
import Derived.Deep.CutRange
namespace Go.Proofs.YtofjedecjlodmaaGreat.KRk
open Go.RowKit Go.Proofs.YtofjedecjlodmaaGreat.Base Go.Proofs.YtofjedecjlodmaaGreat.EPure Go.Proofs.YtofjedecjlodmaaGreat.KBase Go.Proofs.YtofjedecjlodmaaGreat.KSh Go.Proofs.YtofjedecjlodmaaGreat.KAr Go.Proofs.YtofjedecjlodmaaGreat.KEx Go.Proofs.YtofjedecjlodmaaGreat.KLe Go.Proofs.YtofjedecjlodmaaGreat.KNp Go.Proofs.YtofjedecjlodmaaGreat.KJp Go.Proofs.YtofjedecjlodmaaGreat.KRa Go.Proofs.YtofjedecjlodmaaGreat.KRx
open Go.Proofs.YtofjedecjlodmaaGreat.XBase (frozen_box)
set_option linter.unusedVariables false

/-- The boxes that a round has. -/
structure Lk (w : World) (cb R : Nat) (A C I : Array Value) (W : World) : Prop where
  bel : Below w.heap.size w W
  ba : W.heap[w.heap.size]? = some (.cells A 55 (0, 0))
  bc : W.heap[cb]? = some (.cells C 40 (0, 0))
  bi : W.heap[R]? = some (.cells I 55 (0, 0))
  lt : w.heap.size < cb ∧ cb < R
theorem Lk.below {w : World} {cb R : Nat} {A C I : Array Value} {W W' : World} (h : Lk w cb R A C I W) (hb : Below W.heap.size W W') : Lk w cb R A C I W' :=
  ⟨nx h.bel hb, (hb.block _ (Array.getElem?_eq_some_iff.1 h.ba).1).trans h.ba, (hb.block _ (Array.getElem?_eq_some_iff.1 h.bc).1).trans h.bc, (hb.block _ (Array.getElem?_eq_some_iff.1 h.bi).1).trans h.bi, h.lt⟩
theorem set3 {W W9 : World} {R : Nat} {z0 z1 z2 a b c : Value} {t : TypeId} (h : W.heap[R]? = some (.cells #[z0, z1, z2] t (0, 0))) (e : ((W.setCell ⟨R, 0, none⟩ a).setCell ⟨R, 1, none⟩ b).setCell ⟨R, 2, none⟩ c = W9) :
    W9.heap[R]? = some (.cells #[a, b, c] t (0, 0)) ∧ (∀ k, k ≠ R → W9.heap[k]? = W.heap[k]?) ∧ W9.heap.size = W.heap.size ∧ ∀ B, B ≤ R → Below B W W9 := by
  subst e
  refine ⟨heap_setCell_same _ _ _ _ _ _ (heap_setCell_same _ _ _ _ _ _ (heap_setCell_same _ _ _ _ _ _ h)), fun k hk => ?_, by simp [World.setCell], fun B hB => ?_⟩
  · rw [Below.heap_setCell _ _ _ _ hk, Below.heap_setCell _ _ _ _ hk, Below.heap_setCell _ _ _ _ hk]
  · exact ((((Below.refl B W).setCell (p := ⟨R, 0, none⟩) hB a).setCell (p := ⟨R, 1, none⟩) hB b).setCell (p := ⟨R, 2, none⟩) hB c)
theorem Lk.set {w : World} {cb R : Nat} {A C : Array Value} {a b c : Value} {W : World} (h : Lk w cb R A C #[a, b, c] W) (j : Nat) (v : Value) : Lk w cb R A C (#[a, b, c].setIfInBounds j v) (W.setCell ⟨R, j, none⟩ v) :=
  ⟨h.bel.setCell (p := ⟨R, j, none⟩) (by have := h.lt; show _ ≤ R; omega) v, (Below.heap_setCell _ _ _ _ (by have := h.lt; show _ ≠ R; omega)).trans h.ba, (Below.heap_setCell _ _ _ _ (by have := h.lt; show _ ≠ R; omega)).trans h.bc, heap_setCell_same _ _ _ _ _ _ h.bi, h.lt⟩
theorem fin_bad {T a t : Int × Int} {x : Int} (hD : T = if a.2 ≠ 0 then a else t) (h : a.2 = x) (hx : x ≠ 0) : T.2 = x := by rw [hD, if_pos (by rw [h]; exact hx)]; exact h
theorem fin_ok {T a t : Int × Int} (hD : T = if a.2 ≠ 0 then a else t) (h : a.2 = 0) : T = t := by rw [hD, if_neg (by rw [h]; exact fun k => k rfl)]
theorem one_own {y : Co} {r s e l x : Int} (ho : own y (lft y r) s e l = x) (hx : x ≠ 0) : (ndL [y] r s e l).2 = x := by
  rw [ndL_one, if_pos (by rw [ho]; exact hx)]
  exact ho
theorem one_kids {y : Co} {r s e l x : Int} (ho : own y (lft y r) s e l = 0) (hk : (ndL y.l (lft y r) (ent y s e l).1.1 (ent y s e l).1.2.1 (ent y s e l).1.2.2).2 = x) (hx : x ≠ 0) : (ndL [y] r s e l).2 = x := by
  rw [ndL_one, if_neg (by rw [ho]; exact fun k => k rfl), if_pos (by rw [hk]; exact hx)]
  exact hk
theorem one_else {y : Co} {r s e l : Int} (ho : own y (lft y r) s e l = 0) (hk : (ndL y.l (lft y r) (ent y s e l).1.1 (ent y s e l).1.2.1 (ent y s e l).1.2.2).2 = 0) : ndL [y] r s e l = ndL y.u (ndL y.l (lft y r) (ent y s e l).1.1 (ent y s e l).1.2.1 (ent y s e l).1.2.2).1 (ent y s e l).1.1 (ent y s e l).1.2.1 (ent y s e l).1.2.2 := by
  rw [ndL_one, if_neg (by rw [ho]; exact fun k => k rfl), if_neg (by rw [hk]; exact fun k => k rfl)]
theorem own_1504 {y : Co} {r s e l : Int} (h : r < 0) : own y r s e l = 1504 := by unfold own; rw [if_pos h]
theorem own_1503 {y : Co} {r s e l : Int} (h : ¬ r < 0) (hd : deep (ent y s e l).1.1 (ent y s e l).1.2.1 (ent y s e l).1.2.2 = true) : own y r s e l = 1503 := by unfold own; rw [if_neg h, if_pos hd]
theorem own_1500 {y : Co} {r s e l : Int} (h : ¬ r < 0) (hd : deep (ent y s e l).1.1 (ent y s e l).1.2.1 (ent y s e l).1.2.2 = false) (h2 : (ent y s e l).2 = false) : own y r s e l = 1500 := by unfold own; rw [if_neg h, if_neg (by rw [hd]; decide), if_pos h2]
theorem own_1501 {y : Co} {r s e l : Int} (h : ¬ r < 0) (hd : deep (ent y s e l).1.1 (ent y s e l).1.2.1 (ent y s e l).1.2.2 = false) (h2 : (ent y s e l).2 = true) (h3 : (xsC y).all rsv = false) : own y r s e l = 1501 := by unfold own; rw [if_neg h, if_neg (by rw [hd]; decide), if_neg (by rw [h2]; decide), if_pos h3]
theorem own_1502 {y : Co} {r s e l : Int} (h : ¬ r < 0) (hd : deep (ent y s e l).1.1 (ent y s e l).1.2.1 (ent y s e l).1.2.2 = false) (h2 : (ent y s e l).2 = true) (h3 : (xsC y).all rsv = true) (h4 : plc y s (ent y s e l).1.1 = false) : own y r s e l = 1502 := by unfold own; rw [if_neg h, if_neg (by rw [hd]; decide), if_neg (by rw [h2]; decide), if_neg (by rw [h3]; decide), if_pos h4]
theorem own_0 {y : Co} {r s e l : Int} (h : ¬ r < 0) (hd : deep (ent y s e l).1.1 (ent y s e l).1.2.1 (ent y s e l).1.2.2 = false) (h2 : (ent y s e l).2 = true) (h3 : (xsC y).all rsv = true) (h4 : plc y s (ent y s e l).1.1 = true) : own y r s e l = 0 := by unfold own; rw [if_neg h, if_neg (by rw [hd]; decide), if_neg (by rw [h2]; decide), if_neg (by rw [h3]; decide), if_neg (by rw [h4]; decide)]
/-- Rows that are read. -/
theorem es_shape {w : World} {B : Nat} {v : Value} {us : List Value} (h : XLend.OwnV w B v us) : ∃ a cap, v = .slice a us.length cap ∧ us.length ≤ cap ∧ cap ≤ 9223372036854775807 ∧ ∀ j, (hj : j < us.length) → ∃ g, a = some ⟨g, 0, none⟩ ∧ g < w.heap.size ∧ XBase.Four w g (j * 4) us[j] := by
  rcases h.1.2 with ⟨rfl, e⟩ | ⟨g, cap, cur, rfl, h2, h3, h4, h5, h6⟩
  · exact ⟨none, 0, by rw [e], by omega, by omega, fun j hj => by omega⟩
  · exact ⟨_, cap, rfl, h4, by unfold maxLen at h5; omega, fun j hj => ⟨g, rfl, (XLend.ownV_lt h).2, by have := XLend.ownV_four h j hj; rw [Nat.zero_add] at this; exact this⟩⟩
theorem ds_shape {w : World} {B : Nat} {v : Value} {D : List Int} (h : KSt.Oi w B v D) : ∃ a cap, v = .slice a D.length cap ∧ D.length ≤ cap ∧ cap ≤ 9223372036854775807 ∧ ∀ j, (hj : j < D.length) → ∃ g, a = some ⟨g, 0, none⟩ ∧ g < w.heap.size ∧ w.cell? ⟨g, j, none⟩ = some (.int .i64 D[j]) := by
  have hh := h
  rcases h.2 with ⟨rfl, e⟩ | ⟨g, cap, cur, rfl, h2, h3, h4, h5, h6⟩
  · exact ⟨none, 0, by rw [e], by omega, by omega, fun j hj => by omega⟩
  · refine ⟨_, cap, rfl, h4, by unfold maxLen at h5; omega, fun j hj => ⟨g, rfl, (hh.lt rfl).2, ?_⟩⟩
    have := World.ownsRow.cells (g := g) hh rfl j (.int .i64 D[j]) (by rw [List.getElem?_map, List.getElem?_eq_getElem hj]; rfl)
    rw [add_none, Nat.zero_add] at this
    exact this
/-- What look answers of nodes. -/
def LI (m : Nat) : Prop := ∀ (w : World) (v : Value) (cs : List Co) (s e l : Int) (n : Nat), InL false (fun _ => True) w m v cs → (0 ≤ s ∧ s ≤ 64) → (0 ≤ e ∧ e ≤ 63) → (0 ≤ l ∧ l ≤ 8) → n ≤ 4096 →
    Calls Tryz.prog 28 #[v, .agg #[.int .i64 s, .int .i64 e, .int .i64 l], .int .i64 n] w fun r w' => Below w.heap.size w w' ∧ ∃ M : Nat, r = .returned (.tuple #[.int .i64 M, .int .i64 (ndL cs (4096 - (n : Int)) s e l).2]) ∧ M ≤ 900000000000000 ∧
      ((ndL cs (4096 - (n : Int)) s e l).2 = 0 → M ≤ 4096 ∧ (ndL cs (4096 - (n : Int)) s e l).1 = 4096 - (M : Int))
/-- Do the places fit, one by one? -/
theorem plc_iff {c : Co} {s e l : Int} (he : (ent c s e l).2 = true) : plc c s (s + mr c) = true ↔ ∀ j (h : j < (xsC c).length), KHs.hs (dv c.k s j) [(xsC c)[j]] = true := by
  by_cases hk : c.k = 4
  · have hx2 : c.x.length = 2 ∧ c.f.length = 0 ∧ c.p.length = 0 := by
      unfold ent at he
      rw [if_neg (by omega), if_neg (by omega), if_neg (by omega), if_pos hk] at he
      unfold bare at he
      simp at he
      refine ⟨by omega, ?_, ?_⟩
      · simp [he]
      · simp [he]
    have hf : c.f = [] := List.eq_nil_of_length_eq_zero hx2.2.1
    have hp : c.p = [] := List.eq_nil_of_length_eq_zero hx2.2.2
    obtain ⟨x, y, hx⟩ : ∃ x y, c.x = [x, y] := by
      have := hx2.1
      match hc : c.x with
      | [] => rw [hc] at this; simp at this
      | [a] => rw [hc] at this; simp at this
      | [a, b] => exact ⟨a, b, rfl⟩
      | a :: b :: d :: t => rw [hc] at this; simp at this
    have hX : xsC c = [x, y] := by unfold xsC; rw [hf, hp, hx]; rfl
    have hm : mr c = 2 := by unfold mr; rw [if_pos hk]
    unfold plc
    rw [if_pos hk, hx, hX, hm]
    simp only [Bool.and_eq_true]
    constructor
    · rintro ⟨h1, h2⟩ j hj
      match j, hj with
      | 0, _ => rw [show dv c.k s 0 = s by unfold dv; rw [if_neg (by omega)]]; exact h1
      | 1, _ => rw [show dv c.k s 1 = s + 2 by unfold dv; rw [if_pos ⟨hk, rfl⟩]]; exact h2
      | j + 2, h => exact absurd h (by simp)
    · intro h
      have h0 := h 0 (by simp)
      have h1 := h 1 (by simp)
      rw [show dv c.k s 0 = s by unfold dv; rw [if_neg (by omega)]] at h0
      rw [show dv c.k s 1 = s + 2 by unfold dv; rw [if_pos ⟨hk, rfl⟩]] at h1
      exact ⟨h0, h1⟩
  · unfold plc
    rw [if_neg hk, List.all_eq_true]
    have hd : ∀ j, dv c.k s j = s := fun j => by unfold dv; rw [if_neg (fun h => hk h.1)]
    constructor
    · intro h j hj
      rw [hd]
      exact h _ (List.getElem_mem hj)
    · intro h x hx
      obtain ⟨j, hj, rfl⟩ := List.getElem_of_mem hx
      have := h j hj
      rw [hd] at this
      exact this
theorem ent_four {c : Co} {s e l : Int} (he : (ent c s e l).2 = true) (hk : c.k = 4) : c.f = [] ∧ c.p = [] := by
  unfold ent at he
  rw [if_neg (by omega), if_neg (by omega), if_neg (by omega), if_pos hk] at he
  unfold bare at he
  simp at he
  exact ⟨by simp [he], by simp [he]⟩
set_option maxRecDepth 20000 in
set_option maxHeartbeats 6400000 in
theorem look_step (m : Nat) (ih : ∀ m', m' < m → LI m') : LI m := by
  intro w v cs s e l n hin hs he hl hn
  have Hih : Hid (∀ m', m' < m → LI m') := ih
  obtain ⟨a, cap, rfl, hlc, hcm, hlen, hnil, hL⟩ := hin
  have HL : Hid (RwAt 7 Co7 rmC false (fun _ => True) w (KBase.In false (fun _ => True) w m) a cap cs) := hL
  obtain ⟨T, hT⟩ : ∃ T, ndL cs (4096 - (n : Int)) s e l = T := ⟨_, rfl⟩
  have HT : Hid (ndL (cs.drop 0) (4096 - (n : Int)) s e l = T) := hT
  rw [hT]
  obtain ⟨W0, hW0⟩ : ∃ W0, w.alloc (.cells #[.int .i64 s, .int .i64 e, .int .i64 l] 55) = W0 := ⟨_, rfl⟩
  have HB0 : Hid (Below w.heap.size w W0) := by rw [← hW0]; exact (Below.refl _ w).alloc (Nat.le_refl _) _
  have HA0 : Hid (W0.heap[w.heap.size]? = some (.cells #[.int .i64 s, .int .i64 e, .int .i64 l] 55 (0, 0))) := by rw [← hW0]; exact heap_alloc_new w _
  have HW0 : Hid (w.alloc (.cells #[.int .i64 s, .int .i64 e, .int .i64 l] 55) = W0) := hW0
  clear ih hL hT hW0
  go_enter Tryz.func28, Tryz.ntmps28
  go_wp2_with fail
  try rw [HW0.out]
  go_loopw [2, 8] (fun k i wr => ∃ (q n : Nat), i = .int .i64 q ∧ k = .int .i64 n ∧ q ≤ cs.length ∧ n ≤ 4096 ∧ ndL (cs.drop q) (4096 - (n : Int)) s e l = T ∧ Below w.heap.size w wr ∧ wr.heap[w.heap.size]? = some (.cells #[.int .i64 s, .int .i64 e, .int .i64 l] 55 (0, 0))) (fun _ i _ => cs.length - (intOf i).toNat)
  case atStart => exact ⟨0, n, rfl, rfl, by omega, hn, HT.out, HB0.out, HA0.out⟩
  case round =>
    clear HT HB0 HA0 HW0 hn
    obtain ⟨q, n, rfl, rfl, hq, hn, hM, hb, hA⟩ := hrel
    obtain ⟨V, hV⟩ : ∃ V, V = wr := ⟨_, rfl⟩
    subst hV
    by_cases hlt : q < cs.length
    · have d0 : decide ((q : Int) < (cs.length : Int)) = true := by simp; omega
      have i0 : (0 : Int) ≤ (q : Int) := by omega
      have i1 : (q : Int) < (cs.length : Int) := by omega
      obtain ⟨g, o, u, ha, -, hu, hy⟩ := HL.out.elem hlt
      subst ha
      have HY : Hid (KBase.In false (fun _ => True) w m u cs[q]) := hy
      obtain ⟨m', fv, pv, xv, lv, uv, rfl, rfl, hyk, hyt, hF, hP, ⟨mx, hX⟩, hKl, hKu⟩ := hy.shape
      obtain ⟨a1, c1, rfl, hc1, hm1, hl1, -, -⟩ := hF
      obtain ⟨a2, c2, rfl, hc2, hm2, hl2, -, -⟩ := hP
      obtain ⟨a3, c3, rfl, hc3, hm3, hl3, -, -⟩ := hX
      have HD : Hid (ndL (cs.drop q) (4096 - (n : Int)) s e l = (if (ndL [cs[q]] (4096 - (n : Int)) s e l).2 ≠ 0 then ndL [cs[q]] (4096 - (n : Int)) s e l else ndL (cs.drop (q + 1)) (ndL [cs[q]] (4096 - (n : Int)) s e l).1 s e l)) := by
        show _ = _
        rw [List.drop_eq_getElem_cons hlt, ndL_cons]
      obtain ⟨y, hyy⟩ : ∃ y, cs[q] = y := ⟨_, rfl⟩
      rw [hyy] at HY HD hyk hyt hl1 hl2 hl3 hc1 hc2 hc3 hKl hKu hu
      rw [hM] at HD
      have hKl0 := hKl
      have hKu0 := hKu
      obtain ⟨a4, c4, rfl, hc4, hm4, hl4, -, -⟩ := hKl
      obtain ⟨a5, c5, rfl, hc5, hm5, hl5, -, -⟩ := hKu
      have HKl : Hid (InL false (fun _ => True) w m' (.slice a4 y.l.length c4) y.l) := hKl0
      have HKu : Hid (InL false (fun _ => True) w m' (.slice a5 y.u.length c5) y.u) := hKu0
      obtain ⟨v0, v1, v2, v3, v4, v5, v6, E, k0, k1, k2, k3, k4, k5, k6⟩ := hu
      simp only [Value.agg.injEq, Array.mk.injEq, List.cons.injEq, and_true] at E
      obtain ⟨rfl, rfl, rfl, rfl, rfl, rfl, rfl⟩ := E
      have k0 := below_cell k0 hb
      have k1 := below_cell k1 hb
      have k2 := below_cell k2 hb
      have k3 := below_cell k3 hb
      have k4 := below_cell k4 hb
      have k5 := below_cell k5 hb
      have k6 := below_cell k6 hb
      have hA' := hA
      obtain ⟨W1, hW1⟩ : ∃ W1, V.alloc (.cells #[.int .i64 y.k, .string y.t, .slice a1 y.f.length c1, .slice a2 y.p.length c2, .slice a3 y.x.length c3, .slice a4 y.l.length c4, .slice a5 y.u.length c5] 40) = W1 := ⟨_, rfl⟩
      have b1 : Below V.heap.size V W1 := by rw [← hW1]; exact (Below.refl _ V).alloc (Nat.le_refl _) _
      have hsw := hb.size
      have hs1 : W1.heap.size = V.heap.size + 1 := by rw [← hW1]; simp
      have HC1 : Hid (W1.heap[V.heap.size]? = some (.cells #[.int .i64 y.k, .string y.t, .slice a1 y.f.length c1, .slice a2 y.p.length c2, .slice a3 y.x.length c3, .slice a4 y.l.length c4, .slice a5 y.u.length c5] 40 (0, 0))) := by rw [← hW1]; exact heap_alloc_new V _
      have hAlt := (Array.getElem?_eq_some_iff.1 hA).1
      have HA1 : Hid (W1.heap[w.heap.size]? = some (.cells #[.int .i64 s, .int .i64 e, .int .i64 l] 55 (0, 0))) := (b1.block _ hAlt).trans hA
      have HB1 : Hid (Below w.heap.size w W1) := nx hb b1
      obtain ⟨za0, za1, za2⟩ := three_box HA1.out
      obtain ⟨zc0, zc1, zc2, zc3, zc4, zc5, zc6⟩ := seven_box HC1.out
      have cM := fun W => more_c (v := .bool true) (c := y) (w := W) (fv := .slice a1 y.f.length c1) (pv := .slice a2 y.p.length c2) (lv := .slice a4 y.l.length c4) (uv := .slice a5 y.u.length c5) (a := a3) (cap := c3) (by omega)
      have hmr : 0 ≤ mr y ∧ mr y ≤ 140737488351232 := by unfold mr; repeat' split <;> omega
      have HEM := ent_more y s e l
      have HEM : Hid (_ = _) := HEM
      obtain ⟨Mr, hMr⟩ : ∃ z, mr y = z := ⟨_, rfl⟩
      rw [hMr] at cM hmr
      have hwM : IntKind.i64.wrap (s + Mr) = s + Mr := by rw [IntKind.wrap_i64]; omega
      have HMR : Hid (mr y = Mr) := hMr
      have HW1 : Hid (V.alloc (.cells #[.int .i64 y.k, .string y.t, .slice a1 y.f.length c1, .slice a2 y.p.length c2, .slice a3 y.x.length c3, .slice a4 y.l.length c4, .slice a5 y.u.length c5] 40) = W1) := hW1
      clear hy hyy hb hA hA' hKl0 hKu0 hW1 b1 hMr hM
      go_upto_region 5 with fail
      try rw [HW1.out]
      go_cut [10] from 27 to 36 (fun p wc => ∃ R, p = .pointer (some ⟨R, 0, none⟩) ∧ Lk w V.heap.size R #[.int .i64 s, .int .i64 e, .int .i64 l] #[.int .i64 y.k, .string y.t, .slice a1 y.f.length c1, .slice a2 y.p.length c2, .slice a3 y.x.length c3, .slice a4 y.l.length c4, .slice a5 y.u.length c5] #[.int .i64 (s + Mr), .int .i64 e, .int .i64 l] wc)
      case first =>
        refine wp_region_held_drew (S := fun w' => w'.cell? ⟨w.heap.size, 0, none⟩ = some (.int .i64 s) ∧ w'.cell? ⟨w.heap.size, 1, none⟩ = some (.int .i64 e) ∧ w'.cell? ⟨w.heap.size, 2, none⟩ = some (.int .i64 l) ∧ w'.cell? ⟨V.heap.size, 0, none⟩ = some (.int .i64 y.k) ∧ w'.cell? ⟨V.heap.size, 1, none⟩ = some (.string y.t) ∧ w'.cell? ⟨V.heap.size, 2, none⟩ = some (.slice a1 y.f.length c1) ∧ w'.cell? ⟨V.heap.size, 3, none⟩ = some (.slice a2 y.p.length c2) ∧ w'.cell? ⟨V.heap.size, 4, none⟩ = some (.slice a3 y.x.length c3) ∧ w'.cell? ⟨V.heap.size, 5, none⟩ = some (.slice a4 y.l.length c4) ∧ w'.cell? ⟨V.heap.size, 6, none⟩ = some (.slice a5 y.u.length c5)) (by kernel_rfl) (by exact ⟨za0, za1, za2, zc0, zc1, zc2, zc3, zc4, zc5, zc6⟩) (fun hHeld => ?_)
        refine wpAnyH_take (i := 0) (v := ?_) rfl (by kernel_rfl) (by kernel_rfl) (by kernel_rfl) (fun _ _ _ h => h) (Or.inl ⟨by rfl, ?_⟩) (by assumption) ?_
        rotate_left 1
        · intro w hSw; (try dsimp only at hSw); go_simp; first | done | with_reducible rfl | (rw [if_neg (by omega)])
        try simp only [Act.put, List.getElem_toArray, List.getElem_cons_zero, List.setIfInBounds_toArray, List.set_cons_zero, List.set_cons_succ]
        refine wpAnyH_take (i := 1) (v := ?_) rfl (by kernel_rfl) (by kernel_rfl) (by kernel_rfl) (fun _ _ _ h => h) (Or.inl ⟨by rfl, ?_⟩) (by assumption) ?_
        rotate_left 1
        · intro w hSw; (try dsimp only at hSw); go_simp; first | done | with_reducible rfl | (rw [if_neg (by omega)])
        try simp only [Act.put, List.getElem_toArray, List.getElem_cons_zero, List.getElem_cons_succ, List.setIfInBounds_toArray, List.set_cons_zero, List.set_cons_succ]
        refine wpAnyH_take (i := 2) (v := ?_) rfl (by kernel_rfl) (by kernel_rfl) (by kernel_rfl) (fun _ _ _ h => h) (Or.inl ⟨by rfl, ?_⟩) (by assumption) ?_
        rotate_left 1
        · intro w hSw; (try dsimp only at hSw); go_simp; first | done | with_reducible rfl | (rw [if_neg (by omega)])
        try simp only [Act.put, List.getElem_toArray, List.getElem_cons_zero, List.getElem_cons_succ, List.setIfInBounds_toArray, List.set_cons_zero, List.set_cons_succ]
        refine wpAnyH_take (i := 5) (v := ?_) rfl (by kernel_rfl) (by kernel_rfl) (by kernel_rfl) (fun _ _ _ h => h) (Or.inl ⟨by rfl, ?_⟩) (by assumption) ?_
        rotate_left 1
        · intro w hSw; (try dsimp only at hSw); go_simp; first | done | with_reducible rfl | (rw [if_neg (by omega)])
        try simp only [Act.put, List.getElem_toArray, List.getElem_cons_zero, List.getElem_cons_succ, List.setIfInBounds_toArray, List.set_cons_zero, List.set_cons_succ]
        refine wpAnyH_take (i := 6) (v := ?_) rfl (by kernel_rfl) (by kernel_rfl) (by kernel_rfl) (fun _ _ _ h => h) (Or.inl ⟨by rfl, ?_⟩) (by assumption) ?_
        rotate_left 1
        · intro w hSw; (try dsimp only at hSw); go_simp; first | done | with_reducible rfl | (rw [if_neg (by omega)])
        try simp only [Act.put, List.getElem_toArray, List.getElem_cons_zero, List.getElem_cons_succ, List.setIfInBounds_toArray, List.set_cons_zero, List.set_cons_succ]
        refine wpAnyH_take (i := 7) (v := ?_) rfl (by kernel_rfl) (by kernel_rfl) (by kernel_rfl) (fun _ _ _ h => h) (Or.inl ⟨by rfl, ?_⟩) (by assumption) ?_
        rotate_left 1
        · intro w hSw; (try dsimp only at hSw); go_simp; first | done | with_reducible rfl | (rw [if_neg (by omega)])
        try simp only [Act.put, List.getElem_toArray, List.getElem_cons_zero, List.getElem_cons_succ, List.setIfInBounds_toArray, List.set_cons_zero, List.set_cons_succ]
        refine wpAnyH_take (i := 8) (v := ?_) rfl (by kernel_rfl) (by kernel_rfl) (by kernel_rfl) (fun _ _ _ h => h) (Or.inl ⟨by rfl, ?_⟩) (by assumption) ?_
        rotate_left 1
        · intro w hSw; (try dsimp only at hSw); go_simp; first | done | with_reducible rfl | (rw [if_neg (by omega)])
        try simp only [Act.put, List.getElem_toArray, List.getElem_cons_zero, List.getElem_cons_succ, List.setIfInBounds_toArray, List.set_cons_zero, List.set_cons_succ]
        refine wpAnyH_ready (rs := [3, 10]) (by kernel_rfl) (by simp) ?_
        refine AllReadyH.cons rfl (fun K hK => ?_) (AllReadyH.cons rfl (fun K hK => ?_) (AllReadyH.nil))
        · go_simp
          refine (cM _).mono ?_
          rintro ee W2 ⟨rfl, b2⟩
          have b2 : Below W1.heap.size W1 W2 := (Below.refl W1.heap.size W1).drew.trans b2
          have HA2 : Hid _ := (b2.block w.heap.size (show w.heap.size < W1.heap.size by omega)).trans HA1.out
          have HC2 : Hid _ := (b2.block V.heap.size (show V.heap.size < W1.heap.size by omega)).trans HC1.out
          have HB2 : Hid (Below w.heap.size w W2) := nx HB1.out b2
          have hs2 := b2.size
          obtain ⟨za0, za1, za2⟩ := three_box HA2.out
          obtain ⟨zc0, zc1, zc2, zc3, zc4, zc5, zc6⟩ := seven_box HC2.out
          refine hK.out _ _ (by exact ⟨za0, za1, za2, zc0, zc1, zc2, zc3, zc4, zc5, zc6⟩) (fun hHeld => ?_)
          clear hK K
          try simp only [Act.put, List.getElem_toArray, List.getElem_cons_zero, List.getElem_cons_succ, List.setIfInBounds_toArray, List.set_cons_zero, List.set_cons_succ]
          refine wpAnyH_take (i := 4) (v := ?_) rfl (by kernel_rfl) (by kernel_rfl) (by kernel_rfl) (fun _ _ _ h => h) (Or.inl ⟨by rfl, ?_⟩) (by assumption) ?_
          rotate_left 1
          · intro w hSw; (try dsimp only at hSw); go_simp; first | done | with_reducible rfl | (rw [if_neg (by omega)])
          try simp only [Act.put, List.getElem_toArray, List.getElem_cons_zero, List.getElem_cons_succ, List.setIfInBounds_toArray, List.set_cons_zero, List.set_cons_succ]
          refine wpAnyH_take (i := 9) (v := ?_) rfl (by kernel_rfl) (by kernel_rfl) (by kernel_rfl) (fun _ _ _ h => h) (Or.inl ⟨by rfl, ?_⟩) (by assumption) ?_
          rotate_left 1
          · intro w hSw; (try dsimp only at hSw); go_simp; first | done | with_reducible rfl | (rw [if_neg (by omega)])
          try simp only [Act.put, List.getElem_toArray, List.getElem_cons_zero, List.getElem_cons_succ, List.setIfInBounds_toArray, List.set_cons_zero, List.set_cons_succ]
          obtain ⟨W3, hW3⟩ : ∃ W, (W2).alloc (.cells #[.int .i64 0, .int .i64 0, .int .i64 0] 55) = W := ⟨_, rfl⟩
          have hs3 : W3.heap.size = W2.heap.size + 1 := by rw [← hW3]; simp
          have HZ3 : Hid (W3.heap[W2.heap.size]? = some (.cells #[.int .i64 0, .int .i64 0, .int .i64 0] 55 (0, 0))) := by rw [← hW3]; exact KLe.heap_alloc_at _ _ _ (by simp)
          have b3 : Below W2.heap.size W2 W3 := by rw [← hW3]; exact ((Below.refl _ W2)).alloc (by simp) _
          have HA3 : Hid _ := (b3.block w.heap.size (show w.heap.size < W2.heap.size by omega)).trans HA2.out
          have HC3 : Hid _ := (b3.block V.heap.size (show V.heap.size < W2.heap.size by omega)).trans HC2.out
          have HB3 : Hid (Below w.heap.size w W3) := nx HB2.out b3
          refine wpAnyH_ready (rs := [10]) (by kernel_rfl) (by simp) ?_
          refine AllReadyH.cons rfl (fun K hK => ?_) AllReadyH.nil
          go_simp
          try rw [hW3]
          obtain ⟨za0, za1, za2⟩ := three_box HA3.out
          obtain ⟨zc0, zc1, zc2, zc3, zc4, zc5, zc6⟩ := seven_box HC3.out
          refine hK.out _ _ (by exact ⟨za0, za1, za2, zc0, zc1, zc2, zc3, zc4, zc5, zc6⟩) (fun hHeld => ?_)
          clear hK K
          try simp only [Act.put, List.getElem_toArray, List.getElem_cons_zero, List.getElem_cons_succ, List.setIfInBounds_toArray, List.set_cons_zero, List.set_cons_succ]
          obtain ⟨r0, r1, r2⟩ := three_box HZ3.out
          have rf0 := frozen_box HZ3.out 0
          have rf1 := frozen_box HZ3.out 1
          have rf2 := frozen_box HZ3.out 2
          obtain ⟨W9, hW9⟩ : ∃ W9, ((W3.setCell ⟨W2.heap.size, 0, none⟩ (.int .i64 (s + Mr))).setCell ⟨W2.heap.size, 1, none⟩ (.int .i64 e)).setCell ⟨W2.heap.size, 2, none⟩ (.int .i64 l) = W9 := ⟨_, rfl⟩
          obtain ⟨g1, g2, g3, g4⟩ := set3 HZ3.out hW9
          have HA9 : Hid _ := (g2 w.heap.size (by omega)).trans HA3.out
          have HC9 : Hid _ := (g2 V.heap.size (by omega)).trans HC3.out
          have HL9 : Hid (Lk w V.heap.size (W2.heap.size) #[.int .i64 s, .int .i64 e, .int .i64 l] #[.int .i64 y.k, .string y.t, .slice a1 y.f.length c1, .slice a2 y.p.length c2, .slice a3 y.x.length c3, .slice a4 y.l.length c4, .slice a5 y.u.length c5] #[.int .i64 (s + Mr), .int .i64 e, .int .i64 l] W9) := ⟨HB3.out.trans (g4 _ (by omega)), HA9.out, HC9.out, g1, by omega⟩
          refine wpAnyH_ready (rs := [11]) (by kernel_rfl) (by simp) ?_
          refine AllReadyH.cons rfl (fun K hK => ?_) AllReadyH.nil
          go_wp2_with fail
          try rw [hW9]
          obtain ⟨za0, za1, za2⟩ := three_box HA9.out
          obtain ⟨zc0, zc1, zc2, zc3, zc4, zc5, zc6⟩ := seven_box HC9.out
          refine hK.out _ _ (by exact ⟨za0, za1, za2, zc0, zc1, zc2, zc3, zc4, zc5, zc6⟩) (fun hHeld => ?_)
          clear hK K
          try simp only [Act.put, List.getElem_toArray, List.getElem_cons_zero, List.getElem_cons_succ, List.setIfInBounds_toArray, List.set_cons_zero, List.set_cons_succ]
          refine wpAnyH_done (by kernel_rfl) ?_ _
          go_wp2_with fail
          go_meet
          case rel => exact ⟨_, rfl, HL9.out⟩
        · obtain ⟨W2, hW2⟩ : ∃ W, (W1.drew).alloc (.cells #[.int .i64 0, .int .i64 0, .int .i64 0] 55) = W := ⟨_, rfl⟩
          have hs2 : W2.heap.size = W1.heap.size + 1 := by rw [← hW2]; simp
          have HZ2 : Hid (W2.heap[W1.heap.size]? = some (.cells #[.int .i64 0, .int .i64 0, .int .i64 0] 55 (0, 0))) := by rw [← hW2]; exact KLe.heap_alloc_at _ _ _ (by simp)
          have b2 : Below W1.heap.size W1 W2 := by rw [← hW2]; exact ((Below.refl _ W1).drew).alloc (by simp) _
          have HA2 : Hid _ := (b2.block w.heap.size (show w.heap.size < W1.heap.size by omega)).trans HA1.out
          have HC2 : Hid _ := (b2.block V.heap.size (show V.heap.size < W1.heap.size by omega)).trans HC1.out
          have HB2 : Hid (Below w.heap.size w W2) := nx HB1.out b2
          go_simp
          try rw [hW2]
          obtain ⟨za0, za1, za2⟩ := three_box HA2.out
          obtain ⟨zc0, zc1, zc2, zc3, zc4, zc5, zc6⟩ := seven_box HC2.out
          refine hK.out _ _ (by exact ⟨za0, za1, za2, zc0, zc1, zc2, zc3, zc4, zc5, zc6⟩) (fun hHeld => ?_)
          clear hK K
          try simp only [Act.put, List.getElem_toArray, List.getElem_cons_zero, List.getElem_cons_succ, List.setIfInBounds_toArray, List.set_cons_zero, List.set_cons_succ]
          refine wpAnyH_ready (rs := [3]) (by kernel_rfl) (by simp) ?_
          refine AllReadyH.cons rfl (fun K hK => ?_) AllReadyH.nil
          go_simp
          refine (cM _).mono ?_
          rintro ee W3 ⟨rfl, b3⟩
          have b3 : Below W2.heap.size W2 W3 := b3
          have HA3 : Hid _ := (b3.block w.heap.size (show w.heap.size < W2.heap.size by omega)).trans HA2.out
          have HC3 : Hid _ := (b3.block V.heap.size (show V.heap.size < W2.heap.size by omega)).trans HC2.out
          have HB3 : Hid (Below w.heap.size w W3) := nx HB2.out b3
          have hs3 := b3.size
          have HZ3 : Hid (W3.heap[V.heap.size + 1]? = some (.cells #[.int .i64 0, .int .i64 0, .int .i64 0] 55 (0, 0))) := by
            show _ = _
            rw [← hs1]
            exact (b3.block W1.heap.size (show W1.heap.size < W2.heap.size by omega)).trans HZ2.out
          obtain ⟨za0, za1, za2⟩ := three_box HA3.out
          obtain ⟨zc0, zc1, zc2, zc3, zc4, zc5, zc6⟩ := seven_box HC3.out
          refine hK.out _ _ (by exact ⟨za0, za1, za2, zc0, zc1, zc2, zc3, zc4, zc5, zc6⟩) (fun hHeld => ?_)
          clear hK K
          try simp only [Act.put, List.getElem_toArray, List.getElem_cons_zero, List.getElem_cons_succ, List.setIfInBounds_toArray, List.set_cons_zero, List.set_cons_succ]
          refine wpAnyH_take (i := 4) (v := ?_) rfl (by kernel_rfl) (by kernel_rfl) (by kernel_rfl) (fun _ _ _ h => h) (Or.inl ⟨by rfl, ?_⟩) (by assumption) ?_
          rotate_left 1
          · intro w hSw; (try dsimp only at hSw); go_simp; first | done | with_reducible rfl | (rw [if_neg (by omega)])
          try simp only [Act.put, List.getElem_toArray, List.getElem_cons_zero, List.getElem_cons_succ, List.setIfInBounds_toArray, List.set_cons_zero, List.set_cons_succ]
          refine wpAnyH_take (i := 9) (v := ?_) rfl (by kernel_rfl) (by kernel_rfl) (by kernel_rfl) (fun _ _ _ h => h) (Or.inl ⟨by rfl, ?_⟩) (by assumption) ?_
          rotate_left 1
          · intro w hSw; (try dsimp only at hSw); go_simp; first | done | with_reducible rfl | (rw [if_neg (by omega)])
          try simp only [Act.put, List.getElem_toArray, List.getElem_cons_zero, List.getElem_cons_succ, List.setIfInBounds_toArray, List.set_cons_zero, List.set_cons_succ]
          obtain ⟨r0, r1, r2⟩ := three_box HZ3.out
          have rf0 := frozen_box HZ3.out 0
          have rf1 := frozen_box HZ3.out 1
          have rf2 := frozen_box HZ3.out 2
          obtain ⟨W9, hW9⟩ : ∃ W9, ((W3.setCell ⟨V.heap.size + 1, 0, none⟩ (.int .i64 (s + Mr))).setCell ⟨V.heap.size + 1, 1, none⟩ (.int .i64 e)).setCell ⟨V.heap.size + 1, 2, none⟩ (.int .i64 l) = W9 := ⟨_, rfl⟩
          obtain ⟨g1, g2, g3, g4⟩ := set3 HZ3.out hW9
          have HA9 : Hid _ := (g2 w.heap.size (by omega)).trans HA3.out
          have HC9 : Hid _ := (g2 V.heap.size (by omega)).trans HC3.out
          have HL9 : Hid (Lk w V.heap.size (V.heap.size + 1) #[.int .i64 s, .int .i64 e, .int .i64 l] #[.int .i64 y.k, .string y.t, .slice a1 y.f.length c1, .slice a2 y.p.length c2, .slice a3 y.x.length c3, .slice a4 y.l.length c4, .slice a5 y.u.length c5] #[.int .i64 (s + Mr), .int .i64 e, .int .i64 l] W9) := ⟨HB3.out.trans (g4 _ (by omega)), HA9.out, HC9.out, g1, by omega⟩
          refine wpAnyH_ready (rs := [11]) (by kernel_rfl) (by simp) ?_
          refine AllReadyH.cons rfl (fun K hK => ?_) AllReadyH.nil
          go_wp2_with fail
          try rw [hW9]
          obtain ⟨za0, za1, za2⟩ := three_box HA9.out
          obtain ⟨zc0, zc1, zc2, zc3, zc4, zc5, zc6⟩ := seven_box HC9.out
          refine hK.out _ _ (by exact ⟨za0, za1, za2, zc0, zc1, zc2, zc3, zc4, zc5, zc6⟩) (fun hHeld => ?_)
          clear hK K
          try simp only [Act.put, List.getElem_toArray, List.getElem_cons_zero, List.getElem_cons_succ, List.setIfInBounds_toArray, List.set_cons_zero, List.set_cons_succ]
          refine wpAnyH_done (by kernel_rfl) ?_ _
          go_wp2_with fail
          go_meet
          case rel => exact ⟨_, rfl, HL9.out⟩
      case rest =>
        obtain ⟨R, rfl, hk⟩ := hcut
        obtain ⟨V2, hV2⟩ : ∃ V2, V2 = wc := ⟨_, rfl⟩
        subst hV2
        obtain ⟨E', hE'⟩ : ∃ z : Int, e + (if y.k = 2 then 1 else 0) = z := ⟨_, rfl⟩
        obtain ⟨L', hL'⟩ : ∃ z : Int, l + (if y.k = 4 then 1 else 0) = z := ⟨_, rfl⟩
        have HE' : Hid (e + (if y.k = 2 then 1 else 0) = E') := hE'
        have HL' : Hid (l + (if y.k = 4 then 1 else 0) = L') := hL'
        have bE' : 0 ≤ E' ∧ E' ≤ 64 := by rw [← hE']; split <;> omega
        have bL' : 0 ≤ L' ∧ L' ≤ 9 := by rw [← hL']; split <;> omega
        have HK1 : Hid (Lk w V.heap.size R #[.int .i64 s, .int .i64 e, .int .i64 l] #[.int .i64 y.k, .string y.t, .slice a1 y.f.length c1, .slice a2 y.p.length c2, .slice a3 y.x.length c3, .slice a4 y.l.length c4, .slice a5 y.u.length c5] #[.int .i64 (s + Mr), .int .i64 (e), .int .i64 (l)] V2) := hk
        obtain ⟨za0, za1, za2⟩ := three_box hk.ba
        obtain ⟨zc0, zc1, zc2, zc3, zc4, zc5, zc6⟩ := seven_box hk.bc
        obtain ⟨zi0, zi1, zi2⟩ := three_box hk.bi
        have fi1 := frozen_box hk.bi 1
        have hw1 : IntKind.i64.wrap (e + 1) = e + 1 := by rw [IntKind.wrap_i64]; omega
        have hw2 : IntKind.i64.wrap (l + 1) = l + 1 := by rw [IntKind.wrap_i64]; omega
        clear hE' hL' hk
        go_upto_if 39 with fail
        go_cut [] from 40 to 43 (fun wd => Lk w V.heap.size R #[.int .i64 s, .int .i64 e, .int .i64 l] #[.int .i64 y.k, .string y.t, .slice a1 y.f.length c1, .slice a2 y.p.length c2, .slice a3 y.x.length c3, .slice a4 y.l.length c4, .slice a5 y.u.length c5] #[.int .i64 (s + Mr), .int .i64 (E'), .int .i64 (l)] wd)
        case first =>
          by_cases h2 : y.k = 2
          · have e2 : (y.k == 2) = true := by simp [h2]
            have HX : Hid (Lk w V.heap.size R #[.int .i64 s, .int .i64 e, .int .i64 l] #[.int .i64 y.k, .string y.t, .slice a1 y.f.length c1, .slice a2 y.p.length c2, .slice a3 y.x.length c3, .slice a4 y.l.length c4, .slice a5 y.u.length c5] #[.int .i64 (s + Mr), .int .i64 (e + 1), .int .i64 (l)] (V2.setCell ⟨R, 1, none⟩ (.int .i64 (e + 1)))) := HK1.out.set 1 _
            have HEq : Hid (e + 1 = E') := by have := HE'.out; rw [if_pos h2] at this; exact this
            clear h2
            go_wp2_with fail
            go_meet
            case rel =>
              have := HX.out
              rw [HEq.out] at this
              first | exact this | (rw [HEq.out]; exact this)
          · have e2 : (y.k == 2) = false := by simp [h2]
            have HEq : Hid (e = E') := by have := HE'.out; rw [if_neg h2] at this; show _ = _; omega
            clear h2
            go_wp2_with fail
            go_meet
            case rel =>
              have := HK1.out
              rw [HEq.out] at this
              first | exact this | (rw [HEq.out]; exact this)
        case rest =>
          have HK2 : Hid (Lk w V.heap.size R #[.int .i64 s, .int .i64 e, .int .i64 l] #[.int .i64 y.k, .string y.t, .slice a1 y.f.length c1, .slice a2 y.p.length c2, .slice a3 y.x.length c3, .slice a4 y.l.length c4, .slice a5 y.u.length c5] #[.int .i64 (s + Mr), .int .i64 (E'), .int .i64 (l)] wc) := hcut
          obtain ⟨V3, hV3⟩ : ∃ V3, V3 = wc := ⟨_, rfl⟩
          subst hV3
          clear HK1 za0 za1 za2 zc0 zc1 zc2 zc3 zc4 zc5 zc6 zi0 zi1 zi2 fi1
          have hk := hcut
          obtain ⟨za0, za1, za2⟩ := three_box hk.ba
          obtain ⟨zc0, zc1, zc2, zc3, zc4, zc5, zc6⟩ := seven_box hk.bc
          obtain ⟨zi0, zi1, zi2⟩ := three_box hk.bi
          have fi2 := frozen_box hk.bi 2
          clear hk hcut
          go_upto_if 46 with fail
          go_cut [] from 47 to 50 (fun wd => Lk w V.heap.size R #[.int .i64 s, .int .i64 e, .int .i64 l] #[.int .i64 y.k, .string y.t, .slice a1 y.f.length c1, .slice a2 y.p.length c2, .slice a3 y.x.length c3, .slice a4 y.l.length c4, .slice a5 y.u.length c5] #[.int .i64 (s + Mr), .int .i64 (E'), .int .i64 (L')] wd)
          case first =>
            by_cases h4 : y.k = 4
            · have e4 : (y.k == 4) = true := by simp [h4]
              have HX : Hid (Lk w V.heap.size R #[.int .i64 s, .int .i64 e, .int .i64 l] #[.int .i64 y.k, .string y.t, .slice a1 y.f.length c1, .slice a2 y.p.length c2, .slice a3 y.x.length c3, .slice a4 y.l.length c4, .slice a5 y.u.length c5] #[.int .i64 (s + Mr), .int .i64 (E'), .int .i64 (l + 1)] (V3.setCell ⟨R, 2, none⟩ (.int .i64 (l + 1)))) := HK2.out.set 2 _
              have HEq : Hid (l + 1 = L') := by have := HL'.out; rw [if_pos h4] at this; exact this
              clear h4
              go_wp2_with fail
              go_meet
              case rel =>
                have := HX.out
                rw [HEq.out] at this
                first | exact this | (rw [HEq.out]; exact this)
            · have e4 : (y.k == 4) = false := by simp [h4]
              have HEq : Hid (l = L') := by have := HL'.out; rw [if_neg h4] at this; show _ = _; omega
              clear h4
              go_wp2_with fail
              go_meet
              case rel =>
                have := HK2.out
                rw [HEq.out] at this
                first | exact this | (rw [HEq.out]; exact this)
          case rest =>
            have HK3 : Hid (Lk w V.heap.size R #[.int .i64 s, .int .i64 e, .int .i64 l] #[.int .i64 y.k, .string y.t, .slice a1 y.f.length c1, .slice a2 y.p.length c2, .slice a3 y.x.length c3, .slice a4 y.l.length c4, .slice a5 y.u.length c5] #[.int .i64 (s + Mr), .int .i64 (E'), .int .i64 (L')] wc) := hcut
            obtain ⟨V4, hV4⟩ : ∃ V4, V4 = wc := ⟨_, rfl⟩
            subst hV4
            clear HK2 za0 za1 za2 zc0 zc1 zc2 zc3 zc4 zc5 zc6 zi0 zi1 zi2 fi2 hw1 hw2
            have hk := hcut
            obtain ⟨za0, za1, za2⟩ := three_box hk.ba
            obtain ⟨zc0, zc1, zc2, zc3, zc4, zc5, zc6⟩ := seven_box hk.bc
            obtain ⟨zi0, zi1, zi2⟩ := three_box hk.bi
            have cP := KRc.pieces_c (HY.out.below hk.bel) hn
            clear hk hcut
            go_wp2_with fail
            refine cP.mono ?_
            rintro ee W5 ⟨b5, M, rfl, hM, hP⟩
            have HK5 : Hid (Lk w V.heap.size R #[.int .i64 s, .int .i64 e, .int .i64 l] #[.int .i64 y.k, .string y.t, .slice a1 y.f.length c1, .slice a2 y.p.length c2, .slice a3 y.x.length c3, .slice a4 y.l.length c4, .slice a5 y.u.length c5] #[.int .i64 (s + Mr), .int .i64 (E'), .int .i64 (L')] W5) := HK3.out.below b5
            clear za0 za1 za2 zc0 zc1 zc2 zc3 zc4 zc5 zc6 zi0 zi1 zi2
            obtain ⟨za0, za1, za2⟩ := three_box HK5.out.ba
            obtain ⟨zc0, zc1, zc2, zc3, zc4, zc5, zc6⟩ := seven_box HK5.out.bc
            obtain ⟨zi0, zi1, zi2⟩ := three_box HK5.out.bi
            have HEM' : Hid ((ent y s e l).1 = (s + Mr, E', L')) := by
              show _ = _
              rw [HEM.out, HMR.out, HE'.out, HL'.out]
            clear cP b5 HK3 HEM
            by_cases hbig : 4096 < M
            · have dM : decide ((4096 : Int) < (M : Int)) = true := decide_eq_true (by omega)
              have HTx : Hid (T.2 = 1504) := fin_bad HD.out (one_own (own_1504 (lft_no (by omega))) (by decide)) (by decide)
              clear hP
              go_wp2_with fail
              go_ret2
              exact ⟨HK5.out.bel, M, (by rw [HTx.out]; try rfl), hM, fun h => absurd (HTx.out.symm.trans h) (by decide)⟩
            have dM : decide ((4096 : Int) < (M : Int)) = false := decide_eq_false (by omega)
            have hMz : M = n + pz y := by omega
            have HLF : Hid (lft y (4096 - (n : Int)) = 4096 - (M : Int)) := by
              show _ = _
              rw [lft_yes (by omega)]
              omega
            have HNN : Hid (0 ≤ lft y (4096 - (n : Int))) := by
              show _ ≤ _
              rw [HLF.out]
              omega
            have hln : y.f.length + y.p.length + y.x.length ≤ 4096 := by unfold pz at hMz; omega
            have HLN : Hid (y.f.length + y.p.length + y.x.length ≤ 4096) := hln
            have hM4 : M ≤ 4096 := by omega
            clear hP hMz hln hbig
            have HDP : Hid (deep (ent y s e l).1.1 (ent y s e l).1.2.1 (ent y s e l).1.2.2 = (decide (64 < s + Mr) || (decide (63 < E') || decide (8 < L')))) := by
              show _ = _
              rw [HEM'.out]
              rfl
            by_cases g1 : 64 < s + Mr
            · have dg : decide ((64 : Int) < s + Mr) = true := decide_eq_true g1
              have HTx : Hid (T.2 = 1503) := fin_bad HD.out (one_own (own_1503 (by have := HNN.out; omega) (by rw [HDP.out, dg]; rfl)) (by decide)) (by decide)
              go_wp2_with fail
              go_ret2
              exact ⟨HK5.out.bel, M, (by rw [HTx.out]; try rfl), hM, fun h => absurd (HTx.out.symm.trans h) (by decide)⟩
            have dg1 : decide ((64 : Int) < s + Mr) = false := decide_eq_false g1
            by_cases g2 : 63 < E'
            · have dg : decide ((63 : Int) < E') = true := decide_eq_true g2
              have HTx : Hid (T.2 = 1503) := fin_bad HD.out (one_own (own_1503 (by have := HNN.out; omega) (by rw [HDP.out, dg, dg1]; rfl)) (by decide)) (by decide)
              go_wp2_with fail
              go_ret2
              exact ⟨HK5.out.bel, M, (by rw [HTx.out]; try rfl), hM, fun h => absurd (HTx.out.symm.trans h) (by decide)⟩
            have dg2 : decide ((63 : Int) < E') = false := decide_eq_false g2
            by_cases g3 : 8 < L'
            · have dg : decide ((8 : Int) < L') = true := decide_eq_true g3
              have HTx : Hid (T.2 = 1503) := fin_bad HD.out (one_own (own_1503 (by have := HNN.out; omega) (by rw [HDP.out, dg, dg1, dg2]; rfl)) (by decide)) (by decide)
              go_wp2_with fail
              go_ret2
              exact ⟨HK5.out.bel, M, (by rw [HTx.out]; try rfl), hM, fun h => absurd (HTx.out.symm.trans h) (by decide)⟩
            have dg3 : decide ((8 : Int) < L') = false := decide_eq_false g3
            have HDQ : Hid (deep (ent y s e l).1.1 (ent y s e l).1.2.1 (ent y s e l).1.2.2 = false) := by
              show _ = _
              rw [HDP.out, dg1, dg2, dg3]
              rfl
            clear HDP
            have cA := alone_c (HY.out.below HK5.out.bel) s e l
            obtain ⟨Z, hZ⟩ : ∃ Z, (ent y s e l).2 = Z := ⟨_, rfl⟩
            rw [hZ] at cA
            have HZ : Hid ((ent y s e l).2 = Z) := hZ
            clear hZ
            go_wp2_with fail
            refine cA.mono ?_
            rintro ee W6 ⟨rfl, b6⟩
            have HK6 : Hid (Lk w V.heap.size R #[.int .i64 s, .int .i64 e, .int .i64 l] #[.int .i64 y.k, .string y.t, .slice a1 y.f.length c1, .slice a2 y.p.length c2, .slice a3 y.x.length c3, .slice a4 y.l.length c4, .slice a5 y.u.length c5] #[.int .i64 (s + Mr), .int .i64 (E'), .int .i64 (L')] W6) := HK5.out.below b6
            clear za0 za1 za2 zc0 zc1 zc2 zc3 zc4 zc5 zc6 zi0 zi1 zi2
            obtain ⟨za0, za1, za2⟩ := three_box HK6.out.ba
            obtain ⟨zc0, zc1, zc2, zc3, zc4, zc5, zc6⟩ := seven_box HK6.out.bc
            obtain ⟨zi0, zi1, zi2⟩ := three_box HK6.out.bi
            clear cA b6 HK5
            cases Z with
            | false =>
              have HTx : Hid (T.2 = 1500) := fin_bad HD.out (one_own (own_1500 (by have := HNN.out; omega) HDQ.out HZ.out) (by decide)) (by decide)
              go_wp2_with fail
              go_ret2
              exact ⟨HK6.out.bel, M, (by rw [HTx.out]; try rfl), hM, fun h => absurd (HTx.out.symm.trans h) (by decide)⟩
            | true =>
              have cX := exprs_c (HY.out.below HK6.out.bel) (d := s) (by omega) HLN.out (fun h => ent_four HZ.out h)
              have HPI : Hid (plc y s (ent y s e l).1.1 = true ↔ ∀ j (h : j < (xsC y).length), KHs.hs (dv y.k s j) [(xsC y)[j]] = true) := by
                have := plc_iff HZ.out
                rw [HMR.out] at this
                show _ ↔ _
                rw [HEM'.out]
                exact this
              have HO1 : Hid ((xsC y).all rsv = false → own y (lft y (4096 - (n : Int))) s e l = 1501) := fun h => own_1501 (by have := HNN.out; omega) HDQ.out HZ.out h
              have HO2 : Hid ((xsC y).all rsv = true → plc y s (ent y s e l).1.1 = false → own y (lft y (4096 - (n : Int))) s e l = 1502) := fun h1 h2 => own_1502 (by have := HNN.out; omega) HDQ.out HZ.out h1 h2
              have HO0 : Hid ((xsC y).all rsv = true → plc y s (ent y s e l).1.1 = true → own y (lft y (4096 - (n : Int))) s e l = 0) := fun h1 h2 => own_0 (by have := HNN.out; omega) HDQ.out HZ.out h1 h2
              obtain ⟨X, hX⟩ : ∃ X, xsC y = X := ⟨_, rfl⟩
              have HXL : Hid (X = ex1 y.f ++ (ex2 y.p ++ y.x)) := hX.symm
              rw [hX] at cX HPI HO1 HO2 HO0
              clear hX HZ HDQ HNN
              go_wp2_with fail
              refine cX.mono ?_
              rintro ee W7 ⟨es, ds, us, rfl, CC, hEr⟩
              have HEr : Hid (Er W6 CC W7 es ds us X (dl y.k s X.length)) := hEr
              have HK7 : Hid (Lk w V.heap.size R #[.int .i64 s, .int .i64 e, .int .i64 l] #[.int .i64 y.k, .string y.t, .slice a1 y.f.length c1, .slice a2 y.p.length c2, .slice a3 y.x.length c3, .slice a4 y.l.length c4, .slice a5 y.u.length c5] #[.int .i64 (s + Mr), .int .i64 (E'), .int .i64 (L')] W7) := HK6.out.below hEr.bel
              clear za0 za1 za2 zc0 zc1 zc2 zc3 zc4 zc5 zc6 zi0 zi1 zi2
              obtain ⟨za0, za1, za2⟩ := three_box HK7.out.ba
              obtain ⟨zc0, zc1, zc2, zc3, zc4, zc5, zc6⟩ := seven_box HK7.out.bc
              obtain ⟨zi0, zi1, zi2⟩ := three_box HK7.out.bi
              obtain ⟨ae, ce, rfl, hce, hcm', hes⟩ := es_shape hEr.own
              obtain ⟨ad, cd, rfl, hcd, hcd', hds⟩ := ds_shape hEr.row
              have hul := hEr.len
              have hdl := dl_len y.k s X.length
              have HES : Hid (∀ j, (hj : j < us.length) → ∃ g, ae = some ⟨g, 0, none⟩ ∧ g < W7.heap.size ∧ XBase.Four W7 g (j * 4) us[j]) := hes
              have HDS : Hid (∀ j, (hj : j < (dl y.k s X.length).length) → ∃ g, ad = some ⟨g, 0, none⟩ ∧ g < W7.heap.size ∧ W7.cell? ⟨g, j, none⟩ = some (.int .i64 (dl y.k s X.length)[j])) := hds
              have HUL : Hid (us.length = X.length) := hul
              obtain ⟨N, hN⟩ : ∃ N, X.length = N := ⟨_, rfl⟩
              rw [hdl, hN] at hcd
              rw [hul, hN] at hce
              rw [hdl, hul, hN]
              have HN : Hid (X.length = N) := hN
              have HEl : Hid (∀ j (h : j < us.length) (h' : j < X.length), ∃ m, XBase.In false (fun _ => True) W6 m us[j] X[j]) := hEr.el
              have HB67 : Hid (Below W6.heap.size W6 W7) := hEr.bel
              have hN4 : N ≤ 100000 := by
                have h1 := ex1_len y.f
                have h2 := ex2_len y.p
                have h3 := HLN.out
                rw [← hN]
                have : X.length = (ex1 y.f).length + ((ex2 y.p).length + y.x.length) := by rw [HXL.out, List.length_append, List.length_append]
                omega
              clear hes hds hul hdl hN hEr HEr HK6 cX
              go_wp2_with fail
              go_loopw [13] (fun i wr => ∃ q2 : Nat, i = .int .i64 q2 ∧ q2 ≤ N ∧ (∀ j (h : j < X.length), j < q2 → rsv X[j] = true) ∧ Below W7.heap.size W7 wr) (fun i _ => N - (intOf i).toNat)
              case atStart => exact ⟨0, rfl, by omega, (fun j h h' => by omega), Below.refl _ _⟩
              case round =>
                obtain ⟨q2, rfl, hq2, hall, hb⟩ := hrel
                have HALL : Hid (∀ j (h : j < X.length), j < q2 → rsv X[j] = true) := hall
                have HKr : Hid (Lk w V.heap.size R #[.int .i64 s, .int .i64 e, .int .i64 l] #[.int .i64 y.k, .string y.t, .slice a1 y.f.length c1, .slice a2 y.p.length c2, .slice a3 y.x.length c3, .slice a4 y.l.length c4, .slice a5 y.u.length c5] #[.int .i64 (s + Mr), .int .i64 (E'), .int .i64 (L')] wr) := HK7.out.below hb
                clear za0 za1 za2 zc0 zc1 zc2 zc3 zc4 zc5 zc6 zi0 zi1 zi2
                obtain ⟨za0, za1, za2⟩ := three_box HKr.out.ba
                obtain ⟨zc0, zc1, zc2, zc3, zc4, zc5, zc6⟩ := seven_box HKr.out.bc
                obtain ⟨zi0, zi1, zi2⟩ := three_box HKr.out.bi
                have HBr : Hid (Below W7.heap.size W7 wr) := hb
                clear hall hb
                by_cases hlt2 : q2 < N
                · have d2 : decide ((q2 : Int) < (N : Int)) = true := by simp; omega
                  have j0 : (0 : Int) ≤ (q2 : Int) := by omega
                  have j1 : (q2 : Int) < (N : Int) := by omega
                  have hX2 : q2 < X.length := by rw [HN.out]; exact hlt2
                  have hu2 : q2 < us.length := by rw [HUL.out]; exact hX2
                  obtain ⟨ge, rfl, hge, hfo⟩ := HES.out q2 hu2
                  obtain ⟨mm, hIn⟩ := HEl.out q2 hu2 hX2
                  have hIn := (hIn.below HB67.out).below HBr.out
                  have hfo := XBase.four_below hfo HBr.out
                  obtain ⟨x0, x1, x2, x3, hE, f0, f1, f2, f3⟩ := hfo
                  rw [hE] at hIn
                  have cE := KRe.expr_c hIn
                  obtain ⟨zz, hzz⟩ : ∃ zz, rsv X[q2] = zz := ⟨_, rfl⟩
                  rw [hzz] at cE
                  have HZZ : Hid (rsv X[q2] = zz) := hzz
                  clear hIn hE hzz
                  go_wp2_with fail
                  refine cE.mono ?_
                  rintro ee W8 ⟨rfl, b8⟩
                  have HB8 : Hid (Below W7.heap.size W7 W8) := nx HBr.out b8
                  have HK8 : Hid (Lk w V.heap.size R #[.int .i64 s, .int .i64 e, .int .i64 l] #[.int .i64 y.k, .string y.t, .slice a1 y.f.length c1, .slice a2 y.p.length c2, .slice a3 y.x.length c3, .slice a4 y.l.length c4, .slice a5 y.u.length c5] #[.int .i64 (s + Mr), .int .i64 (E'), .int .i64 (L')] W8) := HKr.out.below b8
                  clear za0 za1 za2 zc0 zc1 zc2 zc3 zc4 zc5 zc6 zi0 zi1 zi2
                  obtain ⟨za0, za1, za2⟩ := three_box HK8.out.ba
                  obtain ⟨zc0, zc1, zc2, zc3, zc4, zc5, zc6⟩ := seven_box HK8.out.bc
                  obtain ⟨zi0, zi1, zi2⟩ := three_box HK8.out.bi
                  clear cE b8 f0 f1 f2 f3
                  cases zz with
                  | true =>
                    have HALL2 : Hid (∀ j (h : j < X.length), j < q2 + 1 → rsv X[j] = true) := fun j h h' => by
                      by_cases ej : j = q2
                      · subst ej; exact HZZ.out
                      · exact HALL.out j h (by omega)
                    go_wp2_with fail
                    go_roundw
                    case rel => exact ⟨q2 + 1, by go_num, by omega, HALL2.out, HB8.out⟩
                    case measure => simp only [intOf]; omega
                  | false =>
                    have HTx : Hid (T.2 = 1501) := fin_bad HD.out (one_own (HO1.out (by
                      rw [← Bool.not_eq_true, List.all_eq_true]
                      intro h
                      have := h _ (List.getElem_mem hX2)
                      rw [HZZ.out] at this
                      cases this)) (by decide)) (by decide)
                    go_wp2_with fail
                    go_ret2
                    exact ⟨HK8.out.bel, M, (by rw [HTx.out]; try rfl), hM, fun h => absurd (HTx.out.symm.trans h) (by decide)⟩
                · obtain rfl : q2 = N := by omega
                  have d2 : decide ((q2 : Int) < (q2 : Int)) = false := by simp
                  have HAX : Hid (X.all rsv = true) := by
                    show _ = _
                    rw [List.all_eq_true]
                    intro x hx
                    obtain ⟨j, hj, rfl⟩ := List.getElem_of_mem hx
                    exact HALL.out j hj (by have := HN.out; omega)
                  obtain ⟨W9, hW9⟩ : ∃ W9, W9 = wr := ⟨_, rfl⟩
                  subst hW9
                  clear HALL HO1
                  go_wp2_with fail
                  go_loopw [14] (fun i wr => ∃ q3 : Nat, i = .int .i64 q3 ∧ q3 ≤ q2 ∧ (∀ j (h : j < X.length), j < q3 → KHs.hs (dv y.k s j) [X[j]] = true) ∧ Below W9.heap.size W9 wr) (fun i _ => q2 - (intOf i).toNat)
                  case atStart => exact ⟨0, rfl, by omega, (fun j h h' => by omega), Below.refl _ _⟩
                  case round =>
                    obtain ⟨q3, rfl, hq3, hall, hb⟩ := hrel
                    have HALL : Hid (∀ j (h : j < X.length), j < q3 → KHs.hs (dv y.k s j) [X[j]] = true) := hall
                    have HKs : Hid (Lk w V.heap.size R #[.int .i64 s, .int .i64 e, .int .i64 l] #[.int .i64 y.k, .string y.t, .slice a1 y.f.length c1, .slice a2 y.p.length c2, .slice a3 y.x.length c3, .slice a4 y.l.length c4, .slice a5 y.u.length c5] #[.int .i64 (s + Mr), .int .i64 (E'), .int .i64 (L')] wr) := HKr.out.below hb
                    clear za0 za1 za2 zc0 zc1 zc2 zc3 zc4 zc5 zc6 zi0 zi1 zi2
                    obtain ⟨za0, za1, za2⟩ := three_box HKs.out.ba
                    obtain ⟨zc0, zc1, zc2, zc3, zc4, zc5, zc6⟩ := seven_box HKs.out.bc
                    obtain ⟨zi0, zi1, zi2⟩ := three_box HKs.out.bi
                    have HBs : Hid (Below W7.heap.size W7 wr) := nx HBr.out hb
                    have HBt : Hid (Below W9.heap.size W9 wr) := hb
                    clear hall hb
                    by_cases hlt3 : q3 < q2
                    · have d3 : decide ((q3 : Int) < (q2 : Int)) = true := by simp; omega
                      have j0 : (0 : Int) ≤ (q3 : Int) := by omega
                      have j1 : (q3 : Int) < (q2 : Int) := by omega
                      have hX2 : q3 < X.length := by rw [HN.out]; exact hlt3
                      have hu2 : q3 < us.length := by rw [HUL.out]; exact hX2
                      obtain ⟨ge, rfl, hge, hfo⟩ := HES.out q3 hu2
                      obtain ⟨gd, rfl, hgd, hdo⟩ := HDS.out q3 (by rw [dl_len]; exact hX2)
                      obtain ⟨mm, hIn⟩ := HEl.out q3 hu2 hX2
                      have hIn := (hIn.below HB67.out).below HBs.out
                      have hfo := XBase.four_below hfo HBs.out
                      have hdo := below_cell hdo HBs.out
                      rw [show (dl y.k s X.length)[q3]'(by rw [dl_len]; exact hX2) = dv y.k s q3 by simp [dl]] at hdo
                      obtain ⟨x0, x1, x2, x3, hE, f0, f1, f2, f3⟩ := hfo
                      rw [hE] at hIn
                      have hdd := (Below.refl wr.heap.size wr).drew
                      have cE := KRpl.places_all _ wr.drew _ _ (dv y.k s q3) (hIn.below hdd)
                      obtain ⟨dq, hdq⟩ : ∃ dq, dv y.k s q3 = dq := ⟨_, rfl⟩
                      obtain ⟨zz, hzz⟩ : ∃ zz, KHs.hs (dv y.k s q3) [X[q3]] = zz := ⟨_, rfl⟩
                      rw [hzz] at cE
                      rw [hdq] at cE hdo
                      have HZZ : Hid (KHs.hs (dv y.k s q3) [X[q3]] = zz) := hzz
                      clear hIn hE hzz hdq
                      cases zz with
                      | true =>
                        have HALL2 : Hid (∀ j (h : j < X.length), j < q3 + 1 → KHs.hs (dv y.k s j) [X[j]] = true) := fun j h h' => by
                          by_cases ej : j = q3
                          · subst ej; exact HZZ.out
                          · exact HALL.out j h (by omega)
                        go_wp2_with fail
                        go_region_with (go_at_call 45; refine cE.mono ?_; rintro ee w1 ⟨rfl, b1⟩)
                        all_goals go_wp2_with fail
                        all_goals go_roundw
                        all_goals first
                          | (case rel => exact ⟨q3 + 1, by go_num, by omega, HALL2.out, HBt.out.drew.trans (b1.mono HBt.out.size)⟩)
                          | (case measure => simp only [intOf]; omega)
                      | false =>
                        have HTx : Hid (T.2 = 1502) := fin_bad HD.out (one_own (HO2.out HAX.out (by
                          rw [← Bool.not_eq_true, HPI.out]
                          intro h
                          have := h q3 hX2
                          rw [HZZ.out] at this
                          cases this)) (by decide)) (by decide)
                        go_wp2_with fail
                        go_region_with (go_at_call 45; refine cE.mono ?_; rintro ee w1 ⟨rfl, b1⟩)
                        all_goals go_wp2_with fail
                        all_goals go_ret2
                        all_goals exact ⟨HKs.out.bel.drew.trans (b1.mono HKs.out.bel.size), M, (by rw [HTx.out]; try rfl), hM, fun h => absurd (HTx.out.symm.trans h) (by decide)⟩
                    · obtain rfl : q3 = q2 := by omega
                      have d3 : decide ((q3 : Int) < (q3 : Int)) = false := by simp
                      have HOK : Hid (own y (lft y (4096 - (n : Int))) s e l = 0) := HO0.out HAX.out (HPI.out.2 (fun j hj => HALL.out j hj (by have := HN.out; omega)))
                      have cK := Hih.out m' (by omega) wr _ y.l (s + Mr) E' L' M (HKl.out.below HKs.out.bel) (by omega) (by omega) (by omega) hM4
                      obtain ⟨K, hK⟩ : ∃ K, ndL y.l (4096 - (M : Int)) (s + Mr) E' L' = K := ⟨_, rfl⟩
                      rw [hK] at cK
                      have HK : Hid (ndL y.l (lft y (4096 - (n : Int))) (ent y s e l).1.1 (ent y s e l).1.2.1 (ent y s e l).1.2.2 = K) := by
                        show _ = _
                        rw [HLF.out, HEM'.out]
                        exact hK
                      obtain ⟨K1, K2⟩ := K
                      dsimp only at cK
                      clear hK HALL HO0 HO2 HPI
                      by_cases hk2 : K2 = 0
                      · have ek : (K2 == 0) = true := by simp [hk2]
                        have HK2 : Hid (K2 = 0) := hk2
                        clear hk2
                        go_wp2_with fail
                        refine cK.mono ?_
                        rintro ee Wa ⟨ba, M7, rfl, hM7, h7⟩
                        have h7 := h7 HK2.out
                        have hM7' := h7.1
                        have HKa : Hid (Lk w V.heap.size R #[.int .i64 s, .int .i64 e, .int .i64 l] #[.int .i64 y.k, .string y.t, .slice a1 y.f.length c1, .slice a2 y.p.length c2, .slice a3 y.x.length c3, .slice a4 y.l.length c4, .slice a5 y.u.length c5] #[.int .i64 (s + Mr), .int .i64 (E'), .int .i64 (L')] Wa) := HKs.out.below ba
                        clear za0 za1 za2 zc0 zc1 zc2 zc3 zc4 zc5 zc6 zi0 zi1 zi2
                        obtain ⟨za0, za1, za2⟩ := three_box HKa.out.ba
                        obtain ⟨zc0, zc1, zc2, zc3, zc4, zc5, zc6⟩ := seven_box HKa.out.bc
                        obtain ⟨zi0, zi1, zi2⟩ := three_box HKa.out.bi
                        have cU := Hih.out m' (by omega) Wa _ y.u (s + Mr) E' L' M7 (HKu.out.below HKa.out.bel) (by omega) (by omega) (by omega) hM7'
                        obtain ⟨U, hU⟩ : ∃ U, ndL y.u (4096 - (M7 : Int)) (s + Mr) E' L' = U := ⟨_, rfl⟩
                        rw [hU] at cU
                        have HU : Hid (ndL [y] (4096 - (n : Int)) s e l = U) := by
                          show _ = _
                          rw [one_else HOK.out (by rw [HK.out]; exact HK2.out), HK.out, HEM'.out]
                          dsimp only
                          rw [h7.2]
                          exact hU
                        obtain ⟨U1, U2⟩ := U
                        dsimp only at cU
                        clear hU cK ba h7
                        by_cases hu2 : U2 = 0
                        · have eu : (U2 != 0) = false := by simp [hu2]
                          have HU2 : Hid (U2 = 0) := hu2
                          clear hu2
                          go_wp2_with fail
                          refine cU.mono ?_
                          rintro ee Wb ⟨bb, M8, rfl, hM8, h8⟩
                          have h8 := h8 HU2.out
                          have HKb : Hid (Lk w V.heap.size R #[.int .i64 s, .int .i64 e, .int .i64 l] #[.int .i64 y.k, .string y.t, .slice a1 y.f.length c1, .slice a2 y.p.length c2, .slice a3 y.x.length c3, .slice a4 y.l.length c4, .slice a5 y.u.length c5] #[.int .i64 (s + Mr), .int .i64 (E'), .int .i64 (L')] Wb) := HKa.out.below bb
                          have HT2 : Hid (ndL (cs.drop (q + 1)) (4096 - (M8 : Int)) s e l = T) := by
                            have := fin_ok HD.out (by rw [HU.out]; exact HU2.out)
                            rw [HU.out] at this
                            dsimp only at this
                            rw [h8.2] at this
                            exact this.symm
                          have hM8' := h8.1
                          clear bb h8 cU
                          go_wp2_with fail
                          go_roundw
                          case rel => exact ⟨q + 1, M8, by go_num, rfl, by omega, hM8', HT2.out, HKb.out.bel, HKb.out.ba⟩
                          case measure => simp only [intOf]; omega
                        · have eu : (U2 != 0) = true := by simp [hu2]
                          have HTx : Hid (T.2 = U2) := fin_bad HD.out (by rw [HU.out]) hu2
                          have HNE : Hid (U2 ≠ 0) := hu2
                          clear hu2
                          go_wp2_with fail
                          refine cU.mono ?_
                          rintro ee Wb ⟨bb, M8, rfl, hM8, h8⟩
                          have HKb : Hid (Lk w V.heap.size R #[.int .i64 s, .int .i64 e, .int .i64 l] #[.int .i64 y.k, .string y.t, .slice a1 y.f.length c1, .slice a2 y.p.length c2, .slice a3 y.x.length c3, .slice a4 y.l.length c4, .slice a5 y.u.length c5] #[.int .i64 (s + Mr), .int .i64 (E'), .int .i64 (L')] Wb) := HKa.out.below bb
                          clear bb h8 cU
                          go_wp2_with fail
                          go_ret2
                          exact ⟨HKb.out.bel, M8, (by rw [HTx.out]; try rfl), hM8, fun h => absurd (HTx.out.symm.trans h) HNE.out⟩
                      · have ek : (K2 == 0) = false := by simp [hk2]
                        have ek' : (K2 != 0) = true := by simp [hk2]
                        have HTx : Hid (T.2 = K2) := fin_bad HD.out (one_kids HOK.out (by rw [HK.out]) hk2) hk2
                        have HNE : Hid (K2 ≠ 0) := hk2
                        clear hk2
                        go_wp2_with fail
                        refine cK.mono ?_
                        rintro ee Wa ⟨ba, M7, rfl, hM7, h7⟩
                        have HKa : Hid (Lk w V.heap.size R #[.int .i64 s, .int .i64 e, .int .i64 l] #[.int .i64 y.k, .string y.t, .slice a1 y.f.length c1, .slice a2 y.p.length c2, .slice a3 y.x.length c3, .slice a4 y.l.length c4, .slice a5 y.u.length c5] #[.int .i64 (s + Mr), .int .i64 (E'), .int .i64 (L')] Wa) := HKs.out.below ba
                        clear ba h7 cK
                        go_wp2_with fail
                        go_ret2
                        exact ⟨HKa.out.bel, M7, (by rw [HTx.out]; try rfl), hM7, fun h => absurd (HTx.out.symm.trans h) HNE.out⟩
    · have d0 : decide ((q : Int) < (cs.length : Int)) = false := by simp; omega
      have hT : T = (4096 - (n : Int), 0) := by
        rw [← hM, List.drop_eq_nil_of_le (by omega), ndL_nil]
      subst hT
      have HB : Hid (Below w.heap.size w V) := hb
      clear hM hb hA
      go_wp2_with fail
      go_ret2
      exact ⟨HB.out, n, rfl, by omega, ⟨hn, rfl⟩⟩
theorem look_all (m : Nat) : LI m := by
  induction m using Nat.strongRecOn with
  | _ m ih => exact look_step m ih
end Go.Proofs.YtofjedecjlodmaaGreat.KRk
