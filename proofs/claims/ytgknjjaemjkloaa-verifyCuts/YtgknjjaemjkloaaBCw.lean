/- A code, a static, a block more, appended to rows of one's own (VerifyMore). -/
import Derived.Test.YtgknjjaemjkloaaBCs
namespace Go.Proofs.Ytgknjjaemjkloaa.BCt
open Go.RowKit Go.Proofs.Ytgknjjaemjkloaa.YRr Go.Proofs.Ytgknjjaemjkloaa.YRs Go.Proofs.Ytgknjjaemjkloaa.YRl Go.Proofs.Ytgknjjaemjkloaa.BBx Go.Proofs.Ytgknjjaemjkloaa.BCg Go.Proofs.Ytgknjjaemjkloaa.BCs
open Go.Proofs.Ytgknjjaemjkloaa.YPl (Oq Bk Pg)
open Go.Proofs.Ytgknjjaemjkloaa.YEn (InPg)
open Go.Proofs.Ytgknjjaemjkloaa.BMo (nou)
open Go.Proofs.Ytgknjjaemjkloaa.BVf (cell_set)
open Go.Proofs.Ytgknjjaemjkloaa.TBase (T Keep Rg)
open Go.Proofs.Ytgknjjaemjkloaa.CPu (Ins)
set_option linter.unusedVariables false

theorem ck_null (t : Int) : CPu.ck [(1, 0)] t 64 = 0 := by
  have h : CPu.hnm t 64 1 0 = true := rfl
  simp [CPu.ck, CPu.fls, CPu.fl, CPu.lon, CPu.nd, CPu.fmd, CPu.ijp, CPu.h0, CPu.one, CPu.ldb, CPu.ld, IPure.upd, h]
def tP : T := .mk ⟨#[112]⟩ ⟨#[]⟩ [] []
theorem al_p : TPure.alone tP = true := by kernel_rfl
theorem elm_p : BPl.elm tP = true := by
  have h1 : TMeas.ck [tP] = 0 := by
    have hf : TMay.flt tP 1 (0 + 1) = 0 := by
      unfold TMay.flt
      rw [if_neg (by omega), if_neg (by omega), if_pos al_p]
    unfold TMeas.ck
    rw [TVisit.vis_cons, if_pos hf, show tP.l = [] from rfl, TVisit.vis_nil, if_pos rfl, TVisit.vis_nil]
  have h2 : TPure.eqB tP.g ByteArray.empty = false := by decide +kernel
  unfold BPl.elm
  rw [h1, h2]
  rfl
section
variable {w : World} {g p p' : Nat} {cur : Array Value} {t : TypeId} {u u0 : Value}
theorem cell_ne (hh : w.heap[g]? = some (.cells cur t (0, 0))) (hp : p ≠ p') : (w.setCell ⟨g, p, none⟩ u).cell? ⟨g, p', none⟩ = w.cell? ⟨g, p', none⟩ := by
  have h := cell_set hh p u
  simp only [World.cell?, h, hh]
  simp [hp]
theorem cell_eq (hh : w.heap[g]? = some (.cells cur t (0, 0))) (hc : w.cell? ⟨g, p, none⟩ = some u0) : (w.setCell ⟨g, p, none⟩ u).cell? ⟨g, p, none⟩ = some u := by
  have h := cell_set hh p u
  simp only [World.cell?, hh] at hc
  simp only [World.cell?, h]
  have hl : p < cur.size := by
    by_cases hl : p < cur.size
    · exact hl
    · simp [hl] at hc
  simp [hl]
end
theorem nil_rrs {α : Type} {n : Nat} {Ly : World → Nat → Nat → α → Prop} {S : Nat → Prop} {w : World} : RrS n Ly S w (.slice none 0 0) ([] : List α) := ⟨none, 0, rfl, Nat.le_refl _, by omega, by simp, fun _ => rfl, .inl rfl⟩
/-- The row of blocks, to be changed. -/
theorem rb_of {lo : Nat} {S : Nat → Prop} {w : World} {v : Value} {l : List Bk} (h : RowG HdB 44 3 lo S w v l) (hl : 0 < l.length) (h47 : l.length ≤ 140737488351232) : ∃ g o cap cur, v = .slice (some ⟨g, o, none⟩) l.length cap ∧ S g ∧ g < w.heap.size ∧ w.heap[g]? = some (.cells cur 44 (0, 0)) ∧ RrS 3 (LyBs (fun b => S b ∧ b ≠ g)) S w v l := by
  have hk := h
  obtain ⟨css, h1, -, -, hS, -⟩ := h
  rcases h1.2 with ⟨rfl, h0⟩ | ⟨g, cap, cur, rfl, hb, hh, hn, hm, hcs, htk⟩
  · omega
  · exact ⟨g, 0, cap, cur, rfl, hS g rfl, (World.ownsRow.lt h1 g rfl).2, hh, hk.rr h47 (Ly := LyBs (fun b => S b ∧ b ≠ g)) fun g' o c x hc hd => lyB (fun b hb => ⟨hb.1, fun e => hb.2.2 (by rw [e]; rfl)⟩) hc hd⟩
section
variable {S1 S : Nat → Prop} {w : World} {g o n cap : Nat} {l : List Bk} {cur : Array Value} {t : TypeId}
theorem rb_nil (h : RrS 3 (LyBs S1) S w (.slice (some ⟨g, o, none⟩) n cap) l) (hg1 : ¬ S1 g) (hh : w.heap[g]? = some (.cells cur t (0, 0))) {q : Nat} (hq : q < l.length) :
    RrS 3 (LyBs S1) S (w.setCell ⟨g, o + q * 3 + 2, none⟩ (.slice none 0 0)) (.slice (some ⟨g, o, none⟩) n cap) (l.set q (nou l[q])) := by
  obtain ⟨a, cap', e, h2, h3, h4, h5, h6⟩ := h
  cases e
  have kp : Keep S1 w (w.setCell ⟨g, o + q * 3 + 2, none⟩ (.slice none 0 0)) := fun b hb hl => Below.heap_setCell _ _ _ _ (fun e => hg1 (by rw [← show b = g from e]; exact hb))
  refine ⟨some ⟨g, o, none⟩, cap, by rw [List.length_set], by rw [List.length_set]; exact h2, h3, by rw [List.length_set]; exact h4, (fun e => by cases e), ?_⟩
  rcases h6 with h6 | ⟨g', o', e, hg, hc⟩
  · rw [h6] at hq; simp at hq
  · cases e
    refine .inr ⟨g, o, rfl, hg, fun i hi => ?_⟩
    have hi' : i < l.length := by simpa using hi
    rw [List.getElem_set]
    obtain ⟨v, u0, k0, k1, k2, k3, k4, k5⟩ := hc i hi'
    have K4 := k4.keep (Ly' := LyOs S1) (S' := S1) (fun _ h => h) fun g o x _ hg h => kO kp (fun _ h => h) hg h
    have K5 := k5.keep (Ly' := LyI) (S' := S1) (fun _ h => h) fun g o x _ hg h => kI kp hg h
    split
    · rename_i e
      subst e
      exact ⟨v, .slice none 0 0, (cell_ne hh (by omega)).trans k0, (cell_ne hh (by omega)).trans k1, cell_eq hh k2, k3, K4, nil_rrs⟩
    · rename_i e
      exact ⟨v, u0, (cell_ne hh (by omega)).trans k0, (cell_ne hh (by omega)).trans k1, (cell_ne hh (by omega)).trans k2, k3, K4, K5⟩
theorem cut_rrs {Ly : World → Nat → Nat → Oq → Prop} {k : Nat} {S2 : Nat → Prop} {w' : World} {a : Option Addr} {c : Nat} {L : List Oq} (h : RrS k Ly S2 w' (.slice a L.length c) L) (hL : 0 < L.length) : RrS k Ly S2 w' (.slice a (L.length - 1) c) L.dropLast := by
  obtain ⟨a', c', e, h2, h3, h4, h5, h6⟩ := h
  cases e
  refine ⟨a, c, by rw [List.length_dropLast], by rw [List.length_dropLast]; omega, h3, by rw [List.length_dropLast]; omega, h5, ?_⟩
  rcases h6 with h6 | ⟨g', o', e, hg, hc⟩
  · rw [h6] at hL; simp at hL
  · refine .inr ⟨g', o', e, hg, fun j hj => ?_⟩
    rw [List.getElem_dropLast]
    exact hc j (by rw [List.length_dropLast] at hj; omega)
theorem rb_cut (h : RrS 3 (LyBs S1) S w (.slice (some ⟨g, o, none⟩) n cap) l) (hg1 : ¬ S1 g) (hh : w.heap[g]? = some (.cells cur t (0, 0))) {q : Nat} (hq : q < l.length) (hne : 0 < l[q].o.length) {oa : Option Addr} {oc : Nat} (ho : w.cell? ⟨g, o + q * 3 + 1, none⟩ = some (.slice oa l[q].o.length oc)) :
    RrS 3 (LyBs S1) S (w.setCell ⟨g, o + q * 3 + 1, none⟩ (.slice oa (l[q].o.length - 1) oc)) (.slice (some ⟨g, o, none⟩) n cap) (l.set q ⟨l[q].d, l[q].o.dropLast, l[q].u⟩) := by
  obtain ⟨a, cap', e, h2, h3, h4, h5, h6⟩ := h
  cases e
  have kp : Keep S1 w (w.setCell ⟨g, o + q * 3 + 1, none⟩ (.slice oa (l[q].o.length - 1) oc)) := fun b hb hl => Below.heap_setCell _ _ _ _ (fun e => hg1 (by rw [← show b = g from e]; exact hb))
  refine ⟨some ⟨g, o, none⟩, cap, by rw [List.length_set], by rw [List.length_set]; exact h2, h3, by rw [List.length_set]; exact h4, (fun e => by cases e), ?_⟩
  rcases h6 with h6 | ⟨g', o', e, hg, hc⟩
  · rw [h6] at hq; simp at hq
  · cases e
    refine .inr ⟨g, o, rfl, hg, fun i hi => ?_⟩
    have hi' : i < l.length := by simpa using hi
    rw [List.getElem_set]
    obtain ⟨v, u0, k0, k1, k2, k3, k4, k5⟩ := hc i hi'
    have K4 := k4.keep (Ly' := LyOs S1) (S' := S1) (fun _ h => h) fun g o x _ hg h => kO kp (fun _ h => h) hg h
    have K5 := k5.keep (Ly' := LyI) (S' := S1) (fun _ h => h) fun g o x _ hg h => kI kp hg h
    split
    · rename_i e
      subst e
      rw [ho] at k1
      cases k1
      exact ⟨_, u0, (cell_ne hh (by omega)).trans k0, cell_eq hh ho, (cell_ne hh (by omega)).trans k2, k3, cut_rrs K4 hne, K5⟩
    · rename_i e
      exact ⟨v, u0, (cell_ne hh (by omega)).trans k0, (cell_ne hh (by omega)).trans k1, (cell_ne hh (by omega)).trans k2, k3, K4, K5⟩
end
/-- Some updates are gone, some not yet. -/
def mid (l : List Bk) (q : Nat) : List Bk := (l.take q).map nou ++ l.drop q
theorem mid_len (l : List Bk) (q : Nat) (h : q ≤ l.length) : (mid l q).length = l.length := by simp [mid]; omega
theorem mid_0 (l : List Bk) : mid l 0 = l := by simp [mid]
theorem mid_all (l : List Bk) : mid l l.length = l.map nou := by simp [mid]
theorem mid_get (l : List Bk) (q : Nat) (h : q < l.length) (h' : q < (mid l q).length) : (mid l q)[q] = l[q] := by
  have e : (mid l q)[q]? = l[q]? := by
    unfold mid
    rw [List.getElem?_append_right (by simp; omega), List.getElem?_drop]
    congr 1
    simp
    omega
  rw [List.getElem?_eq_getElem h', List.getElem?_eq_getElem h] at e
  exact Option.some.inj e
theorem mid_set (l : List Bk) (q : Nat) (h : q < l.length) : (mid l q).set q (nou l[q]) = mid l (q + 1) := by
  unfold mid
  rw [List.set_append_right _ _ (by simp; omega), List.drop_eq_getElem_cons h, List.take_succ_eq_append_getElem h, List.map_append]
  have e : q - ((l.take q).map nou).length = 0 := by simp; omega
  rw [e, List.set_cons_zero]
  simp
theorem mid_step {S1 S : Nat → Prop} {w : World} {g o n cap : Nat} {l : List Bk} {cur : Array Value} {t : TypeId} {q : Nat} (h : RrS 3 (LyBs S1) S w (.slice (some ⟨g, o, none⟩) n cap) (mid l q)) (hg1 : ¬ S1 g) (hh : w.heap[g]? = some (.cells cur t (0, 0))) (hq : q < l.length) :
    RrS 3 (LyBs S1) S (w.setCell ⟨g, o + q * 3 + 2, none⟩ (.slice none 0 0)) (.slice (some ⟨g, o, none⟩) n cap) (mid l (q + 1)) := by
  have h1 : q < (mid l q).length := by rw [mid_len l q (by omega)]; exact hq
  have := rb_nil h hg1 hh h1
  rwa [mid_get l q hq h1, mid_set l q hq] at this
end Go.Proofs.Ytgknjjaemjkloaa.BCt

namespace Go.Proofs.Ytgknjjaemjkloaa.BCw
open Go.RowKit Go.Proofs.Ytgknjjaemjkloaa.YRr Go.Proofs.Ytgknjjaemjkloaa.YRs Go.Proofs.Ytgknjjaemjkloaa.YRl Go.Proofs.Ytgknjjaemjkloaa.BBx Go.Proofs.Ytgknjjaemjkloaa.BCg Go.Proofs.Ytgknjjaemjkloaa.BCs Go.Proofs.Ytgknjjaemjkloaa.BCt
open Go.Proofs.Ytgknjjaemjkloaa.YPl (Oq Bk Pg)
open Go.Proofs.Ytgknjjaemjkloaa.YEn (InPg)
open Go.Proofs.Ytgknjjaemjkloaa.TBase (T Keep Rg)
open Go.Proofs.Ytgknjjaemjkloaa.CPu (Ins)
set_option linter.unusedVariables false

theorem pg_deep {K m : Nat} {w : World} {v : Value} {x : Pg} (h : InPg K m w v x) : InPg K (m + 1) w v x := by
  obtain ⟨a, n1, c1, b, n2, c2, c, n3, c3, d, n4, c4, rfl, h1, h2, h3, h4⟩ := h
  exact ⟨a, n1, c1, b, n2, c2, c, n3, c3, d, n4, c4, rfl, h1, h2, h3.weak (fun _ h => h) false id (m + 1) (Nat.le_succ _), h4⟩
/-- The blocks of a row that has grown. -/
def Up (k k' L H : Nat) : Nat → Prop := fun b => (k ≤ b ∧ b < k') ∨ (L ≤ b ∧ b < H)
section
variable {lo k k' L : Nat} {w w' : World} {v v' : Value}
theorem more_c {l : List (List Ins)} {css : List (List Value)} (q2 : css.length = l.length) (q3 : ∀ c ∈ css, c.length = 1) (q4 : ∀ g, v.ownBlock = some g → Rg k k' g ∧ g < w.heap.size) (q5 : ∀ j (h1 : j < css.length) (h2 : j < l.length), HdC (fun b => Rg k k' b ∧ b < w.heap.size ∧ v.ownBlock ≠ some b) w css[j] l[j])
    (hL : k' ≤ L) (hb : w.heap[L]? = some (.cells #[.int .i64 1, .int .i64 0] 49 (0, 0))) (hgr : w.grownBy w' v.ownBlock) (hown : w'.ownsRow lo 50 1 v' (l.length + 1) (css.flatten ++ [.slice (some ⟨L, 0, none⟩) 1 1])) (hnb : v'.ownBlock = v.ownBlock ∨ v'.ownBlock = some w.heap.size) :
    RowG HdC 50 1 lo (Up k k' L w'.heap.size) w' v' (l ++ [[(1, 0)]]) := by
  have hl : L < w.heap.size := (Array.getElem?_eq_some_iff.1 hb).1
  refine RowG.snoc sC (S := Rg k k') (S0 := fun b => b = L) q2 q3 q4 q5 ⟨_, rfl, some ⟨L, 0, none⟩, 1, rfl, by simp, by omega, by simp, (by intro e; cases e), .inr ⟨L, 0, rfl, rfl, fun j hj => ?_⟩⟩ (fun b hb' => ⟨by omega, fun e => ?_⟩) rfl hgr hown hnb (fun b hb' => .inl hb') (fun b hb' => .inr (by have := hgr.size; omega)) (fun e => .inr ⟨by omega, (World.ownsRow.lt hown _ e).2⟩)
  · obtain rfl : j = 0 := by simp at hj; omega
    exact ⟨cell_of hb 0 _ rfl, cell_of hb 1 _ rfl, (show i64 (1 : Int) by constructor <;> decide), (show i64 (0 : Int) by constructor <;> decide)⟩
  · have := (q4 b e).1.2
    omega
theorem more_t {m : Nat} {l : List T} {css : List (List Value)} (q2 : css.length = l.length) (q3 : ∀ c ∈ css, c.length = 4) (q4 : ∀ g, v.ownBlock = some g → Rg k k' g ∧ g < w.heap.size) (q5 : ∀ j (h1 : j < css.length) (h2 : j < l.length), HdT (m + 1) (fun b => Rg k k' b ∧ b < w.heap.size ∧ v.ownBlock ≠ some b) w css[j] l[j])
    (hL : L ≤ w.heap.size) (hgr : w.grownBy w' v.ownBlock) (hown : w'.ownsRow lo 53 4 v' (l.length + 1) (css.flatten ++ [.string ⟨#[112]⟩, .string ⟨#[]⟩, .slice none 0 0, .slice none 0 0])) (hnb : v'.ownBlock = v.ownBlock ∨ v'.ownBlock = some w.heap.size) :
    RowG (HdT (m + 1)) 53 4 lo (Up k k' L w'.heap.size) w' v' (l ++ [tP]) := by
  refine RowG.snoc sT (S := Rg k k') (S0 := fun _ => False) q2 q3 q4 q5 ⟨.slice none 0 0, .slice none 0 0, rfl, ?_⟩ (fun b hb' => hb'.elim) rfl hgr hown hnb (fun b hb' => .inl hb') (fun b hb' => hb'.elim) (fun e => .inr ⟨hL, (World.ownsRow.lt hown _ e).2⟩)
  unfold tP
  rw [TBase.in_iff]
  exact ⟨_, _, rfl, by decide, by decide, ⟨none, 0, rfl, by simp, by simp, by simp, (fun t ht => by cases ht), fun _ => rfl, .inl ⟨rfl, rfl⟩⟩, none, 0, rfl, by simp, by simp, by simp, fun _ => rfl, .inl ⟨rfl, rfl⟩⟩
theorem more_b {l : List Bk} {css : List (List Value)} (q2 : css.length = l.length) (q3 : ∀ c ∈ css, c.length = 3) (q4 : ∀ g, v.ownBlock = some g → Rg k k' g ∧ g < w.heap.size) (q5 : ∀ j (h1 : j < css.length) (h2 : j < l.length), HdB (fun b => Rg k k' b ∧ b < w.heap.size ∧ v.ownBlock ≠ some b) w css[j] l[j])
    (hL : L ≤ w.heap.size) (hgr : w.grownBy w' v.ownBlock) (hown : w'.ownsRow lo 44 3 v' (l.length + 1) (css.flatten ++ [.int .i64 1, .slice none 0 0, .slice none 0 0])) (hnb : v'.ownBlock = v.ownBlock ∨ v'.ownBlock = some w.heap.size) :
    RowG HdB 44 3 lo (Up k k' L w'.heap.size) w' v' (l ++ [⟨1, [], []⟩]) :=
  RowG.snoc sB (S := Rg k k') (S0 := fun _ => False) q2 q3 q4 q5 ⟨.slice none 0 0, .slice none 0 0, rfl, by constructor <;> decide, nil_rrs, nil_rrs⟩ (fun b hb' => hb'.elim) rfl hgr hown hnb (fun b hb' => .inl hb') (fun b hb' => hb'.elim) (fun e => .inr ⟨hL, (World.ownsRow.lt hown _ e).2⟩)
end
section
variable {α : Type} {Hd : Hdt α} {ty : TypeId} {n lo : Nat} {S : Nat → Prop} {w : World} {v : Value} {l : List α}
/-- A row of one's own, taken apart. -/
theorem apart (h : RowG Hd ty n lo S w v l) : ∃ css : List (List Value), w.ownsRow lo ty n v l.length css.flatten ∧ css.length = l.length ∧ (∀ c ∈ css, c.length = n) ∧ (∀ g, v.ownBlock = some g → S g ∧ g < w.heap.size) ∧ ∀ j (h1 : j < css.length) (h2 : j < l.length), Hd (fun b => S b ∧ b < w.heap.size ∧ v.ownBlock ≠ some b) w css[j] l[j] := by
  obtain ⟨css, h1, h2, h3, h4, h5⟩ := h
  exact ⟨css, h1, h2, h3, fun g hg => ⟨h4 g hg, (World.ownsRow.lt h1 g hg).2⟩, h5⟩
end
end Go.Proofs.Ytgknjjaemjkloaa.BCw
