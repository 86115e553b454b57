import Derived.Deep.RegionWith
import Derived.Laws.ResultCell
import Derived.Test.YthkpbhgbmagaeaaGreatDoorP00
import Derived.Test.YthkpbhgbmagaeaaGreatDoorP07
namespace Go.Proofs.YthkpbhgbmagaeaaGreatDoor.Copied
open Go.RowKit Go.Proofs.YthkpbhgbmagaeaaGreatDoor.Base Go.Proofs.YthkpbhgbmagaeaaGreatDoor.Fresh
set_option linter.unusedVariables false
theorem Fr.weak {w : World} {m lo hi lo' hi' : Nat} {v : Value} {c : C} (h : Fr w m lo hi v c) (h1 : lo' ≤ lo) (h2 : hi ≤ hi') : Fr w m lo' hi' v c := by
 cases m with
 | zero => rw [Fr] at h; exact h.elim
 | succ m =>
  obtain ⟨k, b, i, s, n, l⟩ := c
  rw [Fr] at h ⊢
  obtain ⟨nv, lv, a1, a2, us, cut, g1, g2, rfl, hk, hi', hs, hn1, hn2, hl1, hT, hTb, hV, hVb, hus, hc0, hcl, hcm, hel⟩ := h
  refine ⟨nv, lv, a1, a2, us, cut, by omega, g2, rfl, hk, hi', hs, hn1, hn2, hl1, ⟨hT.1, ?_⟩, hTb, hV, hVb, hus, hc0, by omega, hcm, hel⟩
  rcases hT.2 with h0 | ⟨g, cap, cur, e, hg, r⟩
  ·exact .inl h0
  ·exact .inr ⟨g, cap, cur, e, by omega, r⟩
/-- Six cells of a row written over. -/
theorem flat_set {us : List Value} {q : Nat} {u : Value} (hs : Sixes us) (hu : ∃ v0 v1 v2 v3 v4 v5, u = .agg #[v0, v1, v2, v3, v4, v5] ∧ ∀ x ∈ [v0, v1, v2, v3, v4, v5], x.oneCell' = true) : Sixes (us.set q u) := by
 intro x hx
 rcases List.mem_or_eq_of_mem_set hx with h | rfl
 ·exact hs x h
 ·exact hu
theorem ownV_set {w w' : World} {B g n cap q : Nat} {us : List Value} {v0 v1 v2 v3 v4 v5 : Value} (h : OwnV w B (.slice (some ⟨g, 0, none⟩) n cap) us) (hq : q < us.length) (h1 : ∀ x ∈ [v0, v1, v2, v3, v4, v5], x.oneCell' = true)
  (hW : ((((((w.setCell ⟨g, q * 6, none⟩ v0).setCell ⟨g, q * 6 + 1, none⟩ v1).setCell ⟨g, q * 6 + 2, none⟩ v2).setCell ⟨g, q * 6 + 3, none⟩ v3).setCell ⟨g, q * 6 + 4, none⟩ v4).setCell ⟨g, q * 6 + 5, none⟩ v5) = w') :
  OwnV w' B (.slice (some ⟨g, 0, none⟩) n cap) (us.set q (.agg #[v0, v1, v2, v3, v4, v5])) ∧ (∀ b, b ≠ g → w'.heap[b]? = w.heap[b]?) ∧ w'.heap.size = w.heap.size ∧ ∀ x k, k ≤ g → Below k x w → Below k x w' := by
 subst hW
 refine ⟨?_, fun b hb => ?_, by simp [World.setCell], fun x k hk hb => ?_⟩
 ·have hs' : Sixes (us.set q (.agg #[v0, v1, v2, v3, v4, v5])) := flat_set h.2 ⟨_, _, _, _, _, _, rfl, h1⟩
  refine ⟨?_, hs'⟩
  have hlen := h.1.1
  rcases h.1.2 with ⟨h0, _⟩ | ⟨g', cap', cur, e, hB, hg, hn, hm, hsz, htake⟩
  ·cases h0
  ·cases e
   refine ⟨by rw [flat_len hs', List.length_set], .inr ⟨g, cap, _, ?_, hB, block_set (block_set (block_set (block_set (block_set (block_set hg _) _) _) _) _) _, by rw [List.length_set]; exact hn, hm, by simp [hsz], ?_⟩⟩
   ·rw [List.length_set]
   ·apply List.ext_getElem?
    intro p
    rw [List.length_set, List.getElem?_take]
    by_cases hp : p < us.length * 6
    ·rw [if_pos hp]
     have hp6 : p / 6 < us.length := by omega
     have e6 : p / 6 * 6 + p % 6 = p := by omega
     have hr : p % 6 < 6 := by omega
     have hF := flat_get hs' (p / 6) (by rw [List.length_set]; exact hp6) (p % 6) hr
     rw [e6] at hF
     rw [hF]
     have hold : cur.toList[p]? = us[p / 6].cells.toList[p % 6]? := by
      have := flat_get h.2 (p / 6) hp6 (p % 6) hr
      rw [e6, ← htake, List.getElem?_take, if_pos hp] at this
      exact this
     have hcs : p < cur.size := by rw [hsz]; omega
     have hpc : p < cap * 6 := by omega
     rw [List.getElem_set]
     by_cases hq6 : q = p / 6
     ·rw [if_pos hq6]
      have hcase : p % 6 = 0 ∨ p % 6 = 1 ∨ p % 6 = 2 ∨ p % 6 = 3 ∨ p % 6 = 4 ∨ p % 6 = 5 := by omega
      simp only [Array.getElem?_toList, Value.cells]
      rcases hcase with h6 | h6 | h6 | h6 | h6 | h6 <;> rw [h6]
      ·have ep : p = q * 6 := by omega
       subst ep
       simp [hsz, hpc]
      ·have ep : p = q * 6 + 1 := by omega
       subst ep
       simp [hsz, hpc]
      ·have ep : p = q * 6 + 2 := by omega
       subst ep
       simp [hsz, hpc]
      ·have ep : p = q * 6 + 3 := by omega
       subst ep
       simp [hsz, hpc]
      ·have ep : p = q * 6 + 4 := by omega
       subst ep
       simp [hsz, hpc]
      ·have ep : p = q * 6 + 5 := by omega
       subst ep
       simp [hsz, hpc]
     ·rw [if_neg hq6, ← hold, Array.getElem?_toList, Array.getElem?_toList]
      rw [Array.getElem?_setIfInBounds_ne (by omega), Array.getElem?_setIfInBounds_ne (by omega), Array.getElem?_setIfInBounds_ne (by omega), Array.getElem?_setIfInBounds_ne (by omega), Array.getElem?_setIfInBounds_ne (by omega), Array.getElem?_setIfInBounds_ne (by omega)]
    ·rw [if_neg hp, List.getElem?_eq_none]
     rw [flat_len hs', List.length_set]
     omega
 ·rw [Below.heap_setCell _ _ _ _ hb, Below.heap_setCell _ _ _ _ hb, Below.heap_setCell _ _ _ _ hb, Below.heap_setCell _ _ _ _ hb, Below.heap_setCell _ _ _ _ hb, Below.heap_setCell _ _ _ _ hb]
 ·exact (((((hb.setCell (p := ⟨g, q * 6, none⟩) hk _).setCell (p := ⟨g, q * 6 + 1, none⟩) hk _).setCell (p := ⟨g, q * 6 + 2, none⟩) hk _).setCell (p := ⟨g, q * 6 + 3, none⟩) hk _).setCell (p := ⟨g, q * 6 + 4, none⟩) hk _).setCell (p := ⟨g, q * 6 + 5, none⟩) hk _
theorem frozen_own {w : World} {B : Nat} {e : TypeId} {s n n' g cap : Nat} {xs : List Value} (h : w.ownsRow B e s (.slice (some ⟨g, 0, none⟩) n' cap) n xs) (j : Nat) : w.frozen? ⟨g, j, none⟩ = false := by
 rcases h.2 with ⟨h0, _⟩ | ⟨g', cap', cur, e, _, hg, _⟩
 ·cases h0
 ·cases e
  exact frozen_box hg j
end Go.Proofs.YthkpbhgbmagaeaaGreatDoor.Copied
namespace Go.Proofs.YthkpbhgbmagaeaaGreatDoor.Part
open Go.RowKit Go.Proofs.YthkpbhgbmagaeaaGreatDoor.Base Go.Proofs.YthkpbhgbmagaeaaGreatDoor.Fresh Go.Proofs.YthkpbhgbmagaeaaGreatDoor.Copied Go.Proofs.YthkpbhgbmagaeaaGreatDoor.Eq
set_option linter.unusedVariables false
/-- Where a name stands first. -/
def fi (L : List ByteArray) (x : ByteArray) : Option Nat := L.findIdx? (eqB x)
/-- No value. -/
def noC : C := .mk 0 false 0 ⟨#[]⟩ [] []
def zV : Value := .agg #[.int .i64 0, .bool false, .int .i64 0, .string ⟨#[]⟩, .slice none 0 0, .slice none 0 0]
def oc (o : Option C) : C := o.getD noC
def oe (o : Option C) : Int := if o.isSome then 0 else 506
theorem Fr.more {w : World} : ∀ {m lo hi : Nat} {v : Value} {c : C}, Fr w m lo hi v c → Fr w (m + 1) lo hi v c := by
 intro m
 induction m with
 | zero => intro lo hi v c h; rw [Fr] at h; exact h.elim
 | succ m ih =>
  intro lo hi v c h
  obtain ⟨k, b, i, s, n, l⟩ := c
  rw [Fr] at h ⊢
  obtain ⟨nv, lv, a1, a2, us, cut, h1, h2, rfl, hk, hi', hs, hn1, hn2, hl1, hT, hTb, hV, hVb, hus, hc0, hcl, hcm, hel⟩ := h
  exact ⟨nv, lv, a1, a2, us, cut, h1, h2, rfl, hk, hi', hs, hn1, hn2, hl1, hT, hTb, hV, hVb, hus, hc0, hcl, hcm, fun j h h' => ih (hel j h h')⟩
/-- What lies in an answer: the part and the error. -/
def Ans (m : Nat) (o : Option C) (lo : Nat) (w0 : World) (e : Ending) (w' : World) : Prop := ∃ u, e = .returned (.tuple #[u, .int .i64 (oe o)]) ∧ Fr w' m lo w'.heap.size u (oc o) ∧ Below w0.heap.size w0 w'
/-- What the answer of element gives, laid out. -/
theorem Ans.out {m lo : Nat} {o : Option C} {w0 W : World} {e : Ending} {w1 : World} (h : Ans m o lo w0 e w1) :
  ∃ kk bb ii ss a1 n1 c1 a2 n2 c2, e = .returned (.tuple #[.agg #[.int .i64 kk, .bool bb, .int .i64 ii, .string ss, .slice a1 n1 c1, .slice a2 n2 c2], .int .i64 (oe o)]) ∧
   Hid (Fr w1 m lo w1.heap.size (.agg #[.int .i64 kk, .bool bb, .int .i64 ii, .string ss, .slice a1 n1 c1, .slice a2 n2 c2]) (oc o)) ∧ Below w0.heap.size w0 w1 := by
 obtain ⟨u, rfl, hfr, b1⟩ := h
 obtain ⟨y0, y1, y2, y3, y4, y5, rfl, -⟩ := hfr.in.six
 obtain ⟨a1, n1, c1, a2, n2, c2, rfl, rfl, rfl, rfl, rfl, rfl⟩ := hfr.in.kinds
 exact ⟨_, _, _, _, _, _, _, _, _, _, rfl, hfr, b1⟩
end Go.Proofs.YthkpbhgbmagaeaaGreatDoor.Part
namespace Go.Proofs.YthkpbhgbmagaeaaGreatDoor.SameV
open Go.RowKit Go.Proofs.YthkpbhgbmagaeaaGreatDoor.Base Go.Proofs.YthkpbhgbmagaeaaGreatDoor.SameT
set_option linter.unusedVariables false
def SamesV (m : Nat) : Prop := ∀ (u v : Value) (c : C) (w : World), In false All w m u c → In false All w m v c →
  Calls Tryz.prog 8 #[u, v] w fun e w' => e = .returned (.bool true) ∧ Below w.heap.size w w'
set_option maxRecDepth 20000 in
theorem sameVs_of (m : Nat) (hm : SamesV m) (u v : Value) (l : List C) (w : World) (hu : InL false All w m u l) (hv : InL false All w m v l) :
  Calls Tryz.prog 18 #[u, v] w fun e w' => e = .returned (.bool true) ∧ Below w.heap.size w w' := by
 obtain ⟨a, cap, rfl, hlc, hcm, hlen, hnil, hN⟩ := hu.out
 obtain ⟨a', cap', rfl, hlc', hm', hlen', hnil', hN'⟩ := hv.out
 clear hu hv hlen'
 go_enter Tryz.func18, Tryz.ntmps18
 go_wp2_with fail
 go_loopw [5] (fun i wr => ∃ q : Nat, q ≤ l.length ∧ i = .int .i64 q ∧ Below w.heap.size w wr) (fun i _ => l.length - (intOf i).toNat)
 case atStart => exact ⟨0, by omega, rfl, Below.refl _ _⟩
 case round =>
  obtain ⟨q, hq, rfl, hb⟩ := hrel
  by_cases hlt : q < l.length
  ·obtain ⟨g, o, x, rfl, -, hx, hin⟩ := elem_at hN hlt
   obtain ⟨g', o', y, rfl, -, hy, hin'⟩ := elem_at hN' hlt
   have hd := (Below.refl wr.heap.size wr).drew
   have c31 := hm x y l[q] wr.drew ((hin.below hb).below hd) ((hin'.below hb).below hd)
   have hx := six_below hx hb
   have hy := six_below hy hb
   obtain ⟨x0, x1, x2, x3, x4, x5, rfl, d0, d1, d2, d3, d4, d5⟩ := hx
   obtain ⟨y0, y1, y2, y3, y4, y5, rfl, e0, e1, e2, e3, e4, e5⟩ := hy
   clear hN hN' hin hin' hm
   go_wp2_with fail
   go_region_with (go_at_call 8; refine c31.mono ?_; rintro e w1 ⟨rfl, b1⟩)
   all_goals go_wp2_with fail
   all_goals go_roundw
   all_goals first
    | (case rel => exact ⟨q + 1, by omega, by go_num, hb.drew.trans (b1.mono hb.size)⟩)
    | (case measure => simp only [intOf]; omega)
  ·have hlt' : decide ((q : Int) < (l.length : Int)) = false := by simp; omega
   go_wp2_with fail
   go_ret
   exact ⟨rfl, hb⟩
set_option maxRecDepth 20000 in
theorem sameV_of (m : Nat) (hm : ∀ (u v : Value) (l : List C) (w : World), InL false All w m u l → InL false All w m v l → Calls Tryz.prog 18 #[u, v] w fun e w' => e = .returned (.bool true) ∧ Below w.heap.size w w') : SamesV (m + 1) := by
 intro u v c w hu hv
 obtain ⟨k, b, i, s, n, l⟩ := c
 rw [in_iff] at hu hv
 obtain ⟨nv, lv, rfl, hk, hi, hs, hn, hl⟩ := hu
 obtain ⟨nv', lv', rfl, -, -, -, hn', hl'⟩ := hv
 obtain ⟨W0, hW0⟩ : ∃ W0, (w.alloc (.cells #[.int .i64 k, .bool b, .int .i64 i, .string s, nv, lv] 27)).alloc (.cells #[.int .i64 k, .bool b, .int .i64 i, .string s, nv', lv'] 27) = W0 := ⟨_, rfl⟩
 have hb0 : Below w.heap.size w W0 := by rw [← hW0]; exact ((Below.refl _ w).alloc (Nat.le_refl _) _).alloc (by simp) _
 have hsz0 : W0.heap.size = w.heap.size + 2 := by rw [← hW0]; simp
 have hx0 : W0.heap[w.heap.size]? = some (.cells #[.int .i64 k, .bool b, .int .i64 i, .string s, nv, lv] 27) := by
  rw [← hW0, Below.heap_alloc _ _ _ (by simp), heap_alloc_new]
 have hx1 : W0.heap[w.heap.size + 1]? = some (.cells #[.int .i64 k, .bool b, .int .i64 i, .string s, nv', lv'] 27) := by
  have := heap_alloc_new (w.alloc (.cells #[.int .i64 k, .bool b, .int .i64 i, .string s, nv, lv] 27)) (.cells #[.int .i64 k, .bool b, .int .i64 i, .string s, nv', lv'] 27)
  rwa [hW0, World.size_alloc] at this
 have c50 := sameT_c nv nv' n W0 (hn.below hb0) (hn'.below hb0)
 obtain ⟨d0, d1, d2, d3, d4, d5⟩ := six_box hx0
 obtain ⟨e0, e1, e2, e3, e4, e5⟩ := six_box hx1
 go_enter Tryz.func8, Tryz.ntmps8
 go_wp2_with fail
 refine c50.mono ?_
 rintro e w1 ⟨rfl, b1⟩
 have k5 := (six_box ((b1.block w.heap.size (by omega)).trans hx0)).2.2.2.2.2
 have j5 := (six_box ((b1.block (w.heap.size + 1) (by omega)).trans hx1)).2.2.2.2.2
 have c51 := hm lv lv' l w1 ((hl.below hb0).below b1) ((hl'.below hb0).below b1)
 clear c50 hx0 hx1 hW0
 go_wp2_with fail
 refine c51.mono ?_
 rintro e w2 ⟨rfl, b2⟩
 go_wp2_with fail
 go_ret
 exact ⟨rfl, nx (nx hb0 b1) b2⟩
theorem samesV : ∀ m, SamesV m := by
 intro m
 induction m with
 | zero => intro u v c w h; rw [In] at h; exact h.elim
 | succ m ih => exact sameV_of m (sameVs_of m ih)
theorem sameV_c (m : Nat) (u v : Value) (c : C) (w : World) (hu : In false All w m u c) (hv : In false All w m v c) :
  Calls Tryz.prog 8 #[u, v] w fun e w' => e = .returned (.bool true) ∧ Below w.heap.size w w' := samesV m u v c w hu hv
end Go.Proofs.YthkpbhgbmagaeaaGreatDoor.SameV
namespace Go.Proofs.YthkpbhgbmagaeaaGreatDoor.Spoil
open Go.RowKit Go.Proofs.YthkpbhgbmagaeaaGreatDoor.Base Go.Proofs.YthkpbhgbmagaeaaGreatDoor.Fresh Go.Proofs.YthkpbhgbmagaeaaGreatDoor.Copied
set_option linter.unusedVariables false
/-- From w to w' at most the blocks from lo on, below hi, have changed. -/
def Out (lo hi : Nat) (w w' : World) : Prop := Below lo w w' ∧ w'.heap.size = w.heap.size ∧ ∀ b, hi ≤ b → w'.heap[b]? = w.heap[b]?
theorem Out.refl (lo hi : Nat) (w : World) : Out lo hi w w := ⟨Below.refl _ w, rfl, fun _ _ => rfl⟩
theorem Out.wide {lo hi lo' hi' : Nat} {w w' : World} (h : Out lo hi w w') (h1 : lo' ≤ lo) (h2 : hi ≤ hi') : Out lo' hi' w w' := ⟨h.1.mono h1, h.2.1, fun b hb => h.2.2 b (by omega)⟩
theorem Out.trans {lo hi : Nat} {w w1 w2 : World} (h : Out lo hi w w1) (h' : Out lo hi w1 w2) : Out lo hi w w2 := ⟨h.1.trans h'.1, h'.2.1.trans h.2.1, fun b hb => (h'.2.2 b hb).trans (h.2.2 b hb)⟩
theorem Out.set {lo hi g o : Nat} {w w' : World} (h : Out lo hi w w') (h1 : lo ≤ g) (h2 : g < hi) (x : Value) : Out lo hi w (w'.setCell ⟨g, o, none⟩ x) :=
 ⟨h.1.setCell (p := ⟨g, o, none⟩) h1 x, by simpa [World.setCell] using h.2.1, fun b hb => (Below.heap_setCell _ _ _ _ (by simp; omega)).trans (h.2.2 b hb)⟩
theorem Out.block {lo hi b : Nat} {w w' : World} (h : Out lo hi w w') (hb : b < lo ∨ hi ≤ b) : w'.heap[b]? = w.heap[b]? := by
 rcases hb with hb | hb
 ·exact h.1.block b hb
 ·exact h.2.2 b hb
theorem six_of {w w' : World} {g o : Nat} {u : Value} (h : Six w g o u) (hb : w'.heap[g]? = w.heap[g]?) : Six w' g o u :=
 (show Keep (fun b => b = g) w w' from fun b hS _ => by subst hS; exact hb).six rfl h
theorem row_of {w w' : World} {B : Nat} {e : TypeId} {s n : Nat} {v : Value} {xs : List Value} (h : w.ownsRow B e s v n xs) (hb : ∀ g, v.ownBlock = some g → w'.heap[g]? = w.heap[g]?) : w'.ownsRow B e s v n xs := by
 refine ⟨h.1, ?_⟩
 rcases h.2 with h2 | ⟨g, cap, cur, rfl, hg, hh, r⟩
 ·exact .inl h2
 ·exact .inr ⟨g, cap, cur, rfl, hg, (hb g rfl).trans hh, r⟩
set_option maxRecDepth 20000 in
theorem spoilT_c (v : Value) (n : List ByteArray) (lo hi : Nat) (w : World) (h : OwnT w lo v n) (hb : ∀ g, v.ownBlock = some g → g < hi) (hn : n.length * 16 ≤ 140737488351232) (hs : ∀ t ∈ n, t.size ≤ 140737488351232) :
  Calls Tryz.prog 20 #[v] w fun e w' => (∃ r, e = .returned r) ∧ Out lo hi w w' := by
 have hN : 0 ≤ n.length := Nat.zero_le _
 rcases h.2 with ⟨rfl, h0⟩ | ⟨g, cap, cur, rfl, hlo, hg, hnc, hm, hcs, htk⟩
 ·go_enter Tryz.func20, Tryz.ntmps20
  go_wp2_with fail
  go_loopw [2] (fun i wr => i = .int .i64 0 ∧ wr = w) (fun _ _ => 0)
  case atStart => exact ⟨rfl, rfl⟩
  case round =>
   obtain ⟨rfl, rfl⟩ := hrel
   go_wp2_with fail
   go_end0
   exact ⟨⟨_, rfl⟩, Out.refl _ _ _⟩
 ·have hghi := hb g rfl
  have hc0 : ∀ j (hj : j < n.length), cur[j]? = some (.string n[j]) := fun j hj => by
   have : (cur.toList.take (n.length * 1))[j]? = some (.string n[j]) := by rw [htk]; simp [hj]
   rw [List.getElem?_take_of_lt (by omega)] at this
   simpa using this
  clear h htk hb
  go_enter Tryz.func20, Tryz.ntmps20
  go_wp2_with fail
  go_loopw [2] (fun i wr => ∃ q : Nat, q ≤ n.length ∧ i = .int .i64 q ∧ Out lo hi w wr ∧ ∃ cur' : Array Value, wr.heap[g]? = some (.cells cur' 9 (0, 0)) ∧ ∀ j (hj : j < n.length), q ≤ j → cur'[j]? = some (.string n[j])) (fun i _ => n.length - (intOf i).toNat)
  case atStart => exact ⟨0, by omega, rfl, Out.refl _ _ _, cur, hg, fun j hj _ => hc0 j hj⟩
  case round =>
   obtain ⟨q, hq, rfl, hout, cur', hg', hc'⟩ := hrel
   by_cases hlt : q < n.length
   ·have hcell : wr.cell? ⟨g, q, none⟩ = some (.string n[q]) := by
     have := hc' q hlt (Nat.le_refl _)
     simp [World.cell?, hg', this]
    have hfz := frozen_box hg' q
    have hsz := hs n[q] (List.getElem_mem hlt)
    obtain ⟨t, ht⟩ : ∃ t, n[q] = t := ⟨_, rfl⟩
    rw [ht] at hcell hsz
    go_wp2_with fail
    go_roundw
    case rel =>
     refine ⟨q + 1, by omega, by go_num, hout.set hlo hghi _, _, block_set hg' _, fun j hj hq2 => ?_⟩
     rw [Array.getElem?_setIfInBounds_ne (by omega)]
     exact hc' j hj (by omega)
    case measure => simp only [intOf]; omega
   ·have hlt' : decide ((q : Int) < (n.length : Int)) = false := by simp; omega
    go_wp2_with fail
    go_end0
    exact ⟨⟨_, rfl⟩, hout⟩
def Spoils (m : Nat) : Prop := ∀ (w : World) (g o : Nat) (u : Value) (c : C) (lo hi : Nat), Six w g o u → w.frozen? ⟨g, o, none⟩ = false → Fr w m lo hi u c → (g < lo ∨ hi ≤ g) →
  Calls Tryz.prog 10 #[.pointer (some ⟨g, o, none⟩)] w fun e w' => (∃ r, e = .returned r) ∧ ∃ w1 z, Out lo hi w w1 ∧ w' = w1.setCell ⟨g, o, none⟩ (.int .i64 z)
set_option maxRecDepth 20000 in
theorem spoilVs_of (m : Nat) (hm : Spoils m) (w : World) (v : Value) (us : List Value) (l : List C) (a1 a2 hi : Nat) (cut : Nat → Nat) (h : OwnV w a1 v us) (hb : ∀ g, v.ownBlock = some g → g < a2) (hul : us.length = l.length)
  (hc0 : cut 0 = a2) (hcl : cut l.length ≤ hi) (hcm : ∀ j, j < l.length → cut j ≤ cut (j + 1)) (hln : l.length * 88 ≤ 140737488351232) (hel : ∀ j (h : j < us.length) (h' : j < l.length), Fr w m (cut j) (cut (j + 1)) us[j] l[j]) :
  Calls Tryz.prog 21 #[v] w fun e w' => (∃ r, e = .returned r) ∧ Out a1 hi w w' := by
 have hle := cut_le hcm
 rcases h.1.2 with ⟨rfl, h0⟩ | ⟨g, cap, cur, rfl, hlo, hg, hnc, hm', hcs, htk⟩
 ·clear hle hcm hel hb
  go_enter Tryz.func21, Tryz.ntmps21
  go_wp2_with fail
  go_loopw [2] (fun i wr => i = .int .i64 0 ∧ wr = w) (fun _ _ => 0)
  case atStart => exact ⟨rfl, rfl⟩
  case round =>
   obtain ⟨rfl, rfl⟩ := hrel
   go_wp2_with fail
   go_end0
   exact ⟨⟨_, rfl⟩, Out.refl _ _ _⟩
 ·have hga := hb g rfl
  have hsix := ownV_six h
  have HLE : Hid (∀ i j, i ≤ j → j ≤ l.length → cut i ≤ cut j) := hle
  have HM : Hid (Spoils m) := hm
  have hu1 : us.length ≤ l.length := by omega
  have hu2 : l.length ≤ us.length := by omega
  have hul' : Hid (us.length = l.length) := hul
  have HC0 : Hid (cut 0 = a2) := hc0
  clear h htk hb hle hcm hul hc0 hm
  go_enter Tryz.func21, Tryz.ntmps21
  go_wp2_with fail
  go_loopw [2] (fun i wr => ∃ q : Nat, q ≤ us.length ∧ i = .int .i64 q ∧ Out a1 hi w wr ∧ (∃ cur' : Array Value, wr.heap[g]? = some (.cells cur' 27 (0, 0))) ∧ (∀ j (hj : j < us.length), q ≤ j → Six wr g (0 + j * 6) us[j]) ∧ ∀ j (hj : j < us.length) (h' : j < l.length), q ≤ j → Fr wr m (cut j) (cut (j + 1)) us[j] l[j]) (fun i _ => us.length - (intOf i).toNat)
  case atStart => exact ⟨0, by omega, rfl, Out.refl _ _ _, ⟨cur, hg⟩, fun j hj _ => hsix j hj, fun j hj h' _ => hel j hj h'⟩
  case round =>
   obtain ⟨q, hq, rfl, hout, ⟨cur', hg'⟩, hs', hf'⟩ := hrel
   by_cases hlt : q < us.length
   ·have hlt2 : q < l.length := by omega
    have e1 := HLE.out 0 q (by omega) (by omega)
    have e2 := HLE.out (q + 1) l.length (by omega) (by omega)
    have e3 := HLE.out q (q + 1) (by omega) (by omega)
    rw [HC0.out] at e1
    have hsq := hs' q hlt (Nat.le_refl _)
    rw [Nat.zero_add] at hsq
    have c32 := HM.out wr g (q * 6) us[q] l[q] (cut q) (cut (q + 1)) hsq (frozen_box hg' _) (hf' q hlt hlt2 (Nat.le_refl _)) (by omega)
    have HS : Hid (∀ j (hj : j < us.length), q ≤ j → Six wr g (0 + j * 6) us[j]) := hs'
    have HF : Hid (∀ j (hj : j < us.length) (h' : j < l.length), q ≤ j → Fr wr m (cut j) (cut (j + 1)) us[j] l[j]) := hf'
    clear hsq hs' hf' hsix hel
    go_wp2_with fail
    refine c32.mono ?_
    rintro e w2 ⟨⟨r, rfl⟩, w1, z, ho, rfl⟩
    have hg1 := (ho.block (b := g) (by omega)).trans hg'
    clear c32
    go_wp2_with fail
    go_roundw
    case rel =>
     refine ⟨q + 1, by omega, by go_num, (hout.trans (ho.wide (by omega) (by omega))).set hlo (by omega) _, ⟨_, block_set hg1 _⟩, fun j hj hj2 => ?_, fun j hj h' hj2 => ?_⟩
     ·obtain ⟨v0, v1, v2, v3, v4, v5, e, c0, c1, c2, c3, c4, c5⟩ := six_of (HS.out j hj (by omega)) (ho.block (b := g) (by omega))
      have ne : ∀ x, x ≠ q * 6 → (⟨g, q * 6, none⟩ : Addr) ≠ ⟨g, x, none⟩ := fun x hx hh => hx (by simpa using (congrArg Addr.off hh).symm)
      exact ⟨v0, v1, v2, v3, v4, v5, e, (World.cell?_setCell_other _ _ _ _ (ne _ (by omega))).trans c0, (World.cell?_setCell_other _ _ _ _ (ne _ (by omega))).trans c1, (World.cell?_setCell_other _ _ _ _ (ne _ (by omega))).trans c2, (World.cell?_setCell_other _ _ _ _ (ne _ (by omega))).trans c3, (World.cell?_setCell_other _ _ _ _ (ne _ (by omega))).trans c4, (World.cell?_setCell_other _ _ _ _ (ne _ (by omega))).trans c5⟩
     ·refine (HF.out j hj h' (by omega)).keep fun b hb _ => ?_
      have e4 := HLE.out (q + 1) j (by omega) (by omega)
      have hb1 := hb.1
      rw [Below.heap_setCell _ _ _ _ (by simp; omega)]
      exact ho.block (by omega)
    case measure => simp only [intOf]; omega
   ·have hlt' : decide ((q : Int) < (us.length : Int)) = false := by simp; omega
    go_wp2_with fail
    go_end0
    exact ⟨⟨_, rfl⟩, hout⟩
end Go.Proofs.YthkpbhgbmagaeaaGreatDoor.Spoil
namespace Go.Proofs.YthkpbhgbmagaeaaGreatDoor.SpoF
open Go.RowKit Go.Proofs.YthkpbhgbmagaeaaGreatDoor.Base Go.Proofs.YthkpbhgbmagaeaaGreatDoor.Fresh Go.Proofs.YthkpbhgbmagaeaaGreatDoor.Copied Go.Proofs.YthkpbhgbmagaeaaGreatDoor.Own Go.Proofs.YthkpbhgbmagaeaaGreatDoor.Spoil
set_option linter.unusedVariables false
/-- From w to w' at most the blocks of S, none below lo, have changed. -/
def OutS (lo : Nat) (S : Nat → Prop) (w w' : World) : Prop := Below lo w w' ∧ w'.heap.size = w.heap.size ∧ ∀ b, ¬ S b → w'.heap[b]? = w.heap[b]?
theorem OutS.refl (lo : Nat) (S : Nat → Prop) (w : World) : OutS lo S w w := ⟨Below.refl _ w, rfl, fun _ _ => rfl⟩
theorem OutS.wide {lo : Nat} {S S' : Nat → Prop} {w w' : World} (h : OutS lo S w w') (hs : ∀ b, S b → S' b) : OutS lo S' w w' := ⟨h.1, h.2.1, fun b hb => h.2.2 b fun h1 => hb (hs b h1)⟩
theorem OutS.trans {lo : Nat} {S : Nat → Prop} {w w1 w2 : World} (h : OutS lo S w w1) (h' : OutS lo S w1 w2) : OutS lo S w w2 := ⟨h.1.trans h'.1, h'.2.1.trans h.2.1, fun b hb => (h'.2.2 b hb).trans (h.2.2 b hb)⟩
theorem OutS.set {lo g o : Nat} {S : Nat → Prop} {w w' : World} (h : OutS lo S w w') (h1 : lo ≤ g) (h2 : S g) (x : Value) : OutS lo S w (w'.setCell ⟨g, o, none⟩ x) :=
 ⟨h.1.setCell (p := ⟨g, o, none⟩) h1 x, by simpa [World.setCell] using h.2.1, fun b hb => (Below.heap_setCell _ _ _ _ (by intro e; exact hb (by simpa [e] using h2))).trans (h.2.2 b hb)⟩
theorem OutS.block {lo b : Nat} {S : Nat → Prop} {w w' : World} (h : OutS lo S w w') (hb : ¬ S b) : w'.heap[b]? = w.heap[b]? := h.2.2 b hb
set_option maxRecDepth 20000 in
theorem spoilT_c (v : Value) (n : List ByteArray) (lo : Nat) (S : Nat → Prop) (w : World) (h : OwnT w 0 v n) (hb : ∀ g, v.ownBlock = some g → lo ≤ g ∧ S g) (hn : n.length * 16 ≤ 140737488351232) (hs : ∀ t ∈ n, t.size ≤ 140737488351232) :
  Calls Tryz.prog 20 #[v] w fun e w' => (∃ r, e = .returned r) ∧ OutS lo S w w' := by
 have hN : 0 ≤ n.length := Nat.zero_le _
 rcases h.2 with ⟨rfl, h0⟩ | ⟨g, cap, cur, rfl, hlo0, hg, hnc, hm, hcs, htk⟩
 ·go_enter Tryz.func20, Tryz.ntmps20
  go_wp2_with fail
  go_loopw [2] (fun i wr => i = .int .i64 0 ∧ wr = w) (fun _ _ => 0)
  case atStart => exact ⟨rfl, rfl⟩
  case round =>
   obtain ⟨rfl, rfl⟩ := hrel
   go_wp2_with fail
   go_end0
   exact ⟨⟨_, rfl⟩, OutS.refl _ _ _⟩
 ·obtain ⟨hlo, hghi⟩ := hb g rfl
  have hc0 : ∀ j (hj : j < n.length), cur[j]? = some (.string n[j]) := fun j hj => by
   have : (cur.toList.take (n.length * 1))[j]? = some (.string n[j]) := by rw [htk]; simp [hj]
   rw [List.getElem?_take_of_lt (by omega)] at this
   simpa using this
  clear h htk hb
  go_enter Tryz.func20, Tryz.ntmps20
  go_wp2_with fail
  go_loopw [2] (fun i wr => ∃ q : Nat, q ≤ n.length ∧ i = .int .i64 q ∧ OutS lo S w wr ∧ ∃ cur' : Array Value, wr.heap[g]? = some (.cells cur' 9 (0, 0)) ∧ ∀ j (hj : j < n.length), q ≤ j → cur'[j]? = some (.string n[j])) (fun i _ => n.length - (intOf i).toNat)
  case atStart => exact ⟨0, by omega, rfl, OutS.refl _ _ _, cur, hg, fun j hj _ => hc0 j hj⟩
  case round =>
   obtain ⟨q, hq, rfl, hout, cur', hg', hc'⟩ := hrel
   by_cases hlt : q < n.length
   ·have hcell : wr.cell? ⟨g, q, none⟩ = some (.string n[q]) := by
     have := hc' q hlt (Nat.le_refl _)
     simp [World.cell?, hg', this]
    have hfz := frozen_box hg' q
    have hsz := hs n[q] (List.getElem_mem hlt)
    obtain ⟨t, ht⟩ : ∃ t, n[q] = t := ⟨_, rfl⟩
    rw [ht] at hcell hsz
    go_wp2_with fail
    go_roundw
    case rel =>
     refine ⟨q + 1, by omega, by go_num, hout.set hlo hghi _, _, block_set hg' _, fun j hj hq2 => ?_⟩
     rw [Array.getElem?_setIfInBounds_ne (by omega)]
     exact hc' j hj (by omega)
    case measure => simp only [intOf]; omega
   ·have hlt' : decide ((q : Int) < (n.length : Int)) = false := by simp; omega
    go_wp2_with fail
    go_end0
    exact ⟨⟨_, rfl⟩, hout⟩
def SpoilsF (m : Nat) : Prop := ∀ (w : World) (g o : Nat) (u : Value) (c : C) (lo : Nat) (S : Nat → Prop), Six w g o u → w.frozen? ⟨g, o, none⟩ = false → Fs w m S u c → (∀ b, S b → lo ≤ b) → ¬ S g →
  Calls Tryz.prog 10 #[.pointer (some ⟨g, o, none⟩)] w fun e w' => (∃ r, e = .returned r) ∧ ∃ w1 z, OutS lo S w w1 ∧ w' = w1.setCell ⟨g, o, none⟩ (.int .i64 z)
set_option maxRecDepth 20000 in
theorem spoilVs_of (m : Nat) (hm : SpoilsF m) (w : World) (v : Value) (us : List Value) (l : List C) (lo : Nat) (S : Nat → Prop) (T : Nat → Nat → Prop) (h : OwnV w 0 v us) (hb : ∀ g, v.ownBlock = some g → S g) (hul : us.length = l.length) (hlS : ∀ b, S b → lo ≤ b)
  (hTs : ∀ j, j < l.length → ∀ g, T j g → S g ∧ v.ownBlock ≠ some g) (hdis : ∀ j j', j < j' → j' < l.length → ∀ g, T j g → ¬ T j' g) (hln : l.length * 88 ≤ 140737488351232) (hel : ∀ j (h : j < us.length) (h' : j < l.length), Fs w m (T j) us[j] l[j]) :
  Calls Tryz.prog 21 #[v] w fun e w' => (∃ r, e = .returned r) ∧ OutS lo S w w' := by
 rcases h.1.2 with ⟨rfl, h0⟩ | ⟨g, cap, cur, rfl, hlo0, hg, hnc, hm', hcs, htk⟩
 ·clear hTs hdis hel hb
  go_enter Tryz.func21, Tryz.ntmps21
  go_wp2_with fail
  go_loopw [2] (fun i wr => i = .int .i64 0 ∧ wr = w) (fun _ _ => 0)
  case atStart => exact ⟨rfl, rfl⟩
  case round =>
   obtain ⟨rfl, rfl⟩ := hrel
   go_wp2_with fail
   go_end0
   exact ⟨⟨_, rfl⟩, OutS.refl _ _ _⟩
 ·have hga := hb g rfl
  have hlo := hlS g hga
  have hsix := ownV_six h
  have HTS : Hid (∀ j, j < l.length → ∀ b, T j b → S b ∧ g ≠ b) := fun j hj b hb => ⟨(hTs j hj b hb).1, fun e => (hTs j hj b hb).2 (by rw [e]; rfl)⟩
  have HDI : Hid (∀ j j', j < j' → j' < l.length → ∀ g, T j g → ¬ T j' g) := hdis
  have HLS : Hid (∀ b, S b → lo ≤ b) := hlS
  have HM : Hid (SpoilsF m) := hm
  have hu1 : us.length ≤ l.length := by omega
  have hu2 : l.length ≤ us.length := by omega
  have hul' : Hid (us.length = l.length) := hul
  clear h htk hb hTs hdis hlS hul hm
  go_enter Tryz.func21, Tryz.ntmps21
  go_wp2_with fail
  go_loopw [2] (fun i wr => ∃ q : Nat, q ≤ us.length ∧ i = .int .i64 q ∧ OutS lo S w wr ∧ (∃ cur' : Array Value, wr.heap[g]? = some (.cells cur' 27 (0, 0))) ∧ (∀ j (hj : j < us.length), q ≤ j → Six wr g (0 + j * 6) us[j]) ∧ ∀ j (hj : j < us.length) (h' : j < l.length), q ≤ j → Fs wr m (T j) us[j] l[j]) (fun i _ => us.length - (intOf i).toNat)
  case atStart => exact ⟨0, by omega, rfl, OutS.refl _ _ _, ⟨cur, hg⟩, fun j hj _ => hsix j hj, fun j hj h' _ => hel j hj h'⟩
  case round =>
   obtain ⟨q, hq, rfl, hout, ⟨cur', hg'⟩, hs', hf'⟩ := hrel
   by_cases hlt : q < us.length
   ·have hlt2 : q < l.length := by omega
    have hsq := hs' q hlt (Nat.le_refl _)
    rw [Nat.zero_add] at hsq
    have c32 := HM.out wr g (q * 6) us[q] l[q] lo (T q) hsq (frozen_box hg' _) (hf' q hlt hlt2 (Nat.le_refl _)) (fun b hb => HLS.out b (HTS.out q hlt2 b hb).1) (fun hb => (HTS.out q hlt2 g hb).2 rfl)
    have HS : Hid (∀ j (hj : j < us.length), q ≤ j → Six wr g (0 + j * 6) us[j]) := hs'
    have HF : Hid (∀ j (hj : j < us.length) (h' : j < l.length), q ≤ j → Fs wr m (T j) us[j] l[j]) := hf'
    clear hsq hs' hf' hsix hel
    go_wp2_with fail
    refine c32.mono ?_
    rintro e w2 ⟨⟨r, rfl⟩, w1, z, ho, rfl⟩
    have hng : ¬ T q g := fun hb => (HTS.out q hlt2 g hb).2 rfl
    have hg1 := (ho.block (b := g) hng).trans hg'
    clear c32
    go_wp2_with fail
    go_roundw
    case rel =>
     refine ⟨q + 1, by omega, by go_num, (hout.trans (ho.wide fun b hb => (HTS.out q hlt2 b hb).1)).set hlo hga _, ⟨_, block_set hg1 _⟩, fun j hj hj2 => ?_, fun j hj h' hj2 => ?_⟩
     ·obtain ⟨v0, v1, v2, v3, v4, v5, e, c0, c1, c2, c3, c4, c5⟩ := six_of (HS.out j hj (by omega)) (ho.block (b := g) hng)
      have ne : ∀ x, x ≠ q * 6 → (⟨g, q * 6, none⟩ : Addr) ≠ ⟨g, x, none⟩ := fun x hx hh => hx (by simpa using (congrArg Addr.off hh).symm)
      exact ⟨v0, v1, v2, v3, v4, v5, e, (World.cell?_setCell_other _ _ _ _ (ne _ (by omega))).trans c0, (World.cell?_setCell_other _ _ _ _ (ne _ (by omega))).trans c1, (World.cell?_setCell_other _ _ _ _ (ne _ (by omega))).trans c2, (World.cell?_setCell_other _ _ _ _ (ne _ (by omega))).trans c3, (World.cell?_setCell_other _ _ _ _ (ne _ (by omega))).trans c4, (World.cell?_setCell_other _ _ _ _ (ne _ (by omega))).trans c5⟩
     ·refine (HF.out j hj h' (by omega)).keep fun b hb _ => ?_
      rw [Below.heap_setCell _ _ _ _ (by intro e; exact (HTS.out j h' b hb).2 (by simpa using e.symm))]
      exact ho.block (fun h3 => HDI.out q j (by omega) h' b h3 hb)
    case measure => simp only [intOf]; omega
   ·have hlt' : decide ((q : Int) < (us.length : Int)) = false := by simp; omega
    go_wp2_with fail
    go_end0
    exact ⟨⟨_, rfl⟩, hout⟩
set_option maxRecDepth 20000 in
theorem spoilsF : ∀ m, SpoilsF m := by
 intro m
 induction m with
 | zero => intro w g o u c lo S _ _ h; rw [Fs] at h; exact h.elim
 | succ m ih =>
  intro w g o u c lo S hsix hfz hfr hlS hgo
  obtain ⟨k, b, i, s, n, l⟩ := c
  rw [Fs] at hfr
  obtain ⟨nv, lv, us, T, rfl, hk, hi', hs, hn1, hn2, hl1, hT, hTb, hV, hVb, hus, hTs, hdis, hel⟩ := hfr
  obtain ⟨v0, v1, v2, v3, v4, v5, e, k0, k1, k2, k3, k4, k5⟩ := id hsix
  simp only [Value.agg.injEq, Array.mk.injEq, List.cons.injEq, and_true] at e
  obtain ⟨rfl, rfl, rfl, rfl, rfl, rfl⟩ := e
  have c52 := spoilT_c nv n lo (fun b => nv.ownBlock = some b) w hT (fun g hg => ⟨hlS g (hTb g hg), hg⟩) hn1 hn2
  have C53 : Hid (∀ w2, OutS lo (fun b => nv.ownBlock = some b) w w2 → Calls Tryz.prog 21 #[lv] w2 fun e w' => (∃ r, e = .returned r) ∧ OutS lo S w2 w') := fun w2 ho =>
   spoilVs_of m ih w2 lv us l lo S T ⟨row_of hV.1 fun g hg => ho.block (hVb g hg).2, hV.2⟩ (fun g hg => (hVb g hg).1) hus hlS (fun j hj g hg => ⟨(hTs j hj g hg).1, (hTs j hj g hg).2.2⟩) hdis hl1 fun j hj hj' => (hel j hj hj').keep fun b hb _ => ho.block (hTs j hj' b hb).2.1
  have hgo' : ¬ nv.ownBlock = some g := fun e => hgo (hTb g e)
  have HTB : Hid (∀ g, nv.ownBlock = some g → S g) := hTb
  have HS : Hid (Six w g o (.agg #[.int .i64 k, .bool b, .int .i64 i, .string s, nv, lv])) := hsix
  clear hT hTb hV hVb hel hTs hdis hsix hlS
  go_enter Tryz.func10, Tryz.ntmps10
  go_wp2_with fail
  refine c52.mono ?_
  rintro e w2 ⟨⟨r, rfl⟩, ho2⟩
  obtain ⟨v0, v1, v2, v3, v4, v5, e, l0, l1, l2, l3, l4, l5⟩ := six_of HS.out (ho2.block (b := g) hgo')
  simp only [Value.agg.injEq, Array.mk.injEq, List.cons.injEq, and_true] at e
  obtain ⟨rfl, rfl, rfl, rfl, rfl, rfl⟩ := e
  clear c52 k0 k1 k2 k3 k4 k5
  have c53 := C53.out w2 ho2
  go_wp2_with fail
  refine c53.mono ?_
  rintro e w3 ⟨⟨r', rfl⟩, ho3⟩
  have hblk := (ho3.block (b := g) hgo).trans (ho2.block (b := g) hgo')
  obtain ⟨v0, v1, v2, v3, v4, v5, e, k0, k1, k2, k3, k4, k5⟩ := six_of HS.out hblk
  simp only [Value.agg.injEq, Array.mk.injEq, List.cons.injEq, and_true] at e
  obtain ⟨rfl, rfl, rfl, rfl, rfl, rfl⟩ := e
  have hfz3 : w3.frozen? ⟨g, o, none⟩ = false := by rw [← hfz]; simp [World.frozen?, hblk]
  clear c53 l0 l1 l2 l3 l4 l5
  go_wp2_with fail
  go_end0
  exact ⟨⟨_, rfl⟩, w3, _, (ho2.wide HTB.out).trans ho3, rfl⟩
end Go.Proofs.YthkpbhgbmagaeaaGreatDoor.SpoF
