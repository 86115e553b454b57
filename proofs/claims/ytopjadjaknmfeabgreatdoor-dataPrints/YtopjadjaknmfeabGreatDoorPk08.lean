import Derived.Deep.RegionWith
import Derived.Laws.ResultCell
import Derived.Test.YtopjadjaknmfeabGreatDoorPk00
import Derived.Test.YtopjadjaknmfeabGreatDoorPk07
namespace Go.Proofs.YtopjadjaknmfeabGreatDoor.Copied
open Go.RowKit Go.Proofs.YtopjadjaknmfeabGreatDoor.Base Go.Proofs.YtopjadjaknmfeabGreatDoor.Fresh
set_option linter.unusedVariables false
theorem Fr.weak {w : World} {m lo hi lo' hi' : Nat} {v : Value} {c : C} (h : Fr w m lo hi v c) (h1 : lo' ≤ lo) (h2 : hi ≤ hi') : Fr w m lo' hi' v c := by
  cases m with
  | zero => rw [Fr] at h; exact h.elim
  | succ m =>
    obtain ⟨k, b, i, s, n, l⟩ := c
    rw [Fr] at h ⊢
    obtain ⟨nv, lv, a1, a2, us, cut, g1, g2, rfl, hk, hi', hs, hn1, hn2, hl1, hT, hTb, hV, hVb, hus, hc0, hcl, hcm, hel⟩ := h
    refine ⟨nv, lv, a1, a2, us, cut, by omega, g2, rfl, hk, hi', hs, hn1, hn2, hl1, ⟨hT.1, ?_⟩, hTb, hV, hVb, hus, hc0, by omega, hcm, hel⟩
    rcases hT.2 with h0 | ⟨g, cap, cur, e, hg, r⟩
    · exact .inl h0
    · exact .inr ⟨g, cap, cur, e, by omega, r⟩
/-- Six cells of a row written over. -/
theorem flat_set {us : List Value} {q : Nat} {u : Value} (hs : Sixes us) (hu : ∃ v0 v1 v2 v3 v4 v5, u = .agg #[v0, v1, v2, v3, v4, v5] ∧ ∀ x ∈ [v0, v1, v2, v3, v4, v5], x.oneCell' = true) : Sixes (us.set q u) := by
  intro x hx
  rcases List.mem_or_eq_of_mem_set hx with h | rfl
  · exact hs x h
  · exact hu
theorem ownV_set {w w' : World} {B g n cap q : Nat} {us : List Value} {v0 v1 v2 v3 v4 v5 : Value} (h : OwnV w B (.slice (some ⟨g, 0, none⟩) n cap) us) (hq : q < us.length) (h1 : ∀ x ∈ [v0, v1, v2, v3, v4, v5], x.oneCell' = true)
    (hW : ((((((w.setCell ⟨g, q * 6, none⟩ v0).setCell ⟨g, q * 6 + 1, none⟩ v1).setCell ⟨g, q * 6 + 2, none⟩ v2).setCell ⟨g, q * 6 + 3, none⟩ v3).setCell ⟨g, q * 6 + 4, none⟩ v4).setCell ⟨g, q * 6 + 5, none⟩ v5) = w') :
    OwnV w' B (.slice (some ⟨g, 0, none⟩) n cap) (us.set q (.agg #[v0, v1, v2, v3, v4, v5])) ∧ (∀ b, b ≠ g → w'.heap[b]? = w.heap[b]?) ∧ w'.heap.size = w.heap.size ∧ ∀ x k, k ≤ g → Below k x w → Below k x w' := by
  subst hW
  refine ⟨?_, fun b hb => ?_, by simp [World.setCell], fun x k hk hb => ?_⟩
  · have hs' : Sixes (us.set q (.agg #[v0, v1, v2, v3, v4, v5])) := flat_set h.2 ⟨_, _, _, _, _, _, rfl, h1⟩
    refine ⟨?_, hs'⟩
    have hlen := h.1.1
    rcases h.1.2 with ⟨h0, _⟩ | ⟨g', cap', cur, e, hB, hg, hn, hm, hsz, htake⟩
    · cases h0
    · cases e
      refine ⟨by rw [flat_len hs', List.length_set], .inr ⟨g, cap, _, ?_, hB, block_set (block_set (block_set (block_set (block_set (block_set hg _) _) _) _) _) _, by rw [List.length_set]; exact hn, hm, by simp [hsz], ?_⟩⟩
      · rw [List.length_set]
      · apply List.ext_getElem?
        intro p
        rw [List.length_set, List.getElem?_take]
        by_cases hp : p < us.length * 6
        · rw [if_pos hp]
          have hp6 : p / 6 < us.length := by omega
          have e6 : p / 6 * 6 + p % 6 = p := by omega
          have hr : p % 6 < 6 := by omega
          have hF := flat_get hs' (p / 6) (by rw [List.length_set]; exact hp6) (p % 6) hr
          rw [e6] at hF
          rw [hF]
          have hold : cur.toList[p]? = us[p / 6].cells.toList[p % 6]? := by
            have := flat_get h.2 (p / 6) hp6 (p % 6) hr
            rw [e6, ← htake, List.getElem?_take, if_pos hp] at this
            exact this
          have hcs : p < cur.size := by rw [hsz]; omega
          have hpc : p < cap * 6 := by omega
          rw [List.getElem_set]
          by_cases hq6 : q = p / 6
          · rw [if_pos hq6]
            have hcase : p % 6 = 0 ∨ p % 6 = 1 ∨ p % 6 = 2 ∨ p % 6 = 3 ∨ p % 6 = 4 ∨ p % 6 = 5 := by omega
            simp only [Array.getElem?_toList, Value.cells]
            rcases hcase with h6 | h6 | h6 | h6 | h6 | h6 <;> rw [h6]
            · have ep : p = q * 6 := by omega
              subst ep
              simp [hsz, hpc]
            · have ep : p = q * 6 + 1 := by omega
              subst ep
              simp [hsz, hpc]
            · have ep : p = q * 6 + 2 := by omega
              subst ep
              simp [hsz, hpc]
            · have ep : p = q * 6 + 3 := by omega
              subst ep
              simp [hsz, hpc]
            · have ep : p = q * 6 + 4 := by omega
              subst ep
              simp [hsz, hpc]
            · have ep : p = q * 6 + 5 := by omega
              subst ep
              simp [hsz, hpc]
          · rw [if_neg hq6, ← hold, Array.getElem?_toList, Array.getElem?_toList]
            rw [Array.getElem?_setIfInBounds_ne (by omega), Array.getElem?_setIfInBounds_ne (by omega), Array.getElem?_setIfInBounds_ne (by omega), Array.getElem?_setIfInBounds_ne (by omega), Array.getElem?_setIfInBounds_ne (by omega), Array.getElem?_setIfInBounds_ne (by omega)]
        · rw [if_neg hp, List.getElem?_eq_none]
          rw [flat_len hs', List.length_set]
          omega
  · rw [Below.heap_setCell _ _ _ _ hb, Below.heap_setCell _ _ _ _ hb, Below.heap_setCell _ _ _ _ hb, Below.heap_setCell _ _ _ _ hb, Below.heap_setCell _ _ _ _ hb, Below.heap_setCell _ _ _ _ hb]
  · exact (((((hb.setCell (p := ⟨g, q * 6, none⟩) hk _).setCell (p := ⟨g, q * 6 + 1, none⟩) hk _).setCell (p := ⟨g, q * 6 + 2, none⟩) hk _).setCell (p := ⟨g, q * 6 + 3, none⟩) hk _).setCell (p := ⟨g, q * 6 + 4, none⟩) hk _).setCell (p := ⟨g, q * 6 + 5, none⟩) hk _
theorem frozen_own {w : World} {B : Nat} {e : TypeId} {s n n' g cap : Nat} {xs : List Value} (h : w.ownsRow B e s (.slice (some ⟨g, 0, none⟩) n' cap) n xs) (j : Nat) : w.frozen? ⟨g, j, none⟩ = false := by
  rcases h.2 with ⟨h0, _⟩ | ⟨g', cap', cur, e, _, hg, _⟩
  · cases h0
  · cases e
    exact frozen_box hg j
end Go.Proofs.YtopjadjaknmfeabGreatDoor.Copied
namespace Go.Proofs.YtopjadjaknmfeabGreatDoor.Part
open Go.RowKit Go.Proofs.YtopjadjaknmfeabGreatDoor.Base Go.Proofs.YtopjadjaknmfeabGreatDoor.Fresh Go.Proofs.YtopjadjaknmfeabGreatDoor.Copied Go.Proofs.YtopjadjaknmfeabGreatDoor.Eq
set_option linter.unusedVariables false
/-- Where a name stands first. -/
def fi (L : List ByteArray) (x : ByteArray) : Option Nat := L.findIdx? (eqB x)
/-- No value. -/
def noC : C := .mk 0 false 0 ⟨#[]⟩ [] []
def zV : Value := .agg #[.int .i64 0, .bool false, .int .i64 0, .string ⟨#[]⟩, .slice none 0 0, .slice none 0 0]
def oc (o : Option C) : C := o.getD noC
def oe (o : Option C) : Int := if o.isSome then 0 else 506
theorem Fr.more {w : World} : ∀ {m lo hi : Nat} {v : Value} {c : C}, Fr w m lo hi v c → Fr w (m + 1) lo hi v c := by
  intro m
  induction m with
  | zero => intro lo hi v c h; rw [Fr] at h; exact h.elim
  | succ m ih =>
    intro lo hi v c h
    obtain ⟨k, b, i, s, n, l⟩ := c
    rw [Fr] at h ⊢
    obtain ⟨nv, lv, a1, a2, us, cut, h1, h2, rfl, hk, hi', hs, hn1, hn2, hl1, hT, hTb, hV, hVb, hus, hc0, hcl, hcm, hel⟩ := h
    exact ⟨nv, lv, a1, a2, us, cut, h1, h2, rfl, hk, hi', hs, hn1, hn2, hl1, hT, hTb, hV, hVb, hus, hc0, hcl, hcm, fun j h h' => ih (hel j h h')⟩
/-- What lies in an answer: the part and the error. -/
def Ans (m : Nat) (o : Option C) (lo : Nat) (w0 : World) (e : Ending) (w' : World) : Prop := ∃ u, e = .returned (.tuple #[u, .int .i64 (oe o)]) ∧ Fr w' m lo w'.heap.size u (oc o) ∧ Below w0.heap.size w0 w'
/-- What the answer of element gives, laid out. -/
theorem Ans.out {m lo : Nat} {o : Option C} {w0 W : World} {e : Ending} {w1 : World} (h : Ans m o lo w0 e w1) :
    ∃ kk bb ii ss a1 n1 c1 a2 n2 c2, e = .returned (.tuple #[.agg #[.int .i64 kk, .bool bb, .int .i64 ii, .string ss, .slice a1 n1 c1, .slice a2 n2 c2], .int .i64 (oe o)]) ∧
      Hid (Fr w1 m lo w1.heap.size (.agg #[.int .i64 kk, .bool bb, .int .i64 ii, .string ss, .slice a1 n1 c1, .slice a2 n2 c2]) (oc o)) ∧ Below w0.heap.size w0 w1 := by
  obtain ⟨u, rfl, hfr, b1⟩ := h
  obtain ⟨y0, y1, y2, y3, y4, y5, rfl, -⟩ := hfr.in.six
  obtain ⟨a1, n1, c1, a2, n2, c2, rfl, rfl, rfl, rfl, rfl, rfl⟩ := hfr.in.kinds
  exact ⟨_, _, _, _, _, _, _, _, _, _, rfl, hfr, b1⟩
end Go.Proofs.YtopjadjaknmfeabGreatDoor.Part
namespace Go.Proofs.YtopjadjaknmfeabGreatDoor.SameV
open Go.RowKit Go.Proofs.YtopjadjaknmfeabGreatDoor.Base Go.Proofs.YtopjadjaknmfeabGreatDoor.SameT
set_option linter.unusedVariables false
def SamesV (m : Nat) : Prop := ∀ (u v : Value) (c : C) (w : World), In false All w m u c → In false All w m v c →
    Calls Tryz.prog 9 #[u, v] w fun e w' => e = .returned (.bool true) ∧ Below w.heap.size w w'
set_option maxRecDepth 20000 in
theorem sameVs_of (m : Nat) (hm : SamesV m) (u v : Value) (l : List C) (w : World) (hu : InL false All w m u l) (hv : InL false All w m v l) :
    Calls Tryz.prog 26 #[u, v] w fun e w' => e = .returned (.bool true) ∧ Below w.heap.size w w' := by
  obtain ⟨a, cap, rfl, hlc, hcm, hlen, hnil, hN⟩ := hu.out
  obtain ⟨a', cap', rfl, hlc', hm', hlen', hnil', hN'⟩ := hv.out
  clear hu hv hlen'
  go_enter Tryz.func26, Tryz.ntmps26
  go_wp2_with fail
  go_loopw [5] (fun i wr => ∃ q : Nat, q ≤ l.length ∧ i = .int .i64 q ∧ Below w.heap.size w wr) (fun i _ => l.length - (intOf i).toNat)
  case atStart => exact ⟨0, by omega, rfl, Below.refl _ _⟩
  case round =>
    obtain ⟨q, hq, rfl, hb⟩ := hrel
    by_cases hlt : q < l.length
    · obtain ⟨g, o, x, rfl, -, hx, hin⟩ := elem_at hN hlt
      obtain ⟨g', o', y, rfl, -, hy, hin'⟩ := elem_at hN' hlt
      have hd := (Below.refl wr.heap.size wr).drew
      have c31 := hm x y l[q] wr.drew ((hin.below hb).below hd) ((hin'.below hb).below hd)
      have hx := six_below hx hb
      have hy := six_below hy hb
      obtain ⟨x0, x1, x2, x3, x4, x5, rfl, d0, d1, d2, d3, d4, d5⟩ := hx
      obtain ⟨y0, y1, y2, y3, y4, y5, rfl, e0, e1, e2, e3, e4, e5⟩ := hy
      clear hN hN' hin hin' hm
      go_wp2_with fail
      go_region_with (go_at_call 9; refine c31.mono ?_; rintro e w1 ⟨rfl, b1⟩)
      all_goals go_wp2_with fail
      all_goals go_roundw
      all_goals first
        | (case rel => exact ⟨q + 1, by omega, by go_num, hb.drew.trans (b1.mono hb.size)⟩)
        | (case measure => simp only [intOf]; omega)
    · have hlt' : decide ((q : Int) < (l.length : Int)) = false := by simp; omega
      go_wp2_with fail
      go_ret
      exact ⟨rfl, hb⟩
set_option maxRecDepth 20000 in
theorem sameV_of (m : Nat) (hm : ∀ (u v : Value) (l : List C) (w : World), InL false All w m u l → InL false All w m v l → Calls Tryz.prog 26 #[u, v] w fun e w' => e = .returned (.bool true) ∧ Below w.heap.size w w') : SamesV (m + 1) := by
  intro u v c w hu hv
  obtain ⟨k, b, i, s, n, l⟩ := c
  rw [in_iff] at hu hv
  obtain ⟨nv, lv, rfl, hk, hi, hs, hn, hl⟩ := hu
  obtain ⟨nv', lv', rfl, -, -, -, hn', hl'⟩ := hv
  obtain ⟨W0, hW0⟩ : ∃ W0, (w.alloc (.cells #[.int .i64 k, .bool b, .int .i64 i, .string s, nv, lv] 27)).alloc (.cells #[.int .i64 k, .bool b, .int .i64 i, .string s, nv', lv'] 27) = W0 := ⟨_, rfl⟩
  have hb0 : Below w.heap.size w W0 := by rw [← hW0]; exact ((Below.refl _ w).alloc (Nat.le_refl _) _).alloc (by simp) _
  have hsz0 : W0.heap.size = w.heap.size + 2 := by rw [← hW0]; simp
  have hx0 : W0.heap[w.heap.size]? = some (.cells #[.int .i64 k, .bool b, .int .i64 i, .string s, nv, lv] 27) := by
    rw [← hW0, Below.heap_alloc _ _ _ (by simp), heap_alloc_new]
  have hx1 : W0.heap[w.heap.size + 1]? = some (.cells #[.int .i64 k, .bool b, .int .i64 i, .string s, nv', lv'] 27) := by
    have := heap_alloc_new (w.alloc (.cells #[.int .i64 k, .bool b, .int .i64 i, .string s, nv, lv] 27)) (.cells #[.int .i64 k, .bool b, .int .i64 i, .string s, nv', lv'] 27)
    rwa [hW0, World.size_alloc] at this
  have c50 := sameT_c nv nv' n W0 (hn.below hb0) (hn'.below hb0)
  obtain ⟨d0, d1, d2, d3, d4, d5⟩ := six_box hx0
  obtain ⟨e0, e1, e2, e3, e4, e5⟩ := six_box hx1
  go_enter Tryz.func9, Tryz.ntmps9
  go_wp2_with fail
  refine c50.mono ?_
  rintro e w1 ⟨rfl, b1⟩
  have k5 := (six_box ((b1.block w.heap.size (by omega)).trans hx0)).2.2.2.2.2
  have j5 := (six_box ((b1.block (w.heap.size + 1) (by omega)).trans hx1)).2.2.2.2.2
  have c51 := hm lv lv' l w1 ((hl.below hb0).below b1) ((hl'.below hb0).below b1)
  clear c50 hx0 hx1 hW0
  go_wp2_with fail
  refine c51.mono ?_
  rintro e w2 ⟨rfl, b2⟩
  go_wp2_with fail
  go_ret
  exact ⟨rfl, nx (nx hb0 b1) b2⟩
theorem samesV : ∀ m, SamesV m := by
  intro m
  induction m with
  | zero => intro u v c w h; rw [In] at h; exact h.elim
  | succ m ih => exact sameV_of m (sameVs_of m ih)
theorem sameV_c (m : Nat) (u v : Value) (c : C) (w : World) (hu : In false All w m u c) (hv : In false All w m v c) :
    Calls Tryz.prog 9 #[u, v] w fun e w' => e = .returned (.bool true) ∧ Below w.heap.size w w' := samesV m u v c w hu hv
end Go.Proofs.YtopjadjaknmfeabGreatDoor.SameV
namespace Go.Proofs.YtopjadjaknmfeabGreatDoor.KeptV
open Go.RowKit Go.Proofs.YtopjadjaknmfeabGreatDoor.Base Go.Proofs.YtopjadjaknmfeabGreatDoor.SameT Go.Proofs.YtopjadjaknmfeabGreatDoor.SameV
set_option linter.unusedVariables false
def KeepsV (m : Nat) : Prop := ∀ (u v : Value) (c : C) (w : World), In true All w m u c → In false All w m v c →
    Calls Tryz.prog 18 #[u, v] w fun e w' => e = .returned (.bool true) ∧ Below w.heap.size w w'
theorem room7_in (w : World) : In false All w 1 room7 (.mk (-7) false 0 ⟨#[]⟩ [] []) := by
  rw [in_iff]
  exact ⟨_, _, rfl, by omega, by omega, by decide, ⟨none, 0, rfl, by simp, by simp, by simp, by simp, fun _ => rfl, .inl ⟨rfl, rfl⟩⟩, ⟨none, 0, rfl, by simp, by simp, by simp, fun _ => rfl, .inl ⟨rfl, rfl⟩⟩⟩
theorem six_room {w : World} {g o : Nat} (h : Six w g o room7) : w.cell? ⟨g, o, none⟩ = some (.int .i64 (-7)) ∧ w.cell? ⟨g, o + 1, none⟩ = some (.bool false) ∧ w.cell? ⟨g, o + 2, none⟩ = some (.int .i64 0) ∧ w.cell? ⟨g, o + 3, none⟩ = some (.string ⟨#[]⟩) ∧
    w.cell? ⟨g, o + 4, none⟩ = some (.slice none 0 0) ∧ w.cell? ⟨g, o + 5, none⟩ = some (.slice none 0 0) := by
  obtain ⟨p0, p1, p2, p3, p4, p5, E, h⟩ := h
  simp only [room7, Value.agg.injEq, Array.mk.injEq, List.cons.injEq, and_true] at E
  obtain ⟨rfl, rfl, rfl, rfl, rfl, rfl⟩ := E
  exact h
set_option maxRecDepth 20000 in
theorem keptVs_of (m : Nat) (hm : KeepsV m) (u v : Value) (l : List C) (w : World) (hu : InL true All w m u l) (hv : InL false All w m v l) :
    Calls Tryz.prog 37 #[u, v] w fun e w' => e = .returned (.bool true) ∧ Below w.heap.size w w' := by
  obtain ⟨a, cap, rfl, hlc, hcm, hlen, hnil, hN⟩ := hu.out
  obtain ⟨a', cap', rfl, hlc', hm', -, hnil', hN'⟩ := hv.out
  have hN0 := hN
  obtain ⟨g, o, rfl, hr⟩ : ∃ g o, a = some ⟨g, o, none⟩ ∧ (l.length + 2 ≤ cap ∧ Six w g (o + l.length * 6) room7 ∧ Six w g (o + l.length * 6 + 6) room7) := by
    rcases hN with ⟨_, h⟩ | ⟨g, o, h, _, _, hr⟩
    · cases h
    · exact ⟨g, o, h, hr rfl⟩
  obtain ⟨h2, s1, s2⟩ := hr
  have c31 : ∀ w, Calls Tryz.prog 9 #[.agg #[.int .i64 (-7), .bool false, .int .i64 0, .string ⟨#[]⟩, .slice none 0 0, .slice none 0 0], .agg #[.int .i64 (-7), .bool false, .int .i64 0, .string ⟨#[]⟩, .slice none 0 0, .slice none 0 0]] w fun e w' => e = .returned (.bool true) ∧ Below w.heap.size w w' := fun w => sameV_c 1 _ _ _ w (room7_in w) (room7_in w)
  clear hu hv hN
  have hu : LAt true All w m (some ⟨g, o, none⟩) cap l := hN0
  obtain ⟨d0, d1, d2, d3, d4, d5⟩ := six_room s1
  have z2 := s2
  rw [show o + l.length * 6 + 6 = o + (l.length + 1) * 6 by omega] at z2
  go_enter Tryz.func37, Tryz.ntmps37
  go_wp2_with fail
  refine (c31 _).mono ?_
  rintro e w1 ⟨rfl, b1⟩
  obtain ⟨e0, e1, e2, e3, e4, e5⟩ := six_room (six_below z2 b1)
  go_wp2_with fail
  refine (c31 _).mono ?_
  rintro e w2 ⟨rfl, b2⟩
  have b12 := nx b1 b2
  clear b1 b2 c31 d0 d1 d2 d3 d4 d5 e0 e1 e2 e3 e4 e5 s1 s2 z2
  go_wp2_with fail
  go_loopw [6] (fun i wr => ∃ q : Nat, q ≤ l.length ∧ i = .int .i64 q ∧ Below w.heap.size w wr) (fun i _ => l.length - (intOf i).toNat)
  case atStart => exact ⟨0, by omega, rfl, b12⟩
  case round =>
    obtain ⟨q, hq, rfl, hb⟩ := hrel
    by_cases hlt : q < l.length
    · obtain ⟨g1, o1, x, E, -, hx, hin⟩ := elem_at hu hlt
      obtain ⟨g', o', y, rfl, -, hy, hin'⟩ := elem_at hN' hlt
      obtain ⟨rfl, rfl⟩ : g = g1 ∧ o = o1 := by cases E; exact ⟨rfl, rfl⟩
      have hd := (Below.refl wr.heap.size wr).drew
      have c18 := hm x y l[q] wr.drew ((hin.below hb).below hd) ((hin'.below hb).below hd)
      have hx := six_below hx hb
      have hy := six_below hy hb
      obtain ⟨x0, x1, x2, x3, x4, x5, rfl, d0, d1, d2, d3, d4, d5⟩ := hx
      obtain ⟨y0, y1, y2, y3, y4, y5, rfl, e0, e1, e2, e3, e4, e5⟩ := hy
      clear hu hN' hin hin' hm E
      go_wp2_with fail
      go_region_with (go_at_call 18; refine c18.mono ?_; rintro e w1 ⟨rfl, b1⟩)
      all_goals go_wp2_with fail
      all_goals go_roundw
      all_goals first
        | (case rel => exact ⟨q + 1, by omega, by go_num, hb.drew.trans (b1.mono hb.size)⟩)
        | (case measure => simp only [intOf]; omega)
    · have hlt' : decide ((q : Int) < (l.length : Int)) = false := by simp; omega
      go_wp2_with fail
      go_ret
      exact ⟨rfl, hb⟩
set_option maxRecDepth 20000 in
theorem keptV_of (m : Nat) (hm : ∀ (u v : Value) (l : List C) (w : World), InL true All w m u l → InL false All w m v l → Calls Tryz.prog 37 #[u, v] w fun e w' => e = .returned (.bool true) ∧ Below w.heap.size w w') : KeepsV (m + 1) := by
  intro u v c w hu hv
  obtain ⟨k, b, i, s, n, l⟩ := c
  rw [in_iff] at hu hv
  obtain ⟨nv, lv, rfl, hk, hi, hs, hn, hl⟩ := hu
  obtain ⟨nv', lv', rfl, -, -, -, hn', hl'⟩ := hv
  obtain ⟨W0, hW0⟩ : ∃ W0, (w.alloc (.cells #[.int .i64 k, .bool b, .int .i64 i, .string s, nv, lv] 27)).alloc (.cells #[.int .i64 k, .bool b, .int .i64 i, .string s, nv', lv'] 27) = W0 := ⟨_, rfl⟩
  have hb0 : Below w.heap.size w W0 := by rw [← hW0]; exact ((Below.refl _ w).alloc (Nat.le_refl _) _).alloc (by simp) _
  have hsz0 : W0.heap.size = w.heap.size + 2 := by rw [← hW0]; simp
  have hx0 : W0.heap[w.heap.size]? = some (.cells #[.int .i64 k, .bool b, .int .i64 i, .string s, nv, lv] 27) := by
    rw [← hW0, Below.heap_alloc _ _ _ (by simp), heap_alloc_new]
  have hx1 : W0.heap[w.heap.size + 1]? = some (.cells #[.int .i64 k, .bool b, .int .i64 i, .string s, nv', lv'] 27) := by
    have := heap_alloc_new (w.alloc (.cells #[.int .i64 k, .bool b, .int .i64 i, .string s, nv, lv] 27)) (.cells #[.int .i64 k, .bool b, .int .i64 i, .string s, nv', lv'] 27)
    rwa [hW0, World.size_alloc] at this
  have c50 := keptT_c nv nv' n W0 (hn.below hb0) (hn'.below hb0)
  obtain ⟨d0, d1, d2, d3, d4, d5⟩ := six_box hx0
  obtain ⟨e0, e1, e2, e3, e4, e5⟩ := six_box hx1
  go_enter Tryz.func18, Tryz.ntmps18
  go_wp2_with fail
  refine c50.mono ?_
  rintro e w1 ⟨rfl, b1⟩
  have k5 := (six_box ((b1.block w.heap.size (by omega)).trans hx0)).2.2.2.2.2
  have j5 := (six_box ((b1.block (w.heap.size + 1) (by omega)).trans hx1)).2.2.2.2.2
  have c51 := hm lv lv' l w1 ((hl.below hb0).below b1) ((hl'.below hb0).below b1)
  clear c50 hx0 hx1 hW0
  go_wp2_with fail
  refine c51.mono ?_
  rintro e w2 ⟨rfl, b2⟩
  go_wp2_with fail
  go_ret
  exact ⟨rfl, nx (nx hb0 b1) b2⟩
theorem keepsV : ∀ m, KeepsV m := by
  intro m
  induction m with
  | zero => intro u v c w h; rw [In] at h; exact h.elim
  | succ m ih => exact keptV_of m (keptVs_of m ih)
theorem keptV_c {S : Nat → Prop} (m : Nat) (u v : Value) (c : C) (w : World) (hu : In true S w m u c) (hv : In false All w m v c) :
    Calls Tryz.prog 18 #[u, v] w fun e w' => e = .returned (.bool true) ∧ Below w.heap.size w w' := keepsV m u v c w (hu.weak (fun _ _ => trivial) true id m (Nat.le_refl _)) hv
end Go.Proofs.YtopjadjaknmfeabGreatDoor.KeptV
