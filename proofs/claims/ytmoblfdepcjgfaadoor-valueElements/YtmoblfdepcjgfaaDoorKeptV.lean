/- Values as they were lent: contracts of KeptValue and KeptValues. -/
import Derived.Test.YtmoblfdepcjgfaaDoorSameV
namespace Go.Proofs.YtmoblfdepcjgfaaDoor.KeptV
open Go.RowKit Go.Proofs.YtmoblfdepcjgfaaDoor.Base Go.Proofs.YtmoblfdepcjgfaaDoor.SameT Go.Proofs.YtmoblfdepcjgfaaDoor.SameV
set_option linter.unusedVariables false

def KeepsV (m : Nat) : Prop := ∀ (u v : Value) (c : C) (w : World), In true All w m u c → In false All w m v c →
    Calls Tryd.prog 18 #[u, v] w fun e w' => e = .returned (.bool true) ∧ Below w.heap.size w w'
theorem room7_in (w : World) : In false All w 1 room7 (.mk (-7) false 0 ⟨#[]⟩ [] []) := by
  rw [in_iff]
  exact ⟨_, _, rfl, by omega, by omega, by decide, ⟨none, 0, rfl, by simp, by simp, by simp, by simp, fun _ => rfl, .inl ⟨rfl, rfl⟩⟩, ⟨none, 0, rfl, by simp, by simp, by simp, fun _ => rfl, .inl ⟨rfl, rfl⟩⟩⟩
theorem six_room {w : World} {g o : Nat} (h : Six w g o room7) : w.cell? ⟨g, o, none⟩ = some (.int .i64 (-7)) ∧ w.cell? ⟨g, o + 1, none⟩ = some (.bool false) ∧ w.cell? ⟨g, o + 2, none⟩ = some (.int .i64 0) ∧ w.cell? ⟨g, o + 3, none⟩ = some (.string ⟨#[]⟩) ∧
    w.cell? ⟨g, o + 4, none⟩ = some (.slice none 0 0) ∧ w.cell? ⟨g, o + 5, none⟩ = some (.slice none 0 0) := by
  obtain ⟨p0, p1, p2, p3, p4, p5, E, h⟩ := h
  simp only [room7, Value.agg.injEq, Array.mk.injEq, List.cons.injEq, and_true] at E
  obtain ⟨rfl, rfl, rfl, rfl, rfl, rfl⟩ := E
  exact h
set_option maxRecDepth 20000 in
theorem keptVs_of (m : Nat) (hm : KeepsV m) (u v : Value) (l : List C) (w : World) (hu : InL true All w m u l) (hv : InL false All w m v l) :
    Calls Tryd.prog 40 #[u, v] w fun e w' => e = .returned (.bool true) ∧ Below w.heap.size w w' := by
  obtain ⟨a, cap, rfl, hlc, hcm, hlen, hnil, hN⟩ := hu.out
  obtain ⟨a', cap', rfl, hlc', hm', -, hnil', hN'⟩ := hv.out
  have hN0 := hN
  obtain ⟨g, o, rfl, hr⟩ : ∃ g o, a = some ⟨g, o, none⟩ ∧ (l.length + 2 ≤ cap ∧ Six w g (o + l.length * 6) room7 ∧ Six w g (o + l.length * 6 + 6) room7) := by
    rcases hN with ⟨_, h⟩ | ⟨g, o, h, _, _, hr⟩
    · cases h
    · exact ⟨g, o, h, hr rfl⟩
  obtain ⟨h2, s1, s2⟩ := hr
  have c31 : ∀ w, Calls Tryd.prog 31 #[.agg #[.int .i64 (-7), .bool false, .int .i64 0, .string ⟨#[]⟩, .slice none 0 0, .slice none 0 0], .agg #[.int .i64 (-7), .bool false, .int .i64 0, .string ⟨#[]⟩, .slice none 0 0, .slice none 0 0]] w fun e w' => e = .returned (.bool true) ∧ Below w.heap.size w w' := fun w => sameV_c 1 _ _ _ w (room7_in w) (room7_in w)
  clear hu hv hN
  have hu : LAt true All w m (some ⟨g, o, none⟩) cap l := hN0
  obtain ⟨d0, d1, d2, d3, d4, d5⟩ := six_room s1
  have z2 := s2
  rw [show o + l.length * 6 + 6 = o + (l.length + 1) * 6 by omega] at z2
  go_enter Tryd.func40, Tryd.ntmps40
  go_wp2_with fail
  refine (c31 _).mono ?_
  rintro e w1 ⟨rfl, b1⟩
  obtain ⟨e0, e1, e2, e3, e4, e5⟩ := six_room (six_below z2 b1)
  go_wp2_with fail
  refine (c31 _).mono ?_
  rintro e w2 ⟨rfl, b2⟩
  have b12 := nx b1 b2
  clear b1 b2 c31 d0 d1 d2 d3 d4 d5 e0 e1 e2 e3 e4 e5 s1 s2 z2
  go_wp2_with fail
  go_loopw [6] (fun i wr => ∃ q : Nat, q ≤ l.length ∧ i = .int .i64 q ∧ Below w.heap.size w wr) (fun i _ => l.length - (intOf i).toNat)
  case atStart => exact ⟨0, by omega, rfl, b12⟩
  case round =>
    obtain ⟨q, hq, rfl, hb⟩ := hrel
    by_cases hlt : q < l.length
    · obtain ⟨g1, o1, x, E, -, hx, hin⟩ := elem_at hu hlt
      obtain ⟨g', o', y, rfl, -, hy, hin'⟩ := elem_at hN' hlt
      obtain ⟨rfl, rfl⟩ : g = g1 ∧ o = o1 := by cases E; exact ⟨rfl, rfl⟩
      have hd := (Below.refl wr.heap.size wr).drew
      have c18 := hm x y l[q] wr.drew ((hin.below hb).below hd) ((hin'.below hb).below hd)
      have hx := six_below hx hb
      have hy := six_below hy hb
      obtain ⟨x0, x1, x2, x3, x4, x5, rfl, d0, d1, d2, d3, d4, d5⟩ := hx
      obtain ⟨y0, y1, y2, y3, y4, y5, rfl, e0, e1, e2, e3, e4, e5⟩ := hy
      clear hu hN' hin hin' hm E
      go_wp2_with fail
      go_region_with (go_at_call 18; refine c18.mono ?_; rintro e w1 ⟨rfl, b1⟩)
      all_goals go_wp2_with fail
      all_goals go_roundw
      all_goals first
        | (case rel => exact ⟨q + 1, by omega, by go_num, hb.drew.trans (b1.mono hb.size)⟩)
        | (case measure => simp only [intOf]; omega)
    · have hlt' : decide ((q : Int) < (l.length : Int)) = false := by simp; omega
      go_wp2_with fail
      go_ret
      exact ⟨rfl, hb⟩
set_option maxRecDepth 20000 in
theorem keptV_of (m : Nat) (hm : ∀ (u v : Value) (l : List C) (w : World), InL true All w m u l → InL false All w m v l → Calls Tryd.prog 40 #[u, v] w fun e w' => e = .returned (.bool true) ∧ Below w.heap.size w w') : KeepsV (m + 1) := by
  intro u v c w hu hv
  obtain ⟨k, b, i, s, n, l⟩ := c
  rw [in_iff] at hu hv
  obtain ⟨nv, lv, rfl, hk, hi, hs, hn, hl⟩ := hu
  obtain ⟨nv', lv', rfl, -, -, -, hn', hl'⟩ := hv
  obtain ⟨W0, hW0⟩ : ∃ W0, (w.alloc (.cells #[.int .i64 k, .bool b, .int .i64 i, .string s, nv, lv] 25)).alloc (.cells #[.int .i64 k, .bool b, .int .i64 i, .string s, nv', lv'] 25) = W0 := ⟨_, rfl⟩
  have hb0 : Below w.heap.size w W0 := by rw [← hW0]; exact ((Below.refl _ w).alloc (Nat.le_refl _) _).alloc (by simp) _
  have hsz0 : W0.heap.size = w.heap.size + 2 := by rw [← hW0]; simp
  have hx0 : W0.heap[w.heap.size]? = some (.cells #[.int .i64 k, .bool b, .int .i64 i, .string s, nv, lv] 25) := by
    rw [← hW0, Below.heap_alloc _ _ _ (by simp), heap_alloc_new]
  have hx1 : W0.heap[w.heap.size + 1]? = some (.cells #[.int .i64 k, .bool b, .int .i64 i, .string s, nv', lv'] 25) := by
    have := heap_alloc_new (w.alloc (.cells #[.int .i64 k, .bool b, .int .i64 i, .string s, nv, lv] 25)) (.cells #[.int .i64 k, .bool b, .int .i64 i, .string s, nv', lv'] 25)
    rwa [hW0, World.size_alloc] at this
  have c50 := keptT_c nv nv' n W0 (hn.below hb0) (hn'.below hb0)
  obtain ⟨d0, d1, d2, d3, d4, d5⟩ := six_box hx0
  obtain ⟨e0, e1, e2, e3, e4, e5⟩ := six_box hx1
  go_enter Tryd.func18, Tryd.ntmps18
  go_wp2_with fail
  refine c50.mono ?_
  rintro e w1 ⟨rfl, b1⟩
  have k5 := (six_box ((b1.block w.heap.size (by omega)).trans hx0)).2.2.2.2.2
  have j5 := (six_box ((b1.block (w.heap.size + 1) (by omega)).trans hx1)).2.2.2.2.2
  have c51 := hm lv lv' l w1 ((hl.below hb0).below b1) ((hl'.below hb0).below b1)
  clear c50 hx0 hx1 hW0
  go_wp2_with fail
  refine c51.mono ?_
  rintro e w2 ⟨rfl, b2⟩
  go_wp2_with fail
  go_ret
  exact ⟨rfl, nx (nx hb0 b1) b2⟩
theorem keepsV : ∀ m, KeepsV m := by
  intro m
  induction m with
  | zero => intro u v c w h; rw [In] at h; exact h.elim
  | succ m ih => exact keptV_of m (keptVs_of m ih)
theorem keptV_c {S : Nat → Prop} (m : Nat) (u v : Value) (c : C) (w : World) (hu : In true S w m u c) (hv : In false All w m v c) :
    Calls Tryd.prog 18 #[u, v] w fun e w' => e = .returned (.bool true) ∧ Below w.heap.size w w' := keepsV m u v c w (hu.weak (fun _ _ => trivial) true id m (Nat.le_refl _)) hv
end Go.Proofs.YtmoblfdepcjgfaaDoor.KeptV
