/- Values that are the same: contracts of SameValue and SameValues at values that hold the same. -/
import Derived.Test.YtmoblfdepcjgfaaDoorSameT
import Derived.Deep.RegionWith
namespace Go.Proofs.YtmoblfdepcjgfaaDoor.SameV
open Go.RowKit Go.Proofs.YtmoblfdepcjgfaaDoor.Base Go.Proofs.YtmoblfdepcjgfaaDoor.SameT
set_option linter.unusedVariables false

def SamesV (m : Nat) : Prop := ∀ (u v : Value) (c : C) (w : World), In false All w m u c → In false All w m v c →
    Calls Tryd.prog 31 #[u, v] w fun e w' => e = .returned (.bool true) ∧ Below w.heap.size w w'
set_option maxRecDepth 20000 in
theorem sameVs_of (m : Nat) (hm : SamesV m) (u v : Value) (l : List C) (w : World) (hu : InL false All w m u l) (hv : InL false All w m v l) :
    Calls Tryd.prog 51 #[u, v] w fun e w' => e = .returned (.bool true) ∧ Below w.heap.size w w' := by
  obtain ⟨a, cap, rfl, hlc, hcm, hlen, hnil, hN⟩ := hu.out
  obtain ⟨a', cap', rfl, hlc', hm', hlen', hnil', hN'⟩ := hv.out
  clear hu hv hlen'
  go_enter Tryd.func51, Tryd.ntmps51
  go_wp2_with fail
  go_loopw [5] (fun i wr => ∃ q : Nat, q ≤ l.length ∧ i = .int .i64 q ∧ Below w.heap.size w wr) (fun i _ => l.length - (intOf i).toNat)
  case atStart => exact ⟨0, by omega, rfl, Below.refl _ _⟩
  case round =>
    obtain ⟨q, hq, rfl, hb⟩ := hrel
    by_cases hlt : q < l.length
    · obtain ⟨g, o, x, rfl, -, hx, hin⟩ := elem_at hN hlt
      obtain ⟨g', o', y, rfl, -, hy, hin'⟩ := elem_at hN' hlt
      have hd := (Below.refl wr.heap.size wr).drew
      have c31 := hm x y l[q] wr.drew ((hin.below hb).below hd) ((hin'.below hb).below hd)
      have hx := six_below hx hb
      have hy := six_below hy hb
      obtain ⟨x0, x1, x2, x3, x4, x5, rfl, d0, d1, d2, d3, d4, d5⟩ := hx
      obtain ⟨y0, y1, y2, y3, y4, y5, rfl, e0, e1, e2, e3, e4, e5⟩ := hy
      clear hN hN' hin hin' hm
      go_wp2_with fail
      go_region_with (go_at_call 31; refine c31.mono ?_; rintro e w1 ⟨rfl, b1⟩)
      all_goals go_wp2_with fail
      all_goals go_roundw
      all_goals first
        | (case rel => exact ⟨q + 1, by omega, by go_num, hb.drew.trans (b1.mono hb.size)⟩)
        | (case measure => simp only [intOf]; omega)
    · have hlt' : decide ((q : Int) < (l.length : Int)) = false := by simp; omega
      go_wp2_with fail
      go_ret
      exact ⟨rfl, hb⟩
set_option maxRecDepth 20000 in
theorem sameV_of (m : Nat) (hm : ∀ (u v : Value) (l : List C) (w : World), InL false All w m u l → InL false All w m v l → Calls Tryd.prog 51 #[u, v] w fun e w' => e = .returned (.bool true) ∧ Below w.heap.size w w') : SamesV (m + 1) := by
  intro u v c w hu hv
  obtain ⟨k, b, i, s, n, l⟩ := c
  rw [in_iff] at hu hv
  obtain ⟨nv, lv, rfl, hk, hi, hs, hn, hl⟩ := hu
  obtain ⟨nv', lv', rfl, -, -, -, hn', hl'⟩ := hv
  obtain ⟨W0, hW0⟩ : ∃ W0, (w.alloc (.cells #[.int .i64 k, .bool b, .int .i64 i, .string s, nv, lv] 25)).alloc (.cells #[.int .i64 k, .bool b, .int .i64 i, .string s, nv', lv'] 25) = W0 := ⟨_, rfl⟩
  have hb0 : Below w.heap.size w W0 := by rw [← hW0]; exact ((Below.refl _ w).alloc (Nat.le_refl _) _).alloc (by simp) _
  have hsz0 : W0.heap.size = w.heap.size + 2 := by rw [← hW0]; simp
  have hx0 : W0.heap[w.heap.size]? = some (.cells #[.int .i64 k, .bool b, .int .i64 i, .string s, nv, lv] 25) := by
    rw [← hW0, Below.heap_alloc _ _ _ (by simp), heap_alloc_new]
  have hx1 : W0.heap[w.heap.size + 1]? = some (.cells #[.int .i64 k, .bool b, .int .i64 i, .string s, nv', lv'] 25) := by
    have := heap_alloc_new (w.alloc (.cells #[.int .i64 k, .bool b, .int .i64 i, .string s, nv, lv] 25)) (.cells #[.int .i64 k, .bool b, .int .i64 i, .string s, nv', lv'] 25)
    rwa [hW0, World.size_alloc] at this
  have c50 := sameT_c nv nv' n W0 (hn.below hb0) (hn'.below hb0)
  obtain ⟨d0, d1, d2, d3, d4, d5⟩ := six_box hx0
  obtain ⟨e0, e1, e2, e3, e4, e5⟩ := six_box hx1
  go_enter Tryd.func31, Tryd.ntmps31
  go_wp2_with fail
  refine c50.mono ?_
  rintro e w1 ⟨rfl, b1⟩
  have k5 := (six_box ((b1.block w.heap.size (by omega)).trans hx0)).2.2.2.2.2
  have j5 := (six_box ((b1.block (w.heap.size + 1) (by omega)).trans hx1)).2.2.2.2.2
  have c51 := hm lv lv' l w1 ((hl.below hb0).below b1) ((hl'.below hb0).below b1)
  clear c50 hx0 hx1 hW0
  go_wp2_with fail
  refine c51.mono ?_
  rintro e w2 ⟨rfl, b2⟩
  go_wp2_with fail
  go_ret
  exact ⟨rfl, nx (nx hb0 b1) b2⟩
theorem samesV : ∀ m, SamesV m := by
  intro m
  induction m with
  | zero => intro u v c w h; rw [In] at h; exact h.elim
  | succ m ih => exact sameV_of m (sameVs_of m ih)
theorem sameV_c (m : Nat) (u v : Value) (c : C) (w : World) (hu : In false All w m u c) (hv : In false All w m v c) :
    Calls Tryd.prog 31 #[u, v] w fun e w' => e = .returned (.bool true) ∧ Below w.heap.size w w' := samesV m u v c w hu hv
end Go.Proofs.YtmoblfdepcjgfaaDoor.SameV
