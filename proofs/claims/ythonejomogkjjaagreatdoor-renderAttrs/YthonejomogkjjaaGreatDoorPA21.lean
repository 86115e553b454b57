import Derived.Test.YthonejomogkjjaaGreatDoorPA13
import Derived.Test.YthonejomogkjjaaGreatDoorPA20
set_option linter.unusedVariables false
set_option maxRecDepth 20000
set_option maxHeartbeats 3200000
namespace Go.Proofs.YthonejomogkjjaaGreatDoor.GVa
open Go.RowKit Base EPure JPure VSm VIn VJn VRs JVr JVa JRv GPl
open VPure hiding evL
structure Rk (K m n : Nat) (w : World) (Pv : Value) (L : List C) (v : Value) (x : Ex) : Prop where
 ex : XBase.In false (fun b => b < K) w n v x
 low : K ≤ w.heap.size
 wfs : ∀ (j : Int) c, rh L j = some c → wf c
 gd : gd x
 ok : ops okOp x
 tb : Tb w
 sk : Sk K (m + 1) w Pv L
theorem Rk.below {K m n : Nat} {w w' : World} {Pv : Value} {L : List C} {v : Value} {x : Ex} (h : Rk K m n w Pv L v x) (hb : Below w.heap.size w w') : Rk K m n w' Pv L v x :=
 ⟨h.ex.below hb, Nat.le_trans h.low hb.size, h.wfs, h.gd, h.ok, h.tb.below hb, h.sk.below hb⟩
theorem value_c {K m n : Nat} {w : World} {Pv : Value} {L : List C} {v : Value} {x : Ex} (h : Rk K m n w Pv L v x) :
  Calls Tryz.prog 243 #[Pv, v] w fun e w' => VR K (m + 1) w (ev (rh L) x) e w' := by
 have hmf : ∀ (fn : Fn) (first cap : Array Value) (w : World), (Instr.makeFunc fn first cap).run Tryz.prog w = .ok (.func fn first cap) w := fun _ _ _ _ => rfl
 have hne := JEr.ev0 (ρ := rh L) h.gd
 obtain ⟨n', lv, rfl, rfl, -⟩ := h.ex.shape
 obtain ⟨W0, hW0⟩ : ∃ W0, (w.alloc (.cells #[.int .i64 x.o, .int .i64 x.i, .string x.s, lv] 44)).alloc (.cells #[.int .i64 0, .bool false, .int .i64 0, .string ⟨#[]⟩, .slice none 0 0, .slice none 0 0] 26) = W0 := ⟨_, rfl⟩
 have hb0 : Below w.heap.size w W0 := by rw [← hW0]; exact ((Below.refl _ w).alloc (Nat.le_refl _) _).alloc (by simp) _
 have hs0 : W0.heap.size = w.heap.size + 2 := by rw [← hW0]; simp
 have hx0 : W0.heap[w.heap.size]? = some (.cells #[.int .i64 x.o, .int .i64 x.i, .string x.s, lv] 44 (0, 0)) := by rw [← hW0, Below.heap_alloc _ _ _ (by simp), heap_alloc_new]
 have hx1 : W0.heap[w.heap.size + 1]? = some (.cells #[.int .i64 0, .bool false, .int .i64 0, .string ⟨#[]⟩, .slice none 0 0, .slice none 0 0] 26 (0, 0)) := by
  have := heap_alloc_new (w.alloc (.cells #[.int .i64 x.o, .int .i64 x.i, .string x.s, lv] 44)) (.cells #[.int .i64 0, .bool false, .int .i64 0, .string ⟨#[]⟩, .slice none 0 0, .slice none 0 0] 26)
  rwa [hW0, World.size_alloc] at this
 have h0 := h.below hb0
 have cR := reckon_c (m := m) h0.ex h0.low h0.wfs h0.gd h0.ok h0.tb (at_c h0.sk h0.low)
 obtain ⟨x0, x1, x2, x3⟩ := XBase.four_box hx0
 have HB0 : Hid (Below w.heap.size w W0) := hb0
 have HX1 : Hid (W0.heap[w.heap.size + 1]? = some (.cells #[.int .i64 0, .bool false, .int .i64 0, .string ⟨#[]⟩, .slice none 0 0, .slice none 0 0] 26 (0, 0))) := hx1
 have hlow := h.low
 obtain ⟨ps, pc, rfl, -⟩ := h.sk
 generalize ev (rh L) x = U at *
 clear h h0 hx0 hx1 hb0
 go_enter Tryz.func243, Tryz.ntmps243
 go_wp2_with fail
 try rw [hW0]
 refine cR.mono ?_
 rintro e W1 ⟨b1, hA⟩
 have hs1 := b1.size
 have HB1 : Hid (Below w.heap.size w W1) := nx HB0.out b1
 have HX1' : Hid (W1.heap[w.heap.size + 1]? = some (.cells #[.int .i64 0, .bool false, .int .i64 0, .string ⟨#[]⟩, .slice none 0 0, .slice none 0 0] 26 (0, 0))) := (b1.block _ (by omega)).trans HX1.out
 clear cR b1 HX1 HB0 x0 x1 x2 x3 hW0
 cases U with
 | error q =>
  obtain rfl := hA
  have hq : ((q : Int) != 0) = true := by
   simp only [bne_iff_ne]
   intro hq
   have : q = 0 := by omega
   subst this
   exact hne rfl
  obtain ⟨W2, hW2⟩ : ∃ W2, W1.alloc (.cells #[.int .i64 0, .bool false, .int .i64 0, .string ⟨#[]⟩, .slice none 0 0, .slice none 0 0] 26) = W2 := ⟨_, rfl⟩
  have HB2 : Hid (Below w.heap.size w W2) := by rw [← hW2]; exact HB1.out.alloc HB1.out.size _
  have HW2 : Hid (W1.alloc (.cells #[.int .i64 0, .bool false, .int .i64 0, .string ⟨#[]⟩, .slice none 0 0, .slice none 0 0] 26) = W2) := hW2
  clear hne hW2
  go_wp2_with fail
  try rw [HW2.out]
  exact ⟨rfl, HB2.out, rfl⟩
 | ok c =>
  obtain ⟨u, rfl, hin⟩ := hA
  obtain ⟨an, ln, cn, al, ll, cl, rfl⟩ := in_shape hin
  obtain ⟨W2, hW2⟩ : ∃ W2, W1.alloc (.cells #[.int .i64 c.k, .bool c.b, .int .i64 c.i, .string c.s, .slice an ln cn, .slice al ll cl] 26) = W2 := ⟨_, rfl⟩
  have b2 : Below W1.heap.size W1 W2 := by rw [← hW2]; exact (Below.refl _ W1).alloc (Nat.le_refl _) _
  have hx2 : W2.heap[W1.heap.size]? = some (.cells #[.int .i64 c.k, .bool c.b, .int .i64 c.i, .string c.s, .slice an ln cn, .slice al ll cl] 26 (0, 0)) := by rw [← hW2]; exact heap_alloc_new W1 _
  have hx1 : W2.heap[w.heap.size + 1]? = some (.cells #[.int .i64 0, .bool false, .int .i64 0, .string ⟨#[]⟩, .slice none 0 0, .slice none 0 0] 26 (0, 0)) := (b2.block _ (by omega)).trans HX1'.out
  obtain ⟨n0, n1, n2, n3, n4, n5⟩ := six_box hx2
  obtain ⟨r0, r1, r2, r3, r4, r5⟩ := six_box hx1
  have rf0 := frozen_box hx1 0
  have rf1 := frozen_box hx1 1
  have rf2 := frozen_box hx1 2
  have rf3 := frozen_box hx1 3
  have rf4 := frozen_box hx1 4
  have rf5 := frozen_box hx1 5
  obtain ⟨W9, hW9⟩ : ∃ W9, (((((W2.setCell ⟨w.heap.size + 1, 0, none⟩ (.int .i64 c.k)).setCell ⟨w.heap.size + 1, 1, none⟩ (.bool c.b)).setCell ⟨w.heap.size + 1, 2, none⟩ (.int .i64 c.i)).setCell ⟨w.heap.size + 1, 3, none⟩ (.string c.s)).setCell ⟨w.heap.size + 1, 4, none⟩ (.slice an ln cn)).setCell ⟨w.heap.size + 1, 5, none⟩ (.slice al ll cl) = W9 := ⟨_, rfl⟩
  obtain ⟨q1, q2, q3, q4⟩ := set6 _ _ _ _ _ _ hx1 hW9
  have HB9 : Hid (Below w.heap.size w W9) := q4 _ _ (by omega) (nx HB1.out b2)
  have HI9 : Hid (Base.In false (fun b => b < K) W9 (m + 1) (vl c.k c.b c.i c.s (.slice an ln cn) (.slice al ll cl)) c) := (hin.below b2).keep (fun b hb hb2 => q2 b (by omega))
  have HQ1 : Hid _ := q1
  clear q1 q2 q3 q4 hin b2 hx1 hx2 hne
  go_wp2_with fail
  try rw [hW9]
  refine bodyPost_ret (results_cell_row rfl _ W9 (w.heap.size + 1) 26 _ (0, 0) _ rfl HQ1.out Tryz.underlying26 rfl (by kernel_rfl)) rfl ?_
  exact ⟨HB9.out, _, rfl, HI9.out⟩
end Go.Proofs.YthonejomogkjjaaGreatDoor.GVa
namespace Go.Proofs.YthonejomogkjjaaGreatDoor.GTr
open Go.RowKit Base EPure JPure VSm VIn VJn VRs JVr JVa JRv GPl GVa
open VPure hiding evL
def isL (c : C) : Except Nat (List C) := if c.k = 5 then .ok c.l else .error 1101
def isK (c : C) : Except Nat (Int × Int × ByteArray) := if TextKey.ke c = 0 then .ok (TextKey.kk c, TextKey.ki c, TextKey.ks c) else .error 1101
theorem heap_set (w : World) (B j : Nat) (cs : Array Value) (t : TypeId) (v : Value) (h : w.heap[B]? = some (.cells cs t (0, 0))) : (w.setCell ⟨B, j, none⟩ v).heap[B]? = some (.cells (cs.setIfInBounds j v) t (0, 0)) := by
 simp [World.setCell, Array.getElem?_modify, h]
end Go.Proofs.YthonejomogkjjaaGreatDoor.GTr
namespace Go.Proofs.YthonejomogkjjaaGreatDoor.GEn
open Go.RowKit Base EPure JPure VSm VIn VJn VRs JVr JVa JRv GPl GVa GTr
open VPure hiding evL
abbrev ptr (B : Nat) : Value := .pointer (some ⟨B, 0, none⟩)
abbrev wk (Pv mk sv : Value) (r : Int) : Array Value := #[Pv, mk, sv, .int .i64 r]
theorem wk_box {w : World} {B : Nat} {Pv mk sv : Value} {r : Int} (h : w.heap[B]? = some (.cells (wk Pv mk sv r) 139 (0, 0))) :
  w.cell? ⟨B, 0, none⟩ = some Pv ∧ w.cell? ⟨B, 1, none⟩ = some mk ∧ w.cell? ⟨B, 2, none⟩ = some sv ∧ w.cell? ⟨B, 3, none⟩ = some (.int .i64 r) := XBase.four_box h
theorem enter_no {w : World} {B : Nat} {Pv mk sv : Value} (h : w.heap[B]? = some (.cells (wk Pv mk sv 0) 139 (0, 0))) :
  Calls Tryz.prog 181 #[ptr B] w fun e w' => e = .panicked (pkE 1601) ∧ w = w' := by
 obtain ⟨k0, k1, k2, k3⟩ := wk_box h
 unfold pkE
 clear h
 go_enter Tryz.func181, Tryz.ntmps181
 go_wp2_with fail
 exact ⟨rfl, rfl, rfl⟩
theorem enter_ok {w : World} {B : Nat} {Pv mk sv : Value} {r : Int} (h : w.heap[B]? = some (.cells (wk Pv mk sv r) 139 (0, 0))) (hr : 0 < r ∧ r ≤ 100000) :
  Calls Tryz.prog 181 #[ptr B] w fun e w' => (∃ v, e = .returned v) ∧ w.setCell ⟨B, 3, none⟩ (.int .i64 (r - 1)) = w' := by
 obtain ⟨k0, k1, k2, k3⟩ := wk_box h
 have f3 := frozen_box h 3
 have e0 : (r == 0) = false := by simp; omega
 have hw : IntKind.i64.wrap (r - 1) = r - 1 := by rw [IntKind.wrap_i64]; omega
 clear h hr
 go_enter Tryz.func181, Tryz.ntmps181
 go_wp2_with fail
 go_end0
 exact ⟨⟨_, rfl⟩, rfl⟩
end Go.Proofs.YthonejomogkjjaaGreatDoor.GEn
