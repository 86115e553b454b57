import Derived.Deep.RegionHeld3
import Derived.Laws.Cover3
import Derived.Test.YtaiackmmmlhgbaaGreatPV10
import Derived.Test.YtaiackmmmlhgbaaGreatPV21
import Derived.Test.YtaiackmmmlhgbaaGreatPV28
import Derived.Test.YtaiackmmmlhgbaaGreatPV36
import Derived.Test.YtaiackmmmlhgbaaGreatPV37
import Derived.Test.YtaiackmmmlhgbaaGreatPV38
open Go.Proofs.Tryz
set_option linter.unusedVariables false
set_option maxRecDepth 20000
set_option maxHeartbeats 3200000
namespace Go.Proofs.YtaiackmmmlhgbaaGreat.BLe
open Go.RowKit YRr YRs BBx BCp BLa
open YPl (Oq Bk Pg)
open BSf (hid)
open TBase (T Keep heap_alloc_new frozen_box)
open CPu (Ins)
theorem keptN1_c {S R : Nat -> Prop} {w : World} {u v : Value} {L : List Ins} (hu : LkS S w u L) (hv : RrS 2 LyN R w v L) (hR : ∀ g, R g -> g < w.heap.size) (hz : szN L) :
  Calls prog 103 #[u, v] w fun e w' => e = .returned (.bool true) /\ Below w.heap.size w w' := by
 unfold szN at hz
 refine CIn.keptI_c hu.lk (BFx.cx_of hv hR) (Nat.le_refl _) ⟨?_, by omega⟩
 exact fun x hx => by
  have := rrs_all (P := fun x : Ins => i64 x.1 /\ i64 x.2) hv (fun g o x h => h.2.2) x hx
  exact ⟨Go.WalkArith.wf_i64 (by obtain ⟨h1, h2⟩ := this.1; omega), Go.WalkArith.wf_i64 (by obtain ⟨h1, h2⟩ := this.2; omega)⟩
theorem keptI1_c {S R : Nat -> Prop} {w : World} {u v : Value} {L : List Int} (hu : LxS S w u L) (hv : RrS 1 LyI R w v L) (hz : szI L) :
  Calls prog 159 #[u, v] w fun e w' => e = .returned (.bool true) /\ Below w.heap.size w w' := by
 unfold szI at hz
 exact IInts.keptI_c hu.lx (ix_of hv) (by omega)
theorem nil_ne (w : World) : (binOp .neq 63 (.slice none 0 0) (.slice none 0 0)).run prog w = .ok (.bool false) w := by
 unfold binOp
 simp [run_equal_slice_nil w 63 _ none 0 0 underlying63]
theorem nil_c (w : World) : Calls prog 119 #[.slice none 0 0, .slice none 0 0] w fun e w' => e = .returned (.bool true) /\ Below w.heap.size w w' := by
 have := IInts.sameI_c (w := w) (v := .slice none 0 0) (u := .slice none 0 0) (L := []) (M := []) ⟨none, 0, rfl, Nat.le_refl _, by omega, fun _ => rfl, .inl rfl⟩ ⟨none, 0, rfl, Nat.le_refl _, by omega, fun _ => rfl, .inl rfl⟩
 rwa [decide_eq_true rfl] at this
theorem keptC_c {S R : Nat -> Prop} {w : World} {u v : Value} {l : List (List Ins)} (hu : LtR HdLC 1 mC S w u l) (hv : RrS 1 (LyCs R) R w v l) (hR : ∀ g, R g -> g < w.heap.size) (hz : ∀ x ∈ l, szN x) :
  Calls prog 51 #[u, v] w fun e w' => e = .returned (.bool true) /\ Below w.heap.size w w' := by
 have HU := hid hu
 have HV := hid hv
 have HR := hid hR
 have HZ := hid hz
 obtain ⟨g, cap, rfl, -, h2, h3, -, h5, h6⟩ := hu
 obtain ⟨a', cap', rfl, hlc', hm', -⟩ := hv
 have d0 := h5 0 _ rfl
 have e0 := h6 0 _ rfl
 rw [Nat.add_zero] at d0 e0
 rw [Nat.mul_one] at d0 e0
 have b12 : Below w.heap.size w w := Below.refl _ _
 have hne := nil_ne
 clear h5 h6
 go_enter func51, ntmps51
 go_wp2_with fail
 go_loopw [6] (fun i wr => ∃ q : Nat, q <= l.length /\ i = .int .i64 q /\ Below w.heap.size w wr) (fun i _ => l.length - (intOf i).toNat)
 case atStart => exact ⟨0, by omega, rfl, b12⟩
 case round =>
  obtain ⟨q, hq, rfl, hb⟩ := hrel
  by_cases hlt : q < l.length
  ·have hd := hb.drew
   have hu' := HU.out.keep sLC (S' := S) (w' := wr.drew) (fun b hS hl => hd.block b hl) (fun _ h => h)
   obtain ⟨g1, c1, E, -, -, -, hx, -⟩ := hu'
   obtain ⟨cs, k1, k2⟩ := hx q hlt
   obtain rfl : g = g1 := by cases E; rfl
   obtain ⟨g', o', c', E', -, -, hg', hy⟩ := RrS.at HV.out hlt
   cases E'
   have hy' := kC (S' := R) (fun b hS hl => hd.block b hl) (fun _ h => h) hg' hy
   have hzq := HZ.out _ (List.getElem_mem hlt)
   have hRd : ∀ g, R g -> g < wr.drew.heap.size := fun g hg => by have := HR.out g hg; have := hd.size; omega
   have i0 : (0 : Int) <= (q : Int) := by omega
   have i1 : (q : Int) < (l.length : Int) := by omega
   have t0 : decide ((q : Int) < (l.length : Int)) = true := by simp; omega
   generalize l[q] = x at *
   obtain ⟨v1, rfl, hk1⟩ := k2
   obtain ⟨v2, y0, hk2⟩ := hy'
   have x0 := k1 0 _ rfl
   rw [Nat.add_zero, Nat.mul_one, Nat.zero_add] at x0
   rw [Nat.mul_one] at y0
   have cK := keptN1_c hk1 hk2 hRd hzq
   clear k1 hx hy
   have ax0 : wr.cell? ⟨g, q, none⟩ = some v1 := x0
   have ay0 : wr.cell? ⟨g', o' + q, none⟩ = some v2 := y0
   go_wp2_with fail
   go_region_held3 (fun w' => w'.cell? ⟨g, q, none⟩ = some v1 /\ w'.cell? ⟨g', o' + q, none⟩ = some v2) (go_keep) (first | (go_at_call 103; refine cK.mono ?_; rintro e w1 ⟨rfl, b1⟩; have bx0 := IBase.below_cell x0 b1; have by0 := IBase.below_cell y0 b1) | fail)
   rename_i hHeld
   clear hHeld
   go_wp2_with fail
   go_roundw
   case rel => exact ⟨q + 1, by omega, by go_num, hb.drew.trans (b1.mono hb.size)⟩
   case measure => simp only [intOf]; omega
  ·have hlt' : decide ((q : Int) < (l.length : Int)) = false := by simp; omega
   go_wp2_with fail
   go_ret
   exact ⟨rfl, hb⟩
theorem room_O (w : World) : Calls prog 168 #[.agg #[.int .i64 (-7), .int .i64 0, .int .i64 0, .int .i64 0, .slice none 0 0], .agg #[.int .i64 (-7), .int .i64 0, .int .i64 0, .int .i64 0, .slice none 0 0]] w fun e w' => e = .returned (.bool true) /\ Below w.heap.size w w' := by
 obtain ⟨W0, hW0⟩ : ∃ W0, (w.alloc (.cells #[.int .i64 (-7), .int .i64 0, .int .i64 0, .int .i64 0, .slice none 0 0] 127)).alloc (.cells #[.int .i64 (-7), .int .i64 0, .int .i64 0, .int .i64 0, .slice none 0 0] 127) = W0 := ⟨_, rfl⟩
 have hb0 : Below w.heap.size w W0 := by rw [<- hW0]; exact ((Below.refl _ w).alloc (Nat.le_refl _) _).alloc (by simp) _
 have hc := nil_c W0
 have hs0 := hb0.size
 have x0 : W0.heap[w.heap.size]? = some (.cells #[.int .i64 (-7), .int .i64 0, .int .i64 0, .int .i64 0, .slice none 0 0] 127 (0, 0)) := by rw [<- hW0, Below.heap_alloc _ _ _ (by simp), heap_alloc_new]
 have x1 : W0.heap[w.heap.size + 1]? = some (.cells #[.int .i64 (-7), .int .i64 0, .int .i64 0, .int .i64 0, .slice none 0 0] 127 (0, 0)) := by
  have := heap_alloc_new (w.alloc (.cells #[.int .i64 (-7), .int .i64 0, .int .i64 0, .int .i64 0, .slice none 0 0] 127)) (.cells #[.int .i64 (-7), .int .i64 0, .int .i64 0, .int .i64 0, .slice none 0 0] 127)
  rwa [hW0, World.size_alloc] at this
 have p0 := cell_of x0 0 _ rfl
 have p1 := cell_of x0 1 _ rfl
 have p2 := cell_of x0 2 _ rfl
 have p3 := cell_of x0 3 _ rfl
 have p4 := cell_of x0 4 _ rfl
 have q0 := cell_of x1 0 _ rfl
 have q1 := cell_of x1 1 _ rfl
 have q2 := cell_of x1 2 _ rfl
 have q3 := cell_of x1 3 _ rfl
 have q4 := cell_of x1 4 _ rfl
 go_enter func168, ntmps168
 go_wp2_with (first | (go_at_call 119; refine hc.mono ?_; rintro e w1 ⟨rfl, b1⟩))
 go_ret
 exact ⟨rfl, hb0.trans (b1.mono hs0)⟩
theorem keptO1_c {S R : Nat -> Prop} {w : World} {o : Oq} {u v : Value} (hu : LxS S w u o.l) (hv : RrS 1 LyI R w v o.l) (hz : szO o) :
  Calls prog 199 #[.agg #[.int .i64 o.k, .int .i64 o.a, .int .i64 o.b, .int .i64 o.c, u], .agg #[.int .i64 o.k, .int .i64 o.a, .int .i64 o.b, .int .i64 o.c, v]] w fun e w' => e = .returned (.bool true) /\ Below w.heap.size w w' := by
 obtain ⟨W0, hW0⟩ : ∃ W0, (w.alloc (.cells #[.int .i64 o.k, .int .i64 o.a, .int .i64 o.b, .int .i64 o.c, u] 127)).alloc (.cells #[.int .i64 o.k, .int .i64 o.a, .int .i64 o.b, .int .i64 o.c, v] 127) = W0 := ⟨_, rfl⟩
 have hb0 : Below w.heap.size w W0 := by rw [<- hW0]; exact ((Below.refl _ w).alloc (Nat.le_refl _) _).alloc (by simp) _
 have hc := keptI1_c (S := fun g => S g /\ g < w.heap.size) (R := fun g => g < w.heap.size) (w := W0) (u := u) (v := v) (L := o.l) ?_ ?_ hz
 rotate_left 1
 ·obtain ⟨g, cap, rfl, h0, h1, h2, h3, h4, h5⟩ := hu
  exact ⟨g, cap, rfl, ⟨h0, Base.cell_lt h4⟩, h1, h2, fun j hj => IBase.below_cell (h3 j hj) hb0, IBase.below_cell h4 hb0, IBase.below_cell h5 hb0⟩
 ·obtain ⟨a, cap, h1, h2, h3, h4, h5, h6⟩ := hv
  refine ⟨a, cap, h1, h2, h3, h4, h5, ?_⟩
  rcases h6 with h6 | ⟨g, o', ha, hg, hc⟩
  ·exact .inl h6
  ·by_cases h0 : o.l = []
   ·exact .inl h0
   ·have h00 : 0 < o.l.length := List.length_pos_iff.2 h0
    exact .inr ⟨g, o', ha, Base.cell_lt (hc 0 h00).1, fun j hj => ⟨IBase.below_cell (hc j hj).1 hb0, (hc j hj).2⟩⟩
 have hs0 := hb0.size
 have x0 : W0.heap[w.heap.size]? = some (.cells #[.int .i64 o.k, .int .i64 o.a, .int .i64 o.b, .int .i64 o.c, u] 127 (0, 0)) := by rw [<- hW0, Below.heap_alloc _ _ _ (by simp), heap_alloc_new]
 have x1 : W0.heap[w.heap.size + 1]? = some (.cells #[.int .i64 o.k, .int .i64 o.a, .int .i64 o.b, .int .i64 o.c, v] 127 (0, 0)) := by
  have := heap_alloc_new (w.alloc (.cells #[.int .i64 o.k, .int .i64 o.a, .int .i64 o.b, .int .i64 o.c, u] 127)) (.cells #[.int .i64 o.k, .int .i64 o.a, .int .i64 o.b, .int .i64 o.c, v] 127)
  rwa [hW0, World.size_alloc] at this
 have p0 := cell_of x0 0 _ rfl
 have p1 := cell_of x0 1 _ rfl
 have p2 := cell_of x0 2 _ rfl
 have p3 := cell_of x0 3 _ rfl
 have p4 := cell_of x0 4 _ rfl
 have q0 := cell_of x1 0 _ rfl
 have q1 := cell_of x1 1 _ rfl
 have q2 := cell_of x1 2 _ rfl
 have q3 := cell_of x1 3 _ rfl
 have q4 := cell_of x1 4 _ rfl
 clear x0 x1 hu hv
 go_enter func199, ntmps199
 go_wp2_with (first | (go_at_call 159; refine hc.mono ?_; rintro e w1 ⟨rfl, b1⟩))
 go_ret
 exact ⟨rfl, hb0.trans (b1.mono hs0)⟩
theorem keptO_c {S R : Nat -> Prop} {w : World} {u v : Value} {l : List (Oq)} (hu : LtR HdLO 5 mO S w u l) (hv : RrS 5 (LyOs R) R w v l) (hR : ∀ g, R g -> g < w.heap.size) (hz : ∀ x ∈ l, szO x) :
  Calls prog 158 #[u, v] w fun e w' => e = .returned (.bool true) /\ Below w.heap.size w w' := by
 have HU := hid hu
 have HV := hid hv
 have HR := hid hR
 have HZ := hid hz
 obtain ⟨g, cap, rfl, -, h2, h3, -, h5, h6⟩ := hu
 obtain ⟨a', cap', rfl, hlc', hm', -⟩ := hv
 have d0 := h5 0 _ rfl
 have e0 := h6 0 _ rfl
 have d1 := h5 1 _ rfl
 have e1 := h6 1 _ rfl
 have d2 := h5 2 _ rfl
 have e2 := h6 2 _ rfl
 have d3 := h5 3 _ rfl
 have e3 := h6 3 _ rfl
 have d4 := h5 4 _ rfl
 have e4 := h6 4 _ rfl
 rw [Nat.add_zero] at d0 e0
 have c1 := room_O w
 clear h5 h6
 go_enter func158, ntmps158
 go_wp2_with fail
 refine (room_O _).mono ?_
 rintro e w1 ⟨rfl, b1⟩
 have e0 := IBase.below_cell e0 b1
 have e1 := IBase.below_cell e1 b1
 have e2 := IBase.below_cell e2 b1
 have e3 := IBase.below_cell e3 b1
 have e4 := IBase.below_cell e4 b1
 go_wp2_with fail
 refine (room_O _).mono ?_
 rintro e w2 ⟨rfl, b2⟩
 have b12 : Below w.heap.size w w2 := b1.trans (b2.mono b1.size)
 clear b1 b2 d0 e0 d1 e1 d2 e2 d3 e3 d4 e4 c1
 go_wp2_with fail
 go_loopw [6] (fun i wr => ∃ q : Nat, q <= l.length /\ i = .int .i64 q /\ Below w.heap.size w wr) (fun i _ => l.length - (intOf i).toNat)
 case atStart => exact ⟨0, by omega, rfl, b12⟩
 case round =>
  obtain ⟨q, hq, rfl, hb⟩ := hrel
  by_cases hlt : q < l.length
  ·have hd := hb.drew
   have hu' := HU.out.keep sLO (S' := S) (w' := wr.drew) (fun b hS hl => hd.block b hl) (fun _ h => h)
   obtain ⟨g1, c1, E, -, -, -, hx, -⟩ := hu'
   obtain ⟨cs, k1, k2⟩ := hx q hlt
   obtain rfl : g = g1 := by cases E; rfl
   obtain ⟨g', o', c', E', -, -, hg', hy⟩ := RrS.at HV.out hlt
   cases E'
   have hy' := kO (S' := R) (fun b hS hl => hd.block b hl) (fun _ h => h) hg' hy
   have hzq := HZ.out _ (List.getElem_mem hlt)
   have hRd : ∀ g, R g -> g < wr.drew.heap.size := fun g hg => by have := HR.out g hg; have := hd.size; omega
   have i0 : (0 : Int) <= (q : Int) := by omega
   have i1 : (q : Int) < (l.length : Int) := by omega
   have t0 : decide ((q : Int) < (l.length : Int)) = true := by simp; omega
   generalize l[q] = x at *
   obtain ⟨v1, rfl, -, hk1⟩ := k2
   obtain ⟨v2, y0, y1, y2, y3, y4, -, hk2⟩ := hy'
   have x0 := k1 0 _ rfl
   have x1 := k1 1 _ rfl
   have x2 := k1 2 _ rfl
   have x3 := k1 3 _ rfl
   have x4 := k1 4 _ rfl
   rw [Nat.add_zero] at x0
   rw [Nat.zero_add] at x0 x1 x2 x3 x4
   have cK := keptO1_c hk1 hk2 hzq
   clear k1 hx hy
   have ax0 : wr.cell? ⟨g, q * 5, none⟩ = some (.int .i64 x.k) := x0
   have ax1 : wr.cell? ⟨g, q * 5 + 1, none⟩ = some (.int .i64 x.a) := x1
   have ax2 : wr.cell? ⟨g, q * 5 + 2, none⟩ = some (.int .i64 x.b) := x2
   have ax3 : wr.cell? ⟨g, q * 5 + 3, none⟩ = some (.int .i64 x.c) := x3
   have ax4 : wr.cell? ⟨g, q * 5 + 4, none⟩ = some v1 := x4
   have ay0 : wr.cell? ⟨g', o' + q * 5, none⟩ = some (.int .i64 x.k) := y0
   have ay1 : wr.cell? ⟨g', o' + q * 5 + 1, none⟩ = some (.int .i64 x.a) := y1
   have ay2 : wr.cell? ⟨g', o' + q * 5 + 2, none⟩ = some (.int .i64 x.b) := y2
   have ay3 : wr.cell? ⟨g', o' + q * 5 + 3, none⟩ = some (.int .i64 x.c) := y3
   have ay4 : wr.cell? ⟨g', o' + q * 5 + 4, none⟩ = some v2 := y4
   go_wp2_with fail
   go_region_held3 (fun w' => w'.cell? ⟨g, q * 5, none⟩ = some (.int .i64 x.k) /\ w'.cell? ⟨g, q * 5 + 1, none⟩ = some (.int .i64 x.a) /\ w'.cell? ⟨g, q * 5 + 2, none⟩ = some (.int .i64 x.b) /\ w'.cell? ⟨g, q * 5 + 3, none⟩ = some (.int .i64 x.c) /\ w'.cell? ⟨g, q * 5 + 4, none⟩ = some v1 /\ w'.cell? ⟨g', o' + q * 5, none⟩ = some (.int .i64 x.k) /\ w'.cell? ⟨g', o' + q * 5 + 1, none⟩ = some (.int .i64 x.a) /\ w'.cell? ⟨g', o' + q * 5 + 2, none⟩ = some (.int .i64 x.b) /\ w'.cell? ⟨g', o' + q * 5 + 3, none⟩ = some (.int .i64 x.c) /\ w'.cell? ⟨g', o' + q * 5 + 4, none⟩ = some v2) (go_keep) (first | (go_at_call 199; refine cK.mono ?_; rintro e w1 ⟨rfl, b1⟩; have bx0 := IBase.below_cell x0 b1; have bx1 := IBase.below_cell x1 b1; have bx2 := IBase.below_cell x2 b1; have bx3 := IBase.below_cell x3 b1; have bx4 := IBase.below_cell x4 b1; have by0 := IBase.below_cell y0 b1; have by1 := IBase.below_cell y1 b1; have by2 := IBase.below_cell y2 b1; have by3 := IBase.below_cell y3 b1; have by4 := IBase.below_cell y4 b1) | fail)
   rename_i hHeld
   clear hHeld
   go_wp2_with fail
   go_roundw
   case rel => exact ⟨q + 1, by omega, by go_num, hb.drew.trans (b1.mono hb.size)⟩
   case measure => simp only [intOf]; omega
  ·have hlt' : decide ((q : Int) < (l.length : Int)) = false := by simp; omega
   go_wp2_with fail
   go_ret
   exact ⟨rfl, hb⟩
theorem nilO_c (w : World) : Calls prog 118 #[.slice none 0 0, .slice none 0 0] w fun e w' => e = .returned (.bool true) /\ Below w.heap.size w w' := by
 go_enter func118, ntmps118
 go_wp2_with fail
 go_loopw [5] (fun i wr => i = .int .i64 0 /\ wr = w) (fun _ _ => 0)
 case atStart => exact ⟨rfl, rfl⟩
 case round =>
  obtain ⟨rfl, rfl⟩ := hrel
  go_wp2_with fail
  go_ret
  exact ⟨rfl, Below.refl _ _⟩
theorem room_B (w : World) : Calls prog 72 #[.agg #[.int .i64 (-7), .slice none 0 0, .slice none 0 0], .agg #[.int .i64 (-7), .slice none 0 0, .slice none 0 0]] w fun e w' => e = .returned (.bool true) /\ Below w.heap.size w w' := by
 obtain ⟨W0, hW0⟩ : ∃ W0, (w.alloc (.cells #[.int .i64 (-7), .slice none 0 0, .slice none 0 0] 74)).alloc (.cells #[.int .i64 (-7), .slice none 0 0, .slice none 0 0] 74) = W0 := ⟨_, rfl⟩
 have hb0 : Below w.heap.size w W0 := by rw [<- hW0]; exact ((Below.refl _ w).alloc (Nat.le_refl _) _).alloc (by simp) _
 have hd := nilO_c W0
 have hsz : w.heap.size + 1 < W0.heap.size := by rw [<- hW0]; simp
 have hs0 := hb0.size
 have x0 : W0.heap[w.heap.size]? = some (.cells #[.int .i64 (-7), .slice none 0 0, .slice none 0 0] 74 (0, 0)) := by rw [<- hW0, Below.heap_alloc _ _ _ (by simp), heap_alloc_new]
 have x1 : W0.heap[w.heap.size + 1]? = some (.cells #[.int .i64 (-7), .slice none 0 0, .slice none 0 0] 74 (0, 0)) := by
  have := heap_alloc_new (w.alloc (.cells #[.int .i64 (-7), .slice none 0 0, .slice none 0 0] 74)) (.cells #[.int .i64 (-7), .slice none 0 0, .slice none 0 0] 74)
  rwa [hW0, World.size_alloc] at this
 have p0 := cell_of x0 0 _ rfl
 have p1 := cell_of x0 1 _ rfl
 have q0 := cell_of x1 0 _ rfl
 have q1 := cell_of x1 1 _ rfl
 have X0 := hid x0
 have X1 := hid x1
 go_enter func72, ntmps72
 go_wp2_with (first | (go_at_call 118; refine hd.mono ?_; rintro e w2 ⟨rfl, b2⟩; have hc := nil_c w2; have hs2 := b2.size; have p2 := cell_of ((b2.block w.heap.size (by omega)).trans X0.out) 2 _ rfl; have q2 := cell_of ((b2.block (w.heap.size + 1) hsz).trans X1.out) 2 _ rfl) | (go_at_call 119; refine hc.mono ?_; rintro e w1 ⟨rfl, b1⟩))
 go_ret
 exact ⟨rfl, hb0.trans ((b2.mono hs0).trans (b1.mono (by omega)))⟩
theorem keptB1_c {S R : Nat -> Prop} {w : World} {k : Bk} {u1 u2 v1 v2 : Value} (h1 : LtR HdLO 5 mO S w u1 k.o) (h2 : LxS S w u2 k.u) (h3 : RrS 5 (LyOs R) R w v1 k.o) (h4 : RrS 1 LyI R w v2 k.u) (hR : ∀ g, R g -> g < w.heap.size) (hz : szB k) :
  Calls prog 105 #[.agg #[.int .i64 k.d, u1, u2], .agg #[.int .i64 k.d, v1, v2]] w fun e w' => e = .returned (.bool true) /\ Below w.heap.size w w' := by
 obtain ⟨W0, hW0⟩ : ∃ W0, (w.alloc (.cells #[.int .i64 k.d, u1, u2] 74)).alloc (.cells #[.int .i64 k.d, v1, v2] 74) = W0 := ⟨_, rfl⟩
 have hb0 : Below w.heap.size w W0 := by rw [<- hW0]; exact ((Below.refl _ w).alloc (Nat.le_refl _) _).alloc (by simp) _
 have hs0 := hb0.size
 have kp : ∀ {P : Nat -> Prop} {w' : World}, Below w.heap.size w w' -> Keep P w w' := fun hb b _ hl => hb.block b hl
 have H2 := hid h2
 have H4 := hid h4
 have HR := hid hR
 have hc := keptO_c (w := W0) (h1.keep sLO (kp hb0) fun _ h => h) (h3.keep (S' := R) (fun _ h => h) fun g o x _ hg h => kO (kp hb0) (fun _ h => h) hg h) (fun g hg => by have := hR g hg; omega) hz.2.1
 have HC2 : Hid (∀ w', Below w.heap.size w w' -> Calls prog 159 #[u2, v2] w' fun e w'' => e = .returned (.bool true) /\ Below w'.heap.size w' w'') := fun w' hb => keptI1_c (H2.out.keep (kp hb) fun _ h => h) (H4.out.keep (S' := R) (fun _ h => h) fun g o x _ hg h => kI (kp hb) hg h) hz.2.2
 have x0 : W0.heap[w.heap.size]? = some (.cells #[.int .i64 k.d, u1, u2] 74 (0, 0)) := by rw [<- hW0, Below.heap_alloc _ _ _ (by simp), heap_alloc_new]
 have x1 : W0.heap[w.heap.size + 1]? = some (.cells #[.int .i64 k.d, v1, v2] 74 (0, 0)) := by
  have := heap_alloc_new (w.alloc (.cells #[.int .i64 k.d, u1, u2] 74)) (.cells #[.int .i64 k.d, v1, v2] 74)
  rwa [hW0, World.size_alloc] at this
 have hsz : w.heap.size + 1 < W0.heap.size := by rw [<- hW0]; simp
 have X0 := hid x0
 have X1 := hid x1
 have p0 := cell_of x0 0 _ rfl
 have p1 := cell_of x0 1 _ rfl
 have q0 := cell_of x1 0 _ rfl
 have q1 := cell_of x1 1 _ rfl
 clear x0 x1 h1 h2 h3 h4 hR
 go_enter func105, ntmps105
 go_wp2_with (first
  | (go_at_call 158; refine hc.mono ?_; rintro e w1 ⟨rfl, b1⟩; have hb1 := hb0.trans (b1.mono hs0); have hc2 := HC2.out w1 hb1; have p2 := cell_of ((b1.block w.heap.size (by omega)).trans X0.out) 2 _ rfl; have q2 := cell_of ((b1.block (w.heap.size + 1) hsz).trans X1.out) 2 _ rfl)
  | (go_at_call 159; refine hc2.mono ?_; rintro e w2 ⟨rfl, b2⟩))
 go_ret
 exact ⟨rfl, hb1.trans (b2.mono hb1.size)⟩
theorem keptB_c {S R : Nat -> Prop} {w : World} {u v : Value} {l : List (Bk)} (hu : LtR HdLB 3 mB S w u l) (hv : RrS 3 (LyBs R) R w v l) (hR : ∀ g, R g -> g < w.heap.size) (hz : ∀ x ∈ l, szB x) :
  Calls prog 53 #[u, v] w fun e w' => e = .returned (.bool true) /\ Below w.heap.size w w' := by
 have HU := hid hu
 have HV := hid hv
 have HR := hid hR
 have HZ := hid hz
 obtain ⟨g, cap, rfl, -, h2, h3, -, h5, h6⟩ := hu
 obtain ⟨a', cap', rfl, hlc', hm', -⟩ := hv
 have d0 := h5 0 _ rfl
 have e0 := h6 0 _ rfl
 have d1 := h5 1 _ rfl
 have e1 := h6 1 _ rfl
 have d2 := h5 2 _ rfl
 have e2 := h6 2 _ rfl
 rw [Nat.add_zero] at d0 e0
 have c1 := room_B w
 clear h5 h6
 go_enter func53, ntmps53
 go_wp2_with fail
 refine (room_B _).mono ?_
 rintro e w1 ⟨rfl, b1⟩
 have e0 := IBase.below_cell e0 b1
 have e1 := IBase.below_cell e1 b1
 have e2 := IBase.below_cell e2 b1
 go_wp2_with fail
 refine (room_B _).mono ?_
 rintro e w2 ⟨rfl, b2⟩
 have b12 : Below w.heap.size w w2 := b1.trans (b2.mono b1.size)
 clear b1 b2 d0 e0 d1 e1 d2 e2 c1
 go_wp2_with fail
 go_loopw [6] (fun i wr => ∃ q : Nat, q <= l.length /\ i = .int .i64 q /\ Below w.heap.size w wr) (fun i _ => l.length - (intOf i).toNat)
 case atStart => exact ⟨0, by omega, rfl, b12⟩
 case round =>
  obtain ⟨q, hq, rfl, hb⟩ := hrel
  by_cases hlt : q < l.length
  ·have hd := hb.drew
   have hu' := HU.out.keep sLB (S' := S) (w' := wr.drew) (fun b hS hl => hd.block b hl) (fun _ h => h)
   obtain ⟨g1, c1, E, -, -, -, hx, -⟩ := hu'
   obtain ⟨cs, k1, k2⟩ := hx q hlt
   obtain rfl : g = g1 := by cases E; rfl
   obtain ⟨g', o', c', E', -, -, hg', hy⟩ := RrS.at HV.out hlt
   cases E'
   have hy' := kB (S' := R) (fun b hS hl => hd.block b hl) (fun _ h => h) hg' hy
   have hzq := HZ.out _ (List.getElem_mem hlt)
   have hRd : ∀ g, R g -> g < wr.drew.heap.size := fun g hg => by have := HR.out g hg; have := hd.size; omega
   have i0 : (0 : Int) <= (q : Int) := by omega
   have i1 : (q : Int) < (l.length : Int) := by omega
   have t0 : decide ((q : Int) < (l.length : Int)) = true := by simp; omega
   generalize l[q] = x at *
   obtain ⟨v1, v2, rfl, -, hk1, hk2⟩ := k2
   obtain ⟨v3, v4, y0, y1, y2, -, hk3, hk4⟩ := hy'
   have x0 := k1 0 _ rfl
   have x1 := k1 1 _ rfl
   have x2 := k1 2 _ rfl
   rw [Nat.add_zero] at x0
   rw [Nat.zero_add] at x0 x1 x2
   have cK := keptB1_c hk1 hk2 hk3 hk4 hRd hzq
   clear k1 hx hy
   have ax0 : wr.cell? ⟨g, q * 3, none⟩ = some (.int .i64 x.d) := x0
   have ax1 : wr.cell? ⟨g, q * 3 + 1, none⟩ = some v1 := x1
   have ax2 : wr.cell? ⟨g, q * 3 + 2, none⟩ = some v2 := x2
   have ay0 : wr.cell? ⟨g', o' + q * 3, none⟩ = some (.int .i64 x.d) := y0
   have ay1 : wr.cell? ⟨g', o' + q * 3 + 1, none⟩ = some v3 := y1
   have ay2 : wr.cell? ⟨g', o' + q * 3 + 2, none⟩ = some v4 := y2
   go_wp2_with fail
   go_region_held3 (fun w' => w'.cell? ⟨g, q * 3, none⟩ = some (.int .i64 x.d) /\ w'.cell? ⟨g, q * 3 + 1, none⟩ = some v1 /\ w'.cell? ⟨g, q * 3 + 2, none⟩ = some v2 /\ w'.cell? ⟨g', o' + q * 3, none⟩ = some (.int .i64 x.d) /\ w'.cell? ⟨g', o' + q * 3 + 1, none⟩ = some v3 /\ w'.cell? ⟨g', o' + q * 3 + 2, none⟩ = some v4) (go_keep) (first | (go_at_call 105; refine cK.mono ?_; rintro e w1 ⟨rfl, b1⟩; have bx0 := IBase.below_cell x0 b1; have bx1 := IBase.below_cell x1 b1; have bx2 := IBase.below_cell x2 b1; have by0 := IBase.below_cell y0 b1; have by1 := IBase.below_cell y1 b1; have by2 := IBase.below_cell y2 b1) | fail)
   rename_i hHeld
   clear hHeld
   go_wp2_with fail
   go_roundw
   case rel => exact ⟨q + 1, by omega, by go_num, hb.drew.trans (b1.mono hb.size)⟩
   case measure => simp only [intOf]; omega
  ·have hlt' : decide ((q : Int) < (l.length : Int)) = false := by simp; omega
   go_wp2_with fail
   go_ret
   exact ⟨rfl, hb⟩
end Go.Proofs.YtaiackmmmlhgbaaGreat.BLe
namespace Go.Proofs.YtaiackmmmlhgbaaGreat.BLf
open Go.RowKit YRr YRs BBx BCp BLa BLb BLd BLe
open YPl (Oq Bk Pg)
open YEn (InPg)
open BSf (hid Lo)
open Base (Tx)
open TBase (T Keep heap_alloc_new frozen_box Rg)
open CPu (Ins)
theorem tx_of {S : Nat -> Prop} {w : World} {v : Value} {L : List ByteArray} (h : RrS 1 LyS S w v L) (hz : L.length * 16 <= 140737488351232) : Tx false Base.All w v L := by
 have hs := rrs_all (P := fun x : ByteArray => x.size <= 140737488351232) h fun g o x h => h.2
 obtain ⟨a, cap, h1, h2, h3, h4, h5, h6⟩ := h
 refine ⟨a, cap, h1, h2, by unfold maxLen; omega, hz, hs, h5, ?_⟩
 rcases h6 with h6 | ⟨g, o, ha, hg, hc⟩
 ·exact .inl ⟨h6, rfl⟩
 ·exact .inr ⟨g, o, ha, trivial, fun j hj => by have := (hc j hj).1; rwa [Nat.mul_one] at this, fun e => by cases e⟩
theorem tx_sl {r : Bool} {S : Nat -> Prop} {w : World} {v : Value} {L : List ByteArray} (h : Tx r S w v L) : ∃ a c, v = .slice a L.length c := by obtain ⟨a, c, rfl, -⟩ := h; exact ⟨_, _, rfl⟩
theorem tx_keep {r : Bool} {S S' : Nat -> Prop} {w w' : World} {v : Value} {L : List ByteArray} (h : Tx r S w v L) (hk : Keep S w w') (hS : ∀ b, S b -> S' b) : Tx r S' w' v L := by
 obtain ⟨a, cap, h1, h2, h3, h4, h5, h6, h7⟩ := h
 refine ⟨a, cap, h1, h2, h3, h4, h5, h6, ?_⟩
 rcases h7 with h7 | ⟨g, o, ha, hg, hc, hr⟩
 ·exact .inl h7
 ·exact .inr ⟨g, o, ha, hS g hg, fun j hj => hk.cell hg (hc j hj), fun e => ⟨(hr e).1, hk.cell hg (hr e).2.1, hk.cell hg (hr e).2.2⟩⟩
theorem tx_rr {r : Bool} {S : Nat -> Prop} {w : World} {v : Value} {L : List ByteArray} (h : Tx r S w v L) : RrS 1 LyS S w v L := by
 obtain ⟨a, cap, h1, h2, h3, h4, h5, h6, h7⟩ := h
 refine ⟨a, cap, h1, h2, by unfold maxLen at h3; omega, by omega, h6, ?_⟩
 rcases h7 with ⟨h7, -⟩ | ⟨g, o, ha, hg, hc, -⟩
 ·exact .inl h7
 ·exact .inr ⟨g, o, ha, hg, fun j hj => ⟨by rw [Nat.mul_one]; exact hc j hj, h5 _ (List.getElem_mem hj)⟩⟩
theorem inl_sl {r : Bool} {S : Nat -> Prop} {w : World} {m : Nat} {v : Value} {l : List T} (h : TBase.InL r S w m v l) : ∃ a c, v = .slice a l.length c := by obtain ⟨a, c, rfl, -⟩ := h; exact ⟨_, _, rfl⟩
def LnP (S : Nat -> Prop) (m : Nat) (w : World) (u : Value) (x : Pg) : Prop := ∃ s1 s2 s3 s4, u = .agg #[s1, s2, s3, s4] /\ Tx true S w s1 x.t /\ LtR HdLC 1 mC S w s2 x.c /\ TBase.InL true S w m s3 x.s /\ LtR HdLB 3 mB S w s4 x.b
theorem LnP.keep {S S' : Nat -> Prop} {m : Nat} {w w' : World} {u : Value} {x : Pg} (h : LnP S m w u x) (hk : Keep S w w') (hS : ∀ b, S b -> S' b) : LnP S' m w' u x := by
 obtain ⟨s1, s2, s3, s4, rfl, h1, h2, h3, h4⟩ := h
 exact ⟨_, _, _, _, rfl, tx_keep h1 hk hS, h2.keep sLC hk hS, (h3.keep hk).weak hS true id m (Nat.le_refl _), h4.keep sLB hk hS⟩
theorem lendP_c {K m : Nat} {w : World} {v : Value} {x : Pg} (hI : InPg K m w v x) (hK : K <= w.heap.size) (hz : szP x) :
  Calls prog 14 #[v] w fun e w' => ∃ u, e = .returned u /\ LnP (Nw w w') m w' u x /\ Below w.heap.size w w' := by
 have HI : Hid (∀ W', Below w.heap.size w W' -> InPg K m W' v x) := fun W' hb => hI.below (hb.mono hK)
 obtain ⟨a, n1, c1, b, n2, c2, c, n3, c3, d, n4, c4, rfl, -⟩ := hI
 obtain ⟨W2, hW2⟩ : ∃ W2, (w.alloc (.cells #[.slice a n1 c1, .slice b n2 c2, .slice c n3 c3, .slice d n4 c4] 29)).alloc (.cells #[.slice none 0 0, .slice none 0 0, .slice none 0 0, .slice none 0 0] 29) = W2 := ⟨_, rfl⟩
 have b2 : Below w.heap.size w W2 := by rw [<- hW2]; exact ((Below.refl _ w).alloc (Nat.le_refl _) _).alloc (by simp) _
 have s2 : w.heap.size + 2 <= W2.heap.size := by rw [<- hW2]; simp
 have hx0 : W2.heap[w.heap.size]? = some (.cells #[.slice a n1 c1, .slice b n2 c2, .slice c n3 c3, .slice d n4 c4] 29 (0, 0)) := by
  rw [<- hW2, Below.heap_alloc _ _ _ (by simp), heap_alloc_new]
 have hx1 : W2.heap[w.heap.size + 1]? = some (.cells #[.slice none 0 0, .slice none 0 0, .slice none 0 0, .slice none 0 0] 29 (0, 0)) := by
  have := heap_alloc_new (w.alloc (.cells #[.slice a n1 c1, .slice b n2 c2, .slice c n3 c3, .slice d n4 c4] 29)) (.cells #[.slice none 0 0, .slice none 0 0, .slice none 0 0, .slice none 0 0] 29)
  rwa [hW2, World.size_alloc] at this
 have HP : Hid (∀ W, Below W2.heap.size W2 W -> RrS 1 LyS (Lo K) W (.slice a n1 c1) x.t /\ RrS 1 (LyCs (Lo K)) (Lo K) W (.slice b n2 c2) x.c /\ TBase.InL false (TVisit.Lo K) W m (.slice c n3 c3) x.s /\ RrS 3 (LyBs (Lo K)) (Lo K) W (.slice d n4 c4) x.b /\ (∀ g, Lo K g -> g < W.heap.size) /\ 0 < W.heap.size /\ Below w.heap.size w W) := by
  intro W hW
  have hs := hW.size
  have hb := b2.trans (hW.mono (by omega))
  obtain ⟨_, _, _, _, _, _, _, _, _, _, _, _, e, h1, h2, h3, h4⟩ := HI.out W hb
  cases e
  exact ⟨h1, h2, h3, h4, fun g hg => by have : g < K := hg; omega, by omega, hb⟩
 have HN : Hid (∀ W, Below W2.heap.size W2 W -> (W.cell? ⟨w.heap.size, 0, none⟩ = some (.slice a n1 c1) /\ W.cell? ⟨w.heap.size, 1, none⟩ = some (.slice b n2 c2) /\ W.cell? ⟨w.heap.size, 2, none⟩ = some (.slice c n3 c3) /\ W.cell? ⟨w.heap.size, 3, none⟩ = some (.slice d n4 c4)) /\ W.heap[w.heap.size + 1]? = some (.cells #[.slice none 0 0, .slice none 0 0, .slice none 0 0, .slice none 0 0] 29 (0, 0))) := fun W hW => ⟨TBase.four_box ((hW.block _ (by omega)).trans hx0), (hW.block _ (by omega)).trans hx1⟩
 have hd : Below W2.heap.size W2 W2.drew := (Below.refl _ W2).drew
 have cT := Lend.lendT_c _ x.t W2.drew (tx_of (HP.out _ hd).1 hz.1)
 have cC : Hid (∀ W, Below W2.heap.size W2 W -> Calls prog 41 #[.slice b n2 c2] W fun e w' => ∃ u, e = .returned u /\ LtR HdLC 1 mC (Nw W w') w' u x.c /\ Below W.heap.size W w') := fun W hW => lendC_c (HP.out W hW).2.1 (HP.out W hW).2.2.2.2.1 (HP.out W hW).2.2.2.2.2.1 hz.2.1 hz.2.2.1
 have cS : Hid (∀ W, Below W2.heap.size W2 W -> Calls prog 42 #[.slice c n3 c3] W fun e w' => ∃ u, e = .returned u /\ TBase.InL true (Rg W.heap.size w'.heap.size) w' m u x.s /\ Below W.heap.size W w') := fun W hW => TLends.lendTs_c m _ x.s W ((HP.out W hW).2.2.1.plain)
 have cB : Hid (∀ W, Below W2.heap.size W2 W -> Calls prog 43 #[.slice d n4 c4] W fun e w' => ∃ u, e = .returned u /\ LtR HdLB 3 mB (Nw W w') w' u x.b /\ Below W.heap.size W w') := fun W hW => lendB_c (HP.out W hW).2.2.2.1 (HP.out W hW).2.2.2.2.1 (HP.out W hW).2.2.2.2.2.1 hz.2.2.2.1 hz.2.2.2.2
 have HD := hid hd
 obtain ⟨e0, e1, e2, e3⟩ := (HN.out _ (Below.refl _ W2)).1
 have HBW := hid b2
 clear b2 hx0 hx1 hd
 go_enter func14, ntmps14
 go_wp2_with fail
 clear hW2
 go_region_held3 (fun w' => w'.cell? ⟨w.heap.size, 0, none⟩ = some (.slice a n1 c1) /\ w'.cell? ⟨w.heap.size, 1, none⟩ = some (.slice b n2 c2) /\ w'.cell? ⟨w.heap.size, 2, none⟩ = some (.slice c n3 c3) /\ w'.cell? ⟨w.heap.size, 3, none⟩ = some (.slice d n4 c4)) (go_keep) (first
  | (have tt := HQ3; clear tt; go_at_call 43; refine (cB.out _ HQ3.out).mono ?_; rintro e w4 ⟨u4, rfl, r4, b4⟩; obtain ⟨ba, bc, rfl⟩ := r4.slice; have HR4 := hid r4; have HB4 := hid b4; have HQ4 := hid (HQ3.out.trans (b4.mono HQ3.out.size)); obtain ⟨⟨z0, z1, z2, z3⟩, z5⟩ := HN.out _ HQ4.out; obtain ⟨y0, y1, y2, y3⟩ := TBase.four_box z5; have f0 := frozen_box z5 0; have f1 := frozen_box z5 1; have f2 := frozen_box z5 2; have f3 := frozen_box z5 3; have Z5 := hid z5; clear r4 b4 z5)
  | (have tt := HQ2; clear tt; go_at_call 42; refine (cS.out _ HQ2.out).mono ?_; rintro e w3 ⟨u3, rfl, o3, b3⟩; have HR3 := hid o3; obtain ⟨sa, sc, rfl⟩ := inl_sl o3; have HB3 := hid b3; have HQ3 := hid (HQ2.out.trans (b3.mono HQ2.out.size)); obtain ⟨⟨z0, z1, z2, z3⟩, -⟩ := HN.out _ HQ3.out; clear o3 b3)
  | (have tt := HQ1; clear tt; go_at_call 41; refine (cC.out _ HQ1.out).mono ?_; rintro e w2 ⟨u2, rfl, r2, b2⟩; obtain ⟨ca, cc, rfl⟩ := r2.slice; have HR2 := hid r2; have HB2 := hid b2; have HQ2 := hid (HQ1.out.trans (b2.mono HQ1.out.size)); obtain ⟨⟨z0, z1, z2, z3⟩, -⟩ := HN.out _ HQ2.out; clear r2 b2)
  | (go_at_call 40; refine cT.mono ?_; rintro e w1 ⟨u1, rfl, r1, b1⟩; have HR1 := hid r1; obtain ⟨ta, tc, rfl⟩ := tx_sl r1; have HQ1 := hid (HD.out.trans b1); obtain ⟨⟨z0, z1, z2, z3⟩, -⟩ := HN.out _ HQ1.out; clear r1 b1)
  | fail)
 go_wp2_with fail
 obtain ⟨W9, hW9⟩ : ∃ W, (((w4.setCell ⟨w.heap.size + 1, 0, none⟩ (.slice ta x.t.length tc)).setCell ⟨w.heap.size + 1, 1, none⟩ (.slice ca x.c.length cc)).setCell ⟨w.heap.size + 1, 2, none⟩ (.slice sa x.s.length sc)).setCell ⟨w.heap.size + 1, 3, none⟩ (.slice ba x.b.length bc) = W := ⟨_, rfl⟩
 try rw [hW9]
 obtain ⟨m9, r9⟩ := YRg.set4 _ _ _ _ Z5.out hW9
 refine bodyPost_ret (results_cell_row rfl _ W9 (w.heap.size + 1) 29 _ (0, 0) _ rfl m9 underlying29 rfl (by kernel_rfl)) rfl ?_
 have t1 : W2.heap.size <= w1.heap.size := HQ1.out.size
 have t2 := HB2.out.size
 have t3 := HB3.out.size
 have t4 := HB4.out.size
 have t9 := r9.size
 have k4 : ∀ b, W2.heap.size <= b -> b < w4.heap.size -> W9.heap[b]? = w4.heap[b]? := fun b h1 h2 => r9.block b h2 (fun e => by cases e; omega)
 have k3 : ∀ b, W2.heap.size <= b -> b < w3.heap.size -> W9.heap[b]? = w3.heap[b]? := fun b h1 h2 => (k4 b h1 (by omega)).trans (HB4.out.block b h2)
 have k2 : ∀ b, W2.heap.size <= b -> b < w2.heap.size -> W9.heap[b]? = w2.heap[b]? := fun b h1 h2 => (k3 b h1 (by omega)).trans (HB3.out.block b h2)
 have k1 : ∀ b, W2.heap.size <= b -> b < w1.heap.size -> W9.heap[b]? = w1.heap[b]? := fun b h1 h2 => (k2 b h1 (by omega)).trans (HB2.out.block b h2)
 refine ⟨_, rfl, ⟨_, _, _, _, rfl, tx_keep HR1.out (fun b hb hl => k1 b hb.1 hb.2) (fun b hb => ⟨by have h1 : W2.heap.size <= b := hb.1; omega, by have h1 : b < w1.heap.size := hb.2; omega⟩), HR2.out.keep sLC (fun b hb hl => k2 b (by have := hb.1; omega) hb.2) (fun b hb => ⟨by have := hb.1; omega, by have := hb.2; omega⟩), (HR3.out.keep (fun b hb hl => k3 b (by have := hb.1; omega) hb.2)).weak (fun b hb => ⟨by have := hb.1; omega, by have := hb.2; omega⟩) true id m (Nat.le_refl _), HR4.out.keep sLB (fun b hb hl => k4 b (by have := hb.1; omega) hb.2) (fun b hb => ⟨by have := hb.1; omega, by have := hb.2; omega⟩)⟩, (HBW.out.trans (HQ4.out.mono (by omega))).grown r9 (by have := HBW.out.size; omega) (fun r hr => by cases hr; omega)⟩
theorem keptP_c {S : Nat -> Prop} {K m : Nat} {w : World} {u v : Value} {x : Pg} (hu : LnP S m w u x) (hI : InPg K m w v x) (hK : K <= w.heap.size) (hz : szP x) :
  Calls prog 17 #[u, v] w fun e w' => e = .returned (.bool true) /\ Below w.heap.size w w' := by
 have HI : Hid (∀ W', Below w.heap.size w W' -> InPg K m W' v x) := fun W' hb => hI.below (hb.mono hK)
 have HU : Hid (∀ W', Below w.heap.size w W' -> LnP S m W' u x) := fun W' hb => hu.keep (fun b _ hl => hb.block b hl) fun _ h => h
 obtain ⟨a, n1, c1, b, n2, c2, c, n3, c3, d, n4, c4, rfl, -⟩ := hI
 obtain ⟨s1, s2, s3, s4, rfl, -⟩ := hu
 have HP : Hid (∀ W, Below w.heap.size w W -> RrS 1 LyS (Lo K) W (.slice a n1 c1) x.t /\ RrS 1 (LyCs (Lo K)) (Lo K) W (.slice b n2 c2) x.c /\ TBase.InL false (TVisit.Lo K) W m (.slice c n3 c3) x.s /\ RrS 3 (LyBs (Lo K)) (Lo K) W (.slice d n4 c4) x.b /\ (∀ g, Lo K g -> g < W.heap.size)) := by
  intro W hW
  have hs := hW.size
  obtain ⟨_, _, _, _, _, _, _, _, _, _, _, _, e, h1, h2, h3, h4⟩ := HI.out W hW
  cases e
  exact ⟨h1, h2, h3, h4, fun g hg => by have : g < K := hg; omega⟩
 have HL : Hid (∀ W, Below w.heap.size w W -> Tx true S W s1 x.t /\ LtR HdLC 1 mC S W s2 x.c /\ TBase.InL true S W m s3 x.s /\ LtR HdLB 3 mB S W s4 x.b) := by
  intro W hW
  obtain ⟨_, _, _, _, e, h1, h2, h3, h4⟩ := HU.out W hW
  cases e
  exact ⟨h1, h2, h3, h4⟩
 obtain ⟨W2, hW2⟩ : ∃ W2, (w.alloc (.cells #[s1, s2, s3, s4] 29)).alloc (.cells #[.slice a n1 c1, .slice b n2 c2, .slice c n3 c3, .slice d n4 c4] 29) = W2 := ⟨_, rfl⟩
 have b2 : Below w.heap.size w W2 := by rw [<- hW2]; exact ((Below.refl _ w).alloc (Nat.le_refl _) _).alloc (by simp) _
 have hsz : w.heap.size + 1 < W2.heap.size := by rw [<- hW2]; simp
 have x0 : W2.heap[w.heap.size]? = some (.cells #[s1, s2, s3, s4] 29 (0, 0)) := by rw [<- hW2, Below.heap_alloc _ _ _ (by simp), heap_alloc_new]
 have x1 : W2.heap[w.heap.size + 1]? = some (.cells #[.slice a n1 c1, .slice b n2 c2, .slice c n3 c3, .slice d n4 c4] 29 (0, 0)) := by
  have := heap_alloc_new (w.alloc (.cells #[s1, s2, s3, s4] 29)) (.cells #[.slice a n1 c1, .slice b n2 c2, .slice c n3 c3, .slice d n4 c4] 29)
  rwa [hW2, World.size_alloc] at this
 have HN : Hid (∀ W, Below W2.heap.size W2 W -> W.cell? ⟨w.heap.size, 0, none⟩ = some s1 /\ W.cell? ⟨w.heap.size, 1, none⟩ = some s2 /\ W.cell? ⟨w.heap.size, 2, none⟩ = some s3 /\ W.cell? ⟨w.heap.size, 3, none⟩ = some s4 /\ W.cell? ⟨w.heap.size + 1, 0, none⟩ = some (.slice a n1 c1) /\ W.cell? ⟨w.heap.size + 1, 1, none⟩ = some (.slice b n2 c2) /\ W.cell? ⟨w.heap.size + 1, 2, none⟩ = some (.slice c n3 c3) /\ W.cell? ⟨w.heap.size + 1, 3, none⟩ = some (.slice d n4 c4)) := fun W hW => by
  obtain ⟨p0, p1, p2, p3⟩ := TBase.four_box ((hW.block w.heap.size (by omega)).trans x0)
  obtain ⟨q0, q1, q2, q3⟩ := TBase.four_box ((hW.block (w.heap.size + 1) (by omega)).trans x1)
  exact ⟨p0, p1, p2, p3, q0, q1, q2, q3⟩
 have HB := hid b2
 have k1 := SameT.keptT_c (S := S) s1 (.slice a n1 c1) x.t W2 (HL.out _ b2).1 (tx_of (HP.out _ b2).1 hz.1)
 have K2 : Hid (∀ W, Below w.heap.size w W -> Calls prog 51 #[s2, .slice b n2 c2] W fun e w' => e = .returned (.bool true) /\ Below W.heap.size W w') := fun W hW => keptC_c (HL.out W hW).2.1 (HP.out W hW).2.1 (HP.out W hW).2.2.2.2 hz.2.2.1
 have K3 : Hid (∀ W, Below w.heap.size w W -> Calls prog 52 #[s3, .slice c n3 c3] W fun e w' => e = .returned (.bool true) /\ Below W.heap.size W w') := fun W hW => TKept.kepts_c (S := S) m s3 _ x.s W (HL.out W hW).2.2.1 (HP.out W hW).2.2.1.plain
 have K4 : Hid (∀ W, Below w.heap.size w W -> Calls prog 53 #[s4, .slice d n4 c4] W fun e w' => e = .returned (.bool true) /\ Below W.heap.size W w') := fun W hW => keptB_c (HL.out W hW).2.2.2 (HP.out W hW).2.2.2.1 (HP.out W hW).2.2.2.2 hz.2.2.2.2
 obtain ⟨p0, p1, p2, p3, q0, q1, q2, q3⟩ := HN.out W2 (Below.refl _ _)
 have hs2 := b2.size
 clear x0 x1 b2 hz
 go_enter func17, ntmps17
 go_wp2_with (first
  | (have tt := HB3; clear tt; go_at_call 53; refine (K4.out _ HB3.out).mono ?_; rintro e w4 ⟨rfl, b4⟩; have HB4 := hid (HB3.out.trans (b4.mono HB3.out.size) : Below w.heap.size w w4))
  | (have tt := HB2; clear tt; go_at_call 52; refine (K3.out _ HB2.out).mono ?_; rintro e w3 ⟨rfl, b3⟩; have HB3 := hid (HB2.out.trans (b3.mono HB2.out.size) : Below w.heap.size w w3); have HC3 := hid (HC2.out.trans (b3.mono HC2.out.size)); obtain ⟨p0, p1, p2, p3, q0, q1, q2, q3⟩ := HN.out w3 HC3.out)
  | (have tt := HB1; clear tt; go_at_call 51; refine (K2.out _ HB1.out).mono ?_; rintro e w2 ⟨rfl, b2⟩; have HB2 := hid (HB1.out.trans (b2.mono HB1.out.size) : Below w.heap.size w w2); have HC2 := hid (HC1.out.trans (b2.mono HC1.out.size)); obtain ⟨p0, p1, p2, p3, q0, q1, q2, q3⟩ := HN.out w2 HC2.out)
  | (go_at_call 50; refine k1.mono ?_; rintro e w1 ⟨rfl, b1⟩; have HB1 := hid (HB.out.trans (b1.mono hs2) : Below w.heap.size w w1); have HC1 := hid b1; obtain ⟨p0, p1, p2, p3, q0, q1, q2, q3⟩ := HN.out w1 b1))
 go_ret
 exact ⟨rfl, HB4.out⟩
end Go.Proofs.YtaiackmmmlhgbaaGreat.BLf
