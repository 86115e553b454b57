import Derived.BigQuiet
import Derived.Deep.CutBlock
import Derived.Deep.CutRange
import Derived.Deep.RegionHeld3
import Derived.Test.YtaiackmmmlhgbaaGreatPV02
import Derived.Test.YtaiackmmmlhgbaaGreatPV15
import Derived.Test.YtaiackmmmlhgbaaGreatPV17
import Derived.Test.YtaiackmmmlhgbaaGreatPV18
import Derived.Test.YtaiackmmmlhgbaaGreatPV22
import Derived.Test.YtaiackmmmlhgbaaGreatPV23
open Go.Proofs.Tryz
set_option linter.unusedVariables false
set_option maxRecDepth 20000
set_option maxHeartbeats 3200000
namespace Go.Proofs.YtaiackmmmlhgbaaGreat.BQb
open Go.RowKit BPl YRr YRs BBx BQa BPs
open YPl (Oq Bk Pg)
open BRo (f1 f2 bks_f)
open BSf (hid)
open TBase (heap_alloc_new)
def Lw (w : World) (X : Nat) (tv cv sv bv iv : Value) (bk pl ft at' dp : Int) (lv nv : Value) : Prop := w.heap[X]? = some (.cells #[tv, cv, sv, bv, iv, .int .i64 bk, .int .i64 pl, .int .i64 ft, .int .i64 at', .int .i64 dp, lv, nv] 106 (0, 0))
theorem Lw.cell {w : World} {X : Nat} {tv cv sv bv iv : Value} {bk pl ft at' dp : Int} {lv nv : Value} (h : Lw w X tv cv sv bv iv bk pl ft at' dp lv nv) :
  w.cell? ⟨X, 0, none⟩ = some tv /\ w.cell? ⟨X, 1, none⟩ = some cv /\ w.cell? ⟨X, 2, none⟩ = some sv /\ w.cell? ⟨X, 3, none⟩ = some bv /\ w.cell? ⟨X, 4, none⟩ = some iv /\ w.cell? ⟨X, 5, none⟩ = some (.int .i64 bk) /\ w.cell? ⟨X, 6, none⟩ = some (.int .i64 pl) /\ w.cell? ⟨X, 7, none⟩ = some (.int .i64 ft) /\ w.cell? ⟨X, 8, none⟩ = some (.int .i64 at') /\ w.cell? ⟨X, 9, none⟩ = some (.int .i64 dp) /\ w.cell? ⟨X, 10, none⟩ = some lv /\ w.cell? ⟨X, 11, none⟩ = some nv :=
 ⟨cell_of h 0 _ rfl, cell_of h 1 _ rfl, cell_of h 2 _ rfl, cell_of h 3 _ rfl, cell_of h 4 _ rfl, cell_of h 5 _ rfl, cell_of h 6 _ rfl, cell_of h 7 _ rfl, cell_of h 8 _ rfl, cell_of h 9 _ rfl, cell_of h 10 _ rfl, cell_of h 11 _ rfl⟩
theorem Lw.setp {w : World} {X : Nat} {tv cv sv bv iv : Value} {bk pl ft at' dp : Int} {lv nv : Value} (h : Lw w X tv cv sv bv iv bk pl ft at' dp lv nv) (e p : Int) : Lw ((w.setCell ⟨X, 7, none⟩ (.int .i64 e)).setCell ⟨X, 6, none⟩ (.int .i64 p)) X tv cv sv bv iv bk p e at' dp lv nv := by
 unfold Lw at *
 have h1 := BVf.cell_set h 7 (.int .i64 e)
 exact BVf.cell_set h1 6 (.int .i64 p)
theorem fail_c {w : World} {X : Nat} {tv cv sv bv iv : Value} {bk pl ft at' dp : Int} {lv nv : Value} (h : Lw w X tv cv sv bv iv bk pl ft at' dp lv nv) (e p : Int) :
  Calls prog 48 #[.pointer (some ⟨X, 0, none⟩), .int .i64 e, .int .i64 p] w fun r w' => (∃ v, r = .returned v) /\ Lw w' X tv cv sv bv iv bk (if ft = 0 then p else pl) (if ft = 0 then e else ft) at' dp lv nv /\ BHm.Xb X w w' := by
 obtain ⟨-, -, -, -, -, -, k6, k7, -⟩ := h.cell
 by_cases hf : ft = 0
 ·subst hf
  have f6 := TBase.frozen_box h 6
  have f7 := TBase.frozen_box h 7
  have h1 := BVf.cell_set h 7 (.int .i64 e)
  have q6 := cell_of h1 6 (.int .i64 pl) rfl
  have g6 := TBase.frozen_box h1 6
  have HH := hid (h.setp e p)
  rw [if_pos rfl, if_pos rfl]
  clear h h1
  go_enter func48, ntmps48
  go_wp2_with fail
  go_end0
  exact ⟨⟨_, rfl⟩, HH.out, ⟨((Below.refl X w).setCell (p := ⟨X, 7, none⟩) (Nat.le_refl _) _).setCell (p := ⟨X, 6, none⟩) (Nat.le_refl _) _, fun g hg hq => (Below.heap_setCell _ _ _ _ hq).trans (Below.heap_setCell _ _ _ _ hq)⟩⟩
 ·have d : (ft == 0) = false := by simp [hf]
  have HH := hid h
  rw [if_neg hf, if_neg hf]
  clear h hf
  go_enter func48, ntmps48
  go_wp2_with fail
  go_end0
  exact ⟨⟨_, rfl⟩, HH.out, BHm.Xb.refl _ _⟩
theorem tagR_c (s : ByteArray) (hs : s.size <= 140737488351232) (w : World) : Calls prog 116 #[.string s] w fun e w' => e = .returned (.bool (UBase.word s 45)) /\ w = w' := by
 have c := UWord.ref_c s (by omega) 45 w
 generalize UBase.word s 45 = b at *
 go_enter func116, ntmps116
 go_wp2_with (first | (go_at_call 167; refine c.mono ?_; rintro e w' ⟨rfl, rfl⟩))
 go_ret
 exact ⟨rfl, rfl⟩
theorem tag_c {R : Nat -> Prop} {w : World} {X : Nat} {tv cv sv bv iv : Value} {bk pl ft at' dp : Int} {lv nv : Value} (h : Lw w X tv cv sv bv iv bk pl ft at' dp lv nv) {S : Sh} (ht : RrS 1 LyS R w tv S.t) (i : Int) :
  Calls prog 153 #[.pointer (some ⟨X, 0, none⟩), .int .i64 i] w fun e w' => e = .returned (.bool (isTg S i)) /\ w = w' := by
 have p0 := h.cell.1
 have cT := in_c i S.t.length w
 unfold isTg
 cases hN : isN i S.t.length with
 | false =>
  rw [hN] at cT
  obtain ⟨a, cap, rfl, -⟩ := ht
  generalize S.t.length = n at *
  clear hN h
  go_enter func153, ntmps153
  go_wp2_with (first | (go_at_call 102; refine cT.mono ?_; rintro e w1 ⟨rfl, h1⟩; obtain rfl := h1))
  go_ret
  exact ⟨rfl, rfl⟩
 | true =>
  rw [hN] at cT
  obtain ⟨q, rfl, hq⟩ := isN_of hN
  obtain ⟨g, o, cap, rfl, hl, hm, hg, hc⟩ := RrS.at ht hq
  have e1 : txa S (q : Int) = S.t[q] := getD_at hq _
  have cG := tagR_c S.t[q] hc.2 w
  rw [e1]
  have k0 := hc.1
  rw [Nat.mul_one] at k0
  have i0 : (0 : Int) <= (q : Int) := by omega
  have i1 : (q : Int) < (S.t.length : Int) := by omega
  generalize S.t[q] = s at *
  generalize UBase.word s 45 = z at *
  generalize S.t.length = n at *
  clear h ht hc e1 hN
  go_enter func153, ntmps153
  go_wp2_with (first | (go_at_call 102; refine cT.mono ?_; rintro e w1 ⟨rfl, h1⟩; obtain rfl := h1) | (go_at_call 116; refine cG.mono ?_; rintro e w1 ⟨rfl, h1⟩; obtain rfl := h1))
  go_ret
  exact ⟨rfl, rfl⟩
theorem nil_rrs {α : Type} {n : Nat} {Ly : World -> Nat -> Nat -> α -> Prop} {S : Nat -> Prop} {w : World} : RrS n Ly S w (.slice none 0 0) ([] : List α) := ⟨none, 0, rfl, Nat.le_refl _, by omega, by simp, fun _ => rfl, .inl rfl⟩
def cdl (o : Oq) : List Int × List Int :=
 if o.k = 2 \/ o.k = 8 \/ o.k = 11 then ([o.a], [0]) else if o.k = 5 then ([o.b], [0]) else if o.k = 9 then ([o.a, o.b], [0, 2]) else if o.k = 10 then (o.l, List.replicate o.l.length 0) else ([], [])
def Or (R : Nat -> Prop) (w : World) : Nat -> Prop := fun g => R g \/ w.heap.size <= g
theorem one_row {R : Nat -> Prop} {w : World} {g : Nat} {l : List Int} (h : w.heap[g]? = some (.cells (l.map (Value.int .i64)).toArray 3 (0, 0))) (hg : R g) (hi : ∀ x ∈ l, i64 x) (hl : l.length <= 140737488351232) : RrS 1 LyI R w (.slice (some ⟨g, 0, none⟩) l.length l.length) l :=
 ⟨some ⟨g, 0, none⟩, l.length, rfl, Nat.le_refl _, by omega, hl, (by intro e; cases e), .inr ⟨g, 0, rfl, hg, fun j hj => ⟨cell_of h _ _ (by simp [hj]), hi _ (List.getElem_mem hj)⟩⟩⟩
theorem codes_c {R : Nat -> Prop} {w : World} {o : Oq} {la : Option Addr} {lc : Nat} (hl : RrS 1 LyI R w (.slice la o.l.length lc) o.l) (hR : ∀ g, R g -> g < w.heap.size) (h64 : o.l.length <= 64) (ha : i64 o.a) (hb : i64 o.b) :
  Calls prog 154 #[.agg #[.int .i64 o.k, .int .i64 o.a, .int .i64 o.b, .int .i64 o.c, .slice la o.l.length lc]] w fun e w' => ∃ u v, e = .returned (.tuple #[u, v]) /\ RrS 1 LyI (Or R w) w' u (cdl o).1 /\ RrS 1 LyI (Or R w) w' v (cdl o).2 /\ Below w.heap.size w w' := by
 obtain ⟨W, hW, bW, sW, xW⟩ := BSm.box5 w (.int .i64 o.k) (.int .i64 o.a) (.int .i64 o.b) (.int .i64 o.c) (.slice la o.l.length lc) 127
 have z0 := cell_of xW 0 _ rfl
 have z1 := cell_of xW 1 _ rfl
 have z2 := cell_of xW 2 _ rfl
 have z4 := cell_of xW 4 _ rfl
 have hsW : w.heap.size < W.heap.size := by omega
 have BW := hid bW
 have HL := hid hl
 clear sW bW
 have mk2 : ∀ (l m : List Int), (∀ x ∈ l, i64 x) -> (∀ x ∈ m, i64 x) -> l.length <= 64 -> m.length <= 64 -> Hid (∀ W2, (W.alloc (.cells (l.map (Value.int .i64)).toArray 3)).alloc (.cells (m.map (Value.int .i64)).toArray 3) = W2 -> RrS 1 LyI (Or R w) W2 (.slice (some ⟨W.heap.size, 0, none⟩) l.length l.length) l /\ RrS 1 LyI (Or R w) W2 (.slice (some ⟨W.heap.size + 1, 0, none⟩) m.length m.length) m /\ Below w.heap.size w W2) := fun l m h1 h2 h3 h4 W2 e => by
  subst e
  refine ⟨one_row (by rw [Below.heap_alloc _ _ _ (by simp)]; exact heap_alloc_new _ _) (.inr (by omega)) h1 (by omega), one_row (by have := heap_alloc_new (W.alloc (.cells (l.map (Value.int .i64)).toArray 3)) (.cells (m.map (Value.int .i64)).toArray 3); rwa [World.size_alloc] at this) (.inr (by omega)) h2 (by omega), ?_⟩
  exact (BW.out.alloc (by omega) _).alloc (by simp; omega) _
 by_cases h2 : o.k = 2
 ·have e : cdl o = ([o.a], [0]) := by unfold cdl; simp [h2]
  have hk := mk2 [o.a] [0] (by intro x hx; simp at hx; subst hx; exact ha) (by intro x hx; simp at hx; subst hx; constructor <;> decide) (by simp) (by simp)
  have d2 : (o.k == 2) = true := by simp [h2]
  rw [e]
  clear h2 e mk2 hl hR
  go_enter func154, ntmps154
  go_wp2_with fail
  go_ret2
  obtain ⟨q1, q2, q3⟩ := hk.out _ rfl
  exact ⟨_, _, rfl, q1, q2, q3⟩
 by_cases h8 : o.k = 8
 ·have e : cdl o = ([o.a], [0]) := by unfold cdl; simp [h8]
  have hk := mk2 [o.a] [0] (by intro x hx; simp at hx; subst hx; exact ha) (by intro x hx; simp at hx; subst hx; constructor <;> decide) (by simp) (by simp)
  have d2 : (o.k == 2) = false := by simp [h8]
  have d8 : (o.k == 8) = true := by simp [h8]
  rw [e]
  clear h8 e mk2 hl hR
  go_enter func154, ntmps154
  go_wp2_with fail
  go_ret2
  obtain ⟨q1, q2, q3⟩ := hk.out _ rfl
  exact ⟨_, _, rfl, q1, q2, q3⟩
 by_cases h11 : o.k = 11
 ·have e : cdl o = ([o.a], [0]) := by unfold cdl; simp [h11]
  have hk := mk2 [o.a] [0] (by intro x hx; simp at hx; subst hx; exact ha) (by intro x hx; simp at hx; subst hx; constructor <;> decide) (by simp) (by simp)
  have d2 : (o.k == 2) = false := by simp [h11]
  have d8 : (o.k == 8) = false := by simp [h11]
  have d11 : (o.k == 11) = true := by simp [h11]
  rw [e]
  clear h11 e mk2 hl hR
  go_enter func154, ntmps154
  go_wp2_with fail
  go_ret2
  obtain ⟨q1, q2, q3⟩ := hk.out _ rfl
  exact ⟨_, _, rfl, q1, q2, q3⟩
 by_cases h5 : o.k = 5
 ·have e : cdl o = ([o.b], [0]) := by unfold cdl; simp [h5]
  have hk := mk2 [o.b] [0] (by intro x hx; simp at hx; subst hx; exact hb) (by intro x hx; simp at hx; subst hx; constructor <;> decide) (by simp) (by simp)
  have d2 : (o.k == 2) = false := by simp [h5]
  have d8 : (o.k == 8) = false := by simp [h5]
  have d11 : (o.k == 11) = false := by simp [h5]
  have d5 : (o.k == 5) = true := by simp [h5]
  rw [e]
  clear h5 e mk2 hl hR
  go_enter func154, ntmps154
  go_wp2_with fail
  go_ret2
  obtain ⟨q1, q2, q3⟩ := hk.out _ rfl
  exact ⟨_, _, rfl, q1, q2, q3⟩
 by_cases h9 : o.k = 9
 ·have e : cdl o = ([o.a, o.b], [0, 2]) := by unfold cdl; simp [h9]
  have hk := mk2 [o.a, o.b] [0, 2] (by intro x hx; simp at hx; rcases hx with rfl | rfl; exact ha; exact hb) (by intro x hx; simp at hx; rcases hx with rfl | rfl <;> (constructor <;> decide)) (by simp) (by simp)
  have d2 : (o.k == 2) = false := by simp [h9]
  have d8 : (o.k == 8) = false := by simp [h9]
  have d11 : (o.k == 11) = false := by simp [h9]
  have d5 : (o.k == 5) = false := by simp [h9]
  have d9 : (o.k == 9) = true := by simp [h9]
  rw [e]
  clear h9 e mk2 hl hR
  go_enter func154, ntmps154
  go_wp2_with fail
  go_ret2
  obtain ⟨q1, q2, q3⟩ := hk.out _ rfl
  exact ⟨_, _, rfl, q1, q2, q3⟩
 by_cases h10 : o.k = 10
 ·have e : cdl o = (o.l, List.replicate o.l.length 0) := by unfold cdl; simp [h10]
  have d2 : (o.k == 2) = false := by simp [h10]
  have d8 : (o.k == 8) = false := by simp [h10]
  have d11 : (o.k == 11) = false := by simp [h10]
  have d5 : (o.k == 5) = false := by simp [h10]
  have d9 : (o.k == 9) = false := by simp [h10]
  have d10 : (o.k == 10) = true := by simp [h10]
  have hmk := fun w => IBase.make_ints (n := o.l.length) (by omega) w
  have HZ : Hid (∀ W2, (W.alloc (.cells (IBase.mz o.l.length) 3)).heap = W2.heap -> RrS 1 LyI (Or R w) W2 (.slice (some ⟨W.heap.size, 0, none⟩) o.l.length o.l.length) (List.replicate o.l.length 0)) := fun W2 hh => by
   have hz : W2.heap[W.heap.size]? = some (.cells ((List.replicate o.l.length (0 : Int)).map (Value.int .i64)).toArray 3 (0, 0)) := by
    rw [<- hh]
    have em : IBase.mz o.l.length = ((List.replicate o.l.length (0 : Int)).map (Value.int .i64)).toArray := by
     apply Array.toList_inj.1
     rw [IBase.mz_list]
     apply List.ext_getElem
     ·simp [IBase.ro]
     ·intro i h1 h2
      simp [IBase.ro]
    rw [<- em]
    exact heap_alloc_new W _
   have := one_row (R := Or R w) hz (.inr (by omega)) (by intro x hx; rw [List.mem_replicate] at hx; rw [hx.2]; constructor <;> decide) (by rw [List.length_replicate]; omega)
   rw [List.length_replicate] at this
   exact this
  have HR := hid hR
  rw [e]
  generalize hg : o.l.length = n at *
  clear h10 e mk2 hl hR
  go_enter func154, ntmps154
  go_wp2_with fail
  go_region
  go_wp2_with fail
  go_ret2
  have HB2 := hid (show Below w.heap.size w (W.alloc (.cells (IBase.mz n) 3)).drew from (BW.out.alloc (by omega) _).drew)
  refine ⟨_, _, rfl, HL.out.keep (fun b hb => .inl hb) (fun g o x _ hg h => kI (S := R) (fun b hb hl => HB2.out.block b (HR.out b hb)) hg h), HZ.out _ rfl, HB2.out⟩
 have e : cdl o = ([], []) := by unfold cdl; simp [h2, h8, h11, h5, h9, h10]
 have d2 : (o.k == 2) = false := by simp [h2]
 have d8 : (o.k == 8) = false := by simp [h8]
 have d11 : (o.k == 11) = false := by simp [h11]
 have d5 : (o.k == 5) = false := by simp [h5]
 have d9 : (o.k == 9) = false := by simp [h9]
 have d10 : (o.k == 10) = false := by simp [h10]
 rw [e]
 clear h2 h8 h11 h5 h9 h10 e mk2 hl hR
 go_enter func154, ntmps154
 go_wp2_with fail
 go_ret2
 exact ⟨_, _, rfl, nil_rrs, nil_rrs, BW.out⟩
theorem BCg0 {w : World} {B B' : Nat} {ty : TypeId} {n len : Nat} {v : Value} {xs : List Value} (h : w.ownsRow B ty n v len xs) (hb : B' <= B) : w.ownsRow B' ty n v len xs := by
 refine ⟨h.1, ?_⟩
 rcases h.2 with h2 | ⟨g, cap, cur, h1, h2, h3⟩
 ·exact .inl h2
 ·exact .inr ⟨g, cap, cur, h1, by omega, h3⟩
theorem blocks_c (o : Oq) (la : Option Addr) (ln lc : Nat) (w : World) :
  Calls prog 156 #[.agg #[.int .i64 o.k, .int .i64 o.a, .int .i64 o.b, .int .i64 o.c, .slice la ln lc]] w fun e w' => ∃ u, e = .returned u /\ w'.ownsRow w.heap.size 3 1 u (bks o).length ((bks o).map (Value.int .i64)) /\ Below w.heap.size w w' := by
 obtain ⟨W, hW, bW, sW, xW⟩ := BSm.box5 w (.int .i64 o.k) (.int .i64 o.a) (.int .i64 o.b) (.int .i64 o.c) (.slice la ln lc) 127
 have XW := hid xW
 have hsW : w.heap.size < W.heap.size := by omega
 have z0 := cell_of xW 0 _ rfl
 have z1 := cell_of xW 1 _ rfl
 have z2 := cell_of xW 2 _ rfl
 have z3 := cell_of xW 3 _ rfl
 have BW := hid bW
 have HE := hid (bks_f o)
 obtain ⟨c1b, hc1⟩ : ∃ c1b, decide (o.k = 8 /\ o.b ≠ 0) = c1b := ⟨_, rfl⟩
 obtain ⟨c2b, hc2⟩ : ∃ c2b, decide ((o.k = 8 /\ o.c ≠ 0) \/ o.k = 9 \/ o.k = 10) = c2b := ⟨_, rfl⟩
 have HC1 := hid hc1
 have HC2 := hid hc2
 clear hc1 hc2 bW xW sW
 go_enter func156, ntmps156
 go_upto_region 2 with fail
 go_cut [11] from 4 to 11 (fun t wx => t = .bool c1b /\ wx = W)
 case first =>
  by_cases h8 : o.k = 8
  ·have d8 : (o.k == 8) = true := by simp [h8]
   by_cases hb : o.b = 0
   ·have db : (o.b != 0) = false := by simp [hb]
    have e : false = c1b := by rw [<- HC1.out]; simp [hb]
    subst e
    clear h8 hb
    go_wp2_with fail
    go_meet
    exact ⟨rfl, rfl⟩
   ·have db : (o.b != 0) = true := by simp [hb]
    have e : true = c1b := by rw [<- HC1.out]; simp [h8, hb]
    subst e
    clear h8 hb
    go_wp2_with fail
    go_meet
    exact ⟨rfl, rfl⟩
  ·have d8 : (o.k == 8) = false := by simp [h8]
   have e : false = c1b := by rw [<- HC1.out]; simp [h8]
   subst e
   clear h8
   go_wp2_with fail
   go_meet
   exact ⟨rfl, rfl⟩
 case rest =>
 obtain ⟨rfl, hwx⟩ := hcut
 obtain rfl := hwx.symm
 go_upto_if 11 with fail
 go_cut [3] from 12 to 16 (fun t wx => wx.ownsRow W.heap.size 3 1 t (f1 o).length ((f1 o).map (Value.int .i64)) /\ Below W.heap.size W wx)
 case first =>
  cases c1b with
  | false =>
   have e1 : BRo.f1 o = [] := by unfold BRo.f1; rw [if_neg (by simpa using HC1.out)]
   go_wp2_with fail
   go_meet
   rw [e1]
   exact ⟨World.ownsRow_nil _ _ _ _, Below.refl _ _⟩
  | true =>
   have e1 : BRo.f1 o = [o.b] := by unfold BRo.f1; rw [if_pos (by simpa using HC1.out)]
   have HE1 := hid e1
   obtain ⟨W6, hW6⟩ : ∃ W6, W.alloc (.cells #[.int .i64 o.b] 3) = W6 := ⟨_, rfl⟩
   have b6 : Below W.heap.size W W6 := by rw [<- hW6]; exact (Below.refl _ _).alloc (Nat.le_refl _) _
   have x6 : W6.heap[W.heap.size]? = some (.cells #[.int .i64 o.b] 3 (0, 0)) := by rw [<- hW6]; exact heap_alloc_new W _
   have HN6 := hid (BNp.one_new x6)
   have HN0 := hid (World.ownsRow_nil W6 W.heap.size 3 1)
   have B6 := hid b6
   have hs6 : W.heap.size <= W6.heap.size := b6.size
   clear e1 b6 x6
   have HZ1 := hid (by simp [Value.oneCell'] : ∀ z ∈ ([.int .i64 o.b] : List Value), z.oneCell' = true)
   go_wp2_with (first | (at_builtin; refine wpList_plain rfl fun _ hK => wp_int (news := [.int .i64 o.b]) (m := 1) (n := 0) (xs := []) _ _ rfl HN0.out rfl HN6.out HZ1.out (by omega) hs6 rfl rfl ?_))
   intro v7 W7 h3 h4 h5
   refine hK _ _ ?_
   clear hK
   obtain ⟨gv, cv, rfl⟩ : ∃ gv cv, v7 = .slice (some ⟨gv, 0, none⟩) 1 cv := by
    rcases h3.2 with ⟨_, e⟩ | ⟨gv, cv, cur, e, _⟩
    ·omega
    ·exact ⟨gv, cv, e⟩
   have H3 := hid h3
   have HL := hid (B6.out.grown h4 (by omega) (fun k hk => by cases hk) : Below W.heap.size W W7)
   clear h3 h4 h5
   go_wp2_with fail
   go_meet
   rw [HE1.out]
   exact ⟨H3.out, HL.out⟩
 case rest =>
 obtain ⟨hOw6, hB6⟩ := hcut
 obtain ⟨W6, hW6⟩ : ∃ W6, W6 = wc := ⟨_, rfl⟩
 subst hW6
 have HO6 := hid hOw6
 have HB6 := hid hB6
 obtain ⟨va, vc, rfl, hvc, hvm⟩ := own_shape hOw6
 have hs6 : W.heap.size <= W6.heap.size := hB6.size
 have X6 := hid ((hB6.block w.heap.size hsW).trans XW.out)
 clear z0 z1 z2 z3 hOw6 hB6
 have z0 := cell_of X6.out 0 _ rfl
 have z1 := cell_of X6.out 1 _ rfl
 have z2 := cell_of X6.out 2 _ rfl
 have z3 := cell_of X6.out 3 _ rfl
 go_upto_region 4 with fail
 go_cut [34] from 17 to 34 (fun t wx => t = .bool c2b /\ wx = W6)
 case first =>
  by_cases h8 : o.k = 8
  ·have d8 : (o.k == 8) = true := by simp [h8]
   have d9 : (o.k == 9) = false := by simp [h8]
   have d10 : (o.k == 10) = false := by simp [h8]
   by_cases hb : o.c = 0
   ·have db : (o.c != 0) = false := by simp [hb]
    have e : false = c2b := by rw [<- HC2.out]; simp [h8, hb]
    subst e
    clear h8 hb
    go_wp2_with fail
    go_meet
    exact ⟨rfl, rfl⟩
   ·have db : (o.c != 0) = true := by simp [hb]
    have e : true = c2b := by rw [<- HC2.out]; simp [h8, hb]
    subst e
    clear h8 hb
    go_wp2_with fail
    go_meet
    exact ⟨rfl, rfl⟩
  ·have d8 : (o.k == 8) = false := by simp [h8]
   by_cases h9 : o.k = 9
   ·have d9 : (o.k == 9) = true := by simp [h9]
    have e : true = c2b := by rw [<- HC2.out]; simp [h9]
    subst e
    clear h8 h9
    go_wp2_with fail
    go_meet
    exact ⟨rfl, rfl⟩
   ·have d9 : (o.k == 9) = false := by simp [h9]
    by_cases h10 : o.k = 10
    ·have d10 : (o.k == 10) = true := by simp [h10]
     have e : true = c2b := by rw [<- HC2.out]; simp [h10]
     subst e
     clear h8 h9 h10
     go_wp2_with fail
     go_meet
     exact ⟨rfl, rfl⟩
    ·have d10 : (o.k == 10) = false := by simp [h10]
     have e : false = c2b := by rw [<- HC2.out]; simp [h8, h9, h10]
     subst e
     clear h8 h9 h10
     go_wp2_with fail
     go_meet
     exact ⟨rfl, rfl⟩
 case rest =>
 obtain ⟨rfl, hwx⟩ := hcut
 obtain rfl := hwx.symm
 go_upto_if 34 with fail
 have hl1 : (BRo.f1 o).length <= 1 := by unfold BRo.f1; split <;> simp
 go_cut [3] from 35 to 39 (fun t wx => wx.ownsRow W.heap.size 3 1 t (f1 o ++ f2 o).length ((f1 o ++ f2 o).map (Value.int .i64)) /\ Below W.heap.size W wx)
 case first =>
  cases c2b with
  | false =>
   have e1 : BRo.f2 o = [] := by unfold BRo.f2; rw [if_neg (by simpa using HC2.out)]
   go_wp2_with fail
   go_meet
   rw [e1, List.append_nil]
   exact ⟨HO6.out, HB6.out⟩
  | true =>
   have e1 : BRo.f2 o = [o.c] := by unfold BRo.f2; rw [if_pos (by simpa using HC2.out)]
   have HE1 := hid e1
   obtain ⟨W7, hW7⟩ : ∃ W7, W6.alloc (.cells #[.int .i64 o.c] 3) = W7 := ⟨_, rfl⟩
   have b7 : Below W6.heap.size W6 W7 := by rw [<- hW7]; exact (Below.refl _ _).alloc (Nat.le_refl _) _
   have x7 : W7.heap[W6.heap.size]? = some (.cells #[.int .i64 o.c] 3 (0, 0)) := by rw [<- hW7]; exact heap_alloc_new W6 _
   have HN7 := hid (BNp.one_new x7)
   have HN0 := hid (own_keep HO6.out fun g hg => b7.block g (World.ownsRow.lt HO6.out g hg).2 : W7.ownsRow W.heap.size 3 1 (.slice va (f1 o).length vc) (f1 o).length _)
   have B7 := hid (HB6.out.trans (b7.mono hs6) : Below W.heap.size W W7)
   have hs7 : W6.heap.size <= W7.heap.size := b7.size
   clear e1 b7 x7
   have HZ1 := hid (by simp [Value.oneCell'] : ∀ z ∈ ([.int .i64 o.c] : List Value), z.oneCell' = true)
   go_wp2_with (first | (at_builtin; refine wpList_plain rfl fun _ hK => wp_int (news := [.int .i64 o.c]) (m := 1) (n := (f1 o).length) _ _ rfl HN0.out rfl HN7.out HZ1.out (by omega) (by omega) rfl rfl ?_))
   intro v8 W8 h3 h4 h5
   refine hK _ _ ?_
   clear hK
   obtain ⟨gv, cv, rfl⟩ : ∃ gv cv, v8 = .slice (some ⟨gv, 0, none⟩) ((f1 o).length + 1) cv := by
    rcases h3.2 with ⟨_, e⟩ | ⟨gv, cv, cur, e, _⟩
    ·omega
    ·exact ⟨gv, cv, e⟩
   have H3 := hid h3
   have HL := hid (B7.out.grown h4 (by omega) (fun k hk => (World.ownsRow.lt HN0.out k hk).1) : Below W.heap.size W W8)
   clear h3 h4 h5
   go_wp2_with fail
   go_meet
   rw [HE1.out, List.length_append, List.map_append]
   exact ⟨H3.out, HL.out⟩
 case rest =>
 obtain ⟨hOw7, hB7⟩ := hcut
 obtain ⟨W7, hW7⟩ : ∃ W7, W7 = wc := ⟨_, rfl⟩
 subst hW7
 rw [<- HE.out] at hOw7
 obtain ⟨L, hL⟩ : ∃ L, bks o = L := ⟨_, rfl⟩
 rw [hL] at hOw7
 have HL := hid hL
 have HO7 := hid hOw7
 have HB7 := hid hB7
 obtain ⟨wa, wcp, rfl, hwc, hwm⟩ := own_shape hOw7
 clear hOw7 hB7 hL
 go_wp2_with fail
 go_ret
 refine ⟨.slice wa L.length wcp, rfl, ?_, BW.out.trans (HB7.out.mono (by omega))⟩
 rw [HL.out]
 exact BCg0 (B := W.heap.size) (B' := w.heap.size) HO7.out (Nat.le_of_lt hsW)
end Go.Proofs.YtaiackmmmlhgbaaGreat.BQb
namespace Go.Proofs.YtaiackmmmlhgbaaGreat.BQc
open Go.RowKit BPl YRr BQb
open YPl (Oq Bk Pg)
open BSf (hid)
open TBase (Keep heap_alloc_new)
open CPu (Ins)
theorem cdl_len (o : Oq) : (cdl o).2.length = (cdl o).1.length := by
 unfold cdl
 repeat' split
 all_goals simp
theorem rch_iff {S : Sh} {dp : Int} {o : Oq} : reaches S dp o = true ↔ ∀ j (h : j < (cdl o).1.length), nda S (cdl o).1[j] <= dp + (cdl o).2.getD j 0 := by
 by_cases h1 : o.k = 2 \/ o.k = 8 \/ o.k = 11
 ·have e : cdl o = ([o.a], [0]) := by unfold cdl; rw [if_pos h1]
  have e2 : reaches S dp o = decide (nda S o.a <= dp) := by unfold reaches; rw [if_neg (by omega), if_neg (by omega), if_neg (by omega), if_pos h1]
  rw [e2, e]
  simp
 by_cases h5 : o.k = 5
 ·have e : cdl o = ([o.b], [0]) := by unfold cdl; rw [if_neg h1, if_pos h5]
  have e2 : reaches S dp o = decide (nda S o.b <= dp) := by unfold reaches; rw [if_pos h5]
  rw [e2, e]
  simp
 by_cases h9 : o.k = 9
 ·have e : cdl o = ([o.a, o.b], [0, 2]) := by unfold cdl; rw [if_neg h1, if_neg h5, if_pos h9]
  have e2 : reaches S dp o = if dp + 2 < nda S o.b then false else decide (nda S o.a <= dp) := by unfold reaches; rw [if_neg (by omega), if_neg (by omega), if_pos h9]
  rw [e2, e]
  constructor
  ·intro h j hj
   split at h
   ·cases h
   ·rename_i h2
    have h3 : nda S o.a <= dp := by simpa using h
    match j, hj with
    | 0, _ => show nda S o.a <= dp + 0; omega
    | 1, _ => show nda S o.b <= dp + 2; omega
  ·intro h
   have h0 : nda S o.a <= dp + 0 := h 0 (by simp)
   have h2 : nda S o.b <= dp + 2 := h 1 (by simp)
   rw [if_neg (by omega)]
   simp
   omega
 by_cases h10 : o.k = 10
 ·have e : cdl o = (o.l, List.replicate o.l.length 0) := by unfold cdl; rw [if_neg h1, if_neg h5, if_neg h9, if_pos h10]
  have e2 : reaches S dp o = !(o.l.any fun i => decide (dp < nda S i)) := by unfold reaches; rw [if_neg (by omega), if_pos h10]
  rw [e2, e]
  have hr : ∀ j, (List.replicate o.l.length (0 : Int)).getD j 0 = 0 := fun j => by
   rw [List.getD_eq_getElem?_getD, List.getElem?_replicate]
   split <;> rfl
  simp only [hr, Int.add_zero]
  constructor
  ·intro h j hj
   have h2 : ∀ i ∈ o.l, ¬ dp < nda S i := by simpa using h
   have := h2 _ (List.getElem_mem hj)
   omega
  ·intro h
   have h2 : ∀ i ∈ o.l, ¬ dp < nda S i := fun i hi => by
    obtain ⟨j, hj, rfl⟩ := List.getElem_of_mem hi
    have := h j hj
    omega
   simpa using h2
 have e : cdl o = ([], []) := by unfold cdl; rw [if_neg h1, if_neg h5, if_neg h9, if_neg h10]
 have e2 : reaches S dp o = true := by unfold reaches; rw [if_neg h5, if_neg h10, if_neg h9, if_neg h1]
 rw [e2, e]
 simp
theorem rch_at {C : List (List Ins)} {n : Nat} {S : Sh} (hS : S.n = C.map need) (hok : ∀ L ∈ C, CPu.ck L (n : Int) 64 = 0) {i : Nat} (hi : i < C.length) {d : Int} (hd : 0 <= d) : CPu.ck C[i] (n : Int) d = 0 ↔ nda S (i : Int) <= d := by
 have e : nda S (i : Int) = need C[i] := by
  unfold nda
  rw [hS, Int.toNat_natCast, List.getD_eq_getElem?_getD, List.getElem?_map, List.getElem?_eq_getElem hi]
  rfl
 rw [e]
 exact BRp.ck_need (hok _ (List.getElem_mem hi)) hd
theorem cdl_more (o : Oq) : ∀ x ∈ (cdl o).2, 0 <= x /\ x <= 2 := by
 unfold cdl
 repeat' split
 all_goals
  intro x hx
  simp at hx
 all_goals first | (rcases hx with rfl | rfl <;> omega) | (subst hx; omega) | (obtain ⟨_, rfl⟩ := hx; omega) | omega
end Go.Proofs.YtaiackmmmlhgbaaGreat.BQc
namespace Go.Proofs.YtaiackmmmlhgbaaGreat.BQd
open Go.RowKit BPl YRr YRs BBx BSt BQb BQc
open YPl (Oq Bk Pg)
open BSf (hid)
open TBase (Keep heap_alloc_new)
open CPu (Ins)
theorem fits_cdl {S : Sh} {o : Oq} (h : fits S o = true) : ∀ i ∈ (cdl o).1, isN i S.n.length = true := by
 unfold cdl
 split
 ·rename_i hk
  intro i hi
  have : i = o.a := by simpa using hi
  rw [this]
  exact fits_code h (by omega)
 split
 ·rename_i hk
  intro i hi
  have : i = o.b := by simpa using hi
  rw [this]
  exact fits_codeB h (.inl hk)
 split
 ·rename_i hk
  intro i hi
  have : i = o.a \/ i = o.b := by simpa using hi
  rcases this with e | e
  ·rw [e]; exact fits_code h (by omega)
  ·rw [e]; exact fits_codeB h (.inr hk)
 split
 ·rename_i hk
  exact (fits_list h hk).2
 ·intro i hi
  cases hi
theorem cdl_64 {o : Oq} (h : o.l.length <= 64) : (cdl o).1.length <= 64 := by
 unfold cdl
 repeat' split
 all_goals first | exact h | simp
theorem code_c {R : Nat -> Prop} {w : World} {X n tc : Nat} {ta : Option Addr} {cv sv bv iv : Value} {bk pl ft at' dp : Int} {lv nv : Value} (h : Lw w X (.slice ta n tc) cv sv bv iv bk pl ft at' dp lv nv) {C : List (List Ins)} (hc : RrS 1 (LyCs R) R w cv C) (hR : ∀ g, R g -> g < w.heap.size) {S : Sh} (hS : S.n = C.map need) (hok : ∀ L ∈ C, CPu.ck L (n : Int) 64 = 0)
  {o : Oq} {la : Option Addr} {lc : Nat} (hl : RrS 1 LyI R w (.slice la o.l.length lc) o.l) (ha : i64 o.a) (hb : i64 o.b) (hf : fits S o = true) (hd : 0 <= dp /\ dp <= 64) (h64 : o.l.length <= 64) :
  Calls prog 98 #[.pointer (some ⟨X, 0, none⟩), .agg #[.int .i64 o.k, .int .i64 o.a, .int .i64 o.b, .int .i64 o.c, .slice la o.l.length lc]] w fun e w' => e = .returned (.bool (!reaches S dp o)) /\ Below w.heap.size w w' := by
 obtain ⟨W, hW, bW, sW, xW⟩ := BSm.box5 w (.int .i64 o.k) (.int .i64 o.a) (.int .i64 o.b) (.int .i64 o.c) (.slice la o.l.length lc) 127
 have z0 := cell_of xW 0 _ rfl
 have z1 := cell_of xW 1 _ rfl
 have z2 := cell_of xW 2 _ rfl
 have z3 := cell_of xW 3 _ rfl
 have z4 := cell_of xW 4 _ rfl
 have hXl : X < w.heap.size := (Array.getElem?_eq_some_iff.1 h).1
 have hsW : w.heap.size <= W.heap.size := by omega
 have cC := codes_c (R := R) (w := W) (o := o) (hl.keep (fun _ h => h) fun g o x _ hg h => kI (fun b hb' hl => bW.block b (hR b hb')) hg h) (fun g hg => by have := hR g hg; omega) h64 ha hb
 have HFX := hid (fits_cdl hf)
 have HRC := hid (rch_iff (S := S) (dp := dp) (o := o))
 have HM := hid (cdl_more o)
 have hlen := cdl_len o
 have hc64 := cdl_64 h64
 obtain ⟨cs, hcs⟩ : ∃ cs, (cdl o).1 = cs := ⟨_, rfl⟩
 obtain ⟨ms, hms⟩ : ∃ ms, (cdl o).2 = ms := ⟨_, rfl⟩
 rw [hcs, hms] at cC hlen HRC
 rw [hcs] at HFX hc64
 rw [hms] at HM
 have HC := hid hc
 obtain ⟨ca, ccap, rfl, -⟩ := hc
 have HH := hid h
 have HR := hid hR
 have BW := hid bW
 have HS := hid hS
 have HOK := hid hok
 obtain ⟨m, hm⟩ : ∃ m, cs.length = m := ⟨_, rfl⟩
 have HLC := hid hm
 rw [hm] at hc64
 have HLM := hid (hlen.trans hm)
 clear h hR hl hS hok hf bW xW sW hcs hms hlen hm ha hb
 go_enter func98, ntmps98
 go_wp2_with fail
 refine cC.mono ?_
 rintro e W1 ⟨u, v, rfl, hu, hv, b1⟩
 have HUR := hid hu
 have HVR := hid hv
 obtain ⟨ua, uc, rfl, -⟩ := hu
 obtain ⟨va, vc, rfl, -⟩ := hv
 have HB1 := hid (BW.out.trans (b1.mono hsW) : Below w.heap.size w W1)
 have hs1 : w.heap.size <= W1.heap.size := HB1.out.size
 rw [HLC.out, HLM.out]
 clear b1 cC z0 z1 z2 z3 z4
 go_wp2_with fail
 go_loopw [7] (fun i wr => ∃ q : Nat, q <= m /\ i = .int .i64 q /\ Hid ((∀ j (hj : j < cs.length), j < q -> nda S cs[j] <= dp + ms.getD j 0) /\ Below W1.heap.size W1 wr)) (fun i _ => m - (intOf i).toNat)
 case atStart => exact ⟨0, by omega, rfl, fun j hj h => by omega, Below.refl _ _⟩
 case round =>
  obtain ⟨q, hq, rfl, HG⟩ := hrel
  by_cases hlt : q < m
  ·have t0 : decide ((q : Int) < (m : Int)) = true := by simp; omega
   have i1 : (0 : Int) <= (q : Int) := by omega
   have i2 : (q : Int) < (m : Int) := by omega
   have hqc : q < cs.length := by rw [HLC.out]; exact hlt
   have hqm : q < ms.length := by rw [HLM.out]; exact hlt
   obtain ⟨g1, o1, k1, hsl, -, -, -, ⟨y1, -⟩⟩ := RrS.at HUR.out hqc
   rw [HLC.out] at hsl
   cases hsl
   obtain ⟨g2, o2, k2, hsl, -, -, -, ⟨y2, -⟩⟩ := RrS.at HVR.out hqm
   rw [HLM.out] at hsl
   cases hsl
   rw [Nat.mul_one] at y1 y2
   obtain ⟨idx, he, hidx⟩ := isN_of (HFX.out cs[q] (List.getElem_mem hqc))
   rw [HS.out, List.length_map] at hidx
   have hx02 := HM.out ms[q] (List.getElem_mem hqm)
   have hgx : ms.getD q 0 = ms[q] := by rw [List.getD_eq_getElem?_getD, List.getElem?_eq_getElem hqm]; rfl
   obtain ⟨g3, o3, k3, hsl, -, -, hg3, ⟨cvv, y3, hr3⟩⟩ := RrS.at HC.out hidx
   cases hsl
   rw [Nat.mul_one] at y3
   have hck := rch_at HS.out HOK.out hidx (d := dp + ms[q]) (by omega)
   rw [he] at y1
   have HEQ := hid (show nda S cs[q] = nda S (idx : Int) by rw [he])
   have HGX := hid hgx
   have bwr : Below w.heap.size w wr := HB1.out.trans (HG.out.2.mono hs1)
   have BWR := hid bwr
   have hr4 := hr3.keep (Ly' := LyN) (S' := R) (w' := wr.drew) (fun _ h => h) fun g o x _ hg h => kN (S := R) (w := w) (w' := wr.drew) (fun b hb hl => bwr.drew.block b (HR.out b hb)) hg h
   have hsz : w.heap.size <= wr.heap.size := bwr.size
   have cK := CRc.rcheck_c (BFx.cx_of hr4 (fun g hg => Nat.lt_of_lt_of_le (HR.out g hg) hsz)) (Nat.le_refl _) (n : Int) (dp + ms[q])
   obtain ⟨la3, lc3, rfl, -⟩ := hr3
   have hxr := hx02
   obtain ⟨x, hx⟩ : ∃ x, ms[q] = x := ⟨_, rfl⟩
   have HXE := hid hx
   rw [hx] at y2 hck cK hx02
   have hw : IntKind.i64.wrap (dp + x) = dp + x := by rw [IntKind.wrap_i64]; omega
   obtain ⟨z, hz⟩ : ∃ z, CPu.ck C[idx] (n : Int) (dp + x) = z := ⟨_, rfl⟩
   rw [hz] at cK hck
   have HCK := hid hck
   obtain ⟨nl, hnl⟩ : ∃ nl, C[idx].length = nl := ⟨_, rfl⟩
   rw [hnl] at cK y3
   have e1 : (0 : Int) <= (idx : Int) := by omega
   have e2 : (idx : Int) < (C.length : Int) := by omega
   have HCL : Hid (∀ W', Below wr.heap.size wr W' -> W'.cell? ⟨X, 0, none⟩ = some (.slice ta n tc) /\ W'.cell? ⟨X, 1, none⟩ = some (.slice (some ⟨g3, o3, none⟩) C.length ccap) /\ W'.cell? ⟨X, 9, none⟩ = some (.int .i64 dp) /\ W'.cell? ⟨g1, o1 + q, none⟩ = some (.int .i64 (idx : Int)) /\ W'.cell? ⟨g2, o2 + q, none⟩ = some (.int .i64 x) /\ W'.cell? ⟨g3, o3 + idx, none⟩ = some (.slice la3 nl lc3)) := fun W' hW' => by
    have hb := BWR.out.trans (hW'.mono hsz)
    have hb1 := HG.out.2.trans (hW'.mono HG.out.2.size)
    obtain ⟨c0, c1, -, -, -, -, -, -, -, c9, -⟩ := HH.out.cell
    exact ⟨IBase.below_cell c0 hb, IBase.below_cell c1 hb, IBase.below_cell c9 hb, IBase.below_cell y1 hb1, IBase.below_cell y2 hb1, IBase.below_cell y3 hb⟩
   obtain ⟨c0, c1, c9, c2, c3, c4⟩ := HCL.out wr (Below.refl _ _)
   clear y1 y2 y3 hr4 bwr hx hz hnl hck he hgx hxr
   by_cases hz0 : z = 0
   ·have dz : (z != 0) = false := by simp [hz0]
    have HN : Hid (∀ j (hj : j < cs.length), j < q + 1 -> nda S cs[j] <= dp + ms.getD j 0) := fun j hj hjq => by
     by_cases e : j = q
     ·subst e
      have := HCK.out.1 hz0
      rw [HEQ.out, HGX.out, HXE.out]
      exact this
     ·exact HG.out.1 j hj (by omega)
    clear hz0
    go_wp2_with fail
    go_region_held3 (fun w' => w'.cell? ⟨X, 0, none⟩ = some (.slice ta n tc) /\ w'.cell? ⟨X, 1, none⟩ = some (.slice (some ⟨g3, o3, none⟩) C.length ccap) /\ w'.cell? ⟨X, 9, none⟩ = some (.int .i64 dp) /\ w'.cell? ⟨g1, o1 + q, none⟩ = some (.int .i64 (idx : Int)) /\ w'.cell? ⟨g2, o2 + q, none⟩ = some (.int .i64 x) /\ w'.cell? ⟨g3, o3 + idx, none⟩ = some (.slice la3 nl lc3)) (go_keep) (first
     | (go_at_call 95; refine cK.mono ?_; rintro e w5 ⟨rfl, b5⟩; have HB5 := hid ((Below.refl _ wr).drew.trans b5); obtain ⟨q0, q1, q9, q2, q3, q4⟩ := HCL.out w5 HB5.out; clear b5)
     | fail)
    rename_i hHeld
    clear hHeld
    go_wp2_with fail
    go_roundw
    case rel => exact ⟨q + 1, by omega, by go_num, HN.out, HG.out.2.trans (HB5.out.mono HG.out.2.size)⟩
    case measure => simp only [intOf]; omega
   ·have dz : (z != 0) = true := by simp [hz0]
    have e : Hid (reaches S dp o = false) := by
     cases hr : reaches S dp o with
     | false => rfl
     | true =>
      have := HRC.out.1 hr q hqc
      rw [HEQ.out, HGX.out, HXE.out] at this
      exact (hz0 (HCK.out.2 this)).elim
    clear hz0
    go_wp2_with fail
    go_region_held3 (fun w' => w'.cell? ⟨X, 0, none⟩ = some (.slice ta n tc) /\ w'.cell? ⟨X, 1, none⟩ = some (.slice (some ⟨g3, o3, none⟩) C.length ccap) /\ w'.cell? ⟨X, 9, none⟩ = some (.int .i64 dp) /\ w'.cell? ⟨g1, o1 + q, none⟩ = some (.int .i64 (idx : Int)) /\ w'.cell? ⟨g2, o2 + q, none⟩ = some (.int .i64 x) /\ w'.cell? ⟨g3, o3 + idx, none⟩ = some (.slice la3 nl lc3)) (go_keep) (first
     | (go_at_call 95; refine cK.mono ?_; rintro e w5 ⟨rfl, b5⟩; have HB5 := hid ((Below.refl _ wr).drew.trans b5); obtain ⟨q0, q1, q9, q2, q3, q4⟩ := HCL.out w5 HB5.out; clear b5)
     | fail)
    all_goals
     rename_i hHeld
     clear hHeld
     go_wp2_with fail
     go_ret
     exact ⟨by rw [e.out]; rfl, HB1.out.trans ((HG.out.2.trans (HB5.out.mono HG.out.2.size)).mono hs1)⟩
  ·have hqe : m = q := by omega
   subst hqe
   have t0 : decide ((m : Int) < (m : Int)) = false := by simp
   have e : Hid (reaches S dp o = true) := HRC.out.2 fun j hj => HG.out.1 j hj (by have := HLC.out; omega)
   have HE := hid (HB1.out.trans (HG.out.2.mono hs1))
   clear hlt hq
   go_wp2_with fail
   go_ret
   exact ⟨by rw [e.out]; rfl, HE.out⟩
end Go.Proofs.YtaiackmmmlhgbaaGreat.BQd
