import Derived.Below
import Derived.BigQuiet
import Derived.Laws.AppendOwn
import Derived.Laws.OwnMore
import Derived.Laws.Rows
import Derived.Laws.Tables
import Derived.LoopN
import Derived.LoopTactic
import Derived.Maps.AppendAt
import Derived.ProofKit
import Derived.WalkKit
import Derived.Test.YthjbknncbhkinaaGreatDoorPS00
open Go.Proofs.Tryz
set_option linter.unusedVariables false
set_option maxRecDepth 20000
set_option maxHeartbeats 3200000
namespace Go.Proofs.YthjbknncbhkinaaGreatDoor.IBase
open Go.RowKit IPure
theorem cell_lt {w : World} {a : Addr} {v : Value} (h : w.cell? a = some v) : a.block < w.heap.size := by
 unfold World.cell? at h
 split at h
 ·next hh => exact (Array.getElem?_eq_some_iff.1 hh).1
 ·cases h
theorem below_cell {w w' : World} {g o : Nat} {u : Value} (h : w.cell? ⟨g, o, none⟩ = some u) (hb : Below w.heap.size w w') : w'.cell? ⟨g, o, none⟩ = some u :=
 (World.cell?_of_block (w := w) (hb.block g (cell_lt h))).trans h
theorem add_none (g o j : Nat) : (⟨g, o, none⟩ : Addr).add j = ⟨g, o + j, none⟩ := by
 unfold Addr.add
 split
 ·simp_all
 ·rfl
theorem below_drewN {w wr : World} {k n : Nat} (h : Below k w wr) : Below k w (wr.drewN n) := ⟨h.os, h.tape, h.output, h.size, h.block⟩
def ro (n : Nat) (f : Nat -> Int) : List Int := (List.range n).map f
theorem ro_len (n : Nat) (f : Nat -> Int) : (ro n f).length = n := by simp [ro]
theorem ro_get (n : Nat) (f : Nat -> Int) (k : Nat) (h : k < (ro n f).length) : (ro n f)[k] = f k := by simp [ro]
theorem ro_set (n : Nat) (f : Nat -> Int) (k : Nat) (x : Int) : (ro n f).set k x = ro n (upd f k x) := by
 apply List.ext_getElem
 ·simp [ro]
 ·intro i h1 h2
  rw [List.getElem_set, ro_get, ro_get]
  by_cases e : k = i
  ·rw [if_pos e, upd, if_pos e.symm]
  ·rw [if_neg e, upd, if_neg (fun h => e h.symm)]
end Go.Proofs.YthjbknncbhkinaaGreatDoor.IBase
namespace Go.Proofs.YthjbknncbhkinaaGreatDoor.CPu
open IPure
abbrev Ins := Int × Int
def nd (o : Int) : Int := bif decide (o <= 6) || (o == 33) then 0 else bif (o == 8) || (decide (12 <= o) && decide (o <= 28)) then 2 else 1
def fmd (o a : Int) : Bool := bif (o == 4) || ((o == 5) || ((o == 6) || ((o == 7) || ((o == 30) || ((o == 31) || ((o == 32) || (o == 33))))))) then true else bif (o == 9) then decide (1 <= a) && decide (a <= 8) else (decide (1 <= o) && decide (o <= 33)) && (a == 0)
def ijp (o : Int) : Bool := decide (30 <= o) && decide (o <= 33)
def hnm (t d o a : Int) : Bool := bif (o == 5) || (o == 7) then decide (0 <= a) && decide (a < t) else bif (o == 6) then decide (0 <= a) && decide (a < d) else true
def ldb (H : Nat -> Int) (k : Nat) (h : Int) : Bool := bif decide (H k < 0) then true else H k == h
def ld (H : Nat -> Int) (k : Nat) (h : Int) : Nat -> Int := if H k < 0 then upd H k h else H
def both (H : Nat -> Int) (k : Nat) (h : Int) (k' : Nat) (h' : Int) : Option (Nat -> Int) := if ldb H k h = true then (if ldb (ld H k h) k' h' = true then some (ld (ld H k h) k' h') else none) else none
def one (H : Nat -> Int) (k : Nat) (h : Int) : Option (Nat -> Int) := if ldb H k h = true then some (ld H k h) else none
def lon (H : Nat -> Int) (i : Nat) (o a : Int) : Option (Nat -> Int) :=
 if H i - nd o < 0 then none
 else if o = 30 \/ o = 31 then both H a.toNat (H i - nd o + 1) (i + 1) (H i - nd o)
 else if o = 32 then both H a.toNat (H i - nd o) (i + 1) (H i - nd o)
 else if o = 33 then one H a.toNat (H i - nd o)
 else one H (i + 1) (H i - nd o + 1)
def fl (n : Nat) (t d : Int) (H : Nat -> Int) (i : Nat) (x : Ins) : Except Int (Nat -> Int) :=
 if H i < 0 then .error 2001
 else if fmd x.1 x.2 = false then .error 2000
 else if hnm t d x.1 x.2 = false then .error 2003
 else if ijp x.1 = true /\ (x.2 <= i \/ (n : Int) < x.2) then .error 2002
 else match lon H i x.1 x.2 with
  | none => .error 2001
  | some H' => .ok H'
def fls (n : Nat) (t d : Int) : (Nat -> Int) -> Nat -> List Ins -> Int
 | H, _, [] => if H n = 1 then 0 else 2001
 | H, i, x :: r => match fl n t d H i x with
  | .error e => e
  | .ok H' => fls n t d H' (i + 1) r
def h0 : Nat -> Int := fun k => if k = 0 then 0 else -1
def ck (L : List Ins) (t d : Int) : Int := if 8192 < L.length then 2004 else fls L.length t d h0 0 L
def Hb (H : Nat -> Int) : Prop := ∀ k, -1 <= H k /\ H k <= k
theorem hb0 : Hb h0 := fun k => by unfold h0; split <;> omega
theorem ld_hb {H : Nat -> Int} (h : Hb H) {k : Nat} {x : Int} (h1 : 0 <= x) (h2 : x <= k) : Hb (ld H k x) := by
 intro j
 unfold ld
 split
 ·unfold upd
  split
  ·next e => subst e; omega
  ·exact h j
 ·exact h j
theorem ld_at {H : Nat -> Int} {k : Nat} {x : Int} (h : ldb H k x = true) : ld H k x k = x := by
 unfold ldb at h
 unfold ld
 by_cases hk : H k < 0
 ·simp [hk, upd]
 ·simp [hk] at h ⊢
  exact h
theorem nd_range (o : Int) : 0 <= nd o /\ nd o <= 2 := by
 unfold nd
 cases decide (o <= 6) || (o == 33) <;> cases (o == 8) || (decide (12 <= o) && decide (o <= 28)) <;> simp
theorem both_hb {H H' : Nat -> Int} (h : Hb H) {k k' : Nat} {x x' : Int} (h1 : 0 <= x) (h2 : x <= k) (h3 : 0 <= x') (h4 : x' <= k') (e : both H k x k' x' = some H') : Hb H' := by
 unfold both at e
 split at e
 ·split at e
  ·cases e; exact ld_hb (ld_hb h h1 h2) h3 h4
  ·cases e
 ·cases e
theorem one_hb {H H' : Nat -> Int} (h : Hb H) {k : Nat} {x : Int} (h1 : 0 <= x) (h2 : x <= k) (e : one H k x = some H') : Hb H' := by
 unfold one at e
 split at e
 ·cases e; exact ld_hb h h1 h2
 ·cases e
theorem nd30 : nd 30 = 1 := by decide
theorem nd31 : nd 31 = 1 := by decide
theorem nd32 : nd 32 = 1 := by decide
theorem nd33 : nd 33 = 0 := by decide
theorem lon_hb {H H' : Nat -> Int} (h : Hb H) {i : Nat} {o a : Int} (ha : ijp o = true -> (i : Int) < a) (e : lon H i o a = some H') : Hb H' := by
 have hi := h i
 have hn := nd_range o
 have hj : o = 30 \/ o = 31 \/ o = 32 \/ o = 33 -> (i : Int) < a := fun hh => ha (by unfold ijp; rcases hh with rfl | rfl | rfl | rfl <;> decide)
 unfold lon at e
 split at e
 ·cases e
 ·next h1 =>
  split at e
  ·next h2 =>
   have hk := hj (by omega)
   have : nd o = 1 := by rcases h2 with rfl | rfl; exact nd30; exact nd31
   exact both_hb h (by omega) (by omega) (by omega) (by omega) e
  ·split at e
   ·next h2 =>
    have hk := hj (by omega)
    exact both_hb h (by omega) (by omega) (by omega) (by omega) e
   ·split at e
    ·next h2 =>
     have hk := hj (by omega)
     exact one_hb h (by omega) (by omega) e
    ·exact one_hb h (by omega) (by omega) e
theorem fl_hb {n : Nat} {t d : Int} {H H' : Nat -> Int} (h : Hb H) {i : Nat} {x : Ins} (e : fl n t d H i x = .ok H') : Hb H' := by
 unfold fl at e
 split at e
 ·cases e
 split at e
 ·cases e
 split at e
 ·cases e
 split at e
 ·cases e
 next hj =>
  split at e
  ·cases e
  ·next hl =>
   cases e
   refine lon_hb h (fun hp => ?_) hl
   exact Int.lt_of_not_ge fun hh => hj ⟨hp, .inl hh⟩
end Go.Proofs.YthjbknncbhkinaaGreatDoor.CPu
namespace Go.Proofs.YthjbknncbhkinaaGreatDoor.CBx
open Go.RowKit IPure CPu
open IBase (ro ro_len ro_get ro_set add_none)
def Cx (K : Nat) (w : World) (v : Value) (L : List Ins) : Prop :=
 ∃ a cap, v = .slice a L.length cap /\ L.length <= cap /\ cap <= 9223372036854775807 /\ (a = none -> cap = 0) /\ (L = [] \/ ∃ g o, a = some ⟨g, o, none⟩ /\ g < K /\ ∀ j (h : j < L.length), w.cell? ⟨g, o + j * 2, none⟩ = some (.int .i64 L[j].1) /\ w.cell? ⟨g, o + j * 2 + 1, none⟩ = some (.int .i64 L[j].2))
theorem cell_keep {K : Nat} {w w' : World} {g o : Nat} {u : Value} (hg : g < K) (h : w.cell? ⟨g, o, none⟩ = some u) (hb : Below K w w') : w'.cell? ⟨g, o, none⟩ = some u :=
 (World.cell?_of_block (w := w) (hb.block g hg)).trans h
theorem Cx.below {K : Nat} {w w' : World} {v : Value} {L : List Ins} (h : Cx K w v L) (hb : Below K w w') : Cx K w' v L := by
 obtain ⟨a, cap, h1, h2, h3, h4, h5⟩ := h
 refine ⟨a, cap, h1, h2, h3, h4, ?_⟩
 rcases h5 with h5 | ⟨g, o, ha, hg, hc⟩
 ·exact .inl h5
 ·exact .inr ⟨g, o, ha, hg, fun j hj => ⟨cell_keep hg (hc j hj).1 hb, cell_keep hg (hc j hj).2 hb⟩⟩
theorem Cx.mono {K K' : Nat} {w : World} {v : Value} {L : List Ins} (h : Cx K w v L) (hk : K <= K') : Cx K' w v L := by
 obtain ⟨a, cap, h1, h2, h3, h4, h5⟩ := h
 refine ⟨a, cap, h1, h2, h3, h4, ?_⟩
 rcases h5 with h5 | ⟨g, o, ha, hg, hc⟩
 ·exact .inl h5
 ·exact .inr ⟨g, o, ha, by omega, hc⟩
def wyc (n t d : Int) (H : Nat -> Int) : Array Value := (.int .i64 n :: .int .i64 t :: .int .i64 d :: (ro 8193 fun k => H k + 1).map (Value.int .i16)).toArray
def Wy (w : World) (B : Nat) (n t d : Int) (H : Nat -> Int) : Prop := w.heap[B]? = some (.cells (wyc n t d H) 62 (0, 0))
theorem wyc_size (n t d : Int) (H : Nat -> Int) : (wyc n t d H).size = 8196 := by simp [wyc, ro_len]
theorem wyc_at (n t d : Int) (H : Nat -> Int) {k : Nat} (hk : k < 8193) : (wyc n t d H)[3 + k]? = some (.int .i16 (H k + 1)) := by
 have e : 3 + k = k + 1 + 1 + 1 := by omega
 simp [wyc, e, ro, hk]
theorem Wy.n {w : World} {B : Nat} {n t d : Int} {H : Nat -> Int} (h : Wy w B n t d H) : w.cell? ⟨B, 0, none⟩ = some (.int .i64 n) := by
 unfold Wy at h
 simp [World.cell?, h, wyc]
theorem Wy.t {w : World} {B : Nat} {n t d : Int} {H : Nat -> Int} (h : Wy w B n t d H) : w.cell? ⟨B, 1, none⟩ = some (.int .i64 t) := by
 unfold Wy at h
 simp [World.cell?, h, wyc]
theorem Wy.d {w : World} {B : Nat} {n t d : Int} {H : Nat -> Int} (h : Wy w B n t d H) : w.cell? ⟨B, 2, none⟩ = some (.int .i64 d) := by
 unfold Wy at h
 simp [World.cell?, h, wyc]
theorem Wy.at {w : World} {B : Nat} {n t d : Int} {H : Nat -> Int} (h : Wy w B n t d H) {k : Nat} (hk : k < 8193) : w.cell? ⟨B, 3 + k, none⟩ = some (.int .i16 (H k + 1)) := by
 have : w.cell? ⟨B, 3 + k, none⟩ = (wyc n t d H)[3 + k]? := by
  unfold Wy at h
  simp [World.cell?, h]
 rw [this, wyc_at n t d H hk]
theorem Wy.free {w : World} {B : Nat} {n t d : Int} {H : Nat -> Int} (h : Wy w B n t d H) (j : Nat) : w.frozen? ⟨B, j, none⟩ = false := by
 unfold Wy at h
 simp [World.frozen?, h]
theorem Wy.lt {w : World} {B : Nat} {n t d : Int} {H : Nat -> Int} (h : Wy w B n t d H) : B < w.heap.size := (Array.getElem?_eq_some_iff.1 h).1
theorem wyc_set (n t d : Int) (H : Nat -> Int) (k : Nat) (x : Int) : (wyc n t d H).setIfInBounds (3 + k) (.int .i16 (x + 1)) = wyc n t d (upd H k x) := by
 have e : 3 + k = k + 1 + 1 + 1 := by omega
 have e2 : (ro 8193 fun j => upd H k x j + 1) = (ro 8193 fun j => H j + 1).set k (x + 1) := by
  rw [ro_set]
  congr 1
  funext j
  unfold upd
  split <;> rfl
 unfold wyc
 rw [e2, e, List.setIfInBounds_toArray]
 simp [List.map_set]
theorem Wy.set {w : World} {B : Nat} {n t d : Int} {H : Nat -> Int} (h : Wy w B n t d H) (k : Nat) (x : Int) : Wy (w.setCell ⟨B, 3 + k, none⟩ (.int .i16 (x + 1))) B n t d (upd H k x) := by
 unfold Wy at h ⊢
 rw [<- wyc_set]
 simp [World.setCell, Array.getElem?_modify, h]
theorem Wy.keep {K : Nat} {w w' : World} {B : Nat} {n t d : Int} {H : Nat -> Int} (h : Wy w B n t d H) (hb : Below K w w') (hB : B < K) : Wy w' B n t d H := (hb.block B hB).trans h
theorem w16 {x : Int} (h1 : -1 <= x) (h2 : x <= 8193) : IntKind.i16.wrap (x + 1) = x + 1 := by
 simp [IntKind.wrap, IntKind.signed, IntKind.bits]
 omega
theorem w64 {x : Int} (h1 : -9223372036854775808 <= x) (h2 : x <= 9223372036854775807) : IntKind.i64.wrap x = x := by
 simp [IntKind.wrap, IntKind.signed, IntKind.bits]
 omega
end Go.Proofs.YthjbknncbhkinaaGreatDoor.CBx
namespace Go.Proofs.YthjbknncbhkinaaGreatDoor.CHt
open Go.RowKit IPure CPu CBx
theorem height_c {w : World} {B : Nat} {n t d : Int} {H : Nat -> Int} (h : Wy w B n t d H) (hH : Hb H) {k : Nat} (hk : k < 8193) :
  Calls prog 35 #[.pointer (some ⟨B, 0, none⟩), .int .i64 (k : Nat)] w fun e w' => e = .returned (.int .i64 (H k)) /\ w = w' := by
 have hc := h.at hk
 have hx := hH k
 have hwA : IntKind.i64.wrap (H k + 1) = H k + 1 := w64 (by omega) (by omega)
 have hwB : IntKind.i64.wrap (H k) = H k := w64 (by omega) (by omega)
 generalize H k = x at *
 go_enter func35, ntmps35
 go_wp2_with fail
 go_ret
 exact ⟨rfl, rfl⟩
def LR (B : Nat) (w : World) (n t d : Int) (H : Nat -> Int) (k : Nat) (x : Int) (e : Ending) (w' : World) : Prop := e = .returned (.bool (ldb H k x)) /\ Wy w' B n t d (ld H k x) /\ Below B w w'
theorem lead_c {w : World} {B : Nat} {n t d : Int} {H : Nat -> Int} (h : Wy w B n t d H) (hH : Hb H) {k : Nat} (hk : k < 8193) {x : Int} (h1 : 0 <= x) (h2 : x <= k) :
  Calls prog 33 #[.pointer (some ⟨B, 0, none⟩), .int .i64 (k : Nat), .int .i64 x] w fun e w' => LR B w n t d H k x e w' := by
 have c1 := height_c h hH hk
 by_cases hn : H k < 0
 ·have e1 : ldb H k x = true := by simp [ldb, hn]
  have e2 : ld H k x = upd H k x := by simp [ld, hn]
  have h' := h.set k x
  have hH' : Hb (upd H k x) := by rw [<- e2]; exact ld_hb hH h1 h2
  have c2 := height_c h' hH' hk
  have e3 : upd H k x k = x := by simp [upd]
  rw [e3] at c2
  have hwA : IntKind.i64.wrap (x + 1) = x + 1 := w64 (by omega) (by omega)
  have hwB : IntKind.i16.wrap (x + 1) = x + 1 := w16 (by omega) (by omega)
  have hlt : decide (H k < 0) = true := by simp [hn]
  have hc := h.at hk
  have hf := h.free (3 + k)
  have hb : Below B w (w.setCell ⟨B, 3 + k, none⟩ (.int .i16 (x + 1))) := (Below.refl _ w).setCell (p := ⟨B, 3 + k, none⟩) (Nat.le_refl _) _
  unfold LR
  rw [e1, e2]
  have HP : Hid (Wy (w.setCell ⟨B, 3 + k, none⟩ (.int .i16 (x + 1))) B n t d (upd H k x)) := h'
  clear h h' hH hH' e1 e2 e3
  generalize H k = y at *
  clear hn
  go_enter func33, ntmps33
  go_wp2_with fail
  refine c1.mono ?_
  rintro e w1 ⟨rfl, rfl⟩
  go_wp2_with fail
  refine c2.mono ?_
  rintro e w1 ⟨rfl, rfl⟩
  go_wp2_with fail
  go_ret
  exact ⟨rfl, HP.out, hb⟩
 ·have e1 : ldb H k x = (H k == x) := by simp [ldb, hn]
  have e2 : ld H k x = H := by simp [ld, hn]
  have hlt : decide (H k < 0) = false := by simp [hn]
  unfold LR
  rw [e1, e2]
  have HP : Hid (Wy w B n t d H) := h
  clear h hH e1 e2
  generalize H k = y at *
  clear hn
  go_enter func33, ntmps33
  go_wp2_with fail
  refine c1.mono ?_
  rintro e w1 ⟨rfl, rfl⟩
  go_wp2_with fail
  refine c1.mono ?_
  rintro e w1 ⟨rfl, rfl⟩
  go_wp2_with fail
  go_ret
  exact ⟨rfl, HP.out, Below.refl _ _⟩
theorem needs_c (o : Int) (w : World) : Calls prog 76 #[.int .i64 o] w fun e w' => e = .returned (.int .i64 (nd o)) /\ w = w' := by
 unfold nd
 generalize hn1 : decide (o <= 6) = x1
 generalize hn2 : (o == 33) = x2
 generalize hn3 : (o == 8) = x3
 generalize hn4 : decide (12 <= o) = x4
 generalize hn5 : decide (o <= 28) = x5
 cases x1 <;> cases x2 <;> cases x3 <;> cases x4 <;> cases x5 <;> (
  go_enter func76, ntmps76
  go_wp2_with fail
  go_ret
  exact ⟨rfl, rfl⟩)
theorem isJump_c (o : Int) (w : World) : Calls prog 59 #[.int .i64 o] w fun e w' => e = .returned (.bool (ijp o)) /\ w = w' := by
 unfold ijp
 generalize hn4 : decide (30 <= o) = x4
 generalize hn5 : decide (o <= 33) = x5
 cases x4 <;> cases x5 <;> (
  go_enter func59, ntmps59
  go_wp2_with fail
  go_ret
  exact ⟨rfl, rfl⟩)
end Go.Proofs.YthjbknncbhkinaaGreatDoor.CHt
namespace Go.Proofs.YthjbknncbhkinaaGreatDoor.CLo
open Go.RowKit CPu CBx
theorem two_box {w : World} {B : Nat} {t : TypeId} {x y : Value} (h : w.heap[B]? = some (.cells #[x, y] t (0, 0))) : w.cell? ⟨B, 0, none⟩ = some x /\ w.cell? ⟨B, 1, none⟩ = some y := by
 constructor <;> simp [World.cell?, h]
theorem box1 (w : World) (x y : Value) (t : TypeId) : ∃ W, w.alloc (.cells #[x, y] t) = W /\ Below w.heap.size w W /\ W.heap.size = w.heap.size + 1 /\ W.cell? ⟨w.heap.size, 0, none⟩ = some x /\ W.cell? ⟨w.heap.size, 1, none⟩ = some y :=
 ⟨_, rfl, (Below.refl _ w).alloc (Nat.le_refl _) _, by simp, (two_box (heap_alloc_new w _)).1, (two_box (heap_alloc_new w _)).2⟩
theorem isFormed_c (o a : Int) (w : World) : Calls prog 57 #[.agg #[.int .i64 o, .int .i64 a]] w fun e w' => e = .returned (.bool (fmd o a)) /\ Below w.heap.size w w' := by
 obtain ⟨W, hW, hb, hs, c0, c1⟩ := box1 w (.int .i64 o) (.int .i64 a) 57
 unfold fmd
 cases h4 : (o == 4)
 case true =>
  go_enter func57, ntmps57
  go_wp2_with fail
  go_ret
  exact ⟨rfl, hb⟩
 cases h5 : (o == 5)
 case true =>
  go_enter func57, ntmps57
  go_wp2_with fail
  go_ret
  exact ⟨rfl, hb⟩
 cases h6 : (o == 6)
 case true =>
  go_enter func57, ntmps57
  go_wp2_with fail
  go_ret
  exact ⟨rfl, hb⟩
 cases h7 : (o == 7)
 case true =>
  go_enter func57, ntmps57
  go_wp2_with fail
  go_ret
  exact ⟨rfl, hb⟩
 cases h30 : (o == 30)
 case true =>
  go_enter func57, ntmps57
  go_wp2_with fail
  go_ret
  exact ⟨rfl, hb⟩
 cases h31 : (o == 31)
 case true =>
  go_enter func57, ntmps57
  go_wp2_with fail
  go_ret
  exact ⟨rfl, hb⟩
 cases h32 : (o == 32)
 case true =>
  go_enter func57, ntmps57
  go_wp2_with fail
  go_ret
  exact ⟨rfl, hb⟩
 cases h33 : (o == 33)
 case true =>
  go_enter func57, ntmps57
  go_wp2_with fail
  go_ret
  exact ⟨rfl, hb⟩
 cases h9 : (o == 9)
 case true =>
  cases d1 : decide (1 <= a) <;> cases d2 : decide (a <= 8) <;> (
   go_enter func57, ntmps57
   go_wp2_with fail
   go_ret
   exact ⟨rfl, hb⟩)
 cases d1 : decide (1 <= o) <;> cases d2 : decide (o <= 33) <;> cases d3 : (a == 0) <;> (
  go_enter func57, ntmps57
  go_wp2_with fail
  go_ret
  exact ⟨rfl, hb⟩)
theorem hasName_c {w : World} {B : Nat} {n t d : Int} {H : Nat -> Int} (h : Wy w B n t d H) (o a : Int) :
  Calls prog 58 #[.pointer (some ⟨B, 0, none⟩), .agg #[.int .i64 o, .int .i64 a]] w fun e w' => e = .returned (.bool (hnm t d o a)) /\ Below w.heap.size w w' := by
 obtain ⟨W, hW, hb, hs, c0, c1⟩ := box1 w (.int .i64 o) (.int .i64 a) 57
 have h2 := h.keep hb h.lt
 have q1 := h2.t
 have q2 := h2.d
 clear h h2
 unfold hnm
 cases h5 : (o == 5)
 case true =>
  cases d1 : decide (0 <= a) <;> cases d2 : decide (a < t) <;> (
   go_enter func58, ntmps58
   go_wp2_with fail
   go_quiet (fail)
   go_wp2_with fail
   go_ret
   exact ⟨rfl, IBase.below_drewN hb⟩)
 cases h7 : (o == 7)
 case true =>
  cases d1 : decide (0 <= a) <;> cases d2 : decide (a < t) <;> (
   go_enter func58, ntmps58
   go_wp2_with fail
   go_quiet (fail)
   go_wp2_with fail
   go_ret
   exact ⟨rfl, IBase.below_drewN hb⟩)
 cases h6 : (o == 6)
 case true =>
  cases d1 : decide (0 <= a) <;> cases d2 : decide (a < d) <;> (
   go_enter func58, ntmps58
   go_wp2_with fail
   go_quiet (fail)
   go_wp2_with fail
   go_ret
   exact ⟨rfl, IBase.below_drewN hb⟩)
 go_enter func58, ntmps58
 go_wp2_with fail
 go_ret
 exact ⟨rfl, hb⟩
end Go.Proofs.YthjbknncbhkinaaGreatDoor.CLo
namespace Go.Proofs.YthjbknncbhkinaaGreatDoor.CLn
open Go.RowKit CPu CBx CHt CLo
def LO (B : Nat) (w : World) (n t d : Int) (X : Option (Nat -> Int)) (e : Ending) (w' : World) : Prop := Below B w w' /\ match X with
 | none => e = .returned (.bool false)
 | some H' => e = .returned (.bool true) /\ Wy w' B n t d H'
theorem lo_low {w : World} {B : Nat} {n t d : Int} {H : Nat -> Int} (h : Wy w B n t d H) (hH : Hb H) {i : Nat} (hi : i < 8192) {o a : Int} (hl : H i - nd o < 0) :
  Calls prog 60 #[.pointer (some ⟨B, 0, none⟩), .int .i64 (i : Nat), .agg #[.int .i64 o, .int .i64 a]] w fun e w' => LO B w n t d none e w' := by
 obtain ⟨W, hW, hb, hs, c0, c1⟩ := box1 w (.int .i64 o) (.int .i64 a) 57
 have hB := h.lt
 have hwy := h.keep hb hB
 have cH : ∀ m, Calls prog 35 #[.pointer (some ⟨B, 0, none⟩), .int .i64 (i : Nat)] (W.drewN m) fun e w' => e = .returned (.int .i64 (H i)) /\ w' = W.drewN m := fun m => (height_c (w := W.drewN m) hwy hH (by omega)).mono fun _ _ h => ⟨h.1, h.2.symm⟩
 have cN : ∀ m, Calls prog 76 #[.int .i64 o] (W.drewN m) fun e w' => e = .returned (.int .i64 (nd o)) /\ w' = W.drewN m := fun m => (needs_c o (W.drewN m)).mono fun _ _ h => ⟨h.1, h.2.symm⟩
 have hh := hH i
 have hn := nd_range o
 have HB : Hid (Below B w W) := hb.mono (by omega)
 clear h hH hb hwy
 generalize H i = y at *
 generalize nd o = q at *
 have hw : IntKind.i64.wrap (y - q) = y - q := w64 (by omega) (by omega)
 have hlt : decide (y - q < 0) = true := by simp; omega
 clear hl hh hn
 go_enter func60, ntmps60
 go_wp2_with fail
 go_quiet (first | (go_at_call 35; exact Calls.quiet_of_same (cH _)) | (go_at_call 76; exact Calls.quiet_of_same (cN _)))
 go_wp2_with fail
 go_ret
 exact ⟨IBase.below_drewN HB.out, rfl⟩
theorem lo_both {w : World} {B : Nat} {n t d : Int} {H : Nat -> Int} (h : Wy w B n t d H) (hH : Hb H) {i : Nat} (hi : i < 8192) {o : Int} {k : Nat} (hk : i < k /\ k <= 8192) (ho : o = 30 \/ o = 31) (hl : ¬ H i - nd o < 0) :
  Calls prog 60 #[.pointer (some ⟨B, 0, none⟩), .int .i64 (i : Nat), .agg #[.int .i64 o, .int .i64 (k : Nat)]] w fun e w' => LO B w n t d (both H k (H i - nd o + 1) (i + 1) (H i - nd o)) e w' := by
 obtain ⟨W, hW, hb, hs, c0, c1⟩ := box1 w (.int .i64 o) (.int .i64 (k : Nat)) 57
 have hB := h.lt
 have hwy := h.keep hb hB
 have cH : ∀ m, Calls prog 35 #[.pointer (some ⟨B, 0, none⟩), .int .i64 (i : Nat)] (W.drewN m) fun e w' => e = .returned (.int .i64 (H i)) /\ w' = W.drewN m := fun m => (height_c (w := W.drewN m) hwy hH (by omega)).mono fun _ _ h => ⟨h.1, h.2.symm⟩
 have cN : ∀ m, Calls prog 76 #[.int .i64 o] (W.drewN m) fun e w' => e = .returned (.int .i64 (nd o)) /\ w' = W.drewN m := fun m => (needs_c o (W.drewN m)).mono fun _ _ h => ⟨h.1, h.2.symm⟩
 have hh := hH i
 have hn : nd o = 1 := by rcases ho with rfl | rfl; exact nd30; exact nd31
 have HB : Hid (Below B w W) := hb.mono (by omega)
 have cL := fun m => lead_c (w := W.drewN m) hwy hH (k := k) (by omega) (x := H i - nd o + 1) (by omega) (by omega)
 obtain ⟨x, hx⟩ : ∃ x, H i - nd o = x := ⟨_, rfl⟩
 rw [hx] at hl cL ⊢
 have hH2 : Hb (ld H k (x + 1)) := ld_hb hH (by omega) (by omega)
 have cM : Hid (∀ W1, Wy W1 B n t d (ld H k (x + 1)) -> Calls prog 33 #[.pointer (some ⟨B, 0, none⟩), .int .i64 ((i : Int) + 1), .int .i64 x] W1 fun e w' => LR B W1 n t d (ld H k (x + 1)) (i + 1) x e w') := fun W1 h1 => lead_c h1 hH2 (k := i + 1) (by omega) (by omega) (by omega)
 clear h hH hb hwy hH2
 generalize hy : H i = y at *
 have hxr : -1 <= x /\ x <= 8192 := by omega
 clear hy
 generalize nd o = q at *
 have hw : IntKind.i64.wrap (y - q) = x := by rw [hx]; exact w64 (by omega) (by omega)
 have hw1 : IntKind.i64.wrap (x + 1) = x + 1 := w64 (by omega) (by omega)
 have hw2 : IntKind.i64.wrap ((i : Int) + 1) = (i : Int) + 1 := w64 (by omega) (by omega)
 have hlt : decide (x < 0) = false := by simp; omega
 obtain ⟨U, hU⟩ : ∃ U, ldb H k (x + 1) = U := ⟨_, rfl⟩
 obtain ⟨X, hX⟩ : ∃ X, both H k (x + 1) (i + 1) x = X := ⟨_, rfl⟩
 rw [hX]
 unfold both at hX
 rw [hU] at hX
 have HX : Hid (_ = X) := hX
 clear hX
 have HU : Hid (ldb H k (x + 1) = U) := hU
 obtain ⟨b1, b2, hb1, hb2, hbb⟩ : ∃ b1 b2, (o == 30) = b1 /\ (o == 31) = b2 /\ (b1 || b2) = true := ⟨_, _, rfl, rfl, by rcases ho with rfl | rfl <;> decide⟩
 clear hl hh hn hxr hx hU ho
 cases b1 <;> cases b2 <;> first | (cases hbb; done) | skip
 all_goals
  clear hbb
  go_enter func60, ntmps60
  go_wp2_with fail
  go_quiet (first | (go_at_call 35; exact Calls.quiet_of_same (cH _)) | (go_at_call 76; exact Calls.quiet_of_same (cN _)))
  go_wp2_with fail
  refine (cL _).mono ?_
  rintro e w1 ⟨rfl, h1, hb1⟩
  rw [HU.out]
  have HB1 : Hid (Below B w w1) := (IBase.below_drewN HB.out).trans hb1
  have c3 := cM.out w1 h1
  clear cH cN cL HB hb1 h1
  cases U with
  | false =>
   have hX := HX.out
   rw [if_neg (by decide)] at hX
   subst hX
   go_wp2_with fail
   go_ret
   exact ⟨HB1.out, rfl⟩
  | true =>
   obtain ⟨V, hV⟩ : ∃ V, ldb (ld H k (x + 1)) (i + 1) x = V := ⟨_, rfl⟩
   have HV : Hid (ldb (ld H k (x + 1)) (i + 1) x = V) := hV
   clear hV
   go_wp2_with fail
   refine c3.mono ?_
   rintro e w2 ⟨rfl, h2, hb2⟩
   rw [HV.out]
   have HB2 : Hid (Below B w w2) := HB1.out.trans hb2
   have H2 : Hid (Wy w2 B n t d (ld (ld H k (x + 1)) (i + 1) x)) := h2
   clear c3 hb2 h2
   go_wp2_with fail
   go_ret
   have hX := HX.out
   cases V with
   | false =>
    simp [HV.out] at hX
    subst hX
    exact ⟨HB2.out, rfl⟩
   | true =>
    simp [HV.out] at hX
    subst hX
    exact ⟨HB2.out, rfl, H2.out⟩
theorem lo_else {w : World} {B : Nat} {n t d : Int} {H : Nat -> Int} (h : Wy w B n t d H) (hH : Hb H) {i : Nat} (hi : i < 8192) {o : Int} {k : Nat} (hk : i < k /\ k <= 8192) (ho : o = 32) (hl : ¬ H i - nd o < 0) :
  Calls prog 60 #[.pointer (some ⟨B, 0, none⟩), .int .i64 (i : Nat), .agg #[.int .i64 o, .int .i64 (k : Nat)]] w fun e w' => LO B w n t d (both H k (H i - nd o) (i + 1) (H i - nd o)) e w' := by
 obtain ⟨W, hW, hb, hs, c0, c1⟩ := box1 w (.int .i64 o) (.int .i64 (k : Nat)) 57
 have hB := h.lt
 have hwy := h.keep hb hB
 have cH : ∀ m, Calls prog 35 #[.pointer (some ⟨B, 0, none⟩), .int .i64 (i : Nat)] (W.drewN m) fun e w' => e = .returned (.int .i64 (H i)) /\ w' = W.drewN m := fun m => (height_c (w := W.drewN m) hwy hH (by omega)).mono fun _ _ h => ⟨h.1, h.2.symm⟩
 have cN : ∀ m, Calls prog 76 #[.int .i64 o] (W.drewN m) fun e w' => e = .returned (.int .i64 (nd o)) /\ w' = W.drewN m := fun m => (needs_c o (W.drewN m)).mono fun _ _ h => ⟨h.1, h.2.symm⟩
 have hh := hH i
 have hn : nd o = 1 := by subst ho; exact nd32
 have HB : Hid (Below B w W) := hb.mono (by omega)
 have cL := fun m => lead_c (w := W.drewN m) hwy hH (k := k) (by omega) (x := H i - nd o) (by omega) (by omega)
 obtain ⟨x, hx⟩ : ∃ x, H i - nd o = x := ⟨_, rfl⟩
 rw [hx] at hl cL ⊢
 have hH2 : Hb (ld H k x) := ld_hb hH (by omega) (by omega)
 have cM : Hid (∀ W1, Wy W1 B n t d (ld H k x) -> Calls prog 33 #[.pointer (some ⟨B, 0, none⟩), .int .i64 ((i : Int) + 1), .int .i64 x] W1 fun e w' => LR B W1 n t d (ld H k x) (i + 1) x e w') := fun W1 h1 => lead_c h1 hH2 (k := i + 1) (by omega) (by omega) (by omega)
 clear h hH hb hwy hH2
 generalize hy : H i = y at *
 have hxr : -1 <= x /\ x <= 8192 := by omega
 clear hy
 generalize nd o = q at *
 have hw : IntKind.i64.wrap (y - q) = x := by rw [hx]; exact w64 (by omega) (by omega)
 have hw1 : IntKind.i64.wrap (x + 1) = x + 1 := w64 (by omega) (by omega)
 have hw2 : IntKind.i64.wrap ((i : Int) + 1) = (i : Int) + 1 := w64 (by omega) (by omega)
 have hlt : decide (x < 0) = false := by simp; omega
 obtain ⟨U, hU⟩ : ∃ U, ldb H k x = U := ⟨_, rfl⟩
 obtain ⟨X, hX⟩ : ∃ X, both H k x (i + 1) x = X := ⟨_, rfl⟩
 rw [hX]
 unfold both at hX
 rw [hU] at hX
 have HX : Hid (_ = X) := hX
 clear hX
 have HU : Hid (ldb H k x = U) := hU
 have q0 : (o == 30) = false := by subst ho; decide
 have q1 : (o == 31) = false := by subst ho; decide
 have q2 : (o == 32) = true := by subst ho; decide
 clear hl hh hn hxr hx hU ho
 ·go_enter func60, ntmps60
  go_wp2_with fail
  go_quiet (first | (go_at_call 35; exact Calls.quiet_of_same (cH _)) | (go_at_call 76; exact Calls.quiet_of_same (cN _)))
  go_wp2_with fail
  refine (cL _).mono ?_
  rintro e w1 ⟨rfl, h1, hb1⟩
  rw [HU.out]
  have HB1 : Hid (Below B w w1) := (IBase.below_drewN HB.out).trans hb1
  have c3 := cM.out w1 h1
  clear cH cN cL HB hb1 h1
  cases U with
  | false =>
   have hX := HX.out
   rw [if_neg (by decide)] at hX
   subst hX
   go_wp2_with fail
   go_ret
   exact ⟨HB1.out, rfl⟩
  | true =>
   obtain ⟨V, hV⟩ : ∃ V, ldb (ld H k x) (i + 1) x = V := ⟨_, rfl⟩
   have HV : Hid (ldb (ld H k x) (i + 1) x = V) := hV
   clear hV
   go_wp2_with fail
   refine c3.mono ?_
   rintro e w2 ⟨rfl, h2, hb2⟩
   rw [HV.out]
   have HB2 : Hid (Below B w w2) := HB1.out.trans hb2
   have H2 : Hid (Wy w2 B n t d (ld (ld H k x) (i + 1) x)) := h2
   clear c3 hb2 h2
   go_wp2_with fail
   go_ret
   have hX := HX.out
   cases V with
   | false =>
    simp [HV.out] at hX
    subst hX
    exact ⟨HB2.out, rfl⟩
   | true =>
    simp [HV.out] at hX
    subst hX
    exact ⟨HB2.out, rfl, H2.out⟩
theorem lo_jump {w : World} {B : Nat} {n t d : Int} {H : Nat -> Int} (h : Wy w B n t d H) (hH : Hb H) {i : Nat} (hi : i < 8192) {o : Int} (ho : o = 33) {k : Nat} (hk : i < k /\ k <= 8192) (hl : ¬ H i - nd o < 0) :
  Calls prog 60 #[.pointer (some ⟨B, 0, none⟩), .int .i64 (i : Nat), .agg #[.int .i64 o, .int .i64 (k : Nat)]] w fun e w' => LO B w n t d (one H k (H i - nd o)) e w' := by
 obtain ⟨W, hW, hb, hs, c0, c1⟩ := box1 w (.int .i64 o) (.int .i64 (k : Nat)) 57
 have hB := h.lt
 have hwy := h.keep hb hB
 have cH : ∀ m, Calls prog 35 #[.pointer (some ⟨B, 0, none⟩), .int .i64 (i : Nat)] (W.drewN m) fun e w' => e = .returned (.int .i64 (H i)) /\ w' = W.drewN m := fun m => (height_c (w := W.drewN m) hwy hH (by omega)).mono fun _ _ h => ⟨h.1, h.2.symm⟩
 have cN : ∀ m, Calls prog 76 #[.int .i64 o] (W.drewN m) fun e w' => e = .returned (.int .i64 (nd o)) /\ w' = W.drewN m := fun m => (needs_c o (W.drewN m)).mono fun _ _ h => ⟨h.1, h.2.symm⟩
 have hh := hH i
 have hn : nd o = 0 := by subst ho; exact nd33
 have HB : Hid (Below B w W) := hb.mono (by omega)
 have cL : ∀ m, Calls prog 33 #[.pointer (some ⟨B, 0, none⟩), .int .i64 (k : Nat), .int .i64 (H i - nd o)] (W.drewN m) fun e w' => LR B (W.drewN m) n t d H k (H i - nd o) e w' := fun m => lead_c (w := W.drewN m) hwy hH (by omega) (by omega) (by omega)
 obtain ⟨x, hx⟩ : ∃ x, H i - nd o = x := ⟨_, rfl⟩
 rw [hx] at hl cL ⊢
 clear h hH hb hwy
 generalize hy : H i = y at *
 have hxr : -1 <= x /\ x <= 8192 := by omega
 clear hy
 generalize nd o = q at *
 have hw : IntKind.i64.wrap (y - q) = x := by rw [hx]; exact w64 (by omega) (by omega)
 have hw1 : IntKind.i64.wrap (x + 1) = x + 1 := w64 (by omega) (by omega)
 have hw2 : IntKind.i64.wrap ((i : Int) + 1) = (i : Int) + 1 := w64 (by omega) (by omega)
 have hlt : decide (x < 0) = false := by simp; omega
 obtain ⟨U, hU⟩ : ∃ U, ldb H k (x) = U := ⟨_, rfl⟩
 obtain ⟨X, hX⟩ : ∃ X, one H k (x) = X := ⟨_, rfl⟩
 rw [hX]
 unfold one at hX
 rw [hU] at hX
 have HX : Hid (_ = X) := hX
 clear hX
 have HU : Hid (ldb H k (x) = U) := hU
 have q0 : (o == 30) = false := by subst ho; decide
 have q1 : (o == 31) = false := by subst ho; decide
 have q2 : (o == 32) = false := by subst ho; decide
 have q3 : (o == 33) = true := by subst ho; decide
 clear hl hh hn hxr hx hU ho
 go_enter func60, ntmps60
 go_wp2_with fail
 go_quiet (first | (go_at_call 35; exact Calls.quiet_of_same (cH _)) | (go_at_call 76; exact Calls.quiet_of_same (cN _)))
 go_wp2_with fail
 refine (cL _).mono ?_
 rintro e w1 ⟨rfl, h1, hb1⟩
 rw [HU.out]
 have HB1 : Hid (Below B w w1) := (IBase.below_drewN HB.out).trans hb1
 have H1 : Hid (Wy w1 B n t d (ld H k (x))) := h1
 clear cH cN cL HB hb1 h1
 go_wp2_with fail
 go_ret
 have hX := HX.out
 cases U with
 | false =>
  rw [if_neg (by decide)] at hX
  subst hX
  exact ⟨HB1.out, rfl⟩
 | true =>
  rw [if_pos rfl] at hX
  subst hX
  exact ⟨HB1.out, rfl, H1.out⟩
theorem lo_next {w : World} {B : Nat} {n t d : Int} {H : Nat -> Int} (h : Wy w B n t d H) (hH : Hb H) {i : Nat} (hi : i < 8192) {o a : Int} (ho : ¬ o = 30 /\ ¬ o = 31 /\ ¬ o = 32 /\ ¬ o = 33) (hl : ¬ H i - nd o < 0) :
  Calls prog 60 #[.pointer (some ⟨B, 0, none⟩), .int .i64 (i : Nat), .agg #[.int .i64 o, .int .i64 a]] w fun e w' => LO B w n t d (one H (i + 1) (H i - nd o + 1)) e w' := by
 obtain ⟨W, hW, hb, hs, c0, c1⟩ := box1 w (.int .i64 o) (.int .i64 a) 57
 have hB := h.lt
 have hwy := h.keep hb hB
 have cH : ∀ m, Calls prog 35 #[.pointer (some ⟨B, 0, none⟩), .int .i64 (i : Nat)] (W.drewN m) fun e w' => e = .returned (.int .i64 (H i)) /\ w' = W.drewN m := fun m => (height_c (w := W.drewN m) hwy hH (by omega)).mono fun _ _ h => ⟨h.1, h.2.symm⟩
 have cN : ∀ m, Calls prog 76 #[.int .i64 o] (W.drewN m) fun e w' => e = .returned (.int .i64 (nd o)) /\ w' = W.drewN m := fun m => (needs_c o (W.drewN m)).mono fun _ _ h => ⟨h.1, h.2.symm⟩
 have hh := hH i
 have hn := nd_range o
 have HB : Hid (Below B w W) := hb.mono (by omega)
 have cL : ∀ m, Calls prog 33 #[.pointer (some ⟨B, 0, none⟩), .int .i64 ((i : Int) + 1), .int .i64 (H i - nd o + 1)] (W.drewN m) fun e w' => LR B (W.drewN m) n t d H (i + 1) (H i - nd o + 1) e w' := fun m => lead_c (w := W.drewN m) hwy hH (k := i + 1) (by omega) (by omega) (by omega)
 obtain ⟨x, hx⟩ : ∃ x, H i - nd o = x := ⟨_, rfl⟩
 rw [hx] at hl cL ⊢
 clear h hH hb hwy
 generalize hy : H i = y at *
 have hxr : -1 <= x /\ x <= 8192 := by omega
 clear hy
 generalize nd o = q at *
 have hw : IntKind.i64.wrap (y - q) = x := by rw [hx]; exact w64 (by omega) (by omega)
 have hw1 : IntKind.i64.wrap (x + 1) = x + 1 := w64 (by omega) (by omega)
 have hw2 : IntKind.i64.wrap ((i : Int) + 1) = (i : Int) + 1 := w64 (by omega) (by omega)
 have hlt : decide (x < 0) = false := by simp; omega
 obtain ⟨U, hU⟩ : ∃ U, ldb H (i + 1) (x + 1) = U := ⟨_, rfl⟩
 obtain ⟨X, hX⟩ : ∃ X, one H (i + 1) (x + 1) = X := ⟨_, rfl⟩
 rw [hX]
 unfold one at hX
 rw [hU] at hX
 have HX : Hid (_ = X) := hX
 clear hX
 have HU : Hid (ldb H (i + 1) (x + 1) = U) := hU
 have q0 : (o == 30) = false := by simp [ho.1]
 have q1 : (o == 31) = false := by simp [ho.2.1]
 have q2 : (o == 32) = false := by simp [ho.2.2.1]
 have q3 : (o == 33) = false := by simp [ho.2.2.2]
 clear hl hh hn hxr hx hU ho
 go_enter func60, ntmps60
 go_wp2_with fail
 go_quiet (first | (go_at_call 35; exact Calls.quiet_of_same (cH _)) | (go_at_call 76; exact Calls.quiet_of_same (cN _)))
 go_wp2_with fail
 refine (cL _).mono ?_
 rintro e w1 ⟨rfl, h1, hb1⟩
 rw [HU.out]
 have HB1 : Hid (Below B w w1) := (IBase.below_drewN HB.out).trans hb1
 have H1 : Hid (Wy w1 B n t d (ld H (i + 1) (x + 1))) := h1
 clear cH cN cL HB hb1 h1
 go_wp2_with fail
 go_ret
 have hX := HX.out
 cases U with
 | false =>
  rw [if_neg (by decide)] at hX
  subst hX
  exact ⟨HB1.out, rfl⟩
 | true =>
  rw [if_pos rfl] at hX
  subst hX
  exact ⟨HB1.out, rfl, H1.out⟩
theorem leadOn_c {w : World} {B : Nat} {n t d : Int} {H : Nat -> Int} (h : Wy w B n t d H) (hH : Hb H) {i : Nat} (hi : i < 8192) {o a : Int} (ha : ijp o = true -> (i : Int) < a /\ a <= 8192) :
  Calls prog 60 #[.pointer (some ⟨B, 0, none⟩), .int .i64 (i : Nat), .agg #[.int .i64 o, .int .i64 a]] w fun e w' => LO B w n t d (lon H i o a) e w' := by
 unfold lon
 have hj : o = 30 \/ o = 31 \/ o = 32 \/ o = 33 -> ∃ k : Nat, a = k /\ i < k /\ k <= 8192 := fun hh => by
  have := ha (by unfold ijp; rcases hh with rfl | rfl | rfl | rfl <;> decide)
  exact ⟨a.toNat, by omega, by omega, by omega⟩
 split
 ·next h1 => exact lo_low h hH hi h1
 ·next h1 =>
  split
  ·next h2 =>
   obtain ⟨k, rfl, hk⟩ := hj (by omega)
   rw [Int.toNat_natCast]
   exact lo_both h hH hi hk h2 h1
  ·split
   ·next h2 =>
    obtain ⟨k, rfl, hk⟩ := hj (by omega)
    rw [Int.toNat_natCast]
    exact lo_else h hH hi hk h2 h1
   ·split
    ·next h2 =>
     obtain ⟨k, rfl, hk⟩ := hj (by omega)
     rw [Int.toNat_natCast]
     exact lo_jump h hH hi h2 hk h1
    ·next h3 h4 h5 => exact lo_next h hH hi (by omega) h1
end Go.Proofs.YthjbknncbhkinaaGreatDoor.CLn
