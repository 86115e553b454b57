import Derived.Test.YtaiackmmmlhgbaaGreatPV09
import Derived.Test.YtaiackmmmlhgbaaGreatPV20
import Derived.Test.YtaiackmmmlhgbaaGreatPV21
import Derived.Test.YtaiackmmmlhgbaaGreatPV29
import Derived.Test.YtaiackmmmlhgbaaGreatPV35
open Go.Proofs.Tryz
set_option linter.unusedVariables false
set_option maxRecDepth 20000
set_option maxHeartbeats 3200000
namespace Go.Proofs.YtaiackmmmlhgbaaGreat.BCp
open Go.RowKit YRr YRs BBx
open YPl (Oq Bk Pg)
open BSf (hid)
open TBase (T Keep heap_alloc_new)
open CPu (Ins)
def Nw (w w' : World) : Nat -> Prop := fun b => w.heap.size <= b /\ b < w'.heap.size
theorem rrs_all {α : Type} {n : Nat} {Ly : World -> Nat -> Nat -> α -> Prop} {S : Nat -> Prop} {w : World} {v : Value} {l : List α} {P : α -> Prop} (h : RrS n Ly S w v l) (hP : ∀ g o x, Ly w g o x -> P x) : ∀ x ∈ l, P x := by
 obtain ⟨_, _, _, _, _, _, _, h6⟩ := h
 intro x hx
 rcases h6 with h6 | ⟨g', o', _, _, hc⟩
 ·rw [h6] at hx; cases hx
 ·obtain ⟨j, hj, rfl⟩ := List.getElem_of_mem hx
  exact hP _ _ _ (hc j hj)
theorem ix_of {S : Nat -> Prop} {w : World} {v : Value} {L : List Int} (h : RrS 1 LyI S w v L) : IBase.Ix w v L := by
 obtain ⟨a, cap, h1, h2, h3, h4, h5, h6⟩ := h
 refine ⟨a, cap, h1, h2, h3, h5, ?_⟩
 rcases h6 with h6 | ⟨g, o, ha, hg, hc⟩
 ·exact .inl h6
 ·exact .inr ⟨g, o, ha, fun j hj => by have := (hc j hj).1; rwa [Nat.mul_one] at this⟩
end Go.Proofs.YtaiackmmmlhgbaaGreat.BCp
namespace Go.Proofs.YtaiackmmmlhgbaaGreat.YRg
open Go.RowKit
theorem set3 {W W' : World} {B : Nat} {t : TypeId} {y0 y1 y2 : Value} (x0 x1 x2 : Value) (h : W.heap[B]? = some (.cells #[y0, y1, y2] t (0, 0))) (hW : ((W.setCell ⟨B, 0, none⟩ x0).setCell ⟨B, 1, none⟩ x1).setCell ⟨B, 2, none⟩ x2 = W') : W'.heap[B]? = some (.cells #[x0, x1, x2] t (0, 0)) /\ W.grownBy W' (some B) := by
 subst hW
 refine ⟨by rw [YCb.block_set (YCb.block_set (YCb.block_set h _) _) _]; rfl, ⟨rfl, rfl, rfl, by simp [World.setCell], fun k hk hne => ?_⟩⟩
 have hk' : k ≠ B := fun e => hne (by rw [e])
 rw [Below.heap_setCell _ _ _ _ hk', Below.heap_setCell _ _ _ _ hk', Below.heap_setCell _ _ _ _ hk']
theorem set5 {W W' : World} {B : Nat} {t : TypeId} {y0 y1 y2 y3 y4 : Value} (x0 x1 x2 x3 x4 : Value) (h : W.heap[B]? = some (.cells #[y0, y1, y2, y3, y4] t (0, 0))) (hW : ((((W.setCell ⟨B, 0, none⟩ x0).setCell ⟨B, 1, none⟩ x1).setCell ⟨B, 2, none⟩ x2).setCell ⟨B, 3, none⟩ x3).setCell ⟨B, 4, none⟩ x4 = W') : W'.heap[B]? = some (.cells #[x0, x1, x2, x3, x4] t (0, 0)) /\ W.grownBy W' (some B) := by
 subst hW
 refine ⟨by rw [YCb.block_set (YCb.block_set (YCb.block_set (YCb.block_set (YCb.block_set h _) _) _) _) _]; rfl, ⟨rfl, rfl, rfl, by simp [World.setCell], fun k hk hne => ?_⟩⟩
 have hk' : k ≠ B := fun e => hne (by rw [e])
 rw [Below.heap_setCell _ _ _ _ hk', Below.heap_setCell _ _ _ _ hk', Below.heap_setCell _ _ _ _ hk', Below.heap_setCell _ _ _ _ hk', Below.heap_setCell _ _ _ _ hk']
theorem set4 {W W' : World} {B : Nat} {t : TypeId} {y0 y1 y2 y3 : Value} (x0 x1 x2 x3 : Value) (h : W.heap[B]? = some (.cells #[y0, y1, y2, y3] t (0, 0))) (hW : (((W.setCell ⟨B, 0, none⟩ x0).setCell ⟨B, 1, none⟩ x1).setCell ⟨B, 2, none⟩ x2).setCell ⟨B, 3, none⟩ x3 = W') : W'.heap[B]? = some (.cells #[x0, x1, x2, x3] t (0, 0)) /\ W.grownBy W' (some B) := by
 subst hW
 refine ⟨by rw [YCb.block_set (YCb.block_set (YCb.block_set (YCb.block_set h _) _) _) _]; rfl, ⟨rfl, rfl, rfl, by simp [World.setCell], fun k hk hne => ?_⟩⟩
 have hk' : k ≠ B := fun e => hne (by rw [e])
 rw [Below.heap_setCell _ _ _ _ hk', Below.heap_setCell _ _ _ _ hk', Below.heap_setCell _ _ _ _ hk', Below.heap_setCell _ _ _ _ hk']
end Go.Proofs.YtaiackmmmlhgbaaGreat.YRg
namespace Go.Proofs.YtaiackmmmlhgbaaGreat.BLa
open Go.RowKit YRr YRs YRl BBx BCp
open YPl (Oq Bk Pg)
open BSf (hid)
open TBase (T Keep heap_alloc_new)
open CPu (Ins)
theorem own_kpn {w w' : World} {ty : TypeId} {lo n k : Nat} {v : Value} {xs : List Value} (h : w.ownsRow lo ty k v n xs) (hk : ∀ g, v.ownBlock = some g -> w'.heap[g]? = w.heap[g]?) : w'.ownsRow lo ty k v n xs := by
 refine ⟨h.1, ?_⟩
 rcases h.2 with h | ⟨g, cap, cur, h1, h2, h3, h4⟩
 ·exact .inl h
 ·exact .inr ⟨g, cap, cur, h1, h2, (hk g (by rw [h1]; rfl)).trans h3, h4⟩
def szI (l : List Int) : Prop := l.length * 8 <= 140737488351232
def szN (l : List Ins) : Prop := l.length * 16 <= 140737488351232
def szO (o : Oq) : Prop := szI o.l
def szB (k : Bk) : Prop := k.o.length * 56 <= 140737488351232 /\ (∀ o ∈ k.o, szO o) /\ szI k.u
def szP (x : Pg) : Prop := x.t.length * 16 <= 140737488351232 /\ x.c.length * 24 <= 140737488351232 /\ (∀ l ∈ x.c, szN l) /\ x.b.length * 56 <= 140737488351232 /\ ∀ k ∈ x.b, szB k
def LxS (S : Nat -> Prop) (w : World) (v : Value) (L : List Int) : Prop := ∃ g cap, v = .slice (some ⟨g, 0, none⟩) L.length cap /\ S g /\ L.length + 2 <= cap /\ cap <= 9223372036854775807 /\ (∀ j (h : j < L.length), w.cell? ⟨g, 0 + j, none⟩ = some (.int .i64 L[j])) /\ w.cell? ⟨g, 0 + L.length, none⟩ = some (.int .i64 (-7777)) /\ w.cell? ⟨g, 0 + (L.length + 1), none⟩ = some (.int .i64 (-8888))
def LkS (S : Nat -> Prop) (w : World) (v : Value) (L : List Ins) : Prop := ∃ g cap, v = .slice (some ⟨g, 0, none⟩) L.length cap /\ S g /\ L.length + 2 <= cap /\ cap <= 9223372036854775807 /\
 (∀ j (h : j < L.length), w.cell? ⟨g, 0 + j * 2, none⟩ = some (.int .i64 L[j].1) /\ w.cell? ⟨g, 0 + j * 2 + 1, none⟩ = some (.int .i64 L[j].2)) /\
 (w.cell? ⟨g, L.length * 2, none⟩ = some (.int .i64 (-7)) /\ w.cell? ⟨g, L.length * 2 + 1, none⟩ = some (.int .i64 0)) /\ w.cell? ⟨g, (L.length + 1) * 2, none⟩ = some (.int .i64 (-7)) /\ w.cell? ⟨g, (L.length + 1) * 2 + 1, none⟩ = some (.int .i64 0)
section
variable {S S' : Nat -> Prop} {w w' : World} {v : Value}
theorem LxS.keep {L : List Int} (h : LxS S w v L) (hk : Keep S w w') (hS : ∀ b, S b -> S' b) : LxS S' w' v L := by
 obtain ⟨g, cap, rfl, h0, h1, h2, h3, h4, h5⟩ := h
 exact ⟨g, cap, rfl, hS g h0, h1, h2, fun j hj => hk.cell h0 (h3 j hj), hk.cell h0 h4, hk.cell h0 h5⟩
theorem LkS.keep {L : List Ins} (h : LkS S w v L) (hk : Keep S w w') (hS : ∀ b, S b -> S' b) : LkS S' w' v L := by
 obtain ⟨g, cap, rfl, h0, h1, h2, h3, h4, h5⟩ := h
 exact ⟨g, cap, rfl, hS g h0, h1, h2, fun j hj => ⟨hk.cell h0 (h3 j hj).1, hk.cell h0 (h3 j hj).2⟩, ⟨hk.cell h0 h4.1, hk.cell h0 h4.2⟩, hk.cell h0 h5.1, hk.cell h0 h5.2⟩
theorem LxS.of {B : Nat} {L : List Int} (h : IInts.Lx w B v L) (hS : ∀ g, B <= g -> g < w.heap.size -> S g) : LxS S w v L := by
 obtain ⟨g, cap, rfl, h1, h2, h3, h4, h5, h6, h7⟩ := h
 exact ⟨g, cap, rfl, hS g h3 h4, h1, h2, h5, h6, h7⟩
theorem LxS.lx {L : List Int} (h : LxS S w v L) : IInts.Lx w 0 v L := by
 obtain ⟨g, cap, rfl, h0, h1, h2, h3, h4, h5⟩ := h
 exact ⟨g, cap, rfl, h1, h2, Nat.zero_le _, Base.cell_lt h4, h3, h4, h5⟩
theorem LkS.of {B : Nat} {L : List Ins} (h : CIn.Lk B w v L) (hS : ∀ g, B <= g -> g < w.heap.size -> S g) : LkS S w v L := by
 obtain ⟨g, cap, rfl, h1, h2, h3, h4, h5, h6⟩ := h
 exact ⟨g, cap, rfl, hS g h1 h2, h3, h4, h5, h6⟩
theorem LkS.lk {L : List Ins} (h : LkS S w v L) : CIn.Lk 0 w v L := by
 obtain ⟨g, cap, rfl, h0, h1, h2, h3, h4, h5⟩ := h
 exact ⟨g, cap, rfl, Nat.zero_le _, Base.cell_lt h4.1, h1, h2, h3, h4, h5⟩
theorem LxS.rr {L : List Int} (h : LxS S w v L) (hi : ∀ x ∈ L, i64 x) (hl : L.length <= 140737488351232) : RrS 1 LyI S w v L := by
 obtain ⟨g, cap, rfl, h0, h1, h2, h3, h4, h5⟩ := h
 exact ⟨_, cap, rfl, by omega, h2, hl, (fun e => by cases e), .inr ⟨g, 0, rfl, h0, fun j hj => ⟨by rw [Nat.mul_one]; exact h3 j hj, hi _ (List.getElem_mem hj)⟩⟩⟩
theorem LkS.rr {L : List Ins} (h : LkS S w v L) (hi : ∀ x ∈ L, i64 x.1 /\ i64 x.2) (hl : L.length <= 140737488351232) : RrS 2 LyN S w v L := by
 obtain ⟨g, cap, rfl, h0, h1, h2, h3, h4, h5⟩ := h
 exact ⟨_, cap, rfl, by omega, h2, hl, (fun e => by cases e), .inr ⟨g, 0, rfl, h0, fun j hj => ⟨(h3 j hj).1, (h3 j hj).2, hi _ (List.getElem_mem hj)⟩⟩⟩
theorem LxS.slice {L : List Int} (h : LxS S w v L) : ∃ a c, v = .slice a L.length c := by obtain ⟨g, cap, rfl, -⟩ := h; exact ⟨_, _, rfl⟩
theorem LkS.slice {L : List Ins} (h : LkS S w v L) : ∃ a c, v = .slice a L.length c := by obtain ⟨g, cap, rfl, -⟩ := h; exact ⟨_, _, rfl⟩
end
theorem lendI1_c {S : Nat -> Prop} {w : World} {v : Value} {L : List Int} (hv : RrS 1 LyI S w v L) (hn : szI L) :
  Calls prog 129 #[v] w fun e w' => ∃ u, e = .returned u /\ LxS (Nw w w') w' u L /\ Below w.heap.size w w' := by
 unfold szI at hn
 refine (IInts.lendI_c (ix_of hv) (by omega)).mono ?_
 rintro e w' ⟨u, rfl, ho, hb⟩
 exact ⟨u, rfl, LxS.of ho fun g h1 h2 => ⟨h1, h2⟩, hb⟩
theorem lendN1_c {S : Nat -> Prop} {w : World} {v : Value} {L : List Ins} (hv : RrS 2 LyN S w v L) (hS : ∀ g, S g -> g < w.heap.size) (hn : szN L) :
  Calls prog 79 #[v] w fun e w' => ∃ u, e = .returned u /\ LkS (Nw w w') w' u L /\ Below w.heap.size w w' := by
 unfold szN at hn
 refine (CIn.lendI_c (BFx.cx_of hv hS) (Nat.le_refl _) (by omega)).mono ?_
 rintro e w' ⟨u, rfl, ho, hb⟩
 exact ⟨u, rfl, LkS.of ho fun g h1 h2 => ⟨h1, h2⟩, hb⟩
def LtR {α : Type} (Hd : Hdt α) (n : Nat) (m : List Value) (S : Nat -> Prop) (w : World) (v : Value) (l : List α) : Prop :=
 ∃ g cap, v = .slice (some ⟨g, 0, none⟩) l.length cap /\ S g /\ l.length + 2 <= cap /\ cap <= 9223372036854775807 /\ (∀ j (h : j < l.length), ∃ c : List Value, (∀ i u, c[i]? = some u -> w.cell? ⟨g, 0 + j * n + i, none⟩ = some u) /\ Hd S w c l[j]) /\
  (∀ i u, m[i]? = some u -> w.cell? ⟨g, l.length * n + i, none⟩ = some u) /\ ∀ i u, m[i]? = some u -> w.cell? ⟨g, (l.length + 1) * n + i, none⟩ = some u
theorem LtR.keep {α : Type} {Hd : Hdt α} (hs : Stays Hd) {n : Nat} {m : List Value} {S S' : Nat -> Prop} {w w' : World} {v : Value} {l : List α} (h : LtR Hd n m S w v l) (hk : Keep S w w') (hS : ∀ b, S b -> S' b) : LtR Hd n m S' w' v l := by
 obtain ⟨g, cap, rfl, h0, h1, h2, h3, h4, h5⟩ := h
 refine ⟨g, cap, rfl, hS g h0, h1, h2, fun j hj => ?_, fun i u hu => hk.cell h0 (h4 i u hu), fun i u hu => hk.cell h0 (h5 i u hu)⟩
 obtain ⟨c, k1, k2⟩ := h3 j hj
 exact ⟨c, fun i u hu => hk.cell h0 (k1 i u hu), hs.out hk hS k2⟩
theorem LtR.slice {α : Type} {Hd : Hdt α} {n : Nat} {m : List Value} {S : Nat -> Prop} {w : World} {v : Value} {l : List α} (h : LtR Hd n m S w v l) : ∃ a c, v = .slice a l.length c := by obtain ⟨g, cap, rfl, -⟩ := h; exact ⟨_, _, rfl⟩
theorem LtR.rr {α : Type} {Hd : Hdt α} {n : Nat} {m : List Value} {S : Nat -> Prop} {w : World} {v : Value} {l : List α} {Ly : World -> Nat -> Nat -> α -> Prop} (h : LtR Hd n m S w v l) (hl : l.length <= 140737488351232) (hly : ∀ g o c x, x ∈ l -> (∀ i u, c[i]? = some u -> w.cell? ⟨g, o + i, none⟩ = some u) -> Hd S w c x -> Ly w g o x) : RrS n Ly S w v l := by
 obtain ⟨g, cap, rfl, h0, h1, h2, h3, h4, h5⟩ := h
 refine ⟨_, cap, rfl, by omega, h2, hl, (fun e => by cases e), .inr ⟨g, 0, rfl, h0, fun j hj => ?_⟩⟩
 obtain ⟨c, k1, k2⟩ := h3 j hj
 exact hly g _ c _ (List.getElem_mem hj) k1 k2
def HdLC : Hdt (List Ins) := fun S w c x => ∃ v, c = [v] /\ LkS S w v x
def HdLO : Hdt Oq := fun S w c x => ∃ v, c = [.int .i64 x.k, .int .i64 x.a, .int .i64 x.b, .int .i64 x.c, v] /\ (i64 x.k /\ i64 x.a /\ i64 x.b /\ i64 x.c) /\ LxS S w v x.l
def mC : List Value := [.slice none 0 0]
def mO : List Value := [.int .i64 (-7), .int .i64 0, .int .i64 0, .int .i64 0, .slice none 0 0]
def mB : List Value := [.int .i64 (-7), .slice none 0 0, .slice none 0 0]
theorem sLC : Stays HdLC := ⟨fun hk hS ⟨v, h1, h2⟩ => ⟨v, h1, h2.keep hk hS⟩⟩
theorem sLO : Stays HdLO := ⟨fun hk hS ⟨v, h1, h2, h3⟩ => ⟨v, h1, h2, h3.keep hk hS⟩⟩
def HdLB : Hdt Bk := fun S w c x => ∃ v u, c = [.int .i64 x.d, v, u] /\ i64 x.d /\ LtR HdLO 5 mO S w v x.o /\ LxS S w u x.u
theorem sLB : Stays HdLB := ⟨fun hk hS ⟨v, u, h1, h2, h3, h4⟩ => ⟨v, u, h1, h2, h3.keep sLO hk hS, h4.keep hk hS⟩⟩
theorem lent_of {α : Type} {Hd : Hdt α} (hs : Stays Hd) {ty : TypeId} {n lo : Nat} {m : List Value} (hm : m.length = n) {w w' : World} {v v' : Value} {l : List α} {css : List (List Value)} (h1 : w.ownsRow lo ty n v l.length css.flatten) (h2 : css.length = l.length) (h3 : ∀ c ∈ css, c.length = n) (h4 : ∀ j (h1 : j < css.length) (h2 : j < l.length), Hd (Sx lo w v) w css[j] l[j]) (hg : w.grownBy w' v.ownBlock)
  (ho : w'.ownsRow lo ty n v' (l.length + 2) (css.flatten ++ (m ++ m))) (hb : v'.ownBlock = v.ownBlock \/ v'.ownBlock = some w.heap.size) {S : Nat -> Prop} (hS : ∀ b, lo <= b -> b < w'.heap.size -> S b) :
  ∃ g cap, v' = .slice (some ⟨g, 0, none⟩) (l.length + 2) cap /\ l.length + 2 <= cap /\ LtR Hd n m S w' (.slice (some ⟨g, 0, none⟩) l.length cap) l := by
 have hfl : ∀ (l : List (List Value)), (∀ c ∈ l, c.length = n) -> l.flatten.length = l.length * n := by
  intro l
  induction l with
  | nil => intro _; simp
  | cons c r ih => intro hc; rw [List.flatten_cons, List.length_append, ih (fun d hd => hc d (by simp [hd])), hc c (by simp), List.length_cons, Nat.succ_mul]; omega
 have hfc := hfl css h3
 rcases ho.2 with ⟨-, e⟩ | ⟨g, cap, cur, rfl, k1, k2, k3, k4, -⟩
 ·omega
 ·have hlt := World.ownsRow.lt ho g rfl
  have hcell : ∀ j u, (css.flatten ++ (m ++ m))[j]? = some u -> w'.cell? ⟨g, j, none⟩ = some u := fun j u hu => by
   have := World.ownsRow.cells (g := g) ho rfl j u hu
   rw [Leb.add_none] at this
   rwa [Nat.zero_add] at this
  have hsz := hg.size
  refine ⟨g, cap, rfl, k3, g, cap, rfl, hS g hlt.1 hlt.2, k3, by unfold maxLen at k4; omega, fun j hj => ⟨css[j], fun i u hu => ?_, ?_⟩, fun i u hu => ?_, fun i u hu => ?_⟩
  ·have hi : i < n := by have := (List.getElem?_eq_some_iff.1 hu).1; rw [h3 _ (List.getElem_mem (by omega))] at this; exact this
   refine hcell _ u ?_
   have hlt2 : 0 + j * n + i < css.flatten.length := by
    rw [hfc]
    have : (j + 1) * n <= css.length * n := Nat.mul_le_mul_right _ (by omega)
    rw [Nat.succ_mul] at this
    omega
   rw [List.getElem?_append_left hlt2, Nat.zero_add, flat_at h3 j (by omega) i hi]
   exact hu
  ·exact hs.out (S := Sx lo w v) (fun b hb' hl => hg.block b hl (fun e => hb'.2.2 e.symm)) (fun b hb' => hS b hb'.1 (by have := hb'.2.1; omega)) (h4 j (by omega) hj)
  ·have hi : i < n := by rw [<- hm]; exact (List.getElem?_eq_some_iff.1 hu).1
   refine hcell _ u ?_
   rw [List.getElem?_append_right (by rw [hfc, h2]; omega), hfc, h2, Nat.add_sub_cancel_left, List.getElem?_append_left (by omega)]
   exact hu
  ·have hi : i < n := by rw [<- hm]; exact (List.getElem?_eq_some_iff.1 hu).1
   refine hcell _ u ?_
   rw [List.getElem?_append_right (by rw [hfc, h2, Nat.succ_mul]; omega), hfc, h2, Nat.succ_mul, show l.length * n + n + i - l.length * n = n + i by omega, List.getElem?_append_right (by omega), hm, Nat.add_sub_cancel_left]
   exact hu
theorem rowi_below {α : Type} {Hd : Hdt α} (hs : Stays Hd) {ty : TypeId} {n lo : Nat} {w w' : World} {v : Value} {l : List α} (h : RowI Hd ty n lo w v l) (hb : Below w.heap.size w w') : RowI Hd ty n lo w' v l := by
 obtain ⟨css, h1, h2, h3, h4⟩ := h
 refine ⟨css, own_kpn h1 fun g e => hb.block g (World.ownsRow.lt h1 g e).2, h2, h3, fun j a b => hs.out (S := Sx lo w v) (fun b hb' hl => hb.block b hl) (fun b hb' => ⟨hb'.1, by have := hb'.2.1; have := hb.size; omega, hb'.2.2⟩) (h4 j a b)⟩
end Go.Proofs.YtaiackmmmlhgbaaGreat.BLa
namespace Go.Proofs.YtaiackmmmlhgbaaGreat.BLb
open Go.RowKit YRr YRs YRl BBx BIx BCp BLa
open YPl (Oq Bk Pg)
open BSf (hid)
open BVf (cell_set)
open TBase (T Keep heap_alloc_new frozen_box)
open CPu (Ins)
theorem lendC_c {S : Nat -> Prop} {w : World} {v : Value} {l : List (List Ins)} (h : RrS 1 (LyCs S) S w v l) (hS : ∀ g, S g -> g < w.heap.size) (hpos : 0 < w.heap.size) (hlen : l.length * 24 <= 140737488351232) (hin : ∀ L ∈ l, szN L) :
  Calls prog 41 #[v] w fun e w' => ∃ u, e = .returned u /\ LtR HdLC 1 mC (Nw w w') w' u l /\ Below w.heap.size w w' := by
 obtain ⟨i0, hi, hz0, hz1, hz2⟩ := info_parts YRf.info_c
 have HIN := hid h
 have HS := hid hS
 obtain ⟨a, cap, rfl, hlc, hcm, h47, hnil, -⟩ := h
 clear hS hnil
 go_enter func41, ntmps41
 go_wp2_with fail
 go_loopw [3, 4] (fun out i wr => ∃ (q : Nat) (xs : List (List Ins)), q <= l.length /\ i = .int .i64 q /\ xs.length = q /\ Hid (xs = l.take q /\ Below w.heap.size w wr /\ RowI HdLC 63 1 w.heap.size wr out xs)) (fun _ i _ => l.length - (intOf i).toNat)
 case atStart => exact ⟨0, [], by omega, rfl, rfl, ⟨by simp, Below.refl _ _, RowI.nil _ _ _ _ _⟩⟩
 case round =>
  obtain ⟨q, xs, hq, rfl, hxl, HG⟩ := hrel
  have hsw := HG.out.2.1.size
  by_cases hlt : q < l.length
  ·have d0 : decide ((q : Int) < (l.length : Int)) = true := by simp; omega
   have i00 : (0 : Int) <= (q : Int) := by omega
   have i01 : (q : Int) < (l.length : Int) := by omega
   obtain ⟨g, o, cap', hsl, hl, hm, hg, u, ku, hr⟩ := RrS.at HIN.out hlt
   cases hsl
   have ku := below_cell (HS.out g hg) ku HG.out.2.1
   rw [Nat.mul_one] at ku
   have kp : Keep S w wr := fun b hb' hl => HG.out.2.1.block b (HS.out b hb')
   have hr := hr.keep (fun _ h => h) fun g o x _ hg h => kN kp hg h
   have hll := hin l[q] (List.getElem_mem hlt)
   have cI := lendN1_c hr (fun g hg => Nat.lt_of_lt_of_le (HS.out g hg) hsw) hll
   obtain ⟨ua, uc, rfl, -⟩ := hr
   have HTK := hid (List.take_succ_eq_append_getElem hlt)
   generalize l[q] = L at *
   clear kp
   go_wp2_with fail
   refine cI.mono ?_
   rintro e W2 ⟨u2, rfl, hrr, b2⟩
   have HRR := hid hrr
   obtain ⟨ra, rc, rfl⟩ := hrr.slice
   obtain ⟨W3, hW3⟩ : ∃ W, W2.alloc (.cells #[.slice ra L.length rc] 63) = W := ⟨_, rfl⟩
   have b3 : Below W2.heap.size W2 W3 := by rw [<- hW3]; exact (Below.refl _ W2).alloc (Nat.le_refl _) _
   have n3 : W3.heap[W2.heap.size]? = some (.cells ([.slice ra L.length rc] : List Value).toArray 63 (0, 0)) := by rw [<- hW3]; exact heap_alloc_new W2 _
   obtain ⟨css, k1, k2, k3, k4, k5⟩ := RowI.push sLC HG.out.2.2 hpos hsw (Gx.of (R := 0) b2) (c := [.slice ra L.length rc]) (x := L) ⟨_, rfl, HRR.out⟩ b3
   have HP := hid (And.intro k2 (And.intro k3 (And.intro k4 k5)))
   have HB3 := hid (HG.out.2.1.trans ((b2.mono hsw).trans (b3.mono (by have := b2.size; omega))) : Below w.heap.size w W3)
   have hsz := HB3.out.size
   have hcl := src_of n3
   have hxq := HG.out.1
   have HXQ := hid hxq
   have hl3 := k1.1
   clear b2 b3 n3 k2 k3 k4 k5 cI hxq
   go_wp2_with (first
    | (at_builtin; (try rw [hW3]); refine YAp.app_seen rfl _ _ 25 rfl w.heap.size 63 i0 (.slice none 0 0) 1 24 underlying25 hi hz0 hz1 hz2 rfl (by decide) _ _ _ rfl k1 _ 1 _ [.slice ra L.length rc] rfl hcl rfl (by intro u hu; simp only [List.mem_cons, List.not_mem_nil, or_false] at hu; rcases hu with rfl; rfl) (by unfold maxLen; omega) (by omega) hsz ?_))
   intro v' W4 hown hgrow hnb
   have HF : Hid (xs ++ [L] = l.take (q + 1) /\ Below w.heap.size w W4 /\ RowI HdLC 63 1 w.heap.size W4 v' (xs ++ [L])) := ⟨by rw [HTK.out, HXQ.out], HB3.out.grown hgrow (by omega) (fun r hr => (World.ownsRow.lt k1 r hr).1), RowI.snoc sLC k1 HP.out.1 HP.out.2.1 HP.out.2.2.1 HP.out.2.2.2 rfl hgrow (by rw [hxl]; exact hown) hnb⟩
   clear hown hgrow hnb HP k1 hcl HB3 hsz
   go_wp2_with fail
   go_roundw
   case rel => exact ⟨q + 1, xs ++ [L], by omega, by go_num, by simp [hxl], HF⟩
   case measure => simp only [intOf]; omega
  ·have hqe : q = l.length := by omega
   subst hqe
   have d0 : decide ((l.length : Int) < (l.length : Int)) = false := by simp
   have hx := HG.out.1
   rw [List.take_length] at hx
   obtain ⟨W3, hW3⟩ : ∃ W, wr.alloc (.cells #[.slice none 0 0, .slice none 0 0] 63) = W := ⟨_, rfl⟩
   have b3 : Below wr.heap.size wr W3 := by rw [<- hW3]; exact (Below.refl _ wr).alloc (Nat.le_refl _) _
   have n3 : W3.heap[wr.heap.size]? = some (.cells (mC ++ mC : List Value).toArray 63 (0, 0)) := by rw [<- hW3]; exact heap_alloc_new wr _
   obtain ⟨css, k1, k2, k3, k4⟩ := rowi_below sLC HG.out.2.2 b3
   have HP := hid (And.intro k1 (And.intro k2 (And.intro k3 k4)))
   have HB3 := hid (HG.out.2.1.trans (b3.mono hsw) : Below w.heap.size w W3)
   have hsz := HB3.out.size
   have hcl0 := (src_of n3).resolve_left (by rintro ⟨h, -⟩; cases h)
   have hcl : ((some ⟨wr.heap.size, 0, none⟩ : Option Addr) = none /\ 2 = 0 /\ 2 = 0) \/ _ := Or.inr hcl0
   have hl3 := k1.1
   have HX := hid hx
   have HXL := hid hxl
   clear hlt hq b3 n3 k2 k3 k4 hx hcl0
   rw [hxl] at k1
   go_wp2_with (first
    | (at_builtin; (try rw [hW3]); refine YAp.app_seen rfl _ _ 25 rfl w.heap.size 63 i0 (.slice none 0 0) 1 24 underlying25 hi hz0 hz1 hz2 rfl (by decide) _ _ _ rfl k1 _ 2 _ (mC ++ mC) rfl hcl rfl (by decide) (by unfold maxLen; omega) (by omega) hsz ?_))
   intro v' W4 hown hgrow hnb
   have hown2 : W4.ownsRow w.heap.size 63 1 v' (xs.length + 2) (css.flatten ++ (mC ++ mC)) := by rw [HXL.out]; exact hown
   obtain ⟨g4, c4, rfl, hc4, hlt4⟩ := lent_of sLC (m := mC) rfl HP.out.1 HP.out.2.1 HP.out.2.2.1 HP.out.2.2.2 hgrow hown2 hnb (S := Nw w W4) (fun b h1 h2 => ⟨h1, h2⟩)
   have HLT := hid hlt4
   have HB4 := hid (HB3.out.grown hgrow (by omega) (fun r hr => (World.ownsRow.lt HP.out.1 r hr).1) : Below w.heap.size w W4)
   rw [hxl] at hc4
   rw [hxl]
   have v0 : (l.length : Int) <= (c4 : Int) := by omega
   clear hown hown2 hgrow hnb k1 hcl hsz hlt4
   go_wp2_with fail
   go_ret
   refine ⟨_, rfl, ?_, HB4.out⟩
   have := HLT.out
   rw [HXL.out, HX.out] at this
   exact this
end Go.Proofs.YtaiackmmmlhgbaaGreat.BLb
namespace Go.Proofs.YtaiackmmmlhgbaaGreat.BLc
open Go.RowKit YRr YRs YRl BBx BIx BCp BLa
open YPl (Oq Bk Pg)
open BSf (hid)
open BVf (cell_set)
open TBase (T Keep heap_alloc_new frozen_box)
open CPu (Ins)
theorem lendO1_c {S : Nat -> Prop} {w : World} {o : Oq} {la : Option Addr} {lc : Nat} (hl : RrS 1 LyI S w (.slice la o.l.length lc) o.l) (hS : ∀ g, S g -> g < w.heap.size) (hn : szO o) :
  Calls prog 180 #[.agg #[.int .i64 o.k, .int .i64 o.a, .int .i64 o.b, .int .i64 o.c, .slice la o.l.length lc]] w fun e w' => ∃ ua uc, e = .returned (.agg #[.int .i64 o.k, .int .i64 o.a, .int .i64 o.b, .int .i64 o.c, .slice ua o.l.length uc]) /\ LxS (Nw w w') w' (.slice ua o.l.length uc) o.l /\ Below w.heap.size w w' := by
 obtain ⟨W0, hW0⟩ : ∃ W, (w.alloc (.cells #[.int .i64 o.k, .int .i64 o.a, .int .i64 o.b, .int .i64 o.c, .slice la o.l.length lc] 127)).alloc (.cells #[.int .i64 0, .int .i64 0, .int .i64 0, .int .i64 0, .slice none 0 0] 127) = W := ⟨_, rfl⟩
 have b0 : Below w.heap.size w W0 := by rw [<- hW0]; exact ((Below.refl _ w).alloc (Nat.le_refl _) _).alloc (by simp) _
 have s0 : w.heap.size + 2 <= W0.heap.size := by rw [<- hW0]; simp
 have x0 : W0.heap[w.heap.size]? = some (.cells #[.int .i64 o.k, .int .i64 o.a, .int .i64 o.b, .int .i64 o.c, .slice la o.l.length lc] 127 (0, 0)) := by rw [<- hW0, Below.heap_alloc _ _ _ (by simp), heap_alloc_new]
 have x1 : W0.heap[w.heap.size + 1]? = some (.cells #[.int .i64 0, .int .i64 0, .int .i64 0, .int .i64 0, .slice none 0 0] 127 (0, 0)) := by
  have := heap_alloc_new (w.alloc (.cells #[.int .i64 o.k, .int .i64 o.a, .int .i64 o.b, .int .i64 o.c, .slice la o.l.length lc] 127)) (.cells #[.int .i64 0, .int .i64 0, .int .i64 0, .int .i64 0, .slice none 0 0] 127)
  rwa [hW0, World.size_alloc] at this
 have c1 := lendI1_c (hl.keep (S' := S) (fun _ h => h) fun g o x _ hg h => kI (fun b hb' hl => b0.block b (hS b hb')) hg h) hn
 have B0 := hid b0
 have X0 := hid (And.intro x0 x1)
 have p4 := cell_of x0 4 _ rfl
 clear hl b0 x0 x1
 go_enter func180, ntmps180
 go_wp2_with fail
 refine c1.mono ?_
 rintro e W1 ⟨u, rfl, hr, b1⟩
 have HR := hid hr
 obtain ⟨ua, uc, rfl⟩ := hr.slice
 have y0 := (b1.block w.heap.size (by omega)).trans X0.out.1
 have y1 := (b1.block (w.heap.size + 1) (by omega)).trans X0.out.2
 have s1 := b1.size
 have B1 := hid (B0.out.trans (b1.mono (by omega)) : Below w.heap.size w W1)
 have f4 := frozen_box y0 4
 have q4 := cell_of y0 4 _ rfl
 obtain ⟨W2, hW2⟩ : ∃ W, W1.setCell ⟨w.heap.size, 4, none⟩ (.slice ua o.l.length uc) = W := ⟨_, rfl⟩
 have z0 : W2.heap[w.heap.size]? = some (.cells #[.int .i64 o.k, .int .i64 o.a, .int .i64 o.b, .int .i64 o.c, .slice ua o.l.length uc] 127 (0, 0)) := by rw [<- hW2]; exact cell_set y0 4 _
 have z1 : W2.heap[w.heap.size + 1]? = some (.cells #[.int .i64 0, .int .i64 0, .int .i64 0, .int .i64 0, .slice none 0 0] 127 (0, 0)) := by rw [<- hW2, Below.heap_setCell _ _ _ _ (by simp)]; exact y1
 have s2 : W2.heap.size = W1.heap.size := by rw [<- hW2]; simp [World.setCell]
 have HW2 := hid hW2
 have Z1 := hid z1
 have k0 := cell_of z0 0 _ rfl
 have k1 := cell_of z0 1 _ rfl
 have k2 := cell_of z0 2 _ rfl
 have k3 := cell_of z0 3 _ rfl
 have k4 := cell_of z0 4 _ rfl
 have e0 := cell_of z1 0 _ rfl
 have e1 := cell_of z1 1 _ rfl
 have e2 := cell_of z1 2 _ rfl
 have e3 := cell_of z1 3 _ rfl
 have e4 := cell_of z1 4 _ rfl
 have g0 := frozen_box z1 0
 have g1 := frozen_box z1 1
 have g2 := frozen_box z1 2
 have g3 := frozen_box z1 3
 have g4 := frozen_box z1 4
 have S2 := hid s2
 clear c1 y0 y1 b1 z0 z1 p4 s2
 go_wp2_with fail
 obtain ⟨W3, hW3⟩ : ∃ W, ((((W2.setCell ⟨w.heap.size + 1, 0, none⟩ (.int .i64 o.k)).setCell ⟨w.heap.size + 1, 1, none⟩ (.int .i64 o.a)).setCell ⟨w.heap.size + 1, 2, none⟩ (.int .i64 o.b)).setCell ⟨w.heap.size + 1, 3, none⟩ (.int .i64 o.c)).setCell ⟨w.heap.size + 1, 4, none⟩ (.slice ua o.l.length uc) = W := ⟨_, rfl⟩
 try rw [hW3]
 obtain ⟨n3, r3⟩ := YRg.set5 _ _ _ _ _ Z1.out hW3
 refine bodyPost_ret (results_cell_row rfl _ W3 (w.heap.size + 1) 127 _ (0, 0) _ rfl n3 underlying127 rfl (by kernel_rfl)) rfl ?_
 have s3 := r3.size
 have s2 := S2.out
 have kb : ∀ b, b ≠ w.heap.size -> b ≠ w.heap.size + 1 -> b < W1.heap.size -> W3.heap[b]? = W1.heap[b]? := fun b h1 h2 h3 => (r3.block b (by omega) (fun e => by cases e; exact h2 rfl)).trans (by rw [<- HW2.out]; exact Below.heap_setCell _ _ _ _ h1)
 refine ⟨ua, uc, rfl, HR.out.keep (fun b hb hl => kb b (by have := hb.1; omega) (by have := hb.1; omega) hb.2) (fun b hb => ⟨by have := hb.1; omega, by have := hb.2; omega⟩), ?_⟩
 have hB2 : Below w.heap.size w W2 := by rw [<- HW2.out]; exact B1.out.setCell (p := ⟨w.heap.size, 4, none⟩) (Nat.le_refl _) _
 exact hB2.grown r3 (by omega) (fun r hr => by cases hr; omega)
theorem lendO_c {S : Nat -> Prop} {w : World} {v : Value} {l : List (Oq)} (h : RrS 5 (LyOs S) S w v l) (hS : ∀ g, S g -> g < w.heap.size) (hpos : 0 < w.heap.size) (hlen : l.length * 56 <= 140737488351232) (hin : ∀ L ∈ l, szO L) :
  Calls prog 128 #[v] w fun e w' => ∃ u, e = .returned u /\ LtR HdLO 5 mO (Nw w w') w' u l /\ Below w.heap.size w w' := by
 obtain ⟨i0, hi, hz0, hz1, hz2⟩ := info_parts YRf.info_o
 have HIN := hid h
 have HS := hid hS
 obtain ⟨a, cap, rfl, hlc, hcm, h47, hnil, -⟩ := h
 clear hS hnil
 go_enter func128, ntmps128
 go_wp2_with fail
 go_loopw [3, 4] (fun out i wr => ∃ (q : Nat) (xs : List (Oq)), q <= l.length /\ i = .int .i64 q /\ xs.length = q /\ Hid (xs = l.take q /\ Below w.heap.size w wr /\ RowI HdLO 127 5 w.heap.size wr out xs)) (fun _ i _ => l.length - (intOf i).toNat)
 case atStart => exact ⟨0, [], by omega, rfl, rfl, ⟨by simp, Below.refl _ _, RowI.nil _ _ _ _ _⟩⟩
 case round =>
  obtain ⟨q, xs, hq, rfl, hxl, HG⟩ := hrel
  have hsw := HG.out.2.1.size
  by_cases hlt : q < l.length
  ·have d0 : decide ((q : Int) < (l.length : Int)) = true := by simp; omega
   have i00 : (0 : Int) <= (q : Int) := by omega
   have i01 : (q : Int) < (l.length : Int) := by omega
   obtain ⟨g, o, cap', hsl, hl, hm, hg, lv, y0, y1, y2, y3, y4, hi4, hr⟩ := RrS.at HIN.out hlt
   cases hsl
   have y0 := below_cell (HS.out g hg) y0 HG.out.2.1
   have y1 := below_cell (HS.out g hg) y1 HG.out.2.1
   have y2 := below_cell (HS.out g hg) y2 HG.out.2.1
   have y3 := below_cell (HS.out g hg) y3 HG.out.2.1
   have y4 := below_cell (HS.out g hg) y4 HG.out.2.1
   have kp : Keep S w wr := fun b hb' hl => HG.out.2.1.block b (HS.out b hb')
   have hr := hr.keep (fun _ h => h) fun g o x _ hg h => kI kp hg h
   have hll := hin l[q] (List.getElem_mem hlt)
   obtain ⟨ua, uc, rfl, -⟩ : ∃ a c, lv = .slice a l[q].l.length c /\ True := by obtain ⟨a, c, e, -⟩ := hr; exact ⟨a, c, e, trivial⟩
   have cI := lendO1_c hr (fun g hg => Nat.lt_of_lt_of_le (HS.out g hg) hsw) hll
   have HI := hid hi4
   have HTK := hid (List.take_succ_eq_append_getElem hlt)
   generalize l[q] = L at *
   clear hr hi4 kp
   go_wp2_with fail
   refine cI.mono ?_
   rintro e W2 ⟨ra, rc, rfl, hrr, b2⟩
   have HRR := hid hrr
   obtain ⟨W3, hW3⟩ : ∃ W, W2.alloc (.cells #[.int .i64 L.k, .int .i64 L.a, .int .i64 L.b, .int .i64 L.c, .slice ra L.l.length rc] 127) = W := ⟨_, rfl⟩
   have b3 : Below W2.heap.size W2 W3 := by rw [<- hW3]; exact (Below.refl _ W2).alloc (Nat.le_refl _) _
   have n3 : W3.heap[W2.heap.size]? = some (.cells ([.int .i64 L.k, .int .i64 L.a, .int .i64 L.b, .int .i64 L.c, .slice ra L.l.length rc] : List Value).toArray 127 (0, 0)) := by rw [<- hW3]; exact heap_alloc_new W2 _
   obtain ⟨css, k1, k2, k3, k4, k5⟩ := RowI.push sLO HG.out.2.2 hpos hsw (Gx.of (R := 0) b2) (c := [.int .i64 L.k, .int .i64 L.a, .int .i64 L.b, .int .i64 L.c, .slice ra L.l.length rc]) (x := L) ⟨_, rfl, HI.out, HRR.out⟩ b3
   have HP := hid (And.intro k2 (And.intro k3 (And.intro k4 k5)))
   have HB3 := hid (HG.out.2.1.trans ((b2.mono hsw).trans (b3.mono (by have := b2.size; omega))) : Below w.heap.size w W3)
   have hsz := HB3.out.size
   have hcl := src_of n3
   have hxq := HG.out.1
   have HXQ := hid hxq
   have hl3 := k1.1
   clear hrr b2 b3 n3 k2 k3 k4 k5 cI hxq
   go_wp2_with (first
    | (at_builtin; (try rw [hW3]); refine YAp.app_seen rfl _ _ 71 rfl w.heap.size 127 i0 (.agg #[.int .i64 0, .int .i64 0, .int .i64 0, .int .i64 0, .slice none 0 0]) 5 56 underlying71 hi hz0 hz1 hz2 rfl (by decide) _ _ _ rfl k1 _ 1 _ [.int .i64 L.k, .int .i64 L.a, .int .i64 L.b, .int .i64 L.c, .slice ra L.l.length rc] rfl hcl rfl (by intro u hu; simp only [List.mem_cons, List.not_mem_nil, or_false] at hu; rcases hu with rfl | rfl | rfl | rfl | rfl <;> rfl) (by unfold maxLen; omega) (by omega) hsz ?_))
   intro v' W4 hown hgrow hnb
   have HF : Hid (xs ++ [L] = l.take (q + 1) /\ Below w.heap.size w W4 /\ RowI HdLO 127 5 w.heap.size W4 v' (xs ++ [L])) := ⟨by rw [HTK.out, HXQ.out], HB3.out.grown hgrow (by omega) (fun r hr => (World.ownsRow.lt k1 r hr).1), RowI.snoc sLO k1 HP.out.1 HP.out.2.1 HP.out.2.2.1 HP.out.2.2.2 rfl hgrow (by rw [hxl]; exact hown) hnb⟩
   clear hown hgrow hnb HP k1 hcl HB3 hsz
   go_wp2_with fail
   go_roundw
   case rel => exact ⟨q + 1, xs ++ [L], by omega, by go_num, by simp [hxl], HF⟩
   case measure => simp only [intOf]; omega
  ·have hqe : q = l.length := by omega
   subst hqe
   have d0 : decide ((l.length : Int) < (l.length : Int)) = false := by simp
   have hx := HG.out.1
   rw [List.take_length] at hx
   obtain ⟨W3, hW3⟩ : ∃ W, wr.alloc (.cells #[.int .i64 (-7), .int .i64 0, .int .i64 0, .int .i64 0, .slice none 0 0, .int .i64 (-7), .int .i64 0, .int .i64 0, .int .i64 0, .slice none 0 0] 127) = W := ⟨_, rfl⟩
   have b3 : Below wr.heap.size wr W3 := by rw [<- hW3]; exact (Below.refl _ wr).alloc (Nat.le_refl _) _
   have n3 : W3.heap[wr.heap.size]? = some (.cells (mO ++ mO : List Value).toArray 127 (0, 0)) := by rw [<- hW3]; exact heap_alloc_new wr _
   obtain ⟨css, k1, k2, k3, k4⟩ := rowi_below sLO HG.out.2.2 b3
   have HP := hid (And.intro k1 (And.intro k2 (And.intro k3 k4)))
   have HB3 := hid (HG.out.2.1.trans (b3.mono hsw) : Below w.heap.size w W3)
   have hsz := HB3.out.size
   have hcl0 := (src_of n3).resolve_left (by rintro ⟨h, -⟩; cases h)
   have hcl : ((some ⟨wr.heap.size, 0, none⟩ : Option Addr) = none /\ 2 = 0 /\ 2 = 0) \/ _ := Or.inr hcl0
   have hl3 := k1.1
   have HX := hid hx
   have HXL := hid hxl
   clear hlt hq b3 n3 k2 k3 k4 hx hcl0
   rw [hxl] at k1
   go_wp2_with (first
    | (at_builtin; (try rw [hW3]); refine YAp.app_seen rfl _ _ 71 rfl w.heap.size 127 i0 (.agg #[.int .i64 0, .int .i64 0, .int .i64 0, .int .i64 0, .slice none 0 0]) 5 56 underlying71 hi hz0 hz1 hz2 rfl (by decide) _ _ _ rfl k1 _ 2 _ (mO ++ mO) rfl hcl rfl (by decide) (by unfold maxLen; omega) (by omega) hsz ?_))
   intro v' W4 hown hgrow hnb
   have hown2 : W4.ownsRow w.heap.size 127 5 v' (xs.length + 2) (css.flatten ++ (mO ++ mO)) := by rw [HXL.out]; exact hown
   obtain ⟨g4, c4, rfl, hc4, hlt4⟩ := lent_of sLO (m := mO) rfl HP.out.1 HP.out.2.1 HP.out.2.2.1 HP.out.2.2.2 hgrow hown2 hnb (S := Nw w W4) (fun b h1 h2 => ⟨h1, h2⟩)
   have HLT := hid hlt4
   have HB4 := hid (HB3.out.grown hgrow (by omega) (fun r hr => (World.ownsRow.lt HP.out.1 r hr).1) : Below w.heap.size w W4)
   rw [hxl] at hc4
   rw [hxl]
   have v0 : (l.length : Int) <= (c4 : Int) := by omega
   clear hown hown2 hgrow hnb k1 hcl hsz hlt4
   go_wp2_with fail
   go_ret
   refine ⟨_, rfl, ?_, HB4.out⟩
   have := HLT.out
   rw [HXL.out, HX.out] at this
   exact this
end Go.Proofs.YtaiackmmmlhgbaaGreat.BLc
