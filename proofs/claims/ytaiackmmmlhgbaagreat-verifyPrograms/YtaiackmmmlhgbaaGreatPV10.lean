import Derived.Lib.ConvBytes
import Derived.Test.YtaiackmmmlhgbaaGreatPV01
import Derived.Test.YtaiackmmmlhgbaaGreatPV02
import Derived.Test.YtaiackmmmlhgbaaGreatPV05
import Derived.Test.YtaiackmmmlhgbaaGreatPV08
import Derived.Test.YtaiackmmmlhgbaaGreatPV09
open Go.Proofs.Tryz
set_option linter.unusedVariables false
set_option maxRecDepth 20000
set_option maxHeartbeats 3200000
namespace Go.Proofs.YtaiackmmmlhgbaaGreat.YRr
open Go.RowKit YPl
open TBase (T)
def Rr {α : Type} (n : Nat) (Ly : World -> Nat -> Nat -> α -> Prop) (K : Nat) (w : World) (v : Value) (l : List α) : Prop :=
 ∃ a cap, v = .slice a l.length cap /\ l.length <= cap /\ cap <= 9223372036854775807 /\ l.length <= 140737488351232 /\ (a = none -> cap = 0) /\ (l = [] \/ ∃ g o, a = some ⟨g, o, none⟩ /\ g < K /\ ∀ j (h : j < l.length), Ly w g (o + j * n) l[j])
theorem Rr.keep {α : Type} {n : Nat} {Ly Ly' : World -> Nat -> Nat -> α -> Prop} {K K' : Nat} {w w' : World} {v : Value} {l : List α} (h : Rr n Ly K w v l) (hK : K <= K') (hl : ∀ g o x, x ∈ l -> g < K -> Ly w g o x -> Ly' w' g o x) : Rr n Ly' K' w' v l := by
 obtain ⟨a, cap, h1, h2, h3, h4, h5, h6⟩ := h
 refine ⟨a, cap, h1, h2, h3, h4, h5, ?_⟩
 rcases h6 with h6 | ⟨g, o, ha, hg, hc⟩
 ·exact .inl h6
 ·exact .inr ⟨g, o, ha, by omega, fun j hj => hl _ _ _ (List.getElem_mem hj) hg (hc j hj)⟩
abbrev i64 (x : Int) : Prop := -9223372036854775808 <= x /\ x <= 9223372036854775807
def LyS (w : World) (g o : Nat) (s : ByteArray) : Prop := w.cell? ⟨g, o, none⟩ = some (.string s) /\ s.size <= 140737488351232
def LyI (w : World) (g o : Nat) (x : Int) : Prop := w.cell? ⟨g, o, none⟩ = some (.int .i64 x) /\ i64 x
def LyN (w : World) (g o : Nat) (x : Ins) : Prop := w.cell? ⟨g, o, none⟩ = some (.int .i64 x.1) /\ w.cell? ⟨g, o + 1, none⟩ = some (.int .i64 x.2) /\ i64 x.1 /\ i64 x.2
def LyA (w : World) (g o : Nat) (x : ByteArray × ByteArray) : Prop := w.cell? ⟨g, o, none⟩ = some (.string x.1) /\ w.cell? ⟨g, o + 1, none⟩ = some (.string x.2) /\ x.1.size <= 140737488351232 /\ x.2.size <= 140737488351232
def LyC (K : Nat) (w : World) (g o : Nat) (x : List Ins) : Prop := ∃ v, w.cell? ⟨g, o, none⟩ = some v /\ Rr 2 LyN K w v x
def LyO (K : Nat) (w : World) (g o : Nat) (x : Oq) : Prop := ∃ v, w.cell? ⟨g, o, none⟩ = some (.int .i64 x.k) /\ w.cell? ⟨g, o + 1, none⟩ = some (.int .i64 x.a) /\ w.cell? ⟨g, o + 2, none⟩ = some (.int .i64 x.b) /\ w.cell? ⟨g, o + 3, none⟩ = some (.int .i64 x.c) /\ w.cell? ⟨g, o + 4, none⟩ = some v /\ (i64 x.k /\ i64 x.a /\ i64 x.b /\ i64 x.c) /\ Rr 1 LyI K w v x.l
def LyB (K : Nat) (w : World) (g o : Nat) (x : Bk) : Prop := ∃ v u, w.cell? ⟨g, o, none⟩ = some (.int .i64 x.d) /\ w.cell? ⟨g, o + 1, none⟩ = some v /\ w.cell? ⟨g, o + 2, none⟩ = some u /\ i64 x.d /\ Rr 5 (LyO K) K w v x.o /\ Rr 1 LyI K w u x.u
theorem ck {K : Nat} {w w' : World} {g o : Nat} {u : Value} (hb : Below K w w') (hg : g < K) (h : w.cell? ⟨g, o, none⟩ = some u) : w'.cell? ⟨g, o, none⟩ = some u := (World.cell?_of_block (w := w) (hb.block g hg)).trans h
theorem LyS.below {K : Nat} {w w' : World} {g o : Nat} {x : ByteArray} (hb : Below K w w') (hg : g < K) (h : LyS w g o x) : LyS w' g o x := ⟨ck hb hg h.1, h.2⟩
theorem LyI.below {K : Nat} {w w' : World} {g o : Nat} {x : Int} (hb : Below K w w') (hg : g < K) (h : LyI w g o x) : LyI w' g o x := ⟨ck hb hg h.1, h.2⟩
theorem LyN.below {K : Nat} {w w' : World} {g o : Nat} {x : Ins} (hb : Below K w w') (hg : g < K) (h : LyN w g o x) : LyN w' g o x := ⟨ck hb hg h.1, ck hb hg h.2.1, h.2.2⟩
theorem LyC.below {K : Nat} {w w' : World} {g o : Nat} {x : List Ins} (hb : Below K w w') (hg : g < K) (h : LyC K w g o x) : LyC K w' g o x := by
 obtain ⟨v, h1, h2⟩ := h
 exact ⟨v, ck hb hg h1, h2.keep (Nat.le_refl _) fun g o x _ hg h => h.below hb hg⟩
theorem LyO.below {K : Nat} {w w' : World} {g o : Nat} {x : Oq} (hb : Below K w w') (hg : g < K) (h : LyO K w g o x) : LyO K w' g o x := by
 obtain ⟨v, h1, h2, h3, h4, h5, h6, h7⟩ := h
 exact ⟨v, ck hb hg h1, ck hb hg h2, ck hb hg h3, ck hb hg h4, ck hb hg h5, h6, h7.keep (Nat.le_refl _) fun g o x _ hg h => h.below hb hg⟩
theorem LyB.below {K : Nat} {w w' : World} {g o : Nat} {x : Bk} (hb : Below K w w') (hg : g < K) (h : LyB K w g o x) : LyB K w' g o x := by
 obtain ⟨v, u, h1, h2, h3, h4, h5, h6⟩ := h
 exact ⟨v, u, ck hb hg h1, ck hb hg h2, ck hb hg h3, h4, h5.keep (Nat.le_refl _) fun g o x _ hg h => h.below hb hg, h6.keep (Nat.le_refl _) fun g o x _ hg h => h.below hb hg⟩
theorem cell_of {W : World} {B : Nat} {cs : Array Value} {t : TypeId} (h : W.heap[B]? = some (.cells cs t (0, 0))) (i : Nat) (v : Value) (hv : cs[i]? = some v) : W.cell? ⟨B, i, none⟩ = some v := by simp [World.cell?, h, hv]
end Go.Proofs.YtaiackmmmlhgbaaGreat.YRr
namespace Go.Proofs.YtaiackmmmlhgbaaGreat.YTr
open Go.RowKit
open TBase (T)
open TVisit (Lo keep_lo)
def LyT (m K : Nat) (w : World) (g o : Nat) (t : T) : Prop := ∃ u, TBase.Four w g o u /\ TBase.In false (Lo K) w m u t
end Go.Proofs.YtaiackmmmlhgbaaGreat.YTr
namespace Go.Proofs.YtaiackmmmlhgbaaGreat.YRs
open Go.RowKit YPl YRr
open TBase (T Keep)
def RrS {α : Type} (n : Nat) (Ly : World -> Nat -> Nat -> α -> Prop) (S : Nat -> Prop) (w : World) (v : Value) (l : List α) : Prop :=
 ∃ a cap, v = .slice a l.length cap /\ l.length <= cap /\ cap <= 9223372036854775807 /\ l.length <= 140737488351232 /\ (a = none -> cap = 0) /\ (l = [] \/ ∃ g o, a = some ⟨g, o, none⟩ /\ S g /\ ∀ j (h : j < l.length), Ly w g (o + j * n) l[j])
theorem RrS.keep {α : Type} {n : Nat} {Ly Ly' : World -> Nat -> Nat -> α -> Prop} {S S' : Nat -> Prop} {w w' : World} {v : Value} {l : List α} (h : RrS n Ly S w v l) (hS : ∀ b, S b -> S' b) (hl : ∀ g o x, x ∈ l -> S g -> Ly w g o x -> Ly' w' g o x) : RrS n Ly' S' w' v l := by
 obtain ⟨a, cap, h1, h2, h3, h4, h5, h6⟩ := h
 refine ⟨a, cap, h1, h2, h3, h4, h5, ?_⟩
 rcases h6 with h6 | ⟨g, o, ha, hg, hc⟩
 ·exact .inl h6
 ·exact .inr ⟨g, o, ha, hS _ hg, fun j hj => hl _ _ _ (List.getElem_mem hj) hg (hc j hj)⟩
theorem RrS.slice {α : Type} {n : Nat} {Ly : World -> Nat -> Nat -> α -> Prop} {S : Nat -> Prop} {w : World} {v : Value} {l : List α} (h : RrS n Ly S w v l) : ∃ a m c, v = .slice a m c := by
 obtain ⟨a, cap, h1, -⟩ := h
 exact ⟨_, _, _, h1⟩
section
variable {S S' : Nat -> Prop} {w w' : World} {g o : Nat}
theorem kS (hk : Keep S w w') (hg : S g) {x : ByteArray} (h : LyS w g o x) : LyS w' g o x := ⟨hk.cell hg h.1, h.2⟩
theorem kI (hk : Keep S w w') (hg : S g) {x : Int} (h : LyI w g o x) : LyI w' g o x := ⟨hk.cell hg h.1, h.2⟩
theorem kN (hk : Keep S w w') (hg : S g) {x : Ins} (h : LyN w g o x) : LyN w' g o x := ⟨hk.cell hg h.1, hk.cell hg h.2.1, h.2.2⟩
def LyOs (S : Nat -> Prop) (w : World) (g o : Nat) (x : Oq) : Prop := ∃ v, w.cell? ⟨g, o, none⟩ = some (.int .i64 x.k) /\ w.cell? ⟨g, o + 1, none⟩ = some (.int .i64 x.a) /\ w.cell? ⟨g, o + 2, none⟩ = some (.int .i64 x.b) /\ w.cell? ⟨g, o + 3, none⟩ = some (.int .i64 x.c) /\ w.cell? ⟨g, o + 4, none⟩ = some v /\ (i64 x.k /\ i64 x.a /\ i64 x.b /\ i64 x.c) /\ RrS 1 LyI S w v x.l
def LyCs (S : Nat -> Prop) (w : World) (g o : Nat) (x : List Ins) : Prop := ∃ v, w.cell? ⟨g, o, none⟩ = some v /\ RrS 2 LyN S w v x
def LyBs (S : Nat -> Prop) (w : World) (g o : Nat) (x : Bk) : Prop := ∃ v u, w.cell? ⟨g, o, none⟩ = some (.int .i64 x.d) /\ w.cell? ⟨g, o + 1, none⟩ = some v /\ w.cell? ⟨g, o + 2, none⟩ = some u /\ i64 x.d /\ RrS 5 (LyOs S) S w v x.o /\ RrS 1 LyI S w u x.u
def LyTs (m : Nat) (S : Nat -> Prop) (w : World) (g o : Nat) (t : T) : Prop := ∃ u, TBase.Four w g o u /\ TBase.In false S w m u t
theorem kO (hk : Keep S w w') (hS : ∀ b, S b -> S' b) (hg : S g) {x : Oq} (h : LyOs S w g o x) : LyOs S' w' g o x := by
 obtain ⟨v, h1, h2, h3, h4, h5, h6, h7⟩ := h
 exact ⟨v, hk.cell hg h1, hk.cell hg h2, hk.cell hg h3, hk.cell hg h4, hk.cell hg h5, h6, h7.keep hS fun g o x _ hg h => kI hk hg h⟩
theorem kC (hk : Keep S w w') (hS : ∀ b, S b -> S' b) (hg : S g) {x : List Ins} (h : LyCs S w g o x) : LyCs S' w' g o x := by
 obtain ⟨v, h1, h2⟩ := h
 exact ⟨v, hk.cell hg h1, h2.keep hS fun g o x _ hg h => kN hk hg h⟩
theorem kB (hk : Keep S w w') (hS : ∀ b, S b -> S' b) (hg : S g) {x : Bk} (h : LyBs S w g o x) : LyBs S' w' g o x := by
 obtain ⟨v, u, h1, h2, h3, h4, h5, h6⟩ := h
 exact ⟨v, u, hk.cell hg h1, hk.cell hg h2, hk.cell hg h3, h4, h5.keep hS fun g o x _ hg h => kO hk hS hg h, h6.keep hS fun g o x _ hg h => kI hk hg h⟩
theorem kT {m : Nat} (hk : Keep S w w') (hS : ∀ b, S b -> S' b) (hg : S g) {x : T} (h : LyTs m S w g o x) : LyTs m S' w' g o x := by
 obtain ⟨u, h1, h2⟩ := h
 exact ⟨u, hk.four hg h1, (h2.keep hk).weak hS false id m (Nat.le_refl _)⟩
end
abbrev Hdt (α : Type) := (Nat -> Prop) -> World -> List Value -> α -> Prop
structure Stays {α : Type} (Hd : Hdt α) : Prop where
 out : ∀ {S S' : Nat -> Prop} {w w' : World} {c : List Value} {x : α}, Keep S w w' -> (∀ b, S b -> S' b) -> Hd S w c x -> Hd S' w' c x
def Sx (lo : Nat) (w : World) (v : Value) (b : Nat) : Prop := lo <= b /\ b < w.heap.size /\ v.ownBlock ≠ some b
def RowI {α : Type} (Hd : Hdt α) (ty : TypeId) (n lo : Nat) (w : World) (v : Value) (l : List α) : Prop :=
 ∃ css : List (List Value), w.ownsRow lo ty n v l.length css.flatten /\ css.length = l.length /\ (∀ c ∈ css, c.length = n) /\ ∀ j (h1 : j < css.length) (h2 : j < l.length), Hd (Sx lo w v) w css[j] l[j]
theorem RowI.nil {α : Type} (Hd : Hdt α) (ty : TypeId) (n lo : Nat) (w : World) : RowI Hd ty n lo w (.slice none 0 0) [] := ⟨[], World.ownsRow_nil _ _ _ _, rfl, by simp, fun j h => by simp at h⟩
abbrev Gx (R : Nat) (w w' : World) : Prop := w.grownBy w' (some R)
theorem Gx.of {R : Nat} {a b : World} (h : Below a.heap.size a b) : Gx R a b := ⟨h.os, h.tape, h.output, h.size, fun k hk _ => h.block k hk⟩
theorem RowI.other {α : Type} {Hd : Hdt α} (hs : Stays Hd) {ty : TypeId} {n lo R : Nat} {w w' : World} {v : Value} {l : List α} (h : RowI Hd ty n lo w v l) (hR : R < lo) (hg : Gx R w w') : RowI Hd ty n lo w' v l := by
 obtain ⟨css, h1, h2, h3, h4⟩ := h
 have hne : v.ownBlock ≠ some R := fun e => by have := (World.ownsRow.lt h1 R e).1; omega
 refine ⟨css, World.ownsRow.kept h1 hg (.inr hne), h2, h3, fun j a b => hs.out (S := Sx lo w v) (fun b hb hl => hg.block b hl (fun e => by cases e; have := hb.1; omega)) (fun b hb => ⟨hb.1, by have := hb.2.1; have := hg.size; omega, hb.2.2⟩) (h4 j a b)⟩
theorem RowI.snoc {α : Type} {Hd : Hdt α} (hs : Stays Hd) {ty : TypeId} {n lo : Nat} {w2 w3 : World} {v v' : Value} {l : List α} {x : α} {c : List Value} {css : List (List Value)}
  (h1 : w2.ownsRow lo ty n v l.length css.flatten) (h2 : css.length = l.length) (h3 : ∀ c ∈ css, c.length = n) (h4 : ∀ j (h1 : j < css.length) (h2 : j < l.length), Hd (Sx lo w2 v) w2 css[j] l[j])
  (hx : Hd (Sx lo w2 v) w2 c x) (hc : c.length = n) (hgr : w2.grownBy w3 v.ownBlock) (hown : w3.ownsRow lo ty n v' (l.length + 1) (css.flatten ++ c)) (hb : v'.ownBlock = v.ownBlock \/ v'.ownBlock = some w2.heap.size) : RowI Hd ty n lo w3 v' (l ++ [x]) := by
 have kp : Keep (Sx lo w2 v) w2 w3 := fun b hb hl => hgr.block b hl (fun e => hb.2.2 e.symm)
 have up : ∀ b, Sx lo w2 v b -> Sx lo w3 v' b := fun b h => ⟨h.1, by have := h.2.1; have := hgr.size; omega, fun e => by
  rcases hb with hb | hb
  ·exact h.2.2 (hb ▸ e)
  ·rw [hb] at e; cases e; have := h.2.1; omega⟩
 refine ⟨css ++ [c], by rw [List.length_append]; simpa using hown, by simp [h2], fun d hd => ?_, fun j a b => ?_⟩
 ·rcases List.mem_append.1 hd with hd | hd
  ·exact h3 d hd
  ·simp at hd; rw [hd]; exact hc
 ·by_cases hj : j < css.length
  ·rw [List.getElem_append_left hj, List.getElem_append_left (by omega)]
   exact hs.out kp up (h4 j hj (by omega))
  ·obtain rfl : j = css.length := by simp at a; omega
   have e1 : (css ++ [c])[css.length]'a = c := by simp
   have e2 : (l ++ [x])[css.length]'b = x := by simp [h2]
   rw [e1, e2]
   exact hs.out kp up hx
theorem flat_at {n : Nat} {css : List (List Value)} (h3 : ∀ c ∈ css, c.length = n) : ∀ (j : Nat) (hj : j < css.length) (i : Nat), i < n -> css.flatten[j * n + i]? = css[j][i]? := by
 induction css with
 | nil => intro j hj; simp at hj
 | cons c r ih =>
  intro j hj i hi
  have hc : c.length = n := h3 c (by simp)
  cases j with
  | zero =>
   rw [List.flatten_cons, List.getElem?_append_left (by omega)]
   simp
  | succ j =>
   rw [List.flatten_cons, List.getElem?_append_right (by rw [hc, Nat.succ_mul]; omega), hc, show (j + 1) * n + i - n = j * n + i by rw [Nat.succ_mul]; omega, ih (fun d hd => h3 d (by simp [hd])) j (by simpa using hj) i hi]
   simp
end Go.Proofs.YtaiackmmmlhgbaaGreat.YRs
namespace Go.Proofs.YtaiackmmmlhgbaaGreat.BBx
open Go.RowKit BPl YRr YRs
open YPl (Oq Bk Pg)
open TBase (T Keep)
def Pw (R : Nat -> Prop) (w : World) (P : Nat) (S : Sh) (hv : Value) : Prop :=
 ∃ tv nv dv, w.heap[P]? = some (.cells #[tv, nv, dv, hv] 99 (0, 0)) /\ R P /\ RrS 1 LyS R w tv S.t /\ RrS 1 LyI R w nv S.n /\ RrS 1 LyI R w dv S.d
theorem Pw.keep {R : Nat -> Prop} {w w' : World} {P : Nat} {S : Sh} {hv : Value} (h : Pw R w P S hv) (hk : Keep R w w') : Pw R w' P S hv := by
 obtain ⟨tv, nv, dv, h1, h2, h3, h4, h5⟩ := h
 exact ⟨tv, nv, dv, (hk P h2 (Array.getElem?_eq_some_iff.1 h1).1).trans h1, h2, h3.keep (fun _ h => h) fun g o x _ hg h => kS hk hg h, h4.keep (fun _ h => h) fun g o x _ hg h => kI hk hg h, h5.keep (fun _ h => h) fun g o x _ hg h => kI hk hg h⟩
theorem Pw.drewN {R : Nat -> Prop} {w : World} {P : Nat} {S : Sh} {hv : Value} (h : Pw R w P S hv) (m : Nat) : Pw R (w.drewN m) P S hv := h.keep fun b _ hl => (IBase.below_drewN (Below.refl w.heap.size w)).block b hl
def Bw (w : World) (B P : Nat) (A : Ar) (nb : Nat) (ov : Value) (lt : Int) (uv : Value) (cl : Int) : Prop :=
 w.heap[B]? = some (.cells #[.pointer (some ⟨P, 0, none⟩), .bool A.ow, .bool A.lp, .int .i64 A.st, .int .i64 A.el, .int .i64 A.ls, .int .i64 nb, ov, .int .i64 lt, uv, .int .i64 cl] 101 (0, 0))
theorem Bw.lt {w : World} {B P : Nat} {A : Ar} {nb : Nat} {ov : Value} {lt : Int} {uv : Value} {cl : Int} (h : Bw w B P A nb ov lt uv cl) : B < w.heap.size := by
 unfold Bw at h
 exact (Array.getElem?_eq_some_iff.1 h).1
theorem Bw.keep {w w' : World} {B P : Nat} {A : Ar} {nb : Nat} {ov : Value} {lt : Int} {uv : Value} {cl : Int} (h : Bw w B P A nb ov lt uv cl) (hb : Below w.heap.size w w') : Bw w' B P A nb ov lt uv cl := (hb.block B h.lt).trans h
theorem isText_c {R : Nat -> Prop} {w : World} {P : Nat} {S : Sh} {hv : Value} (h : Pw R w P S hv) (i : Int) :
  Calls prog 187 #[.pointer (some ⟨P, 0, none⟩), .int .i64 i] w fun e w' => e = .returned (.bool (isN i S.t.length)) /\ w' = w := by
 obtain ⟨tv, nv, dv, h1, -, ⟨a, cap, rfl, -⟩, -, -⟩ := h
 have c0 := cell_of h1 0 _ rfl
 clear h1
 unfold isN
 generalize S.t.length = n at *
 cases d1 : decide (0 <= i) <;> cases d2 : decide (i < (n : Int)) <;> (
  go_enter func187, ntmps187
  go_wp2_with fail
  go_ret
  exact ⟨rfl, rfl⟩)
theorem isCode_c {R : Nat -> Prop} {w : World} {P : Nat} {S : Sh} {hv : Value} (h : Pw R w P S hv) (i : Int) :
  Calls prog 190 #[.pointer (some ⟨P, 0, none⟩), .int .i64 i] w fun e w' => e = .returned (.bool (isN i S.n.length)) /\ w' = w := by
 obtain ⟨tv, nv, dv, h1, -, -, ⟨a, cap, rfl, -⟩, -⟩ := h
 have c0 := cell_of h1 1 _ rfl
 clear h1
 unfold isN
 generalize S.n.length = n at *
 cases d1 : decide (0 <= i) <;> cases d2 : decide (i < (n : Int)) <;> (
  go_enter func190, ntmps190
  go_wp2_with fail
  go_ret
  exact ⟨rfl, rfl⟩)
theorem isStatic_c {R : Nat -> Prop} {w : World} {P : Nat} {S : Sh} {hv : Value} (h : Pw R w P S hv) (i : Int) :
  Calls prog 193 #[.pointer (some ⟨P, 0, none⟩), .int .i64 i] w fun e w' => e = .returned (.bool (isN i S.d.length)) /\ w' = w := by
 obtain ⟨tv, nv, dv, h1, -, -, -, ⟨a, cap, rfl, -⟩⟩ := h
 have c0 := cell_of h1 2 _ rfl
 clear h1
 unfold isN
 generalize S.d.length = n at *
 cases d1 : decide (0 <= i) <;> cases d2 : decide (i < (n : Int)) <;> (
  go_enter func193, ntmps193
  go_wp2_with fail
  go_ret
  exact ⟨rfl, rfl⟩)
theorem isN_of {i : Int} {n : Nat} (h : isN i n = true) : ∃ q : Nat, i = (q : Int) /\ q < n := by
 unfold isN at h
 cases hd : decide (0 <= i) with
 | false => rw [hd] at h; cases h
 | true =>
  rw [hd] at h
  simp only [cond_true, decide_eq_true_eq] at h hd
  exact ⟨i.toNat, by omega, by omega⟩
theorem getD_at {α : Type} {l : List α} {q : Nat} (h : q < l.length) (d : α) : l.getD ((q : Int)).toNat d = l[q] := by
 rw [Int.toNat_natCast, List.getD_eq_getElem?_getD, List.getElem?_eq_getElem h, Option.getD_some]
theorem RrS.at {α : Type} {n : Nat} {Ly : World -> Nat -> Nat -> α -> Prop} {S : Nat -> Prop} {w : World} {v : Value} {l : List α} (h : RrS n Ly S w v l) {q : Nat} (hq : q < l.length) : ∃ g o cap, v = .slice (some ⟨g, o, none⟩) l.length cap /\ l.length <= cap /\ cap <= 9223372036854775807 /\ S g /\ Ly w g (o + q * n) l[q] := by
 obtain ⟨a, cap, h1, h2, h3, h4, h5, h6⟩ := h
 rcases h6 with rfl | ⟨g, o, rfl, hg, hc⟩
 ·simp at hq
 ·exact ⟨g, o, cap, h1, h2, h3, hg, hc q hq⟩
theorem isTag_c {R : Nat -> Prop} {w : World} {P : Nat} {S : Sh} {hv : Value} (h : Pw R w P S hv) (i : Int) :
  Calls prog 189 #[.pointer (some ⟨P, 0, none⟩), .int .i64 i] w fun e w' => e = .returned (.bool (isTg S i)) /\ w' = w := by
 have cT := isText_c h i
 unfold isTg
 cases hN : isN i S.t.length with
 | false =>
  rw [hN] at cT
  clear hN h
  go_enter func189, ntmps189
  go_wp2_with (first | (go_at_call 187; refine cT.mono ?_; rintro e w1 ⟨rfl, rfl⟩))
  go_ret
  exact ⟨rfl, rfl⟩
 | true =>
  rw [hN] at cT
  obtain ⟨q, rfl, hq⟩ := isN_of hN
  obtain ⟨tv, nv, dv, h1, -, h3, -, -⟩ := h
  obtain ⟨g, o, cap, rfl, hl, hm, hg, hc⟩ := RrS.at h3 hq
  have c0 := cell_of h1 0 _ rfl
  have e1 : txa S (q : Int) = S.t[q] := getD_at hq _
  have cG := UWord.tag_c S.t[q] (by have := hc.2; omega) w
  rw [e1]
  have k0 := hc.1
  rw [Nat.mul_one] at k0
  have i0 : (0 : Int) <= (q : Int) := by omega
  have i1 : (q : Int) < (S.t.length : Int) := by omega
  generalize S.t[q] = s at *
  generalize UBase.word s 45 = z at *
  generalize S.t.length = n at *
  clear h1 h3 hc e1 hN
  go_enter func189, ntmps189
  go_wp2_with (first | (go_at_call 187; refine cT.mono ?_; rintro e w1 ⟨rfl, rfl⟩) | (go_at_call 215; refine cG.mono ?_; rintro e w1 ⟨rfl, rfl⟩))
  go_ret
  exact ⟨rfl, rfl⟩
theorem isNoCode_c {R : Nat -> Prop} {w : World} {B P : Nat} {S : Sh} {hv : Value} {A : Ar} {nb : Nat} {ov : Value} {lt : Int} {uv : Value} {cl : Int} (h : Pw R w P S hv) (hB : Bw w B P A nb ov lt uv cl) (i : Int) :
  Calls prog 192 #[.pointer (some ⟨B, 0, none⟩), .int .i64 i] w fun e w' => e = .returned (.bool (!isN i S.n.length)) /\ w' = w := by
 have cT := isCode_c h i
 have c0 := cell_of hB 0 _ rfl
 clear hB h
 generalize isN i S.n.length = z at *
 go_enter func192, ntmps192
 go_wp2_with (first | (go_at_call 190; refine cT.mono ?_; rintro e w1 ⟨rfl, rfl⟩))
 go_ret
 exact ⟨rfl, rfl⟩
theorem isBeyond_c {R : Nat -> Prop} {w : World} {B P : Nat} {S : Sh} {hv : Value} {A : Ar} {nb : Nat} {ov : Value} {lt : Int} {uv : Value} {cl : Int} (h : Pw R w P S hv) (hB : Bw w B P A nb ov lt uv cl) (i : Int) (hi : isN i S.n.length = true) :
  Calls prog 194 #[.pointer (some ⟨B, 0, none⟩), .int .i64 i] w fun e w' => e = .returned (.bool (decide (A.st < nda S i))) /\ Below w.heap.size w w' := by
 have c0 := cell_of hB 0 _ rfl
 have c3 := cell_of hB 3 _ rfl
 obtain ⟨q, rfl, hq⟩ := isN_of hi
 obtain ⟨tv, nv, dv, h1, -, -, h3, -⟩ := h
 obtain ⟨g, o, cap, rfl, hl, hm, hg, hc⟩ := RrS.at h3 hq
 have p1 := cell_of h1 1 _ rfl
 have e1 : nda S (q : Int) = S.n[q] := getD_at hq _
 rw [e1]
 have k0 := hc.1
 rw [Nat.mul_one] at k0
 have i0 : (0 : Int) <= (q : Int) := by omega
 have i1 : (q : Int) < (S.n.length : Int) := by omega
 generalize S.n[q] = x at *
 generalize S.n.length = n at *
 generalize A.st = y at *
 clear hB h1 h3 hc hi e1
 go_enter func194, ntmps194
 go_wp2_with fail
 go_quiet (fail)
 go_wp2_with fail
 go_ret
 exact ⟨rfl, IBase.below_drewN (Below.refl _ _)⟩
end Go.Proofs.YtaiackmmmlhgbaaGreat.BBx
namespace Go.Proofs.YtaiackmmmlhgbaaGreat.BIx
open Go.RowKit BPl YRr YRs BBx
theorem below_cell {w wr : World} {g o : Nat} {u : Value} (hg : g < w.heap.size) (h : w.cell? ⟨g, o, none⟩ = some u) (hb : Below w.heap.size w wr) : wr.cell? ⟨g, o, none⟩ = some u := (World.cell?_of_block (w := w) (hb.block g hg)).trans h
theorem ixf_cons (G : Int -> Bool) {l : List Int} {q : Nat} (h : q < l.length) : ixf (fun x => !G x) q (l.drop q) = (bif G l[q] then (q : Int) else ixf (fun x => !G x) (q + 1) (l.drop (q + 1))) := by
 rw [List.drop_eq_getElem_cons h, ixf]
 cases G l[q] <;> rfl
theorem ixf_any (G : Int -> Bool) : ∀ (l : List Int) (i : Nat), decide (0 <= ixf (fun x => !G x) i l) = l.any G
 | [], i => rfl
 | x :: r, i => by
  rw [ixf, List.any_cons, <- ixf_any G r (i + 1)]
  cases G x with
  | true => simp
  | false => simp
theorem index_no {R : Nat -> Prop} {w : World} {v : Value} {l : List Int} (hin : RrS 1 LyI R w v l) (hR : ∀ g, R g -> g < w.heap.size) (G : Int -> Bool) (B : Nat)
  (hc : ∀ W x, x ∈ l -> Below w.heap.size w W -> Calls prog 192 #[.pointer (some ⟨B, 0, none⟩), .int .i64 x] W fun e w' => e = .returned (.bool (G x)) /\ Below W.heap.size W w') :
  Calls prog 216 #[v, .func (.func 192) #[.pointer (some ⟨B, 0, none⟩)] #[]] w fun e w' => e = .returned (.int .i64 (ixf (fun x => !G x) 0 l)) /\ Below w.heap.size w w' := by
 have HIN : Hid (RrS 1 LyI R w v l) := hin
 have HR : Hid (∀ g, R g -> g < w.heap.size) := hR
 have HC : Hid (∀ W x, x ∈ l -> Below w.heap.size w W -> Calls prog 192 #[.pointer (some ⟨B, 0, none⟩), .int .i64 x] W fun e w' => e = .returned (.bool (G x)) /\ Below W.heap.size W w') := hc
 obtain ⟨a, cap, rfl, hlc, hcm, h47, hnil, hL⟩ := hin
 obtain ⟨T, hT⟩ : ∃ T, ixf (fun x => !G x) 0 l = T := ⟨_, rfl⟩
 have HT : Hid (ixf (fun x => !G x) 0 (l.drop 0) = T) := hT
 rw [hT]
 clear hT hL hc hR hnil
 go_enter func216, ntmps216
 go_wp2_with fail
 go_loopw [8] (fun i wr => ∃ q : Nat, q <= l.length /\ i = .int .i64 q /\ ixf (fun x => !G x) q (l.drop q) = T /\ Below w.heap.size w wr) (fun i _ => l.length - (intOf i).toNat)
 case atStart => exact ⟨0, by omega, rfl, HT.out, Below.refl _ _⟩
 case round =>
  clear HT
  obtain ⟨q, hq, rfl, hM, hb⟩ := hrel
  have Hb : Hid (Below w.heap.size w wr) := hb
  by_cases hlt : q < l.length
  ·have d0 : decide ((q : Int) < (l.length : Int)) = true := by simp; omega
   have i0 : (0 : Int) <= (q : Int) := by omega
   have i1 : (q : Int) < (l.length : Int) := by omega
   obtain ⟨g, o, cap', hsl, hl, hm, hg, k0⟩ := RrS.at HIN.out hlt
   cases hsl
   have k0 := below_cell (HR.out g hg) k0.1 hb
   rw [Nat.mul_one] at k0
   rw [ixf_cons G hlt] at hM
   have cO := HC.out wr l[q] (List.getElem_mem hlt) hb
   generalize l[q] = s at *
   obtain ⟨b, hb'⟩ : ∃ b, G s = b := ⟨_, rfl⟩
   rw [hb'] at cO hM
   have HM : Hid ((bif b then (q : Int) else ixf (fun x => !G x) (q + 1) (l.drop (q + 1))) = T) := hM
   clear hb' hM hb
   go_wp2_with fail
   refine cO.mono ?_
   rintro e W1 ⟨rfl, b1⟩
   have HB1 : Hid (Below w.heap.size w W1) := Hb.out.trans (b1.mono Hb.out.size)
   clear cO b1 k0
   cases b with
   | true =>
    have hT : (q : Int) = T := HM.out
    subst hT
    go_wp2_with fail
    go_ret
    exact ⟨rfl, HB1.out⟩
   | false =>
    go_wp2_with fail
    go_roundw
    case rel => exact ⟨q + 1, by omega, by go_num, HM.out, HB1.out⟩
    case measure => simp only [intOf]; omega
  ·have d0 : decide ((q : Int) < (l.length : Int)) = false := by simp; omega
   have hT : -1 = T := by
    rw [List.drop_eq_nil_of_le (by omega)] at hM
    exact hM
   subst hT
   clear hM
   go_wp2_with fail
   go_ret
   exact ⟨rfl, Hb.out⟩
theorem contains_no {R : Nat -> Prop} {w : World} {v : Value} {l : List Int} (hin : RrS 1 LyI R w v l) (hR : ∀ g, R g -> g < w.heap.size) (G : Int -> Bool) (B : Nat)
  (hc : ∀ W x, x ∈ l -> Below w.heap.size w W -> Calls prog 192 #[.pointer (some ⟨B, 0, none⟩), .int .i64 x] W fun e w' => e = .returned (.bool (G x)) /\ Below W.heap.size W w') :
  Calls prog 191 #[v, .func (.func 192) #[.pointer (some ⟨B, 0, none⟩)] #[]] w fun e w' => e = .returned (.bool (l.any G)) /\ Below w.heap.size w w' := by
 have cI := index_no hin hR G B hc
 rw [<- ixf_any G l 0]
 obtain ⟨a, cap, rfl, -⟩ := hin
 generalize ixf (fun x => !G x) 0 l = z at *
 clear hc
 go_enter func191, ntmps191
 go_wp2_with fail
 refine cI.mono ?_
 rintro e W1 ⟨rfl, hb⟩
 have HB : Hid (Below w.heap.size w W1) := hb
 clear hb cI
 go_wp2_with fail
 go_ret
 exact ⟨rfl, HB.out⟩
theorem index_be {R : Nat -> Prop} {w : World} {v : Value} {l : List Int} (hin : RrS 1 LyI R w v l) (hR : ∀ g, R g -> g < w.heap.size) (G : Int -> Bool) (B : Nat)
  (hc : ∀ W x, x ∈ l -> Below w.heap.size w W -> Calls prog 194 #[.pointer (some ⟨B, 0, none⟩), .int .i64 x] W fun e w' => e = .returned (.bool (G x)) /\ Below W.heap.size W w') :
  Calls prog 216 #[v, .func (.func 194) #[.pointer (some ⟨B, 0, none⟩)] #[]] w fun e w' => e = .returned (.int .i64 (ixf (fun x => !G x) 0 l)) /\ Below w.heap.size w w' := by
 have HIN : Hid (RrS 1 LyI R w v l) := hin
 have HR : Hid (∀ g, R g -> g < w.heap.size) := hR
 have HC : Hid (∀ W x, x ∈ l -> Below w.heap.size w W -> Calls prog 194 #[.pointer (some ⟨B, 0, none⟩), .int .i64 x] W fun e w' => e = .returned (.bool (G x)) /\ Below W.heap.size W w') := hc
 obtain ⟨a, cap, rfl, hlc, hcm, h47, hnil, hL⟩ := hin
 obtain ⟨T, hT⟩ : ∃ T, ixf (fun x => !G x) 0 l = T := ⟨_, rfl⟩
 have HT : Hid (ixf (fun x => !G x) 0 (l.drop 0) = T) := hT
 rw [hT]
 clear hT hL hc hR hnil
 go_enter func216, ntmps216
 go_wp2_with fail
 go_loopw [8] (fun i wr => ∃ q : Nat, q <= l.length /\ i = .int .i64 q /\ ixf (fun x => !G x) q (l.drop q) = T /\ Below w.heap.size w wr) (fun i _ => l.length - (intOf i).toNat)
 case atStart => exact ⟨0, by omega, rfl, HT.out, Below.refl _ _⟩
 case round =>
  clear HT
  obtain ⟨q, hq, rfl, hM, hb⟩ := hrel
  have Hb : Hid (Below w.heap.size w wr) := hb
  by_cases hlt : q < l.length
  ·have d0 : decide ((q : Int) < (l.length : Int)) = true := by simp; omega
   have i0 : (0 : Int) <= (q : Int) := by omega
   have i1 : (q : Int) < (l.length : Int) := by omega
   obtain ⟨g, o, cap', hsl, hl, hm, hg, k0⟩ := RrS.at HIN.out hlt
   cases hsl
   have k0 := below_cell (HR.out g hg) k0.1 hb
   rw [Nat.mul_one] at k0
   rw [ixf_cons G hlt] at hM
   have cO := HC.out wr l[q] (List.getElem_mem hlt) hb
   generalize l[q] = s at *
   obtain ⟨b, hb'⟩ : ∃ b, G s = b := ⟨_, rfl⟩
   rw [hb'] at cO hM
   have HM : Hid ((bif b then (q : Int) else ixf (fun x => !G x) (q + 1) (l.drop (q + 1))) = T) := hM
   clear hb' hM hb
   go_wp2_with fail
   refine cO.mono ?_
   rintro e W1 ⟨rfl, b1⟩
   have HB1 : Hid (Below w.heap.size w W1) := Hb.out.trans (b1.mono Hb.out.size)
   clear cO b1 k0
   cases b with
   | true =>
    have hT : (q : Int) = T := HM.out
    subst hT
    go_wp2_with fail
    go_ret
    exact ⟨rfl, HB1.out⟩
   | false =>
    go_wp2_with fail
    go_roundw
    case rel => exact ⟨q + 1, by omega, by go_num, HM.out, HB1.out⟩
    case measure => simp only [intOf]; omega
  ·have d0 : decide ((q : Int) < (l.length : Int)) = false := by simp; omega
   have hT : -1 = T := by
    rw [List.drop_eq_nil_of_le (by omega)] at hM
    exact hM
   subst hT
   clear hM
   go_wp2_with fail
   go_ret
   exact ⟨rfl, Hb.out⟩
theorem contains_be {R : Nat -> Prop} {w : World} {v : Value} {l : List Int} (hin : RrS 1 LyI R w v l) (hR : ∀ g, R g -> g < w.heap.size) (G : Int -> Bool) (B : Nat)
  (hc : ∀ W x, x ∈ l -> Below w.heap.size w W -> Calls prog 194 #[.pointer (some ⟨B, 0, none⟩), .int .i64 x] W fun e w' => e = .returned (.bool (G x)) /\ Below W.heap.size W w') :
  Calls prog 191 #[v, .func (.func 194) #[.pointer (some ⟨B, 0, none⟩)] #[]] w fun e w' => e = .returned (.bool (l.any G)) /\ Below w.heap.size w w' := by
 have cI := index_be hin hR G B hc
 rw [<- ixf_any G l 0]
 obtain ⟨a, cap, rfl, -⟩ := hin
 generalize ixf (fun x => !G x) 0 l = z at *
 clear hc
 go_enter func191, ntmps191
 go_wp2_with fail
 refine cI.mono ?_
 rintro e W1 ⟨rfl, hb⟩
 have HB : Hid (Below w.heap.size w W1) := hb
 clear hb cI
 go_wp2_with fail
 go_ret
 exact ⟨rfl, HB.out⟩
theorem index_zo {R : Nat -> Prop} {w : World} {v : Value} {l : List Int} (hin : RrS 1 LyI R w v l) (hR : ∀ g, R g -> g < w.heap.size) (G : Int -> Bool)
  (hc : ∀ W x, x ∈ l -> Below w.heap.size w W -> Calls prog 218 #[.int .i64 x] W fun e w' => e = .returned (.bool (G x)) /\ Below W.heap.size W w') :
  Calls prog 216 #[v, .func (.func 218) #[] #[]] w fun e w' => e = .returned (.int .i64 (ixf (fun x => !G x) 0 l)) /\ Below w.heap.size w w' := by
 have HIN : Hid (RrS 1 LyI R w v l) := hin
 have HR : Hid (∀ g, R g -> g < w.heap.size) := hR
 have HC : Hid (∀ W x, x ∈ l -> Below w.heap.size w W -> Calls prog 218 #[.int .i64 x] W fun e w' => e = .returned (.bool (G x)) /\ Below W.heap.size W w') := hc
 obtain ⟨a, cap, rfl, hlc, hcm, h47, hnil, hL⟩ := hin
 obtain ⟨T, hT⟩ : ∃ T, ixf (fun x => !G x) 0 l = T := ⟨_, rfl⟩
 have HT : Hid (ixf (fun x => !G x) 0 (l.drop 0) = T) := hT
 rw [hT]
 clear hT hL hc hR hnil
 go_enter func216, ntmps216
 go_wp2_with fail
 go_loopw [8] (fun i wr => ∃ q : Nat, q <= l.length /\ i = .int .i64 q /\ ixf (fun x => !G x) q (l.drop q) = T /\ Below w.heap.size w wr) (fun i _ => l.length - (intOf i).toNat)
 case atStart => exact ⟨0, by omega, rfl, HT.out, Below.refl _ _⟩
 case round =>
  clear HT
  obtain ⟨q, hq, rfl, hM, hb⟩ := hrel
  have Hb : Hid (Below w.heap.size w wr) := hb
  by_cases hlt : q < l.length
  ·have d0 : decide ((q : Int) < (l.length : Int)) = true := by simp; omega
   have i0 : (0 : Int) <= (q : Int) := by omega
   have i1 : (q : Int) < (l.length : Int) := by omega
   obtain ⟨g, o, cap', hsl, hl, hm, hg, k0⟩ := RrS.at HIN.out hlt
   cases hsl
   have k0 := below_cell (HR.out g hg) k0.1 hb
   rw [Nat.mul_one] at k0
   rw [ixf_cons G hlt] at hM
   have cO := HC.out wr l[q] (List.getElem_mem hlt) hb
   generalize l[q] = s at *
   obtain ⟨b, hb'⟩ : ∃ b, G s = b := ⟨_, rfl⟩
   rw [hb'] at cO hM
   have HM : Hid ((bif b then (q : Int) else ixf (fun x => !G x) (q + 1) (l.drop (q + 1))) = T) := hM
   clear hb' hM hb
   go_wp2_with fail
   refine cO.mono ?_
   rintro e W1 ⟨rfl, b1⟩
   have HB1 : Hid (Below w.heap.size w W1) := Hb.out.trans (b1.mono Hb.out.size)
   clear cO b1 k0
   cases b with
   | true =>
    have hT : (q : Int) = T := HM.out
    subst hT
    go_wp2_with fail
    go_ret
    exact ⟨rfl, HB1.out⟩
   | false =>
    go_wp2_with fail
    go_roundw
    case rel => exact ⟨q + 1, by omega, by go_num, HM.out, HB1.out⟩
    case measure => simp only [intOf]; omega
  ·have d0 : decide ((q : Int) < (l.length : Int)) = false := by simp; omega
   have hT : -1 = T := by
    rw [List.drop_eq_nil_of_le (by omega)] at hM
    exact hM
   subst hT
   clear hM
   go_wp2_with fail
   go_ret
   exact ⟨rfl, Hb.out⟩
end Go.Proofs.YtaiackmmmlhgbaaGreat.BIx
