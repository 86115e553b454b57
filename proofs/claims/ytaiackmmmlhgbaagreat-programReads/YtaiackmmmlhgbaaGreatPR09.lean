import Derived.Test.YtaiackmmmlhgbaaGreatPR06
import Derived.Test.YtaiackmmmlhgbaaGreatPR08
open Go.Proofs.Tryz
set_option linter.unusedVariables false
set_option maxRecDepth 20000
set_option maxHeartbeats 3200000
namespace Go.Proofs.YtaiackmmmlhgbaaGreat.YTr
open Go.RowKit YRr
open TBase (T)
open TVisit (Lo keep_lo)
def LyT (m K : Nat) (w : World) (g o : Nat) (t : T) : Prop := ∃ u, TBase.Four w g o u /\ TBase.In false (Lo K) w m u t
theorem LyT.below {m K : Nat} {w w' : World} {g o : Nat} {x : T} (hb : Below K w w') (hg : g < K) (h : LyT m K w g o x) : LyT m K w' g o x := by
  obtain ⟨u, ⟨v0, v1, v2, v3, rfl, h0, h1, h2, h3⟩, hI⟩ := h
  exact ⟨_, ⟨v0, v1, v2, v3, rfl, ck hb hg h0, ck hb hg h1, ck hb hg h2, ck hb hg h3⟩, hI.keep (keep_lo hb)⟩
theorem tree_cells {m K : Nat} {w : World} {u : Value} {t : T} (h : TBase.In false (Lo K) w m u t) : ∃ na nn nc la ln lc, u = .agg #[.string t.g, .string t.s, .slice na nn nc, .slice la ln lc] := by
  obtain ⟨m', nv, lv, -, rfl, -, -, ⟨a, c, rfl, -⟩, ⟨b, d, rfl, -⟩⟩ := h.shape
  exact ⟨_, _, _, _, _, _, rfl⟩
theorem LyT.cells {m K : Nat} {w : World} {g o : Nat} {t : T} (h : LyT m K w g o t) : ∃ na nn nc la ln lc, w.cell? ⟨g, o, none⟩ = some (.string t.g) /\ w.cell? ⟨g, o + 1, none⟩ = some (.string t.s) /\ w.cell? ⟨g, o + 2, none⟩ = some (.slice na nn nc) /\ w.cell? ⟨g, o + 3, none⟩ = some (.slice la ln lc) /\
    TBase.In false (Lo K) w m (.agg #[.string t.g, .string t.s, .slice na nn nc, .slice la ln lc]) t := by
  obtain ⟨u, ⟨v0, v1, v2, v3, hu, h0, h1, h2, h3⟩, hI⟩ := h
  obtain ⟨na, nn, nc, la, ln, lc, rfl⟩ := tree_cells hI
  simp only [Value.agg.injEq, Array.mk.injEq, List.cons.injEq, and_true] at hu
  obtain ⟨rfl, rfl, rfl, rfl⟩ := hu
  exact ⟨_, _, _, _, _, _, h0, h1, h2, h3, hI⟩
theorem ax_rr {K : Nat} {w : World} {v : Value} {n : List (ByteArray × ByteArray)} (h : TBase.Ax false (Lo K) w v n) : Rr 2 LyA K w v n := by
  obtain ⟨a, cap, h1, h2, h3, h4, h5, h6, h7⟩ := h
  refine ⟨a, cap, h1, h2, h3, by omega, h6, ?_⟩
  rcases h7 with h7 | ⟨g, o, ha, hS, hc, -⟩
  · exact .inl h7.1
  · exact .inr ⟨g, o, ha, hS, fun j hj => ⟨(hc j hj).1, (hc j hj).2, (h5 _ (List.getElem_mem hj)).1, (h5 _ (List.getElem_mem hj)).2⟩⟩
theorem inl_rr {m K : Nat} {w : World} {v : Value} {l : List T} (h : TBase.InL false (Lo K) w m v l) : Rr 4 (LyT m K) K w v l := by
  obtain ⟨a, cap, h1, h2, h3, h4, h5, h6⟩ := h
  refine ⟨a, cap, h1, h2, h3, by omega, h5, ?_⟩
  rcases h6 with h6 | ⟨g, o, ha, hS, hc, -⟩
  · exact .inl h6.1
  · exact .inr ⟨g, o, ha, hS, fun j hj => hc j hj⟩
end Go.Proofs.YtaiackmmmlhgbaaGreat.YTr
namespace Go.Proofs.YtaiackmmmlhgbaaGreat.YRs
open Go.RowKit Leb YPl YRr
open TBase (T Keep)
def RrS {α : Type} (n : Nat) (Ly : World -> Nat -> Nat -> α -> Prop) (S : Nat -> Prop) (w : World) (v : Value) (l : List α) : Prop :=
  ∃ a cap, v = .slice a l.length cap /\ l.length <= cap /\ cap <= 9223372036854775807 /\ l.length <= 140737488351232 /\ (a = none -> cap = 0) /\ (l = [] \/ ∃ g o, a = some ⟨g, o, none⟩ /\ S g /\ ∀ j (h : j < l.length), Ly w g (o + j * n) l[j])
theorem RrS.keep {α : Type} {n : Nat} {Ly Ly' : World -> Nat -> Nat -> α -> Prop} {S S' : Nat -> Prop} {w w' : World} {v : Value} {l : List α} (h : RrS n Ly S w v l) (hS : ∀ b, S b -> S' b) (hl : ∀ g o x, x ∈ l -> S g -> Ly w g o x -> Ly' w' g o x) : RrS n Ly' S' w' v l := by
  obtain ⟨a, cap, h1, h2, h3, h4, h5, h6⟩ := h
  refine ⟨a, cap, h1, h2, h3, h4, h5, ?_⟩
  rcases h6 with h6 | ⟨g, o, ha, hg, hc⟩
  · exact .inl h6
  · exact .inr ⟨g, o, ha, hS _ hg, fun j hj => hl _ _ _ (List.getElem_mem hj) hg (hc j hj)⟩
theorem RrS.rr {α : Type} {n K : Nat} {Ly Ly' : World -> Nat -> Nat -> α -> Prop} {S : Nat -> Prop} {w : World} {v : Value} {l : List α} (h : RrS n Ly S w v l) (hS : ∀ b, S b -> b < K) (hl : ∀ g o x, x ∈ l -> Ly w g o x -> Ly' w g o x) : Rr n Ly' K w v l := by
  obtain ⟨a, cap, h1, h2, h3, h4, h5, h6⟩ := h
  refine ⟨a, cap, h1, h2, h3, h4, h5, ?_⟩
  rcases h6 with h6 | ⟨g, o, ha, hg, hc⟩
  · exact .inl h6
  · exact .inr ⟨g, o, ha, hS _ hg, fun j hj => hl _ _ _ (List.getElem_mem hj) (hc j hj)⟩
theorem RrS.slice {α : Type} {n : Nat} {Ly : World -> Nat -> Nat -> α -> Prop} {S : Nat -> Prop} {w : World} {v : Value} {l : List α} (h : RrS n Ly S w v l) : ∃ a m c, v = .slice a m c := by
  obtain ⟨a, cap, h1, -⟩ := h
  exact ⟨_, _, _, h1⟩
section
variable {S S' : Nat -> Prop} {w w' : World} {g o : Nat}
theorem kS (hk : Keep S w w') (hg : S g) {x : ByteArray} (h : LyS w g o x) : LyS w' g o x := ⟨hk.cell hg h.1, h.2⟩
theorem kI (hk : Keep S w w') (hg : S g) {x : Int} (h : LyI w g o x) : LyI w' g o x := ⟨hk.cell hg h.1, h.2⟩
theorem kN (hk : Keep S w w') (hg : S g) {x : Ins} (h : LyN w g o x) : LyN w' g o x := ⟨hk.cell hg h.1, hk.cell hg h.2.1, h.2.2⟩
def LyOs (S : Nat -> Prop) (w : World) (g o : Nat) (x : Oq) : Prop := ∃ v, w.cell? ⟨g, o, none⟩ = some (.int .i64 x.k) /\ w.cell? ⟨g, o + 1, none⟩ = some (.int .i64 x.a) /\ w.cell? ⟨g, o + 2, none⟩ = some (.int .i64 x.b) /\ w.cell? ⟨g, o + 3, none⟩ = some (.int .i64 x.c) /\ w.cell? ⟨g, o + 4, none⟩ = some v /\ (i64 x.k /\ i64 x.a /\ i64 x.b /\ i64 x.c) /\ RrS 1 LyI S w v x.l
def LyCs (S : Nat -> Prop) (w : World) (g o : Nat) (x : List Ins) : Prop := ∃ v, w.cell? ⟨g, o, none⟩ = some v /\ RrS 2 LyN S w v x
def LyBs (S : Nat -> Prop) (w : World) (g o : Nat) (x : Bk) : Prop := ∃ v u, w.cell? ⟨g, o, none⟩ = some (.int .i64 x.d) /\ w.cell? ⟨g, o + 1, none⟩ = some v /\ w.cell? ⟨g, o + 2, none⟩ = some u /\ i64 x.d /\ RrS 5 (LyOs S) S w v x.o /\ RrS 1 LyI S w u x.u
def LyTs (m : Nat) (S : Nat -> Prop) (w : World) (g o : Nat) (t : T) : Prop := ∃ u, TBase.Four w g o u /\ TBase.In false S w m u t
theorem kO (hk : Keep S w w') (hS : ∀ b, S b -> S' b) (hg : S g) {x : Oq} (h : LyOs S w g o x) : LyOs S' w' g o x := by
  obtain ⟨v, h1, h2, h3, h4, h5, h6, h7⟩ := h
  exact ⟨v, hk.cell hg h1, hk.cell hg h2, hk.cell hg h3, hk.cell hg h4, hk.cell hg h5, h6, h7.keep hS fun g o x _ hg h => kI hk hg h⟩
theorem kC (hk : Keep S w w') (hS : ∀ b, S b -> S' b) (hg : S g) {x : List Ins} (h : LyCs S w g o x) : LyCs S' w' g o x := by
  obtain ⟨v, h1, h2⟩ := h
  exact ⟨v, hk.cell hg h1, h2.keep hS fun g o x _ hg h => kN hk hg h⟩
theorem kB (hk : Keep S w w') (hS : ∀ b, S b -> S' b) (hg : S g) {x : Bk} (h : LyBs S w g o x) : LyBs S' w' g o x := by
  obtain ⟨v, u, h1, h2, h3, h4, h5, h6⟩ := h
  exact ⟨v, u, hk.cell hg h1, hk.cell hg h2, hk.cell hg h3, h4, h5.keep hS fun g o x _ hg h => kO hk hS hg h, h6.keep hS fun g o x _ hg h => kI hk hg h⟩
end
abbrev Hdt (α : Type) := (Nat -> Prop) -> World -> List Value -> α -> Prop
def HdS : Hdt ByteArray := fun S w c x => c = [.string x] /\ x.size <= 140737488351232
def HdI : Hdt Int := fun S w c x => c = [.int .i64 x] /\ i64 x
def HdN : Hdt Ins := fun S w c x => c = [.int .i64 x.1, .int .i64 x.2] /\ i64 x.1 /\ i64 x.2
def HdA : Hdt (ByteArray × ByteArray) := fun S w c x => c = [.string x.1, .string x.2] /\ x.1.size <= 140737488351232 /\ x.2.size <= 140737488351232
def HdC : Hdt (List Ins) := fun S w c x => ∃ v, c = [v] /\ RrS 2 LyN S w v x
def HdO : Hdt Oq := fun S w c x => ∃ v, c = [.int .i64 x.k, .int .i64 x.a, .int .i64 x.b, .int .i64 x.c, v] /\ (i64 x.k /\ i64 x.a /\ i64 x.b /\ i64 x.c) /\ RrS 1 LyI S w v x.l
def HdB : Hdt Bk := fun S w c x => ∃ v u, c = [.int .i64 x.d, v, u] /\ i64 x.d /\ RrS 5 (LyOs S) S w v x.o /\ RrS 1 LyI S w u x.u
def HdT (m : Nat) : Hdt T := fun S w c x => ∃ nv lv, c = [.string x.g, .string x.s, nv, lv] /\ TBase.In false S w m (.agg #[.string x.g, .string x.s, nv, lv]) x
structure Stays {α : Type} (Hd : Hdt α) : Prop where
  out : ∀ {S S' : Nat -> Prop} {w w' : World} {c : List Value} {x : α}, Keep S w w' -> (∀ b, S b -> S' b) -> Hd S w c x -> Hd S' w' c x
theorem sS : Stays HdS := ⟨fun _ _ h => h⟩
theorem sI : Stays HdI := ⟨fun _ _ h => h⟩
theorem sN : Stays HdN := ⟨fun _ _ h => h⟩
theorem sA : Stays HdA := ⟨fun _ _ h => h⟩
theorem sC : Stays HdC := ⟨fun hk hS ⟨v, h1, h2⟩ => ⟨v, h1, h2.keep hS fun g o x _ hg h => kN hk hg h⟩⟩
theorem sO : Stays HdO := ⟨fun hk hS ⟨v, h1, h2, h3⟩ => ⟨v, h1, h2, h3.keep hS fun g o x _ hg h => kI hk hg h⟩⟩
theorem sB : Stays HdB := ⟨fun hk hS ⟨v, u, h1, h2, h3, h4⟩ => ⟨v, u, h1, h2, h3.keep hS fun g o x _ hg h => kO hk hS hg h, h4.keep hS fun g o x _ hg h => kI hk hg h⟩⟩
theorem sT {m : Nat} : Stays (HdT m) := ⟨fun hk hS ⟨nv, lv, h1, h2⟩ => ⟨nv, lv, h1, (h2.keep hk).weak hS false id m (Nat.le_refl _)⟩⟩
def Sx (lo : Nat) (w : World) (v : Value) (b : Nat) : Prop := lo <= b /\ b < w.heap.size /\ v.ownBlock ≠ some b
def RowI {α : Type} (Hd : Hdt α) (ty : TypeId) (n lo : Nat) (w : World) (v : Value) (l : List α) : Prop :=
  ∃ css : List (List Value), w.ownsRow lo ty n v l.length css.flatten /\ css.length = l.length /\ (∀ c ∈ css, c.length = n) /\ ∀ j (h1 : j < css.length) (h2 : j < l.length), Hd (Sx lo w v) w css[j] l[j]
theorem RowI.nil {α : Type} (Hd : Hdt α) (ty : TypeId) (n lo : Nat) (w : World) : RowI Hd ty n lo w (.slice none 0 0) [] := ⟨[], World.ownsRow_nil _ _ _ _, rfl, by simp, fun j h => by simp at h⟩
abbrev Gx (R : Nat) (w w' : World) : Prop := w.grownBy w' (some R)
theorem Gx.refl (R : Nat) (w : World) : Gx R w w := ⟨rfl, rfl, rfl, Nat.le_refl _, fun _ _ _ => rfl⟩
theorem Gx.trans {R : Nat} {a b c : World} (h : Gx R a b) (g : Gx R b c) : Gx R a c := ⟨g.os.trans h.os, g.tape.trans h.tape, g.output.trans h.output, Nat.le_trans h.size g.size, fun k hk hR => (g.block k (by have := h.size; omega) hR).trans (h.block k hk hR)⟩
theorem Gx.of {R : Nat} {a b : World} (h : Below a.heap.size a b) : Gx R a b := ⟨h.os, h.tape, h.output, h.size, fun k hk _ => h.block k hk⟩
theorem Gx.below {R K : Nat} {a b : World} (h : Gx R a b) (hK : K <= R) (hKa : K <= a.heap.size) : Below K a b := ⟨h.os, h.tape, h.output, h.size, fun k hk => h.block k (by omega) (fun e => by cases e; omega)⟩
theorem RowI.other {α : Type} {Hd : Hdt α} (hs : Stays Hd) {ty : TypeId} {n lo R : Nat} {w w' : World} {v : Value} {l : List α} (h : RowI Hd ty n lo w v l) (hR : R < lo) (hg : Gx R w w') : RowI Hd ty n lo w' v l := by
  obtain ⟨css, h1, h2, h3, h4⟩ := h
  have hne : v.ownBlock ≠ some R := fun e => by have := (World.ownsRow.lt h1 R e).1; omega
  refine ⟨css, World.ownsRow.kept h1 hg (.inr hne), h2, h3, fun j a b => hs.out (S := Sx lo w v) (fun b hb hl => hg.block b hl (fun e => by cases e; have := hb.1; omega)) (fun b hb => ⟨hb.1, by have := hb.2.1; have := hg.size; omega, hb.2.2⟩) (h4 j a b)⟩
theorem RowI.snoc {α : Type} {Hd : Hdt α} (hs : Stays Hd) {ty : TypeId} {n lo : Nat} {w2 w3 : World} {v v' : Value} {l : List α} {x : α} {c : List Value} {css : List (List Value)}
    (h1 : w2.ownsRow lo ty n v l.length css.flatten) (h2 : css.length = l.length) (h3 : ∀ c ∈ css, c.length = n) (h4 : ∀ j (h1 : j < css.length) (h2 : j < l.length), Hd (Sx lo w2 v) w2 css[j] l[j])
    (hx : Hd (Sx lo w2 v) w2 c x) (hc : c.length = n) (hgr : w2.grownBy w3 v.ownBlock) (hown : w3.ownsRow lo ty n v' (l.length + 1) (css.flatten ++ c)) (hb : v'.ownBlock = v.ownBlock \/ v'.ownBlock = some w2.heap.size) : RowI Hd ty n lo w3 v' (l ++ [x]) := by
  have kp : Keep (Sx lo w2 v) w2 w3 := fun b hb hl => hgr.block b hl (fun e => hb.2.2 e.symm)
  have up : ∀ b, Sx lo w2 v b -> Sx lo w3 v' b := fun b h => ⟨h.1, by have := h.2.1; have := hgr.size; omega, fun e => by
    rcases hb with hb | hb
    · exact h.2.2 (hb ▸ e)
    · rw [hb] at e; cases e; have := h.2.1; omega⟩
  refine ⟨css ++ [c], by rw [List.length_append]; simpa using hown, by simp [h2], fun d hd => ?_, fun j a b => ?_⟩
  · rcases List.mem_append.1 hd with hd | hd
    · exact h3 d hd
    · simp at hd; rw [hd]; exact hc
  · by_cases hj : j < css.length
    · rw [List.getElem_append_left hj, List.getElem_append_left (by omega)]
      exact hs.out kp up (h4 j hj (by omega))
    · obtain rfl : j = css.length := by simp at a; omega
      have e1 : (css ++ [c])[css.length]'a = c := by simp
      have e2 : (l ++ [x])[css.length]'b = x := by simp [h2]
      rw [e1, e2]
      exact hs.out kp up hx
theorem flat_at {n : Nat} {css : List (List Value)} (h3 : ∀ c ∈ css, c.length = n) : ∀ (j : Nat) (hj : j < css.length) (i : Nat), i < n -> css.flatten[j * n + i]? = css[j][i]? := by
  induction css with
  | nil => intro j hj; simp at hj
  | cons c r ih =>
    intro j hj i hi
    have hc : c.length = n := h3 c (by simp)
    cases j with
    | zero =>
      rw [List.flatten_cons, List.getElem?_append_left (by omega)]
      simp
    | succ j =>
      rw [List.flatten_cons, List.getElem?_append_right (by rw [hc, Nat.succ_mul]; omega), hc, show (j + 1) * n + i - n = j * n + i by rw [Nat.succ_mul]; omega, ih (fun d hd => h3 d (by simp [hd])) j (by simpa using hj) i hi]
      simp
theorem RowI.rr {α : Type} {Hd : Hdt α} {ty : TypeId} {n lo : Nat} {w : World} {v : Value} {l : List α} {Ly : World -> Nat -> Nat -> α -> Prop} {S : Nat -> Prop} (h : RowI Hd ty n lo w v l) (hl : l.length <= 140737488351232) (hS : ∀ b, lo <= b -> b < w.heap.size -> S b)
    (hly : ∀ g o c x, S g -> (∀ i u, c[i]? = some u -> w.cell? ⟨g, o + i, none⟩ = some u) -> c.length = n -> Hd (Sx lo w v) w c x -> Ly w g o x) : RrS n Ly S w v l := by
  obtain ⟨css, h1, h2, h3, h4⟩ := h
  rcases h1.2 with ⟨rfl, h0⟩ | ⟨g, cap, cur, rfl, hb, hh, hn, hm, hcs, htk⟩
  · have : l = [] := List.eq_nil_of_length_eq_zero h0
    subst this
    exact ⟨none, 0, rfl, by simp, by omega, by simp, fun _ => rfl, .inl rfl⟩
  · have hlt := (World.ownsRow.lt h1 g rfl)
    refine ⟨_, cap, rfl, hn, by unfold maxLen at hm; omega, hl, (fun h => by cases h), .inr ⟨g, 0, rfl, hS g hlt.1 hlt.2, fun j hj => ?_⟩⟩
    have hjc : j < css.length := by omega
    refine hly g (0 + j * n) css[j] l[j] (hS g hlt.1 hlt.2) (fun i u hu => ?_) (h3 _ (List.getElem_mem hjc)) (h4 j hjc hj)
    have hi : i < n := by
      have := (List.getElem?_eq_some_iff.1 hu).1
      rw [h3 _ (List.getElem_mem hjc)] at this
      exact this
    have hcl := World.ownsRow.cells (g := g) h1 rfl (j * n + i) u (by rw [flat_at h3 j hjc i hi]; exact hu)
    rw [Leb.add_none] at hcl
    rw [Nat.add_assoc]
    exact hcl
end Go.Proofs.YtaiackmmmlhgbaaGreat.YRs
namespace Go.Proofs.YtaiackmmmlhgbaaGreat.YRb
open Go.RowKit Leb YPl YRd YWr YRr YRs
def Rb (K : Nat) (w : World) (R : Nat) (b : By) (p k : Nat) : Prop := K <= R /\ K <= w.heap.size /\ p <= b.length /\ b.length <= 1048576 /\ k <= 4097 /\ ∃ ia n cap, w.heap[R]? = some (.cells #[.slice ia n cap, .int .i64 p, .int .i64 k] 50 (0, 0)) /\ Seen w (.slice ia n cap) b /\ ∀ g, ia = some g -> g.block < K
theorem Rb.lt {K R p k : Nat} {w : World} {b : By} (h : Rb K w R b p k) : R < w.heap.size := by
  obtain ⟨_, _, _, _, _, ia, n, cap, h1, _⟩ := h
  exact (Array.getElem?_eq_some_iff.1 h1).1
theorem seen_low {K n cap : Nat} {w w' : World} {ia : Option Addr} {b : By} (h : Seen w (.slice ia n cap) b) (hl : ∀ g, ia = some g -> g.block < K) (hb : Below K w w') : Seen w' (.slice ia n cap) b := by
  obtain ⟨a, c, e, h1, h2, h3, h4⟩ := h
  cases e
  refine ⟨ia, cap, rfl, h1, h2, h3, fun g o s e j hj => ?_⟩
  obtain ⟨hs, hc⟩ := h4 g o s e j hj
  exact ⟨hs, (World.cell?_of_block (w := w) (hb.block g (hl _ e))).trans hc⟩
theorem Rb.below {K R p k : Nat} {w w' : World} {b : By} (h : Rb K w R b p k) (hb : Below w.heap.size w w') : Rb K w' R b p k := by
  have hlt := h.lt
  obtain ⟨h1, h2, h3, h4, h5, ia, n, cap, h6, h7, h8⟩ := h
  exact ⟨h1, Nat.le_trans h2 hb.size, h3, h4, h5, ia, n, cap, (hb.block R hlt).trans h6, seen_low h7 h8 (hb.mono h2), h8⟩
theorem Rb.row {K R p k lo : Nat} {w w' : World} {b : By} {row : Option Nat} (h : Rb K w R b p k) (hg : w.grownBy w' row) (hlo : R < lo) (hr : ∀ r, row = some r -> lo <= r) : Rb K w' R b p k := by
  have hlt := h.lt
  obtain ⟨h1, h2, h3, h4, h5, ia, n, cap, h6, h7, h8⟩ := h
  refine ⟨h1, Nat.le_trans h2 hg.size, h3, h4, h5, ia, n, cap, (hg.block R hlt (fun e => by have := hr R e.symm; omega)).trans h6, seen_low h7 h8 ⟨hg.os, hg.tape, hg.output, hg.size, fun q hq => hg.block q (by omega) (fun e => by have := hr q e.symm; omega)⟩, h8⟩
theorem Rb.set {K R p k q : Nat} {w : World} {b : By} (h : Rb K w R b p k) (hq : q <= b.length) : Rb K (w.setCell ⟨R, 1, none⟩ (.int .i64 q)) R b q k /\ Gx R w (w.setCell ⟨R, 1, none⟩ (.int .i64 q)) := by
  obtain ⟨h1, h2, h3, h4, h5, ia, n, cap, h6, h7, h8⟩ := h
  have hg : Gx R w (w.setCell ⟨R, 1, none⟩ (.int .i64 q)) := ⟨rfl, rfl, rfl, by simp, fun k hk hne => Below.heap_setCell _ _ _ _ (fun e => hne (by rw [e]))⟩
  refine ⟨⟨h1, by simpa using h2, hq, h4, h5, ia, n, cap, ?_, seen_low h7 h8 (hg.below h1 h2), h8⟩, hg⟩
  simp [World.setCell, Array.getElem?_modify, h6]
theorem Rb.drewN {K R p k : Nat} {w : World} {b : By} (h : Rb K w R b p k) (n : Nat) : Rb K (w.drewN n) R b p k := h.below (TAttrs.drewN_below (Below.refl _ _) n)
theorem Gx.drewN {R : Nat} {w w' : World} (h : Gx R w w') (n : Nat) : Gx R w (w'.drewN n) := Gx.trans h (Gx.of (TAttrs.drewN_below (Below.refl _ _) n))
theorem Rb.set' {K R p k q : Nat} {z : Int} {w : World} {b : By} (h : Rb K w R b p k) (hz : (q : Int) = z) (hq : q <= b.length) : Rb K (w.setCell ⟨R, 1, none⟩ (.int .i64 z)) R b q k /\ Gx R w (w.setCell ⟨R, 1, none⟩ (.int .i64 z)) := by
  subst hz
  exact h.set hq
def RA {α : Type} (K R : Nat) (b : By) (k : Nat) (Hv : (Nat -> Prop) -> World -> Value -> α -> Prop) (a : Rs α) (w : World) (e : Ending) (w' : World) : Prop := Gx R w w' /\ match a with
  | .ok (x, q) => ∃ v, e = .returned v /\ Hv (fun g => w.heap.size <= g /\ g < w'.heap.size) w' v x /\ Rb K w' R b q k
  | .error q => e = .panicked (pkF 2100 q)
theorem refuse_c (p : Int) (w : World) : Calls prog 57 #[.int .i64 p] w fun e w' => w' = w /\ e = .panicked (pkF 2100 p) := by
  go_enter func57, ntmps57
  go_wp2_with fail
  exact ⟨rfl, rfl, rfl⟩
def VI : (Nat -> Prop) -> World -> Value -> Int -> Prop := fun _ _ v x => v = .int .i64 x /\ i64 x
def VN (lim : Nat) : (Nat -> Prop) -> World -> Value -> Nat -> Prop := fun _ _ v x => v = .int .i64 (x : Int) /\ x <= lim
def VS : (Nat -> Prop) -> World -> Value -> ByteArray -> Prop := fun _ _ v x => v = .string x /\ x.size <= 4096
theorem seen_at {w : World} {ia : Option Addr} {n cap : Nat} {b : By} (h : Seen w (.slice ia n cap) b) {p : Nat} (hp : p < b.length) : ∃ g o, ia = some ⟨g, o, none⟩ /\ w.cell? ⟨g, o + p, none⟩ = some (.int .u8 (b[p].toNat : Int)) := by
  obtain ⟨a, c, e, h1, h2, h3, h4⟩ := h
  cases e
  cases ia with
  | none => have := h3 rfl; omega
  | some x =>
    obtain ⟨g, o, s⟩ := x
    obtain ⟨rfl, hc⟩ := h4 g o s rfl p hp
    exact ⟨g, o, rfl, hc⟩
theorem octet_c {K R p k : Nat} {w : World} {b : By} (h : Rb K w R b p k) :
    Calls prog 56 #[ptw R] w fun e w' => RA K R b k VI (roct b p) w e w' := by
  have HR : Hid (Rb K w R b p k) := h
  obtain ⟨h1, h2, h3, h4, h5, ia, n, cap, h6, h7, h8⟩ := h
  have z0 := cell_of h6 0 _ rfl
  have z1 := cell_of h6 1 _ rfl
  have f1 := TBase.frozen_box h6 1
  obtain rfl : n = b.length := by obtain ⟨a, c, e, -⟩ := h7; cases e; rfl
  have hc0 : b.length <= cap := by obtain ⟨a, c, e, h, -⟩ := h7; cases e; exact h
  by_cases hp : p < b.length
  · obtain ⟨g, o, rfl, hc⟩ := seen_at h7 hp
    have hne : ((p : Int) == (b.length : Int)) = false := by simp; omega
    have hcl : b[p].toNat < 256 := b[p].toNat_lt
    obtain ⟨c, hcc⟩ : ∃ c, b[p].toNat = c := ⟨_, rfl⟩
    have HE : Hid (roct b p = .ok ((c : Int), p + 1)) := by show _ = _; unfold roct; rw [dif_pos hp, hcc]
    rw [hcc] at hc hcl
    have HS : Hid (∀ n1 : Nat, RA K R b k VI (roct b p) w (.returned (.int .i64 (c : Int))) ((w.drewN n1).setCell ⟨R, 1, none⟩ (.int .i64 ((p : Int) + 1)))) := fun n1 => by
      have q := Rb.set' (q := p + 1) (z := (p : Int) + 1) (Rb.drewN HR.out n1) (by omega) (by omega)
      rw [HE.out]
      exact ⟨Gx.trans (Gx.drewN (Gx.refl R w) n1) q.2, _, rfl, ⟨rfl, by constructor <;> omega⟩, q.1⟩
    clear h6 h7 h8 HR
    go_enter func56, ntmps56
    go_wp2_with fail
    go_quiet (fail)
    go_wp2_with fail
    go_quiet (fail)
    go_wp2_with fail
    go_ret
    exact HS.out _
  · obtain rfl : p = b.length := by omega
    have HE : Hid (roct b b.length = .error b.length) := by show _ = _; unfold roct; rw [dif_neg hp]
    clear h6 h7 h8 HR
    go_enter func56, ntmps56
    go_wp2_with fail
    go_quiet (fail)
    go_wp2_with fail
    refine (refuse_c _ _).mono ?_
    rintro e w1 ⟨rfl, rfl⟩
    exact ⟨rfl, by rw [HE.out]; exact ⟨Gx.drewN (Gx.refl _ _) _, rfl⟩⟩
theorem take_int {v : Value} {L : By} {s : Int} {w : World} (hS : Seen w v L) : Calls prog 165 #[v, .int .i64 s] w fun e w' => e = .returned (.tuple #[.int .i64 (unz (tk L s).1), .int .i64 ((tk L s).2.1 : Int), .int .i64 ((tk L s).2.2 : Int)]) /\ w' = w := by
  have c1 := take_c v L s w hS
  have c2 := unfold_c (tk L s).1 (tk_lt L s) w
  obtain ⟨a, cap, rfl, -⟩ := hS
  unfold tkV at c1
  generalize tk L s = t at *
  go_enter func165, ntmps165
  go_wp2_with fail
  refine c1.mono ?_
  rintro e w1 ⟨rfl, rfl⟩
  go_wp2_with fail
  refine c2.mono ?_
  rintro e w1 ⟨rfl, rfl⟩
  go_wp2_with fail
  go_ret3
  exact ⟨rfl, rfl⟩
theorem tk_le {L : By} {p : Nat} (h : (tk L p).2.2 = 0) : (tk L p).2.1 <= L.length := by
  obtain ⟨n, h1, h2, h3, h4, -⟩ := tk_back h
  rw [h4]
  exact h3
theorem whole_c {K R p k : Nat} {w : World} {b : By} (h : Rb K w R b p k) :
    Calls prog 114 #[ptw R] w fun e w' => RA K R b k VI (rwhl b p) w e w' := by
  have HR : Hid (Rb K w R b p k) := h
  obtain ⟨h1, h2, h3, h4, h5, ia, n, cap, h6, h7, h8⟩ := h
  have z0 := cell_of h6 0 _ rfl
  have z1 := cell_of h6 1 _ rfl
  have f1 := TBase.frozen_box h6 1
  have hS : ∀ m, Seen (w.drewN m) (.slice ia n cap) b := fun m => seen_low h7 h8 (TAttrs.drewN_below (Below.refl _ _) m)
  have cT := fun m => take_int (s := (p : Int)) (hS m)
  have hub := unz_bounds (tk_lt b p)
  have hE : rwhl b p = if (tk b p).2.2 = 0 then .ok (unz (tk b p).1, (tk b p).2.1) else .error p := rfl
  have hle := tk_le (L := b) (p := p)
  generalize tk b p = t at *
  obtain ⟨t0, t1, t2⟩ := t
  simp only at hE hub hle cT
  clear h6 h7 h8
  by_cases ht : t2 = 0
  · subst ht
    rw [if_pos rfl] at hE
    have HS : Hid (∀ n1 : Nat, RA K R b k VI (rwhl b p) w (.returned (.int .i64 (unz t0))) ((w.drewN n1).setCell ⟨R, 1, none⟩ (.int .i64 (t1 : Int)))) := fun n1 => by
      have q := Rb.set' (q := t1) (z := (t1 : Int)) (Rb.drewN HR.out n1) rfl (hle rfl)
      rw [hE]
      exact ⟨Gx.trans (Gx.drewN (Gx.refl R w) n1) q.2, _, rfl, ⟨rfl, hub⟩, q.1⟩
    clear HR hS
    go_enter func114, ntmps114
    go_wp2_with fail
    go_quiet (first | (go_at_call 165; exact Calls.quiet_of_same (cT _)))
    go_wp2_with fail
    go_ret
    exact HS.out _
  · rw [if_neg ht] at hE
    have HE : Hid _ := hE
    have ht1 : (((t2 : Nat) : Int) != 0) = true := by simp [ht]
    clear HR hS hE
    go_enter func114, ntmps114
    go_wp2_with fail
    go_quiet (first | (go_at_call 165; exact Calls.quiet_of_same (cT _)))
    go_wp2_with fail
    refine (refuse_c _ _).mono ?_
    rintro e w1 ⟨rfl, rfl⟩
    exact ⟨rfl, by rw [HE.out]; exact ⟨Gx.drewN (Gx.refl _ _) _, rfl⟩⟩
theorem count_c {K R p k : Nat} {w : World} {b : By} (lim : Nat) (hlim : lim <= 16384) (h : Rb K w R b p k) :
    Calls prog 106 #[ptw R, .int .i64 lim] w fun e w' => RA K R b k (VN lim) (rcnt lim b p) w e w' := by
  have HR : Hid (Rb K w R b p k) := h
  obtain ⟨h1, h2, h3, h4, h5, ia, n, cap, h6, h7, h8⟩ := h
  have z0 := cell_of h6 0 _ rfl
  have z1 := cell_of h6 1 _ rfl
  have f1 := TBase.frozen_box h6 1
  have hS : ∀ m, Seen (w.drewN m) (.slice ia n cap) b := fun m => seen_low h7 h8 (TAttrs.drewN_below (Below.refl _ _) m)
  have cT := fun m => take_c _ b (p : Int) _ (hS m)
  unfold tkV at cT
  have hE : rcnt lim b p = if (tk b p).2.2 = 0 /\ (tk b p).1 <= lim then .ok ((tk b p).1, (tk b p).2.1) else .error p := rfl
  have hle := tk_le (L := b) (p := p)
  have hlt := tk_lt b p
  generalize tk b p = t at *
  obtain ⟨t0, t1, t2⟩ := t
  simp only at hE hle cT hlt
  clear h6 h7 h8
  by_cases ht : t2 = 0
  · subst ht
    by_cases hl : t0 <= lim
    · rw [if_pos ⟨rfl, hl⟩] at hE
      have HS : Hid (∀ n1 : Nat, RA K R b k (VN lim) (rcnt lim b p) w (.returned (.int .i64 (t0 : Int))) ((w.drewN n1).setCell ⟨R, 1, none⟩ (.int .i64 (t1 : Int)))) := fun n1 => by
        have q := Rb.set' (q := t1) (z := (t1 : Int)) (Rb.drewN HR.out n1) rfl (hle rfl)
        rw [hE]
        exact ⟨Gx.trans (Gx.drewN (Gx.refl R w) n1) q.2, _, rfl, ⟨rfl, hl⟩, q.1⟩
      have hl' : ¬ (lim : Int) < (t0 : Int) := by omega
      clear HR hS hE
      go_enter func106, ntmps106
      go_wp2_with fail
      go_quiet (first | (go_at_call 160; exact Calls.quiet_of_same (cT _)))
      go_wp2_with fail
      go_ret
      exact HS.out _
    · rw [if_neg (fun h => hl h.2)] at hE
      have HE : Hid _ := hE
      have hl' : (lim : Int) < (t0 : Int) := by omega
      clear HR hS hE
      go_enter func106, ntmps106
      go_wp2_with fail
      go_quiet (first | (go_at_call 160; exact Calls.quiet_of_same (cT _)))
      go_wp2_with fail
      refine (refuse_c _ _).mono ?_
      rintro e w1 ⟨rfl, rfl⟩
      exact ⟨rfl, by rw [HE.out]; exact ⟨Gx.drewN (Gx.refl _ _) _, rfl⟩⟩
  · rw [if_neg (fun h => ht h.1)] at hE
    have HE : Hid _ := hE
    have ht1 : (((t2 : Nat) : Int) != 0) = true := by simp [ht]
    clear HR hS hE
    go_enter func106, ntmps106
    go_wp2_with fail
    go_quiet (first | (go_at_call 160; exact Calls.quiet_of_same (cT _)))
    go_wp2_with fail
    refine (refuse_c _ _).mono ?_
    rintro e w1 ⟨rfl, rfl⟩
    exact ⟨rfl, by rw [HE.out]; exact ⟨Gx.drewN (Gx.refl _ _) _, rfl⟩⟩
end Go.Proofs.YtaiackmmmlhgbaaGreat.YRb
namespace Go.Proofs.YtaiackmmmlhgbaaGreat.YRx
open Go.RowKit Leb YPl YRd YWr YRr YRs YRb
theorem conv_sub {w : World} {g o cap q n : Nat} {b : By} (h : Seen w (.slice (some ⟨g, o, none⟩) b.length cap) b) (hq : q + n <= b.length) (c : Nat) (x : Nat) (hx : x = o + q \/ n = 0) : (convert 22 9 (.slice (some ⟨g, x, none⟩) n c)).run prog w = .ok (.string (sub b q n)) w := by
  have hl : ((b.drop q).take n).length = n := by rw [List.length_take, List.length_drop]; omega
  have := run_convert_bytes_back (P := prog) w 22 9 5 ⟨g, x, none⟩ c ((b.drop q).take n) underlying22 underlying5 underlying9 (fun j hj => by
    obtain ⟨a, cp, e, h1, h2, h3, h4⟩ := h
    cases e
    have hjn : j < n := by omega
    have hx' : x = o + q := by rcases hx with h | h; · exact h
                               · omega
    rw [Leb.add_none, hx', Nat.add_assoc, (h4 g o none rfl (q + j) (by omega)).2]
    rw [List.getElem_take, List.getElem_drop])
  rw [hl] at this
  exact this
theorem text_c {K R p k : Nat} {w : World} {b : By} (h : Rb K w R b p k) :
    Calls prog 59 #[ptw R] w fun e w' => RA K R b k VS (rtxt b p) w e w' := by
  have c1 := YRb.count_c 4096 (by omega) h
  obtain ⟨-, -, -, -, -, ja, jn, jc, j6, -, -⟩ := h
  have y1 := cell_of j6 1 _ rfl
  clear j6
  have hb : rtxt b p = bnd (rcnt 4096 b p) fun n q => if b.length < q + n then .error p else if UBase.verr (sub b q n) = 0 then .ok (sub b q n, q + n) else .error p := rfl
  cases hE : rcnt 4096 b p with
  | error q =>
    rw [hE] at c1 hb
    have HE : Hid (rtxt b p = .error q) := hb
    clear hb hE
    go_enter func59, ntmps59
    go_wp2_with fail
    refine c1.mono ?_
    rintro e w1 ⟨g1, rfl⟩
    exact ⟨rfl, by rw [HE.out]; exact ⟨g1, rfl⟩⟩
  | ok t =>
  obtain ⟨n, q⟩ := t
  have hpos : 0 < b.length := by
    unfold rcnt at hE
    simp only at hE
    split at hE
    · rename_i h0
      obtain ⟨m, -, h2, h3, -⟩ := tk_back h0.1
      omega
    · cases hE
  rw [hE] at c1 hb
  have HB : Hid (rtxt b p = if b.length < q + n then .error p else if UBase.verr (sub b q n) = 0 then .ok (sub b q n, q + n) else .error p) := hb
  clear hb hE
  go_enter func59, ntmps59
  go_wp2_with fail
  refine c1.mono ?_
  rintro e w1 ⟨g1, v, rfl, ⟨rfl, hn⟩, hR1⟩
  have HR : Hid (Rb K w1 R b q k) := hR1
  have HG : Hid _ := g1
  obtain ⟨h1, h2, h3, h4, h5, ia, l, cap, h6, h7, h8⟩ := hR1
  obtain rfl : l = b.length := by obtain ⟨a, c, e, -⟩ := h7; cases e; rfl
  have hcp : b.length <= cap /\ cap <= 9223372036854775807 := by obtain ⟨a, c, e, h, h', -⟩ := h7; cases e; unfold maxLen at h'; exact ⟨h, by omega⟩
  obtain ⟨g, o, rfl, -⟩ := seen_at h7 hpos
  have z0 := cell_of h6 0 _ rfl
  have z1 := cell_of h6 1 _ rfl
  have f1 := TBase.frozen_box h6 1
  have HS : Hid (∀ m, Seen (w1.drewN m) (.slice (some ⟨g, o, none⟩) b.length cap) b) := fun m => seen_low h7 h8 (TAttrs.drewN_below (Below.refl _ _) m)
  clear h6 h7 h8 c1 g1
  by_cases hl : b.length < q + n
  · have HE : Hid (rtxt b p = .error p) := by show _ = _; rw [HB.out, if_pos hl]
    have hl' : (b.length : Int) - q < (n : Int) := by omega
    go_wp2_with fail
    go_quiet (fail)
    go_wp2_with fail
    refine (refuse_c _ _).mono ?_
    rintro e w2 ⟨rfl, rfl⟩
    exact ⟨rfl, by rw [HE.out]; exact ⟨Gx.drewN HG.out _, rfl⟩⟩
  · have hl' : ¬ (b.length : Int) - q < (n : Int) := by omega
    have HB2 : Hid (rtxt b p = if UBase.verr (sub b q n) = 0 then .ok (sub b q n, q + n) else .error p) := by show _ = _; rw [HB.out, if_neg hl]
    have hcv : ∀ m x c, x = o + q \/ n = 0 -> (convert 22 9 (.slice (some ⟨g, x, none⟩) n c)).run prog (w1.drewN m) = .ok (.string (sub b q n)) (w1.drewN m) := fun m x c hx => conv_sub (HS.out m) (by omega) c x hx
    have hsz : (sub b q n).size <= 4096 := by show ((b.drop q).take n).toArray.size <= _; simp; omega
    have cV := fun W => UOwn.valid_c (sub b q n) (by omega) W
    generalize sub b q n = s at *
    by_cases hc : cap = q
    · obtain rfl : n = 0 := by omega
      have hcv1 := fun m c => hcv m o c (.inr rfl)
      have hcv2 := fun m c => hcv m (o + q) c (.inl rfl)
      clear hcv
      go_wp2_with fail
      go_quiet (fail)
      go_wp2_with fail
      go_quiet (fail)
      go_wp2_with fail
      refine (cV _).mono ?_
      rintro e W2 ⟨rfl, pp, hW2⟩
      have hR2 : Rb K W2 R b q k := by rw [hW2]; exact Rb.below (Rb.drewN HR.out _) ((Below.refl _ _).alloc (Nat.le_refl _) _)
      have hG2 : Gx R w W2 := by rw [hW2]; exact Gx.trans (Gx.drewN HG.out _) (Gx.of ((Below.refl _ _).alloc (Nat.le_refl _) _))
      have HR2 : Hid (Rb K W2 R b q k) := hR2
      have HG2 : Hid (Gx R w W2) := hG2
      obtain ⟨-, -, -, -, -, i2, n2, c2, k6, -, -⟩ := hR2
      have y2 := cell_of k6 1 _ rfl
      have fy := TBase.frozen_box k6 1
      clear hW2 hG2 k6 z0 z1 f1 cV
      by_cases hv : UBase.verr s = 0
      · have HF : Hid (RA K R b k VS (rtxt b p) w (.returned (.string s)) (W2.setCell ⟨R, 1, none⟩ (.int .i64 (q : Int)))) := by
          have z := Rb.set' (q := q + 0) (z := (q : Int)) HR2.out (by omega) (by omega)
          show RA _ _ _ _ _ _ _ _ _
          rw [HB2.out, if_pos hv]
          exact ⟨Gx.trans HG2.out z.2, _, rfl, ⟨rfl, hsz⟩, z.1⟩
        rw [hv]
        go_wp2_with fail
        go_ret
        exact HF.out
      · have HE : Hid (rtxt b p = .error p) := by show _ = _; rw [HB2.out, if_neg hv]
        have hv1 : (((UBase.verr s : Nat) : Int) != 0) = true := by simp [hv]
        go_wp2_with fail
        refine (refuse_c _ _).mono ?_
        rintro e w3 ⟨rfl, rfl⟩
        exact ⟨rfl, by rw [HE.out]; exact ⟨HG2.out, rfl⟩⟩
    · have hcv1 := fun m c => hcv m (o + q) c (.inl rfl)
      clear hcv
      go_wp2_with fail
      go_quiet (fail)
      go_wp2_with fail
      go_quiet (fail)
      go_wp2_with fail
      refine (cV _).mono ?_
      rintro e W2 ⟨rfl, pp, hW2⟩
      have hR2 : Rb K W2 R b q k := by rw [hW2]; exact Rb.below (Rb.drewN HR.out _) ((Below.refl _ _).alloc (Nat.le_refl _) _)
      have hG2 : Gx R w W2 := by rw [hW2]; exact Gx.trans (Gx.drewN HG.out _) (Gx.of ((Below.refl _ _).alloc (Nat.le_refl _) _))
      have HR2 : Hid (Rb K W2 R b q k) := hR2
      have HG2 : Hid (Gx R w W2) := hG2
      obtain ⟨-, -, -, -, -, i2, n2, c2, k6, -, -⟩ := hR2
      have y2 := cell_of k6 1 _ rfl
      have fy := TBase.frozen_box k6 1
      clear hW2 hG2 k6 z0 z1 f1 cV
      by_cases hv : UBase.verr s = 0
      · have HF : Hid (RA K R b k VS (rtxt b p) w (.returned (.string s)) (W2.setCell ⟨R, 1, none⟩ (.int .i64 ((q : Int) + n)))) := by
          have z := Rb.set' (q := q + n) (z := (q : Int) + n) HR2.out (by omega) (by omega)
          show RA _ _ _ _ _ _ _ _ _
          rw [HB2.out, if_pos hv]
          exact ⟨Gx.trans HG2.out z.2, _, rfl, ⟨rfl, hsz⟩, z.1⟩
        rw [hv]
        go_wp2_with fail
        go_ret
        exact HF.out
      · have HE : Hid (rtxt b p = .error p) := by show _ = _; rw [HB2.out, if_neg hv]
        have hv1 : (((UBase.verr s : Nat) : Int) != 0) = true := by simp [hv]
        go_wp2_with fail
        refine (refuse_c _ _).mono ?_
        rintro e w3 ⟨rfl, rfl⟩
        exact ⟨rfl, by rw [HE.out]; exact ⟨HG2.out, rfl⟩⟩
end Go.Proofs.YtaiackmmmlhgbaaGreat.YRx
