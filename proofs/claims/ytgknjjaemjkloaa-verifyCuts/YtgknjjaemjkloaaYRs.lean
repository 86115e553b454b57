/- What a reader makes: rows of its own, and what they hold. -/
import Derived.Test.YtgknjjaemjkloaaYRd
import Derived.Test.YtgknjjaemjkloaaYTr
namespace Go.Proofs.Ytgknjjaemjkloaa.YRs
open Go.RowKit Go.Proofs.Ytgknjjaemjkloaa.Leb Go.Proofs.Ytgknjjaemjkloaa.YPl Go.Proofs.Ytgknjjaemjkloaa.YRd Go.Proofs.Ytgknjjaemjkloaa.YWr Go.Proofs.Ytgknjjaemjkloaa.YRr Go.Proofs.Ytgknjjaemjkloaa.YTr
open Go.Proofs.Ytgknjjaemjkloaa.TBase (T Keep)
set_option linter.unusedVariables false

def RrS {α : Type} (n : Nat) (Ly : World → Nat → Nat → α → Prop) (S : Nat → Prop) (w : World) (v : Value) (l : List α) : Prop :=
  ∃ a cap, v = .slice a l.length cap ∧ l.length ≤ cap ∧ cap ≤ 9223372036854775807 ∧ l.length ≤ 140737488351232 ∧ (a = none → cap = 0) ∧ (l = [] ∨ ∃ g o, a = some ⟨g, o, none⟩ ∧ S g ∧ ∀ j (h : j < l.length), Ly w g (o + j * n) l[j])
theorem RrS.keep {α : Type} {n : Nat} {Ly Ly' : World → Nat → Nat → α → Prop} {S S' : Nat → Prop} {w w' : World} {v : Value} {l : List α} (h : RrS n Ly S w v l) (hS : ∀ b, S b → S' b) (hl : ∀ g o x, x ∈ l → S g → Ly w g o x → Ly' w' g o x) : RrS n Ly' S' w' v l := by
  obtain ⟨a, cap, h1, h2, h3, h4, h5, h6⟩ := h
  refine ⟨a, cap, h1, h2, h3, h4, h5, ?_⟩
  rcases h6 with h6 | ⟨g, o, ha, hg, hc⟩
  · exact .inl h6
  · exact .inr ⟨g, o, ha, hS _ hg, fun j hj => hl _ _ _ (List.getElem_mem hj) hg (hc j hj)⟩
theorem RrS.rr {α : Type} {n K : Nat} {Ly Ly' : World → Nat → Nat → α → Prop} {S : Nat → Prop} {w : World} {v : Value} {l : List α} (h : RrS n Ly S w v l) (hS : ∀ b, S b → b < K) (hl : ∀ g o x, x ∈ l → Ly w g o x → Ly' w g o x) : Rr n Ly' K w v l := by
  obtain ⟨a, cap, h1, h2, h3, h4, h5, h6⟩ := h
  refine ⟨a, cap, h1, h2, h3, h4, h5, ?_⟩
  rcases h6 with h6 | ⟨g, o, ha, hg, hc⟩
  · exact .inl h6
  · exact .inr ⟨g, o, ha, hS _ hg, fun j hj => hl _ _ _ (List.getElem_mem hj) (hc j hj)⟩
theorem RrS.slice {α : Type} {n : Nat} {Ly : World → Nat → Nat → α → Prop} {S : Nat → Prop} {w : World} {v : Value} {l : List α} (h : RrS n Ly S w v l) : ∃ a m c, v = .slice a m c := by
  obtain ⟨a, cap, h1, -⟩ := h
  exact ⟨_, _, _, h1⟩
section
variable {S S' : Nat → Prop} {w w' : World} {g o : Nat}
theorem kS (hk : Keep S w w') (hg : S g) {x : ByteArray} (h : LyS w g o x) : LyS w' g o x := ⟨hk.cell hg h.1, h.2⟩
theorem kI (hk : Keep S w w') (hg : S g) {x : Int} (h : LyI w g o x) : LyI w' g o x := ⟨hk.cell hg h.1, h.2⟩
theorem kN (hk : Keep S w w') (hg : S g) {x : Ins} (h : LyN w g o x) : LyN w' g o x := ⟨hk.cell hg h.1, hk.cell hg h.2.1, h.2.2⟩
theorem kA (hk : Keep S w w') (hg : S g) {x : ByteArray × ByteArray} (h : LyA w g o x) : LyA w' g o x := ⟨hk.cell hg h.1, hk.cell hg h.2.1, h.2.2⟩
def LyOs (S : Nat → Prop) (w : World) (g o : Nat) (x : Oq) : Prop := ∃ v, w.cell? ⟨g, o, none⟩ = some (.int .i64 x.k) ∧ w.cell? ⟨g, o + 1, none⟩ = some (.int .i64 x.a) ∧ w.cell? ⟨g, o + 2, none⟩ = some (.int .i64 x.b) ∧ w.cell? ⟨g, o + 3, none⟩ = some (.int .i64 x.c) ∧ w.cell? ⟨g, o + 4, none⟩ = some v ∧ (i64 x.k ∧ i64 x.a ∧ i64 x.b ∧ i64 x.c) ∧ RrS 1 LyI S w v x.l
def LyCs (S : Nat → Prop) (w : World) (g o : Nat) (x : List Ins) : Prop := ∃ v, w.cell? ⟨g, o, none⟩ = some v ∧ RrS 2 LyN S w v x
def LyBs (S : Nat → Prop) (w : World) (g o : Nat) (x : Bk) : Prop := ∃ v u, w.cell? ⟨g, o, none⟩ = some (.int .i64 x.d) ∧ w.cell? ⟨g, o + 1, none⟩ = some v ∧ w.cell? ⟨g, o + 2, none⟩ = some u ∧ i64 x.d ∧ RrS 5 (LyOs S) S w v x.o ∧ RrS 1 LyI S w u x.u
def LyTs (m : Nat) (S : Nat → Prop) (w : World) (g o : Nat) (t : T) : Prop := ∃ u, TBase.Four w g o u ∧ TBase.In false S w m u t
theorem kO (hk : Keep S w w') (hS : ∀ b, S b → S' b) (hg : S g) {x : Oq} (h : LyOs S w g o x) : LyOs S' w' g o x := by
  obtain ⟨v, h1, h2, h3, h4, h5, h6, h7⟩ := h
  exact ⟨v, hk.cell hg h1, hk.cell hg h2, hk.cell hg h3, hk.cell hg h4, hk.cell hg h5, h6, h7.keep hS fun g o x _ hg h => kI hk hg h⟩
theorem kC (hk : Keep S w w') (hS : ∀ b, S b → S' b) (hg : S g) {x : List Ins} (h : LyCs S w g o x) : LyCs S' w' g o x := by
  obtain ⟨v, h1, h2⟩ := h
  exact ⟨v, hk.cell hg h1, h2.keep hS fun g o x _ hg h => kN hk hg h⟩
theorem kB (hk : Keep S w w') (hS : ∀ b, S b → S' b) (hg : S g) {x : Bk} (h : LyBs S w g o x) : LyBs S' w' g o x := by
  obtain ⟨v, u, h1, h2, h3, h4, h5, h6⟩ := h
  exact ⟨v, u, hk.cell hg h1, hk.cell hg h2, hk.cell hg h3, h4, h5.keep hS fun g o x _ hg h => kO hk hS hg h, h6.keep hS fun g o x _ hg h => kI hk hg h⟩
theorem kT {m : Nat} (hk : Keep S w w') (hS : ∀ b, S b → S' b) (hg : S g) {x : T} (h : LyTs m S w g o x) : LyTs m S' w' g o x := by
  obtain ⟨u, h1, h2⟩ := h
  exact ⟨u, hk.four hg h1, (h2.keep hk).weak hS false id m (Nat.le_refl _)⟩
end
/-- What the cells of an element hold. -/
abbrev Hdt (α : Type) := (Nat → Prop) → World → List Value → α → Prop
def HdS : Hdt ByteArray := fun S w c x => c = [.string x] ∧ x.size ≤ 140737488351232
def HdI : Hdt Int := fun S w c x => c = [.int .i64 x] ∧ i64 x
def HdN : Hdt Ins := fun S w c x => c = [.int .i64 x.1, .int .i64 x.2] ∧ i64 x.1 ∧ i64 x.2
def HdA : Hdt (ByteArray × ByteArray) := fun S w c x => c = [.string x.1, .string x.2] ∧ x.1.size ≤ 140737488351232 ∧ x.2.size ≤ 140737488351232
def HdC : Hdt (List Ins) := fun S w c x => ∃ v, c = [v] ∧ RrS 2 LyN S w v x
def HdO : Hdt Oq := fun S w c x => ∃ v, c = [.int .i64 x.k, .int .i64 x.a, .int .i64 x.b, .int .i64 x.c, v] ∧ (i64 x.k ∧ i64 x.a ∧ i64 x.b ∧ i64 x.c) ∧ RrS 1 LyI S w v x.l
def HdB : Hdt Bk := fun S w c x => ∃ v u, c = [.int .i64 x.d, v, u] ∧ i64 x.d ∧ RrS 5 (LyOs S) S w v x.o ∧ RrS 1 LyI S w u x.u
def HdT (m : Nat) : Hdt T := fun S w c x => ∃ nv lv, c = [.string x.g, .string x.s, nv, lv] ∧ TBase.In false S w m (.agg #[.string x.g, .string x.s, nv, lv]) x
/-- It stays where the blocks stay. -/
structure Stays {α : Type} (Hd : Hdt α) : Prop where
  out : ∀ {S S' : Nat → Prop} {w w' : World} {c : List Value} {x : α}, Keep S w w' → (∀ b, S b → S' b) → Hd S w c x → Hd S' w' c x
theorem sS : Stays HdS := ⟨fun _ _ h => h⟩
theorem sI : Stays HdI := ⟨fun _ _ h => h⟩
theorem sN : Stays HdN := ⟨fun _ _ h => h⟩
theorem sA : Stays HdA := ⟨fun _ _ h => h⟩
theorem sC : Stays HdC := ⟨fun hk hS ⟨v, h1, h2⟩ => ⟨v, h1, h2.keep hS fun g o x _ hg h => kN hk hg h⟩⟩
theorem sO : Stays HdO := ⟨fun hk hS ⟨v, h1, h2, h3⟩ => ⟨v, h1, h2, h3.keep hS fun g o x _ hg h => kI hk hg h⟩⟩
theorem sB : Stays HdB := ⟨fun hk hS ⟨v, u, h1, h2, h3, h4⟩ => ⟨v, u, h1, h2, h3.keep hS fun g o x _ hg h => kO hk hS hg h, h4.keep hS fun g o x _ hg h => kI hk hg h⟩⟩
theorem sT {m : Nat} : Stays (HdT m) := ⟨fun hk hS ⟨nv, lv, h1, h2⟩ => ⟨nv, lv, h1, (h2.keep hk).weak hS false id m (Nat.le_refl _)⟩⟩
/-- The blocks of a row's elements. -/
def Sx (lo : Nat) (w : World) (v : Value) (b : Nat) : Prop := lo ≤ b ∧ b < w.heap.size ∧ v.ownBlock ≠ some b
/-- A row of one's own, from lo on, that holds the elements l. -/
def RowI {α : Type} (Hd : Hdt α) (ty : TypeId) (n lo : Nat) (w : World) (v : Value) (l : List α) : Prop :=
  ∃ css : List (List Value), w.ownsRow lo ty n v l.length css.flatten ∧ css.length = l.length ∧ (∀ c ∈ css, c.length = n) ∧ ∀ j (h1 : j < css.length) (h2 : j < l.length), Hd (Sx lo w v) w css[j] l[j]
theorem RowI.nil {α : Type} (Hd : Hdt α) (ty : TypeId) (n lo : Nat) (w : World) : RowI Hd ty n lo w (.slice none 0 0) [] := ⟨[], World.ownsRow_nil _ _ _ _, rfl, by simp, fun j h => by simp at h⟩
/-- A reader's step: only its own box is changed. -/
abbrev Gx (R : Nat) (w w' : World) : Prop := w.grownBy w' (some R)
theorem Gx.refl (R : Nat) (w : World) : Gx R w w := ⟨rfl, rfl, rfl, Nat.le_refl _, fun _ _ _ => rfl⟩
theorem Gx.trans {R : Nat} {a b c : World} (h : Gx R a b) (g : Gx R b c) : Gx R a c := ⟨g.os.trans h.os, g.tape.trans h.tape, g.output.trans h.output, Nat.le_trans h.size g.size, fun k hk hR => (g.block k (by have := h.size; omega) hR).trans (h.block k hk hR)⟩
theorem Gx.of {R : Nat} {a b : World} (h : Below a.heap.size a b) : Gx R a b := ⟨h.os, h.tape, h.output, h.size, fun k hk _ => h.block k hk⟩
theorem Gx.below {R K : Nat} {a b : World} (h : Gx R a b) (hK : K ≤ R) (hKa : K ≤ a.heap.size) : Below K a b := ⟨h.os, h.tape, h.output, h.size, fun k hk => h.block k (by omega) (fun e => by cases e; omega)⟩
theorem RowI.other {α : Type} {Hd : Hdt α} (hs : Stays Hd) {ty : TypeId} {n lo R : Nat} {w w' : World} {v : Value} {l : List α} (h : RowI Hd ty n lo w v l) (hR : R < lo) (hg : Gx R w w') : RowI Hd ty n lo w' v l := by
  obtain ⟨css, h1, h2, h3, h4⟩ := h
  have hne : v.ownBlock ≠ some R := fun e => by have := (World.ownsRow.lt h1 R e).1; omega
  refine ⟨css, World.ownsRow.kept h1 hg (.inr hne), h2, h3, fun j a b => hs.out (S := Sx lo w v) (fun b hb hl => hg.block b hl (fun e => by cases e; have := hb.1; omega)) (fun b hb => ⟨hb.1, by have := hb.2.1; have := hg.size; omega, hb.2.2⟩) (h4 j a b)⟩
theorem RowI.snoc {α : Type} {Hd : Hdt α} (hs : Stays Hd) {ty : TypeId} {n lo : Nat} {w2 w3 : World} {v v' : Value} {l : List α} {x : α} {c : List Value} {css : List (List Value)}
    (h1 : w2.ownsRow lo ty n v l.length css.flatten) (h2 : css.length = l.length) (h3 : ∀ c ∈ css, c.length = n) (h4 : ∀ j (h1 : j < css.length) (h2 : j < l.length), Hd (Sx lo w2 v) w2 css[j] l[j])
    (hx : Hd (Sx lo w2 v) w2 c x) (hc : c.length = n) (hgr : w2.grownBy w3 v.ownBlock) (hown : w3.ownsRow lo ty n v' (l.length + 1) (css.flatten ++ c)) (hb : v'.ownBlock = v.ownBlock ∨ v'.ownBlock = some w2.heap.size) : RowI Hd ty n lo w3 v' (l ++ [x]) := by
  have kp : Keep (Sx lo w2 v) w2 w3 := fun b hb hl => hgr.block b hl (fun e => hb.2.2 e.symm)
  have up : ∀ b, Sx lo w2 v b → Sx lo w3 v' b := fun b h => ⟨h.1, by have := h.2.1; have := hgr.size; omega, fun e => by
    rcases hb with hb | hb
    · exact h.2.2 (hb ▸ e)
    · rw [hb] at e; cases e; have := h.2.1; omega⟩
  refine ⟨css ++ [c], by rw [List.length_append]; simpa using hown, by simp [h2], fun d hd => ?_, fun j a b => ?_⟩
  · rcases List.mem_append.1 hd with hd | hd
    · exact h3 d hd
    · simp at hd; rw [hd]; exact hc
  · by_cases hj : j < css.length
    · rw [List.getElem_append_left hj, List.getElem_append_left (by omega)]
      exact hs.out kp up (h4 j hj (by omega))
    · obtain rfl : j = css.length := by simp at a; omega
      have e1 : (css ++ [c])[css.length]'a = c := by simp
      have e2 : (l ++ [x])[css.length]'b = x := by simp [h2]
      rw [e1, e2]
      exact hs.out kp up hx
/-- The cells of an element, in memory. -/
theorem flat_at {n : Nat} {css : List (List Value)} (h3 : ∀ c ∈ css, c.length = n) : ∀ (j : Nat) (hj : j < css.length) (i : Nat), i < n → css.flatten[j * n + i]? = css[j][i]? := by
  induction css with
  | nil => intro j hj; simp at hj
  | cons c r ih =>
    intro j hj i hi
    have hc : c.length = n := h3 c (by simp)
    cases j with
    | zero =>
      rw [List.flatten_cons, List.getElem?_append_left (by omega)]
      simp
    | succ j =>
      rw [List.flatten_cons, List.getElem?_append_right (by rw [hc, Nat.succ_mul]; omega), hc, show (j + 1) * n + i - n = j * n + i by rw [Nat.succ_mul]; omega, ih (fun d hd => h3 d (by simp [hd])) j (by simpa using hj) i hi]
      simp
theorem RowI.rr {α : Type} {Hd : Hdt α} {ty : TypeId} {n lo : Nat} {w : World} {v : Value} {l : List α} {Ly : World → Nat → Nat → α → Prop} {S : Nat → Prop} (h : RowI Hd ty n lo w v l) (hl : l.length ≤ 140737488351232) (hS : ∀ b, lo ≤ b → b < w.heap.size → S b)
    (hly : ∀ g o c x, S g → (∀ i u, c[i]? = some u → w.cell? ⟨g, o + i, none⟩ = some u) → c.length = n → Hd (Sx lo w v) w c x → Ly w g o x) : RrS n Ly S w v l := by
  obtain ⟨css, h1, h2, h3, h4⟩ := h
  rcases h1.2 with ⟨rfl, h0⟩ | ⟨g, cap, cur, rfl, hb, hh, hn, hm, hcs, htk⟩
  · have : l = [] := List.eq_nil_of_length_eq_zero h0
    subst this
    exact ⟨none, 0, rfl, by simp, by omega, by simp, fun _ => rfl, .inl rfl⟩
  · have hlt := (World.ownsRow.lt h1 g rfl)
    refine ⟨_, cap, rfl, hn, by unfold maxLen at hm; omega, hl, (fun h => by cases h), .inr ⟨g, 0, rfl, hS g hlt.1 hlt.2, fun j hj => ?_⟩⟩
    have hjc : j < css.length := by omega
    refine hly g (0 + j * n) css[j] l[j] (hS g hlt.1 hlt.2) (fun i u hu => ?_) (h3 _ (List.getElem_mem hjc)) (h4 j hjc hj)
    have hi : i < n := by
      have := (List.getElem?_eq_some_iff.1 hu).1
      rw [h3 _ (List.getElem_mem hjc)] at this
      exact this
    have hcl := World.ownsRow.cells (g := g) h1 rfl (j * n + i) u (by rw [flat_at h3 j hjc i hi]; exact hu)
    rw [Leb.add_none] at hcl
    rw [Nat.add_assoc]
    exact hcl
end Go.Proofs.Ytgknjjaemjkloaa.YRs
