/- Which programs may be run, plainly (package verify). -/
import Derived.Test.YtgknjjaemjkloaaProg
import Derived.WalkKit
import Derived.ProofKit
import Derived.Below
import Derived.Laws.AppendOwn
import Derived.Test.YtgknjjaemjkloaaUOwn
import Derived.Test.YtgknjjaemjkloaaYPl
import Derived.Test.YtgknjjaemjkloaaUWord
import Derived.Test.YtgknjjaemjkloaaTMeas
import Derived.Test.YtgknjjaemjkloaaCPu
namespace Go.Proofs.Ytgknjjaemjkloaa.Base
open Go.RowKit
set_option linter.unusedVariables false

/-- What a value holds: kind, bool, int, text, names, elements. -/
structure C where
  mk ::
  (k0 : Int) (b0 : Bool) (i0 : Int) (s0 : ByteArray) (n0 : List ByteArray) (l0 : List C)
def C.k : C → Int | .mk k _ _ _ _ _ => k
def C.b : C → Bool | .mk _ b _ _ _ _ => b
def C.i : C → Int | .mk _ _ i _ _ _ => i
def C.s : C → ByteArray | .mk _ _ _ s _ _ => s
def C.n : C → List ByteArray | .mk _ _ _ _ n _ => n
def C.l : C → List C | .mk _ _ _ _ _ l => l

def room : ByteArray := ⟨#[126, 114, 111, 111, 109]⟩
def behind : ByteArray := ⟨#[126, 98, 101, 104, 105, 110, 100]⟩
def room7 : Value := .agg #[.int .i64 (-7), .bool false, .int .i64 0, .string ⟨#[]⟩, .slice none 0 0, .slice none 0 0]
/-- Six cells in a row, as one. -/
def Six (w : World) (g o : Nat) (u : Value) : Prop :=
  ∃ v0 v1 v2 v3 v4 v5, u = .agg #[v0, v1, v2, v3, v4, v5] ∧ w.cell? ⟨g, o, none⟩ = some v0 ∧ w.cell? ⟨g, o + 1, none⟩ = some v1 ∧ w.cell? ⟨g, o + 2, none⟩ = some v2 ∧
    w.cell? ⟨g, o + 3, none⟩ = some v3 ∧ w.cell? ⟨g, o + 4, none⟩ = some v4 ∧ w.cell? ⟨g, o + 5, none⟩ = some v5

/-- v is a list of the texts n; r: with marked room behind them; their block is one of S. -/
def Tx (r : Bool) (S : Nat → Prop) (w : World) (v : Value) (n : List ByteArray) : Prop :=
  ∃ a cap, v = .slice a n.length cap ∧ n.length ≤ cap ∧ cap ≤ maxLen ∧ n.length * 16 ≤ 140737488351232 ∧ (∀ t ∈ n, t.size ≤ 140737488351232) ∧ (a = none → cap = 0) ∧
    ((n = [] ∧ r = false) ∨ ∃ g o, a = some ⟨g, o, none⟩ ∧ S g ∧ (∀ j (h : j < n.length), w.cell? ⟨g, o + j, none⟩ = some (.string n[j])) ∧
      (r = true → n.length + 2 ≤ cap ∧ w.cell? ⟨g, o + n.length, none⟩ = some (.string room) ∧ w.cell? ⟨g, o + n.length + 1, none⟩ = some (.string behind)))
/-- v lies in w and holds c, nested less than m deep. -/
def In (r : Bool) (S : Nat → Prop) (w : World) : Nat → Value → C → Prop
  | 0, _, _ => False
  | m + 1, v, .mk k b i s n l => ∃ nv a cap, v = .agg #[.int .i64 k, .bool b, .int .i64 i, .string s, nv, .slice a l.length cap] ∧
      (-9223372036854775808 ≤ k ∧ k ≤ 9223372036854775807) ∧ (-9223372036854775808 ≤ i ∧ i ≤ 9223372036854775807) ∧ s.size ≤ 140737488351232 ∧ Tx r S w nv n ∧
      l.length ≤ cap ∧ cap ≤ maxLen ∧ l.length * 88 ≤ 140737488351232 ∧ (a = none → cap = 0) ∧
      ((l = [] ∧ r = false) ∨ ∃ g o, a = some ⟨g, o, none⟩ ∧ S g ∧ (∀ j (h : j < l.length), ∃ u, Six w g (o + j * 6) u ∧ In r S w m u l[j]) ∧
        (r = true → l.length + 2 ≤ cap ∧ Six w g (o + l.length * 6) room7 ∧ Six w g (o + l.length * 6 + 6) room7))

/-- v is a list of the values l. -/
def InL (r : Bool) (S : Nat → Prop) (w : World) (m : Nat) (v : Value) (l : List C) : Prop :=
  ∃ a cap, v = .slice a l.length cap ∧ l.length ≤ cap ∧ cap ≤ maxLen ∧ l.length * 88 ≤ 140737488351232 ∧ (a = none → cap = 0) ∧
      ((l = [] ∧ r = false) ∨ ∃ g o, a = some ⟨g, o, none⟩ ∧ S g ∧ (∀ j (h : j < l.length), ∃ u, Six w g (o + j * 6) u ∧ In r S w m u l[j]) ∧
        (r = true → l.length + 2 ≤ cap ∧ Six w g (o + l.length * 6) room7 ∧ Six w g (o + l.length * 6 + 6) room7))
theorem in_iff {r : Bool} {S : Nat → Prop} {w : World} {m : Nat} {v : Value} {k : Int} {b : Bool} {i : Int} {s : ByteArray} {n : List ByteArray} {l : List C} :
    In r S w (m + 1) v (.mk k b i s n l) ↔ ∃ nv lv, v = .agg #[.int .i64 k, .bool b, .int .i64 i, .string s, nv, lv] ∧
      (-9223372036854775808 ≤ k ∧ k ≤ 9223372036854775807) ∧ (-9223372036854775808 ≤ i ∧ i ≤ 9223372036854775807) ∧ s.size ≤ 140737488351232 ∧ Tx r S w nv n ∧ InL r S w m lv l := by
  constructor
  · intro h
    rw [In] at h
    obtain ⟨nv, a, cap, h1, h2, h3, h4, h5, h6⟩ := h
    exact ⟨nv, _, h1, h2, h3, h4, h5, a, cap, rfl, h6⟩
  · rintro ⟨nv, lv, h1, h2, h3, h4, h5, a, cap, rfl, h6⟩
    rw [In]
    exact ⟨nv, a, cap, h1, h2, h3, h4, h5, h6⟩

theorem cell_lt {w : World} {a : Addr} {v : Value} (h : w.cell? a = some v) : a.block < w.heap.size := by
  unfold World.cell? at h
  split at h
  · next hh => exact (Array.getElem?_eq_some_iff.1 hh).1
  · cases h
/-- The blocks of S that stand in w are as they were. -/
def Keep (S : Nat → Prop) (w w' : World) : Prop := ∀ b, S b → b < w.heap.size → w'.heap[b]? = w.heap[b]?
theorem Keep.cell {S : Nat → Prop} {w w' : World} (h : Keep S w w') {g o : Nat} {v : Value} (hS : S g) (hc : w.cell? ⟨g, o, none⟩ = some v) : w'.cell? ⟨g, o, none⟩ = some v :=
  (World.cell?_of_block (w := w) (h g hS (cell_lt hc))).trans hc
theorem Keep.six {S : Nat → Prop} {w w' : World} (h : Keep S w w') {g o : Nat} {v : Value} (hS : S g) (hc : Six w g o v) : Six w' g o v := by
  obtain ⟨v0, v1, v2, v3, v4, v5, rfl, c0, c1, c2, c3, c4, c5⟩ := hc
  exact ⟨v0, v1, v2, v3, v4, v5, rfl, h.cell hS c0, h.cell hS c1, h.cell hS c2, h.cell hS c3, h.cell hS c4, h.cell hS c5⟩
theorem Keep.of_below {S : Nat → Prop} {w w' : World} (h : Below w.heap.size w w') : Keep S w w' := fun b _ hb => h.block b hb
theorem Tx.keep {r : Bool} {S : Nat → Prop} {w w' : World} {v : Value} {n : List ByteArray} (h : Tx r S w v n) (hk : Keep S w w') : Tx r S w' v n := by
  obtain ⟨a, cap, h1, h2, h3, h4, h5, h6, h7⟩ := h
  refine ⟨a, cap, h1, h2, h3, h4, h5, h6, ?_⟩
  rcases h7 with h7 | ⟨g, o, ha, hS, hc, hr⟩
  · exact .inl h7
  · exact .inr ⟨g, o, ha, hS, fun j hj => hk.cell hS (hc j hj), fun hr' => ⟨(hr hr').1, hk.cell hS (hr hr').2.1, hk.cell hS (hr hr').2.2⟩⟩
theorem InL.keep_of {r : Bool} {S : Nat → Prop} {w w' : World} {m : Nat} (ih : ∀ (v : Value) (c : C), In r S w m v c → In r S w' m v c) {v : Value} {l : List C} (h : InL r S w m v l) (hk : Keep S w w') : InL r S w' m v l := by
  obtain ⟨a, cap, h1, h2, h3, h4, h5, h6⟩ := h
  refine ⟨a, cap, h1, h2, h3, h4, h5, ?_⟩
  rcases h6 with h6 | ⟨g, o, ha, hS, hc, hr⟩
  · exact .inl h6
  · refine .inr ⟨g, o, ha, hS, fun j hj => ?_, fun hr' => ⟨(hr hr').1, hk.six hS (hr hr').2.1, hk.six hS (hr hr').2.2⟩⟩
    obtain ⟨u, hu, hi⟩ := hc j hj
    exact ⟨u, hk.six hS hu, ih _ _ hi⟩
theorem In.keep {r : Bool} {S : Nat → Prop} {w w' : World} (hk : Keep S w w') : ∀ {m : Nat} {v : Value} {c : C}, In r S w m v c → In r S w' m v c := by
  intro m
  induction m with
  | zero => intro v c h; rw [In] at h; exact h.elim
  | succ m ih =>
    intro v c h
    obtain ⟨k, b, i, s, n, l⟩ := c
    rw [in_iff] at h ⊢
    obtain ⟨nv, lv, h1, h2, h3, h4, h5, h6⟩ := h
    exact ⟨nv, lv, h1, h2, h3, h4, h5.keep hk, h6.keep_of (fun v c => ih) hk⟩
theorem InL.keep {r : Bool} {S : Nat → Prop} {w w' : World} {m : Nat} {v : Value} {l : List C} (h : InL r S w m v l) (hk : Keep S w w') : InL r S w' m v l := h.keep_of (fun v c h => h.keep hk) hk
theorem Tx.below {r : Bool} {S : Nat → Prop} {w w' : World} {v : Value} {n : List ByteArray} (h : Tx r S w v n) (hk : Below w.heap.size w w') : Tx r S w' v n := h.keep (.of_below hk)
theorem In.below {r : Bool} {S : Nat → Prop} {w w' : World} {m : Nat} {v : Value} {c : C} (h : In r S w m v c) (hk : Below w.heap.size w w') : In r S w' m v c := h.keep (.of_below hk)
theorem InL.below {r : Bool} {S : Nat → Prop} {w w' : World} {m : Nat} {v : Value} {l : List C} (h : InL r S w m v l) (hk : Below w.heap.size w w') : InL r S w' m v l := h.keep (.of_below hk)
/-- Less asked: no room, more blocks, deeper. -/
theorem Tx.weak {r : Bool} {S S' : Nat → Prop} {w : World} {v : Value} {n : List ByteArray} (hS : ∀ b, S b → S' b) (r' : Bool) (hr : r' = true → r = true) (h : Tx r S w v n) : Tx r' S' w v n := by
  obtain ⟨a, cap, h1, h2, h3, h4, h5, h6, h7⟩ := h
  refine ⟨a, cap, h1, h2, h3, h4, h5, h6, ?_⟩
  rcases h7 with ⟨h7, h8⟩ | ⟨g, o, ha, hg, hc, hr0⟩
  · refine .inl ⟨h7, ?_⟩
    cases r' with
    | true => rw [hr rfl] at h8; cases h8
    | false => rfl
  · exact .inr ⟨g, o, ha, hS _ hg, hc, fun h => hr0 (hr h)⟩
theorem InL.weak_of {r : Bool} {S S' : Nat → Prop} {w : World} {m m' : Nat} {v : Value} {l : List C} (hS : ∀ b, S b → S' b) (r' : Bool) (hr : r' = true → r = true) (ih : ∀ (v : Value) (c : C), In r S w m v c → In r' S' w m' v c)
    (h : InL r S w m v l) : InL r' S' w m' v l := by
  obtain ⟨a, cap, h1, h2, h3, h4, h5, h6⟩ := h
  refine ⟨a, cap, h1, h2, h3, h4, h5, ?_⟩
  rcases h6 with ⟨h7, h8⟩ | ⟨g, o, ha, hg, hc, hr0⟩
  · refine .inl ⟨h7, ?_⟩
    cases r' with
    | true => rw [hr rfl] at h8; cases h8
    | false => rfl
  · refine .inr ⟨g, o, ha, hS _ hg, fun j hj => ?_, fun h => hr0 (hr h)⟩
    obtain ⟨u, hu, hi⟩ := hc j hj
    exact ⟨u, hu, ih _ _ hi⟩
theorem In.weak {r : Bool} {S S' : Nat → Prop} {w : World} (hS : ∀ b, S b → S' b) (r' : Bool) (hr : r' = true → r = true) : ∀ {m : Nat} (m' : Nat) {v : Value} {c : C}, m ≤ m' → In r S w m v c → In r' S' w m' v c := by
  intro m
  induction m with
  | zero => intro m' v c _ h; rw [In] at h; exact h.elim
  | succ m ih =>
    intro m' v c hm h
    obtain ⟨m', rfl⟩ : ∃ q, m' = q + 1 := ⟨m' - 1, by omega⟩
    obtain ⟨k, b, i, s, n, l⟩ := c
    rw [in_iff] at h ⊢
    obtain ⟨nv, lv, h1, h2, h3, h4, h5, h6⟩ := h
    exact ⟨nv, lv, h1, h2, h3, h4, h5.weak hS r' hr, h6.weak_of hS r' hr (fun v c h => ih m' (by omega) h)⟩
theorem InL.weak {r : Bool} {S S' : Nat → Prop} {w : World} (hS : ∀ b, S b → S' b) (r' : Bool) (hr : r' = true → r = true) {m : Nat} (m' : Nat) {v : Value} {l : List C} (hm : m ≤ m') (h : InL r S w m v l) : InL r' S' w m' v l :=
  h.weak_of hS r' hr (fun v c h => h.weak hS r' hr m' hm)
/-- Any block. -/
def All : Nat → Prop := fun _ => True
theorem In.plain {r : Bool} {S : Nat → Prop} {w : World} {m : Nat} {v : Value} {c : C} (h : In r S w m v c) : In false All w m v c := h.weak (fun _ _ => trivial) false (fun h => by cases h) m (Nat.le_refl _)
theorem InL.plain {r : Bool} {S : Nat → Prop} {w : World} {m : Nat} {v : Value} {c : List C} (h : InL r S w m v c) : InL false All w m v c := h.weak (fun _ _ => trivial) false (fun h => by cases h) m (Nat.le_refl _)
theorem Tx.plain {r : Bool} {S : Nat → Prop} {w : World} {v : Value} {n : List ByteArray} (h : Tx r S w v n) : Tx false All w v n := h.weak (fun _ _ => trivial) false (fun h => by cases h)
/-- A box of six cells. -/
theorem six_box {w : World} {B : Nat} {v0 v1 v2 v3 v4 v5 : Value} {t : TypeId} (h : w.heap[B]? = some (.cells #[v0, v1, v2, v3, v4, v5] t (0, 0))) :
    w.cell? ⟨B, 0, none⟩ = some v0 ∧ w.cell? ⟨B, 1, none⟩ = some v1 ∧ w.cell? ⟨B, 2, none⟩ = some v2 ∧ w.cell? ⟨B, 3, none⟩ = some v3 ∧ w.cell? ⟨B, 4, none⟩ = some v4 ∧ w.cell? ⟨B, 5, none⟩ = some v5 := by
  refine ⟨?_, ?_, ?_, ?_, ?_, ?_⟩ <;> simp [World.cell?, h]
theorem nx {a b c : World} (h : Below a.heap.size a b) (k : Below b.heap.size b c) : Below a.heap.size a c := h.trans (k.mono h.size)
theorem nxB {B : Nat} {a b c : World} (h : Below B a b) (hB : B ≤ a.heap.size) (k : Below b.heap.size b c) : Below B a c := h.trans (k.mono (by have := h.size; omega))
theorem add_none (g o j : Nat) : (⟨g, o, none⟩ : Addr).add j = ⟨g, o + j, none⟩ := by
  unfold Addr.add
  split
  · simp_all
  · rfl
theorem heap_alloc_new (w : World) (o : Obj) : (w.alloc o).heap[w.heap.size]? = some o := by
  show (w.heap.push o)[w.heap.size]? = _
  simp
/-- What a box holds in a later world. -/
theorem box_at {w wr : World} {vs : Array Value} {t : TypeId} (h : Below (w.heap.size + 1) (w.alloc (.cells vs t)) wr) : wr.heap[w.heap.size]? = some (.cells vs t (0, 0)) :=
  (h.block _ (by omega)).trans (heap_alloc_new w _)
theorem below_box {w wr : World} {o : Obj} (h : Below (w.heap.size + 1) (w.alloc o) wr) : Below w.heap.size w wr := ((Below.refl _ w).alloc (Nat.le_refl _) o).trans (h.mono (by omega))
/-- An element of a list. -/
def LAt (r : Bool) (S : Nat → Prop) (w : World) (m : Nat) (a : Option Addr) (cap : Nat) (l : List C) : Prop := (l = [] ∧ r = false) ∨ ∃ g o, a = some ⟨g, o, none⟩ ∧ S g ∧ (∀ j (h : j < l.length), ∃ u, Six w g (o + j * 6) u ∧ In r S w m u l[j]) ∧
        (r = true → l.length + 2 ≤ cap ∧ Six w g (o + l.length * 6) room7 ∧ Six w g (o + l.length * 6 + 6) room7)
def NAt (r : Bool) (S : Nat → Prop) (w : World) (a : Option Addr) (cap : Nat) (n : List ByteArray) : Prop := (n = [] ∧ r = false) ∨ ∃ g o, a = some ⟨g, o, none⟩ ∧ S g ∧ (∀ j (h : j < n.length), w.cell? ⟨g, o + j, none⟩ = some (.string n[j])) ∧
      (r = true → n.length + 2 ≤ cap ∧ w.cell? ⟨g, o + n.length, none⟩ = some (.string room) ∧ w.cell? ⟨g, o + n.length + 1, none⟩ = some (.string behind))
theorem InL.out {r : Bool} {S : Nat → Prop} {w : World} {m : Nat} {v : Value} {l : List C} (h : InL r S w m v l) :
    ∃ a cap, v = .slice a l.length cap ∧ l.length ≤ cap ∧ cap ≤ 9223372036854775807 ∧ l.length * 88 ≤ 140737488351232 ∧ (a = none → cap = 0) ∧ LAt r S w m a cap l := h
theorem Tx.out {r : Bool} {S : Nat → Prop} {w : World} {v : Value} {n : List ByteArray} (h : Tx r S w v n) :
    ∃ a cap, v = .slice a n.length cap ∧ n.length ≤ cap ∧ cap ≤ 9223372036854775807 ∧ n.length * 16 ≤ 140737488351232 ∧ (∀ t ∈ n, t.size ≤ 140737488351232) ∧ (a = none → cap = 0) ∧ NAt r S w a cap n := h
theorem elem_at {r : Bool} {S : Nat → Prop} {w : World} {m : Nat} {a : Option Addr} {cap : Nat} {l : List C} (hL : LAt r S w m a cap l) {q : Nat} (h : q < l.length) :
    ∃ g o u, a = some ⟨g, o, none⟩ ∧ S g ∧ Six w g (o + q * 6) u ∧ In r S w m u l[q] := by
  rcases hL with ⟨rfl, _⟩ | ⟨g, o, ha, hS, hc, _⟩
  · simp at h
  · obtain ⟨u, hu, hi⟩ := hc q h
    exact ⟨g, o, u, ha, hS, hu, hi⟩
theorem name_at {r : Bool} {S : Nat → Prop} {w : World} {a : Option Addr} {cap : Nat} {n : List ByteArray} (hL : NAt r S w a cap n) {q : Nat} (h : q < n.length) :
    ∃ g o, a = some ⟨g, o, none⟩ ∧ S g ∧ w.cell? ⟨g, o + q, none⟩ = some (.string n[q]) := by
  rcases hL with ⟨rfl, _⟩ | ⟨g, o, ha, hS, hc, _⟩
  · simp at h
  · exact ⟨g, o, ha, hS, hc q h⟩
theorem six_below {w w' : World} {g o : Nat} {u : Value} (h : Six w g o u) (hb : Below w.heap.size w w') : Six w' g o u := (Keep.of_below (S := All) hb).six trivial h
theorem below_cell {w w' : World} {g o : Nat} {u : Value} (h : w.cell? ⟨g, o, none⟩ = some u) (hb : Below w.heap.size w w') : w'.cell? ⟨g, o, none⟩ = some u := (Keep.of_below (S := All) hb).cell trivial h
theorem In.six {r : Bool} {S : Nat → Prop} {w : World} {m : Nat} {v : Value} {c : C} (h : In r S w m v c) :
    ∃ v0 v1 v2 v3 v4 v5, v = .agg #[v0, v1, v2, v3, v4, v5] ∧ ∀ u ∈ [v0, v1, v2, v3, v4, v5], u.oneCell' = true := by
  cases m with
  | zero => rw [In] at h; exact h.elim
  | succ m =>
    obtain ⟨k, b, i, s, n, l⟩ := c
    rw [in_iff] at h
    obtain ⟨nv, lv, rfl, -, -, -, ⟨a, ca, rfl, -⟩, ⟨a', ca', rfl, -⟩⟩ := h
    refine ⟨_, _, _, _, _, _, rfl, ?_⟩
    intro u hu
    simp at hu
    rcases hu with rfl | rfl | rfl | rfl | rfl | rfl <;> rfl
theorem In.shape {r : Bool} {S : Nat → Prop} {w : World} {m : Nat} {v : Value} {c : C} (h : In r S w m v c) :
    ∃ m' nv lv, m = m' + 1 ∧ v = .agg #[.int .i64 c.k, .bool c.b, .int .i64 c.i, .string c.s, nv, lv] ∧
      (-9223372036854775808 ≤ c.k ∧ c.k ≤ 9223372036854775807) ∧ (-9223372036854775808 ≤ c.i ∧ c.i ≤ 9223372036854775807) ∧ c.s.size ≤ 140737488351232 ∧ Tx r S w nv c.n ∧ InL r S w m' lv c.l := by
  cases m with
  | zero => rw [In] at h; exact h.elim
  | succ m =>
    obtain ⟨k, b, i, s, n, l⟩ := c
    rw [in_iff] at h
    obtain ⟨nv, lv, h⟩ := h
    exact ⟨m, nv, lv, rfl, h⟩
theorem hid {p : Prop} (h : p) : Hid p := h
theorem alB {W U : World} {o : Obj} (e : W.alloc o = U) : Below W.heap.size W U := by rw [← e]; exact (Below.refl _ W).alloc (Nat.le_refl _) _
theorem alG {W U : World} {o : Obj} (e : W.alloc o = U) : U.heap[W.heap.size]? = some o := by rw [← e]; exact heap_alloc_new W _
theorem alS {W U : World} {o : Obj} (e : W.alloc o = U) : W.heap.size < U.heap.size := by rw [← e]; simp
theorem stc2 (W : World) (B : Nat) (a0 a1 : Value) : ∃ Y, ((W.setCell ⟨B, 0, none⟩ a0).setCell ⟨B, 1, none⟩ a1) = Y := ⟨_, rfl⟩
theorem stc3 (W : World) (B : Nat) (a0 a1 a2 : Value) : ∃ Y, (((W.setCell ⟨B, 0, none⟩ a0).setCell ⟨B, 1, none⟩ a1).setCell ⟨B, 2, none⟩ a2) = Y := ⟨_, rfl⟩
theorem stc4 (W : World) (B : Nat) (a0 a1 a2 a3 : Value) : ∃ Y, ((((W.setCell ⟨B, 0, none⟩ a0).setCell ⟨B, 1, none⟩ a1).setCell ⟨B, 2, none⟩ a2).setCell ⟨B, 3, none⟩ a3) = Y := ⟨_, rfl⟩
theorem stc5 (W : World) (B : Nat) (a0 a1 a2 a3 a4 : Value) : ∃ Y, (((((W.setCell ⟨B, 0, none⟩ a0).setCell ⟨B, 1, none⟩ a1).setCell ⟨B, 2, none⟩ a2).setCell ⟨B, 3, none⟩ a3).setCell ⟨B, 4, none⟩ a4) = Y := ⟨_, rfl⟩
theorem stc6 (W : World) (B : Nat) (a0 a1 a2 a3 a4 a5 : Value) : ∃ Y, ((((((W.setCell ⟨B, 0, none⟩ a0).setCell ⟨B, 1, none⟩ a1).setCell ⟨B, 2, none⟩ a2).setCell ⟨B, 3, none⟩ a3).setCell ⟨B, 4, none⟩ a4).setCell ⟨B, 5, none⟩ a5) = Y := ⟨_, rfl⟩
theorem stc7 (W : World) (B : Nat) (a0 a1 a2 a3 a4 a5 a6 : Value) : ∃ Y, (((((((W.setCell ⟨B, 0, none⟩ a0).setCell ⟨B, 1, none⟩ a1).setCell ⟨B, 2, none⟩ a2).setCell ⟨B, 3, none⟩ a3).setCell ⟨B, 4, none⟩ a4).setCell ⟨B, 5, none⟩ a5).setCell ⟨B, 6, none⟩ a6) = Y := ⟨_, rfl⟩
theorem frzb {w : World} {B : Nat} {cs : Array Value} {t : TypeId} (h : w.heap[B]? = some (.cells cs t (0, 0))) (j : Nat) : w.frozen? ⟨B, j, none⟩ = false := by
  simp [World.frozen?, h]
theorem frz2 {W : World} {B : Nat} {cs : Array Value} {t : TypeId} (h : W.heap[B]? = some (.cells cs t (0, 0))) : W.frozen? ⟨B, 0, none⟩ = false ∧ W.frozen? ⟨B, 1, none⟩ = false := ⟨frzb h 0, frzb h 1⟩
theorem frz3 {W : World} {B : Nat} {cs : Array Value} {t : TypeId} (h : W.heap[B]? = some (.cells cs t (0, 0))) : W.frozen? ⟨B, 0, none⟩ = false ∧ W.frozen? ⟨B, 1, none⟩ = false ∧ W.frozen? ⟨B, 2, none⟩ = false := ⟨frzb h 0, frzb h 1, frzb h 2⟩
theorem frz4 {W : World} {B : Nat} {cs : Array Value} {t : TypeId} (h : W.heap[B]? = some (.cells cs t (0, 0))) : W.frozen? ⟨B, 0, none⟩ = false ∧ W.frozen? ⟨B, 1, none⟩ = false ∧ W.frozen? ⟨B, 2, none⟩ = false ∧ W.frozen? ⟨B, 3, none⟩ = false := ⟨frzb h 0, frzb h 1, frzb h 2, frzb h 3⟩
theorem frz5 {W : World} {B : Nat} {cs : Array Value} {t : TypeId} (h : W.heap[B]? = some (.cells cs t (0, 0))) : W.frozen? ⟨B, 0, none⟩ = false ∧ W.frozen? ⟨B, 1, none⟩ = false ∧ W.frozen? ⟨B, 2, none⟩ = false ∧ W.frozen? ⟨B, 3, none⟩ = false ∧ W.frozen? ⟨B, 4, none⟩ = false := ⟨frzb h 0, frzb h 1, frzb h 2, frzb h 3, frzb h 4⟩
theorem frz6 {W : World} {B : Nat} {cs : Array Value} {t : TypeId} (h : W.heap[B]? = some (.cells cs t (0, 0))) : W.frozen? ⟨B, 0, none⟩ = false ∧ W.frozen? ⟨B, 1, none⟩ = false ∧ W.frozen? ⟨B, 2, none⟩ = false ∧ W.frozen? ⟨B, 3, none⟩ = false ∧ W.frozen? ⟨B, 4, none⟩ = false ∧ W.frozen? ⟨B, 5, none⟩ = false := ⟨frzb h 0, frzb h 1, frzb h 2, frzb h 3, frzb h 4, frzb h 5⟩
theorem frz7 {W : World} {B : Nat} {cs : Array Value} {t : TypeId} (h : W.heap[B]? = some (.cells cs t (0, 0))) : W.frozen? ⟨B, 0, none⟩ = false ∧ W.frozen? ⟨B, 1, none⟩ = false ∧ W.frozen? ⟨B, 2, none⟩ = false ∧ W.frozen? ⟨B, 3, none⟩ = false ∧ W.frozen? ⟨B, 4, none⟩ = false ∧ W.frozen? ⟨B, 5, none⟩ = false ∧ W.frozen? ⟨B, 6, none⟩ = false := ⟨frzb h 0, frzb h 1, frzb h 2, frzb h 3, frzb h 4, frzb h 5, frzb h 6⟩
theorem frz8 {W : World} {B : Nat} {cs : Array Value} {t : TypeId} (h : W.heap[B]? = some (.cells cs t (0, 0))) : W.frozen? ⟨B, 0, none⟩ = false ∧ W.frozen? ⟨B, 1, none⟩ = false ∧ W.frozen? ⟨B, 2, none⟩ = false ∧ W.frozen? ⟨B, 3, none⟩ = false ∧ W.frozen? ⟨B, 4, none⟩ = false ∧ W.frozen? ⟨B, 5, none⟩ = false ∧ W.frozen? ⟨B, 6, none⟩ = false ∧ W.frozen? ⟨B, 7, none⟩ = false := ⟨frzb h 0, frzb h 1, frzb h 2, frzb h 3, frzb h 4, frzb h 5, frzb h 6, frzb h 7⟩
end Go.Proofs.Ytgknjjaemjkloaa.Base

namespace Go.Proofs.Ytgknjjaemjkloaa.STx
open Go.RowKit Go.Proofs.Ytgknjjaemjkloaa.Base Go.Proofs.Ytgknjjaemjkloaa.UBase Go.Proofs.Ytgknjjaemjkloaa.UValid Go.Proofs.Ytgknjjaemjkloaa.UOwn
set_option linter.unusedVariables false

/-- A text that may be. -/
def tg (s : ByteArray) : Bool := decide (s.size ≤ 4096) && (verr s == 0)
theorem iter_below (w : World) (s : ByteArray) (p : Nat) : Below w.heap.size w (w.iter s p) := (Below.refl _ w).alloc (Nat.le_refl _) _
theorem verr_cases (s : ByteArray) : verr s = 0 ∨ verr s = 300 := by
  cases h : bad s 0 with
  | none => exact .inl (verr_none h).2
  | some i => exact .inr (verr_some h).2
theorem tmb_c (s : ByteArray) (hs : s.size ≤ 140737488351232) (w : World) :
    Calls Try.prog 56 #[.string s] w fun r w' => r = .returned (.bool (tg s)) ∧ Below w.heap.size w w' := by
  have c71 := valid_c s (by omega) w
  by_cases h : s.size ≤ 4096
  · have e : tg s = (verr s == 0) := by simp [tg, h]
    rw [e]
    have hv := verr_cases s
    generalize verr s = x at *
    generalize vat s = y at *
    have h' : decide ((4096 : Int) < (s.size : Int)) = false := decide_eq_false (by omega)
    clear e
    rcases hv with rfl | rfl
    · go_enter Try.func56, Try.ntmps56
      go_wp2_with (first | (go_at_call 79; refine c71.mono ?_; rintro e w' ⟨rfl, p, rfl⟩))
      go_ret
      exact ⟨rfl, iter_below _ _ _⟩
    · go_enter Try.func56, Try.ntmps56
      go_wp2_with (first | (go_at_call 79; refine c71.mono ?_; rintro e w' ⟨rfl, p, rfl⟩))
      go_ret
      exact ⟨rfl, iter_below _ _ _⟩
  · have e : tg s = false := by simp [tg, h]
    rw [e]
    have h' : decide ((4096 : Int) < (s.size : Int)) = true := decide_eq_true (by omega)
    clear c71 e
    go_enter Try.func56, Try.ntmps56
    go_wp2_with fail
    go_ret
    exact ⟨rfl, Below.refl _ _⟩
end Go.Proofs.Ytgknjjaemjkloaa.STx

namespace Go.Proofs.Ytgknjjaemjkloaa.BPl
open Go.Proofs.Ytgknjjaemjkloaa.YPl (Oq Bk Pg)
open Go.Proofs.Ytgknjjaemjkloaa.TBase (T)
open Go.Proofs.Ytgknjjaemjkloaa.CPu (Ins)
set_option linter.unusedVariables false

/-- What is around a block or an operation: owned, looped, stack, elements, loops. -/
structure Ar where
  (ow lp : Bool) (st el ls : Int)
/-- What operations name: texts, needs of codes, depths of statics. -/
structure Sh where
  (t : List ByteArray) (n d : List Int)
/-- A body: what is around, lets, outer, closed. -/
structure Bd where
  (ar : Ar) (lt : Int) (ou : List Int) (cl : Int)
def ar0 : Ar := ⟨false, false, 0, 0, 0⟩
def isN (i : Int) (n : Nat) : Bool := bif decide (0 ≤ i) then decide (i < (n : Int)) else false
def txa (S : Sh) (i : Int) : ByteArray := S.t.getD i.toNat ByteArray.empty
def nda (S : Sh) (i : Int) : Int := S.n.getD i.toNat 0
def dpa (S : Sh) (i : Int) : Int := S.d.getD i.toNat 0
def isTg (S : Sh) (i : Int) : Bool := bif isN i S.t.length then UBase.word (txa S i) 45 else false
def isV (S : Sh) (o : Oq) : Bool := bif o.k == 4 then isN o.b S.t.length else isN o.b S.n.length
/-- Nothing is left. -/
def zr (n : Bool) (a b c : Int) (l : Nat) : Bool := bif n then (bif a == 0 then (bif b == 0 then (bif c == 0 then ((l : Int) == 0) else false) else false) else false) else false
def fits (S : Sh) (o : Oq) : Bool :=
  if o.k = 1 then zr (isN o.a S.t.length) 0 o.b o.c o.l.length
  else if o.k = 4 ∨ o.k = 5 then zr (bif isV S o then isTg S o.a else false) 0 0 o.c o.l.length
  else if o.k = 3 then zr (isTg S o.a) 0 o.b o.c o.l.length
  else if o.k = 9 then zr (bif isN o.b S.n.length then isN o.a S.n.length else false) 0 0 0 o.l.length
  else if o.k = 8 then zr (isN o.a S.n.length) 0 0 0 o.l.length
  else if o.k = 2 ∨ o.k = 11 then zr (isN o.a S.n.length) 0 o.b o.c o.l.length
  else if o.k = 10 then zr (bif decide ((o.l.length : Int) ≤ 64) then !(o.l.any fun i => !isN i S.n.length) else false) o.a o.b 0 0
  else if o.k = 7 then zr (isN o.a S.d.length) 0 o.b o.c o.l.length
  else if o.k = 12 then zr (decide (1 ≤ o.a)) 0 o.b o.c o.l.length
  else if o.k = 6 then zr true o.a o.b o.c o.l.length
  else false
def reaches (S : Sh) (st : Int) (o : Oq) : Bool :=
  if o.k = 5 then decide (nda S o.b ≤ st)
  else if o.k = 10 then !(o.l.any fun i => decide (st < nda S i))
  else if o.k = 9 then (if st + 2 < nda S o.b then false else decide (nda S o.a ≤ st))
  else if o.k = 2 ∨ o.k = 8 ∨ o.k = 11 then decide (nda S o.a ≤ st)
  else true
/-- The operation ahead. -/
def ahd (ops : List Oq) (p : Nat) : Oq := ops.getD (p - 1) ⟨0, 0, 0, 0, []⟩
def rises (S : Sh) (ops : List Oq) (p : Nat) (o : Oq) : Bool :=
  if p = 0 then false
  else if (ahd ops p).k = 3 then true
  else if (ahd ops p).k = 4 ∨ (ahd ops p).k = 5 then TPure.lt (txa S (ahd ops p).a) (txa S o.a)
  else false
def stands (S : Sh) (ops : List Oq) (b : Bd) (p : Nat) (o : Oq) : Bool :=
  if o.k = 4 ∨ o.k = 5 then rises S ops p o
  else if o.k = 3 then decide (b.ar.el + 1 ≤ 63)
  else if o.k = 7 then decide (b.ar.el + dpa S o.a ≤ 64)
  else if o.k = 6 then (bif decide ((0 : Int) < (b.ou.length : Int)) then b.lt == 0 else false)
  else if o.k = 12 then decide (o.a ≤ b.lt)
  else true
def bks (o : Oq) : List Int := if o.k = 8 then [o.b, o.c].filter (fun i => !(i == 0)) else if o.k = 9 ∨ o.k = 10 then [o.c] else []
def grows (o : Oq) : Int := if o.k = 9 then 2 else if o.k = 10 then o.l.length else if o.k = 11 then 1 else 0
def ins (a : Ar) (o : Oq) : Ar := ⟨a.ow, o.k == 9, a.st + grows o, a.el, if o.k = 9 then a.ls + 1 else a.ls⟩
/-- The blocks of an operation are taken, one after the other. -/
def clm (nb : Nat) (A : Ar) : List Int → List Ar → Option (List Ar)
  | [], H => some H
  | n :: r, H => if n ≤ (nb : Int) ∨ (H.length : Int) ≤ n ∨ (H.getD n.toNat ar0).ow = true then none else clm nb A r (H.set n.toNat A)
/-- An operation's fault, or what is around the blocks behind it. -/
def opf (S : Sh) (nb : Nat) (ops : List Oq) (b : Bd) (H : List Ar) (p : Nat) (o : Oq) : Except Int (List Ar) :=
  if p = 8192 ∨ fits S o = false then .error 2203
  else if reaches S b.ar.st o = false then .error 2201
  else if stands S ops b p o = false then .error 2204
  else match clm nb (ins b.ar o) (bks o) H with
    | none => .error 2205
    | some H' => if 64 < b.ar.st + grows o then .error 2208 else if o.k = 9 ∧ b.ar.ls = 8 then .error 2206 else .ok H'
def pass (b : Bd) (p : Nat) (o : Oq) : Bd :=
  if o.k = 3 then ⟨{ b.ar with el := b.ar.el + 1 }, 0, b.ou ++ [b.lt], b.cl⟩
  else if o.k = 6 then ⟨{ b.ar with el := b.ar.el - 1 }, b.ou.getD (b.ou.length - 1) 0, b.ou.take (b.ou.length - 1), if b.ou.length = 1 ∧ b.cl = 0 then p else b.cl⟩
  else if o.k = 11 then ⟨{ b.ar with st := b.ar.st + 1 }, b.lt + 1, b.ou, b.cl⟩
  else if o.k = 12 then ⟨{ b.ar with st := b.ar.st - o.a }, b.lt - o.a, b.ou, b.cl⟩
  else b
/-- The operations from place p on. -/
def gos (S : Sh) (nb : Nat) (ops : List Oq) : Nat → List Oq → Bd → List Ar → Except (Int × Int) (Bd × List Ar)
  | p, [], b, H => .ok (b, H)
  | p, o :: r, b, H => match opf S nb ops b H p o with
    | .error c => .error (p, c)
    | .ok H' => gos S nb ops (p + 1) r (pass b p o) H'
/-- One element and nothing beside it. -/
def item (ops : List Oq) (cl : Int) : Bool :=
  if ops = [] then false else if (ops.getD 0 ⟨0, 0, 0, 0, []⟩).k = 7 then (ops.length : Int) == 1 else if (ops.getD 0 ⟨0, 0, 0, 0, []⟩).k = 3 then cl == (ops.length : Int) - 1 else false
/-- The places of an update from number i on. -/
def upd (n : Nat) : Int → Nat → List Int → Int × Int
  | _, _, [] => (0, 0)
  | m, i, x :: r => if x < m ∨ (n : Int) ≤ x then ((i : Int), 2207) else upd n (x + 1) (i + 1) r
/-- A block: its fault, or what is around the blocks behind it. -/
def blf (S : Sh) (nb : Nat) (k : Bk) (H : List Ar) : Except (Int × Int) (List Ar) :=
  if (H.getD nb ar0).ow = false then .error (0, 2205)
  else if k.d ≠ (H.getD nb ar0).st then .error (0, 2208)
  else match gos S nb k.o 0 k.o ⟨H.getD nb ar0, 0, [], 0⟩ H with
    | .error q => .error q
    | .ok (b, H') =>
      if b.ou ≠ [] ∨ 0 < b.lt then .error ((k.o.length : Int), 2204)
      else if b.ar.lp = true ∧ item k.o b.cl = false then .error (0, 2206)
      else if (upd k.o.length 0 0 k.u).2 ≠ 0 then .error (upd k.o.length 0 0 k.u) else .ok H'
/-- The blocks from number i on. -/
def bls (S : Sh) : Nat → List Bk → List Ar → Int × Int × Int
  | _, [], _ => (0, 0, 0)
  | i, k :: r, H => match blf S i k H with
    | .error q => ((i : Int), q)
    | .ok H' => bls S (i + 1) r H'
/-- How many values a code needs. -/
def need (L : List Ins) : Int := L.foldl (fun m x => if x.1 = 6 then max m (x.2 + 1) else m) 0
/-- The first one that may not be, or is one too many. -/
def ixf {α : Type} (f : α → Bool) : Nat → List α → Int
  | _, [] => -1
  | i, x :: r => if f x = true then ixf f (i + 1) r else (i : Int)
def fwr {α : Type} (lim : Nat) (f : α → Bool) (l : List α) : Int := if ixf f 0 (l.take lim) < 0 ∧ lim < l.length then (lim : Int) else ixf f 0 (l.take lim)
def elm (t : T) : Bool := !(TPure.eqB t.g ByteArray.empty) && decide (TMeas.ck [t] = 0)
def shf (x : Pg) : Int × Int :=
  if 0 ≤ fwr 16384 STx.tg x.t then (fwr 16384 STx.tg x.t, 2200)
  else if 0 ≤ fwr 8192 (fun L => decide (CPu.ck L (x.t.length : Int) 64 = 0)) x.c then (fwr 8192 (fun L => decide (CPu.ck L (x.t.length : Int) 64 = 0)) x.c, 2201)
  else if 0 ≤ fwr 4096 elm x.s then (fwr 4096 elm x.s, 2202)
  else (0, 0)
def shd (x : Pg) : Sh := ⟨x.t, x.c.map need, x.s.map fun t => (TMeas.dp [t] : Int)⟩
def hm0 (n : Nat) : List Ar := (List.replicate n ar0).set 0 ⟨true, false, 1, 0, 0⟩
/-- What Verify answers. -/
def vf (x : Pg) : Int × Int × Int :=
  if (shf x).2 ≠ 0 then (0, shf x)
  else if x.b = [] ∨ 8192 < x.b.length then (0, 0, 2205)
  else bls (shd x) 0 x.b (hm0 x.b.length)
end Go.Proofs.Ytgknjjaemjkloaa.BPl
