/- What a value holds, and that it lies in a world. -/
import Derived.Test.YthjbknncbhkinaaGreatDoorProg
import Derived.WalkKit
import Derived.ProofKit
import Derived.Below
import Derived.Laws.AppendOwn
namespace Go.Proofs.YthjbknncbhkinaaGreatDoor.Base
open Go.RowKit
set_option linter.unusedVariables false

/-- What a value holds: kind, bool, int, text, names, elements. -/
structure C where
  mk ::
  (k0 : Int) (b0 : Bool) (i0 : Int) (s0 : ByteArray) (n0 : List ByteArray) (l0 : List C)
def C.k : C → Int | .mk k _ _ _ _ _ => k
def C.b : C → Bool | .mk _ b _ _ _ _ => b
def C.i : C → Int | .mk _ _ i _ _ _ => i
def C.s : C → ByteArray | .mk _ _ _ s _ _ => s
def C.n : C → List ByteArray | .mk _ _ _ _ n _ => n
def C.l : C → List C | .mk _ _ _ _ _ l => l

def room : ByteArray := ⟨#[126, 114, 111, 111, 109]⟩
def behind : ByteArray := ⟨#[126, 98, 101, 104, 105, 110, 100]⟩
def room7 : Value := .agg #[.int .i64 (-7), .bool false, .int .i64 0, .string ⟨#[]⟩, .slice none 0 0, .slice none 0 0]
/-- Six cells in a row, as one. -/
def Six (w : World) (g o : Nat) (u : Value) : Prop :=
  ∃ v0 v1 v2 v3 v4 v5, u = .agg #[v0, v1, v2, v3, v4, v5] ∧ w.cell? ⟨g, o, none⟩ = some v0 ∧ w.cell? ⟨g, o + 1, none⟩ = some v1 ∧ w.cell? ⟨g, o + 2, none⟩ = some v2 ∧
    w.cell? ⟨g, o + 3, none⟩ = some v3 ∧ w.cell? ⟨g, o + 4, none⟩ = some v4 ∧ w.cell? ⟨g, o + 5, none⟩ = some v5

/-- v is a list of the texts n; r: with marked room behind them; their block is one of S. -/
def Tx (r : Bool) (S : Nat → Prop) (w : World) (v : Value) (n : List ByteArray) : Prop :=
  ∃ a cap, v = .slice a n.length cap ∧ n.length ≤ cap ∧ cap ≤ maxLen ∧ n.length * 16 ≤ 140737488351232 ∧ (∀ t ∈ n, t.size ≤ 140737488351232) ∧ (a = none → cap = 0) ∧
    ((n = [] ∧ r = false) ∨ ∃ g o, a = some ⟨g, o, none⟩ ∧ S g ∧ (∀ j (h : j < n.length), w.cell? ⟨g, o + j, none⟩ = some (.string n[j])) ∧
      (r = true → n.length + 2 ≤ cap ∧ w.cell? ⟨g, o + n.length, none⟩ = some (.string room) ∧ w.cell? ⟨g, o + n.length + 1, none⟩ = some (.string behind)))
/-- v lies in w and holds c, nested less than m deep. -/
def In (r : Bool) (S : Nat → Prop) (w : World) : Nat → Value → C → Prop
  | 0, _, _ => False
  | m + 1, v, .mk k b i s n l => ∃ nv a cap, v = .agg #[.int .i64 k, .bool b, .int .i64 i, .string s, nv, .slice a l.length cap] ∧
      (-9223372036854775808 ≤ k ∧ k ≤ 9223372036854775807) ∧ (-9223372036854775808 ≤ i ∧ i ≤ 9223372036854775807) ∧ s.size ≤ 140737488351232 ∧ Tx r S w nv n ∧
      l.length ≤ cap ∧ cap ≤ maxLen ∧ l.length * 88 ≤ 140737488351232 ∧ (a = none → cap = 0) ∧
      ((l = [] ∧ r = false) ∨ ∃ g o, a = some ⟨g, o, none⟩ ∧ S g ∧ (∀ j (h : j < l.length), ∃ u, Six w g (o + j * 6) u ∧ In r S w m u l[j]) ∧
        (r = true → l.length + 2 ≤ cap ∧ Six w g (o + l.length * 6) room7 ∧ Six w g (o + l.length * 6 + 6) room7))

/-- v is a list of the values l. -/
def InL (r : Bool) (S : Nat → Prop) (w : World) (m : Nat) (v : Value) (l : List C) : Prop :=
  ∃ a cap, v = .slice a l.length cap ∧ l.length ≤ cap ∧ cap ≤ maxLen ∧ l.length * 88 ≤ 140737488351232 ∧ (a = none → cap = 0) ∧
      ((l = [] ∧ r = false) ∨ ∃ g o, a = some ⟨g, o, none⟩ ∧ S g ∧ (∀ j (h : j < l.length), ∃ u, Six w g (o + j * 6) u ∧ In r S w m u l[j]) ∧
        (r = true → l.length + 2 ≤ cap ∧ Six w g (o + l.length * 6) room7 ∧ Six w g (o + l.length * 6 + 6) room7))
theorem in_iff {r : Bool} {S : Nat → Prop} {w : World} {m : Nat} {v : Value} {k : Int} {b : Bool} {i : Int} {s : ByteArray} {n : List ByteArray} {l : List C} :
    In r S w (m + 1) v (.mk k b i s n l) ↔ ∃ nv lv, v = .agg #[.int .i64 k, .bool b, .int .i64 i, .string s, nv, lv] ∧
      (-9223372036854775808 ≤ k ∧ k ≤ 9223372036854775807) ∧ (-9223372036854775808 ≤ i ∧ i ≤ 9223372036854775807) ∧ s.size ≤ 140737488351232 ∧ Tx r S w nv n ∧ InL r S w m lv l := by
  constructor
  · intro h
    rw [In] at h
    obtain ⟨nv, a, cap, h1, h2, h3, h4, h5, h6⟩ := h
    exact ⟨nv, _, h1, h2, h3, h4, h5, a, cap, rfl, h6⟩
  · rintro ⟨nv, lv, h1, h2, h3, h4, h5, a, cap, rfl, h6⟩
    rw [In]
    exact ⟨nv, a, cap, h1, h2, h3, h4, h5, h6⟩

theorem cell_lt {w : World} {a : Addr} {v : Value} (h : w.cell? a = some v) : a.block < w.heap.size := by
  unfold World.cell? at h
  split at h
  · next hh => exact (Array.getElem?_eq_some_iff.1 hh).1
  · cases h
/-- The blocks of S that stand in w are as they were. -/
def Keep (S : Nat → Prop) (w w' : World) : Prop := ∀ b, S b → b < w.heap.size → w'.heap[b]? = w.heap[b]?
theorem Keep.cell {S : Nat → Prop} {w w' : World} (h : Keep S w w') {g o : Nat} {v : Value} (hS : S g) (hc : w.cell? ⟨g, o, none⟩ = some v) : w'.cell? ⟨g, o, none⟩ = some v :=
  (World.cell?_of_block (w := w) (h g hS (cell_lt hc))).trans hc
theorem Keep.six {S : Nat → Prop} {w w' : World} (h : Keep S w w') {g o : Nat} {v : Value} (hS : S g) (hc : Six w g o v) : Six w' g o v := by
  obtain ⟨v0, v1, v2, v3, v4, v5, rfl, c0, c1, c2, c3, c4, c5⟩ := hc
  exact ⟨v0, v1, v2, v3, v4, v5, rfl, h.cell hS c0, h.cell hS c1, h.cell hS c2, h.cell hS c3, h.cell hS c4, h.cell hS c5⟩
theorem Keep.of_below {S : Nat → Prop} {w w' : World} (h : Below w.heap.size w w') : Keep S w w' := fun b _ hb => h.block b hb
theorem Tx.keep {r : Bool} {S : Nat → Prop} {w w' : World} {v : Value} {n : List ByteArray} (h : Tx r S w v n) (hk : Keep S w w') : Tx r S w' v n := by
  obtain ⟨a, cap, h1, h2, h3, h4, h5, h6, h7⟩ := h
  refine ⟨a, cap, h1, h2, h3, h4, h5, h6, ?_⟩
  rcases h7 with h7 | ⟨g, o, ha, hS, hc, hr⟩
  · exact .inl h7
  · exact .inr ⟨g, o, ha, hS, fun j hj => hk.cell hS (hc j hj), fun hr' => ⟨(hr hr').1, hk.cell hS (hr hr').2.1, hk.cell hS (hr hr').2.2⟩⟩
theorem InL.keep_of {r : Bool} {S : Nat → Prop} {w w' : World} {m : Nat} (ih : ∀ (v : Value) (c : C), In r S w m v c → In r S w' m v c) {v : Value} {l : List C} (h : InL r S w m v l) (hk : Keep S w w') : InL r S w' m v l := by
  obtain ⟨a, cap, h1, h2, h3, h4, h5, h6⟩ := h
  refine ⟨a, cap, h1, h2, h3, h4, h5, ?_⟩
  rcases h6 with h6 | ⟨g, o, ha, hS, hc, hr⟩
  · exact .inl h6
  · refine .inr ⟨g, o, ha, hS, fun j hj => ?_, fun hr' => ⟨(hr hr').1, hk.six hS (hr hr').2.1, hk.six hS (hr hr').2.2⟩⟩
    obtain ⟨u, hu, hi⟩ := hc j hj
    exact ⟨u, hk.six hS hu, ih _ _ hi⟩
theorem In.keep {r : Bool} {S : Nat → Prop} {w w' : World} (hk : Keep S w w') : ∀ {m : Nat} {v : Value} {c : C}, In r S w m v c → In r S w' m v c := by
  intro m
  induction m with
  | zero => intro v c h; rw [In] at h; exact h.elim
  | succ m ih =>
    intro v c h
    obtain ⟨k, b, i, s, n, l⟩ := c
    rw [in_iff] at h ⊢
    obtain ⟨nv, lv, h1, h2, h3, h4, h5, h6⟩ := h
    exact ⟨nv, lv, h1, h2, h3, h4, h5.keep hk, h6.keep_of (fun v c => ih) hk⟩
theorem InL.keep {r : Bool} {S : Nat → Prop} {w w' : World} {m : Nat} {v : Value} {l : List C} (h : InL r S w m v l) (hk : Keep S w w') : InL r S w' m v l := h.keep_of (fun v c h => h.keep hk) hk
theorem Tx.below {r : Bool} {S : Nat → Prop} {w w' : World} {v : Value} {n : List ByteArray} (h : Tx r S w v n) (hk : Below w.heap.size w w') : Tx r S w' v n := h.keep (.of_below hk)
theorem In.below {r : Bool} {S : Nat → Prop} {w w' : World} {m : Nat} {v : Value} {c : C} (h : In r S w m v c) (hk : Below w.heap.size w w') : In r S w' m v c := h.keep (.of_below hk)
theorem InL.below {r : Bool} {S : Nat → Prop} {w w' : World} {m : Nat} {v : Value} {l : List C} (h : InL r S w m v l) (hk : Below w.heap.size w w') : InL r S w' m v l := h.keep (.of_below hk)
/-- Less asked: no room, more blocks, deeper. -/
theorem Tx.weak {r : Bool} {S S' : Nat → Prop} {w : World} {v : Value} {n : List ByteArray} (hS : ∀ b, S b → S' b) (r' : Bool) (hr : r' = true → r = true) (h : Tx r S w v n) : Tx r' S' w v n := by
  obtain ⟨a, cap, h1, h2, h3, h4, h5, h6, h7⟩ := h
  refine ⟨a, cap, h1, h2, h3, h4, h5, h6, ?_⟩
  rcases h7 with ⟨h7, h8⟩ | ⟨g, o, ha, hg, hc, hr0⟩
  · refine .inl ⟨h7, ?_⟩
    cases r' with
    | true => rw [hr rfl] at h8; cases h8
    | false => rfl
  · exact .inr ⟨g, o, ha, hS _ hg, hc, fun h => hr0 (hr h)⟩
theorem InL.weak_of {r : Bool} {S S' : Nat → Prop} {w : World} {m m' : Nat} {v : Value} {l : List C} (hS : ∀ b, S b → S' b) (r' : Bool) (hr : r' = true → r = true) (ih : ∀ (v : Value) (c : C), In r S w m v c → In r' S' w m' v c)
    (h : InL r S w m v l) : InL r' S' w m' v l := by
  obtain ⟨a, cap, h1, h2, h3, h4, h5, h6⟩ := h
  refine ⟨a, cap, h1, h2, h3, h4, h5, ?_⟩
  rcases h6 with ⟨h7, h8⟩ | ⟨g, o, ha, hg, hc, hr0⟩
  · refine .inl ⟨h7, ?_⟩
    cases r' with
    | true => rw [hr rfl] at h8; cases h8
    | false => rfl
  · refine .inr ⟨g, o, ha, hS _ hg, fun j hj => ?_, fun h => hr0 (hr h)⟩
    obtain ⟨u, hu, hi⟩ := hc j hj
    exact ⟨u, hu, ih _ _ hi⟩
theorem In.weak {r : Bool} {S S' : Nat → Prop} {w : World} (hS : ∀ b, S b → S' b) (r' : Bool) (hr : r' = true → r = true) : ∀ {m : Nat} (m' : Nat) {v : Value} {c : C}, m ≤ m' → In r S w m v c → In r' S' w m' v c := by
  intro m
  induction m with
  | zero => intro m' v c _ h; rw [In] at h; exact h.elim
  | succ m ih =>
    intro m' v c hm h
    obtain ⟨m', rfl⟩ : ∃ q, m' = q + 1 := ⟨m' - 1, by omega⟩
    obtain ⟨k, b, i, s, n, l⟩ := c
    rw [in_iff] at h ⊢
    obtain ⟨nv, lv, h1, h2, h3, h4, h5, h6⟩ := h
    exact ⟨nv, lv, h1, h2, h3, h4, h5.weak hS r' hr, h6.weak_of hS r' hr (fun v c h => ih m' (by omega) h)⟩
theorem InL.weak {r : Bool} {S S' : Nat → Prop} {w : World} (hS : ∀ b, S b → S' b) (r' : Bool) (hr : r' = true → r = true) {m : Nat} (m' : Nat) {v : Value} {l : List C} (hm : m ≤ m') (h : InL r S w m v l) : InL r' S' w m' v l :=
  h.weak_of hS r' hr (fun v c h => h.weak hS r' hr m' hm)
/-- Any block. -/
def All : Nat → Prop := fun _ => True
theorem In.plain {r : Bool} {S : Nat → Prop} {w : World} {m : Nat} {v : Value} {c : C} (h : In r S w m v c) : In false All w m v c := h.weak (fun _ _ => trivial) false (fun h => by cases h) m (Nat.le_refl _)
theorem InL.plain {r : Bool} {S : Nat → Prop} {w : World} {m : Nat} {v : Value} {c : List C} (h : InL r S w m v c) : InL false All w m v c := h.weak (fun _ _ => trivial) false (fun h => by cases h) m (Nat.le_refl _)
theorem Tx.plain {r : Bool} {S : Nat → Prop} {w : World} {v : Value} {n : List ByteArray} (h : Tx r S w v n) : Tx false All w v n := h.weak (fun _ _ => trivial) false (fun h => by cases h)
/-- A box of six cells. -/
theorem six_box {w : World} {B : Nat} {v0 v1 v2 v3 v4 v5 : Value} {t : TypeId} (h : w.heap[B]? = some (.cells #[v0, v1, v2, v3, v4, v5] t (0, 0))) :
    w.cell? ⟨B, 0, none⟩ = some v0 ∧ w.cell? ⟨B, 1, none⟩ = some v1 ∧ w.cell? ⟨B, 2, none⟩ = some v2 ∧ w.cell? ⟨B, 3, none⟩ = some v3 ∧ w.cell? ⟨B, 4, none⟩ = some v4 ∧ w.cell? ⟨B, 5, none⟩ = some v5 := by
  refine ⟨?_, ?_, ?_, ?_, ?_, ?_⟩ <;> simp [World.cell?, h]
theorem nx {a b c : World} (h : Below a.heap.size a b) (k : Below b.heap.size b c) : Below a.heap.size a c := h.trans (k.mono h.size)
theorem nxB {B : Nat} {a b c : World} (h : Below B a b) (hB : B ≤ a.heap.size) (k : Below b.heap.size b c) : Below B a c := h.trans (k.mono (by have := h.size; omega))
theorem add_none (g o j : Nat) : (⟨g, o, none⟩ : Addr).add j = ⟨g, o + j, none⟩ := by
  unfold Addr.add
  split
  · simp_all
  · rfl
theorem heap_alloc_new (w : World) (o : Obj) : (w.alloc o).heap[w.heap.size]? = some o := by
  show (w.heap.push o)[w.heap.size]? = _
  simp
/-- What a box holds in a later world. -/
theorem box_at {w wr : World} {vs : Array Value} {t : TypeId} (h : Below (w.heap.size + 1) (w.alloc (.cells vs t)) wr) : wr.heap[w.heap.size]? = some (.cells vs t (0, 0)) :=
  (h.block _ (by omega)).trans (heap_alloc_new w _)
theorem below_box {w wr : World} {o : Obj} (h : Below (w.heap.size + 1) (w.alloc o) wr) : Below w.heap.size w wr := ((Below.refl _ w).alloc (Nat.le_refl _) o).trans (h.mono (by omega))
/-- An element of a list. -/
def LAt (r : Bool) (S : Nat → Prop) (w : World) (m : Nat) (a : Option Addr) (cap : Nat) (l : List C) : Prop := (l = [] ∧ r = false) ∨ ∃ g o, a = some ⟨g, o, none⟩ ∧ S g ∧ (∀ j (h : j < l.length), ∃ u, Six w g (o + j * 6) u ∧ In r S w m u l[j]) ∧
        (r = true → l.length + 2 ≤ cap ∧ Six w g (o + l.length * 6) room7 ∧ Six w g (o + l.length * 6 + 6) room7)
def NAt (r : Bool) (S : Nat → Prop) (w : World) (a : Option Addr) (cap : Nat) (n : List ByteArray) : Prop := (n = [] ∧ r = false) ∨ ∃ g o, a = some ⟨g, o, none⟩ ∧ S g ∧ (∀ j (h : j < n.length), w.cell? ⟨g, o + j, none⟩ = some (.string n[j])) ∧
      (r = true → n.length + 2 ≤ cap ∧ w.cell? ⟨g, o + n.length, none⟩ = some (.string room) ∧ w.cell? ⟨g, o + n.length + 1, none⟩ = some (.string behind))
theorem InL.out {r : Bool} {S : Nat → Prop} {w : World} {m : Nat} {v : Value} {l : List C} (h : InL r S w m v l) :
    ∃ a cap, v = .slice a l.length cap ∧ l.length ≤ cap ∧ cap ≤ 9223372036854775807 ∧ l.length * 88 ≤ 140737488351232 ∧ (a = none → cap = 0) ∧ LAt r S w m a cap l := h
theorem Tx.out {r : Bool} {S : Nat → Prop} {w : World} {v : Value} {n : List ByteArray} (h : Tx r S w v n) :
    ∃ a cap, v = .slice a n.length cap ∧ n.length ≤ cap ∧ cap ≤ 9223372036854775807 ∧ n.length * 16 ≤ 140737488351232 ∧ (∀ t ∈ n, t.size ≤ 140737488351232) ∧ (a = none → cap = 0) ∧ NAt r S w a cap n := h
theorem elem_at {r : Bool} {S : Nat → Prop} {w : World} {m : Nat} {a : Option Addr} {cap : Nat} {l : List C} (hL : LAt r S w m a cap l) {q : Nat} (h : q < l.length) :
    ∃ g o u, a = some ⟨g, o, none⟩ ∧ S g ∧ Six w g (o + q * 6) u ∧ In r S w m u l[q] := by
  rcases hL with ⟨rfl, _⟩ | ⟨g, o, ha, hS, hc, _⟩
  · simp at h
  · obtain ⟨u, hu, hi⟩ := hc q h
    exact ⟨g, o, u, ha, hS, hu, hi⟩
theorem name_at {r : Bool} {S : Nat → Prop} {w : World} {a : Option Addr} {cap : Nat} {n : List ByteArray} (hL : NAt r S w a cap n) {q : Nat} (h : q < n.length) :
    ∃ g o, a = some ⟨g, o, none⟩ ∧ S g ∧ w.cell? ⟨g, o + q, none⟩ = some (.string n[q]) := by
  rcases hL with ⟨rfl, _⟩ | ⟨g, o, ha, hS, hc, _⟩
  · simp at h
  · exact ⟨g, o, ha, hS, hc q h⟩
theorem six_below {w w' : World} {g o : Nat} {u : Value} (h : Six w g o u) (hb : Below w.heap.size w w') : Six w' g o u := (Keep.of_below (S := All) hb).six trivial h
theorem below_cell {w w' : World} {g o : Nat} {u : Value} (h : w.cell? ⟨g, o, none⟩ = some u) (hb : Below w.heap.size w w') : w'.cell? ⟨g, o, none⟩ = some u := (Keep.of_below (S := All) hb).cell trivial h
theorem In.six {r : Bool} {S : Nat → Prop} {w : World} {m : Nat} {v : Value} {c : C} (h : In r S w m v c) :
    ∃ v0 v1 v2 v3 v4 v5, v = .agg #[v0, v1, v2, v3, v4, v5] ∧ ∀ u ∈ [v0, v1, v2, v3, v4, v5], u.oneCell' = true := by
  cases m with
  | zero => rw [In] at h; exact h.elim
  | succ m =>
    obtain ⟨k, b, i, s, n, l⟩ := c
    rw [in_iff] at h
    obtain ⟨nv, lv, rfl, -, -, -, ⟨a, ca, rfl, -⟩, ⟨a', ca', rfl, -⟩⟩ := h
    refine ⟨_, _, _, _, _, _, rfl, ?_⟩
    intro u hu
    simp at hu
    rcases hu with rfl | rfl | rfl | rfl | rfl | rfl <;> rfl
theorem In.shape {r : Bool} {S : Nat → Prop} {w : World} {m : Nat} {v : Value} {c : C} (h : In r S w m v c) :
    ∃ m' nv lv, m = m' + 1 ∧ v = .agg #[.int .i64 c.k, .bool c.b, .int .i64 c.i, .string c.s, nv, lv] ∧
      (-9223372036854775808 ≤ c.k ∧ c.k ≤ 9223372036854775807) ∧ (-9223372036854775808 ≤ c.i ∧ c.i ≤ 9223372036854775807) ∧ c.s.size ≤ 140737488351232 ∧ Tx r S w nv c.n ∧ InL r S w m' lv c.l := by
  cases m with
  | zero => rw [In] at h; exact h.elim
  | succ m =>
    obtain ⟨k, b, i, s, n, l⟩ := c
    rw [in_iff] at h
    obtain ⟨nv, lv, h⟩ := h
    exact ⟨m, nv, lv, rfl, h⟩
theorem hid {p : Prop} (h : p) : Hid p := h
theorem alB {W U : World} {o : Obj} (e : W.alloc o = U) : Below W.heap.size W U := by rw [← e]; exact (Below.refl _ W).alloc (Nat.le_refl _) _
theorem alG {W U : World} {o : Obj} (e : W.alloc o = U) : U.heap[W.heap.size]? = some o := by rw [← e]; exact heap_alloc_new W _
theorem alS {W U : World} {o : Obj} (e : W.alloc o = U) : W.heap.size < U.heap.size := by rw [← e]; simp
theorem stc2 (W : World) (B : Nat) (a0 a1 : Value) : ∃ Y, ((W.setCell ⟨B, 0, none⟩ a0).setCell ⟨B, 1, none⟩ a1) = Y := ⟨_, rfl⟩
theorem stc3 (W : World) (B : Nat) (a0 a1 a2 : Value) : ∃ Y, (((W.setCell ⟨B, 0, none⟩ a0).setCell ⟨B, 1, none⟩ a1).setCell ⟨B, 2, none⟩ a2) = Y := ⟨_, rfl⟩
theorem stc4 (W : World) (B : Nat) (a0 a1 a2 a3 : Value) : ∃ Y, ((((W.setCell ⟨B, 0, none⟩ a0).setCell ⟨B, 1, none⟩ a1).setCell ⟨B, 2, none⟩ a2).setCell ⟨B, 3, none⟩ a3) = Y := ⟨_, rfl⟩
theorem stc5 (W : World) (B : Nat) (a0 a1 a2 a3 a4 : Value) : ∃ Y, (((((W.setCell ⟨B, 0, none⟩ a0).setCell ⟨B, 1, none⟩ a1).setCell ⟨B, 2, none⟩ a2).setCell ⟨B, 3, none⟩ a3).setCell ⟨B, 4, none⟩ a4) = Y := ⟨_, rfl⟩
theorem stc6 (W : World) (B : Nat) (a0 a1 a2 a3 a4 a5 : Value) : ∃ Y, ((((((W.setCell ⟨B, 0, none⟩ a0).setCell ⟨B, 1, none⟩ a1).setCell ⟨B, 2, none⟩ a2).setCell ⟨B, 3, none⟩ a3).setCell ⟨B, 4, none⟩ a4).setCell ⟨B, 5, none⟩ a5) = Y := ⟨_, rfl⟩
theorem stc7 (W : World) (B : Nat) (a0 a1 a2 a3 a4 a5 a6 : Value) : ∃ Y, (((((((W.setCell ⟨B, 0, none⟩ a0).setCell ⟨B, 1, none⟩ a1).setCell ⟨B, 2, none⟩ a2).setCell ⟨B, 3, none⟩ a3).setCell ⟨B, 4, none⟩ a4).setCell ⟨B, 5, none⟩ a5).setCell ⟨B, 6, none⟩ a6) = Y := ⟨_, rfl⟩
theorem frzb {w : World} {B : Nat} {cs : Array Value} {t : TypeId} (h : w.heap[B]? = some (.cells cs t (0, 0))) (j : Nat) : w.frozen? ⟨B, j, none⟩ = false := by
  simp [World.frozen?, h]
theorem frz2 {W : World} {B : Nat} {cs : Array Value} {t : TypeId} (h : W.heap[B]? = some (.cells cs t (0, 0))) : W.frozen? ⟨B, 0, none⟩ = false ∧ W.frozen? ⟨B, 1, none⟩ = false := ⟨frzb h 0, frzb h 1⟩
theorem frz3 {W : World} {B : Nat} {cs : Array Value} {t : TypeId} (h : W.heap[B]? = some (.cells cs t (0, 0))) : W.frozen? ⟨B, 0, none⟩ = false ∧ W.frozen? ⟨B, 1, none⟩ = false ∧ W.frozen? ⟨B, 2, none⟩ = false := ⟨frzb h 0, frzb h 1, frzb h 2⟩
theorem frz4 {W : World} {B : Nat} {cs : Array Value} {t : TypeId} (h : W.heap[B]? = some (.cells cs t (0, 0))) : W.frozen? ⟨B, 0, none⟩ = false ∧ W.frozen? ⟨B, 1, none⟩ = false ∧ W.frozen? ⟨B, 2, none⟩ = false ∧ W.frozen? ⟨B, 3, none⟩ = false := ⟨frzb h 0, frzb h 1, frzb h 2, frzb h 3⟩
theorem frz5 {W : World} {B : Nat} {cs : Array Value} {t : TypeId} (h : W.heap[B]? = some (.cells cs t (0, 0))) : W.frozen? ⟨B, 0, none⟩ = false ∧ W.frozen? ⟨B, 1, none⟩ = false ∧ W.frozen? ⟨B, 2, none⟩ = false ∧ W.frozen? ⟨B, 3, none⟩ = false ∧ W.frozen? ⟨B, 4, none⟩ = false := ⟨frzb h 0, frzb h 1, frzb h 2, frzb h 3, frzb h 4⟩
theorem frz6 {W : World} {B : Nat} {cs : Array Value} {t : TypeId} (h : W.heap[B]? = some (.cells cs t (0, 0))) : W.frozen? ⟨B, 0, none⟩ = false ∧ W.frozen? ⟨B, 1, none⟩ = false ∧ W.frozen? ⟨B, 2, none⟩ = false ∧ W.frozen? ⟨B, 3, none⟩ = false ∧ W.frozen? ⟨B, 4, none⟩ = false ∧ W.frozen? ⟨B, 5, none⟩ = false := ⟨frzb h 0, frzb h 1, frzb h 2, frzb h 3, frzb h 4, frzb h 5⟩
theorem frz7 {W : World} {B : Nat} {cs : Array Value} {t : TypeId} (h : W.heap[B]? = some (.cells cs t (0, 0))) : W.frozen? ⟨B, 0, none⟩ = false ∧ W.frozen? ⟨B, 1, none⟩ = false ∧ W.frozen? ⟨B, 2, none⟩ = false ∧ W.frozen? ⟨B, 3, none⟩ = false ∧ W.frozen? ⟨B, 4, none⟩ = false ∧ W.frozen? ⟨B, 5, none⟩ = false ∧ W.frozen? ⟨B, 6, none⟩ = false := ⟨frzb h 0, frzb h 1, frzb h 2, frzb h 3, frzb h 4, frzb h 5, frzb h 6⟩
theorem frz8 {W : World} {B : Nat} {cs : Array Value} {t : TypeId} (h : W.heap[B]? = some (.cells cs t (0, 0))) : W.frozen? ⟨B, 0, none⟩ = false ∧ W.frozen? ⟨B, 1, none⟩ = false ∧ W.frozen? ⟨B, 2, none⟩ = false ∧ W.frozen? ⟨B, 3, none⟩ = false ∧ W.frozen? ⟨B, 4, none⟩ = false ∧ W.frozen? ⟨B, 5, none⟩ = false ∧ W.frozen? ⟨B, 6, none⟩ = false ∧ W.frozen? ⟨B, 7, none⟩ = false := ⟨frzb h 0, frzb h 1, frzb h 2, frzb h 3, frzb h 4, frzb h 5, frzb h 6, frzb h 7⟩
end Go.Proofs.YthjbknncbhkinaaGreatDoor.Base
