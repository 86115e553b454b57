import Derived.Below
import Derived.Laws.AppendOwn
import Derived.Lib.SliceRun
import Derived.LoopN
import Derived.LoopTactic
import Derived.Maps.AppendAt
import Derived.ProofKit
import Derived.Test.YtdeigdbnnbikgaaGreatDoorProg
import Derived.WalkKit
namespace Go.Proofs.YtdeigdbnnbikgaaGreatDoor.Base
open Go.RowKit
set_option linter.unusedVariables false
/-- What a value holds: kind, bool, int, text, names, elements. -/
structure C where
  mk ::
  (k0 : Int) (b0 : Bool) (i0 : Int) (s0 : ByteArray) (n0 : List ByteArray) (l0 : List C)
def C.k : C → Int | .mk k _ _ _ _ _ => k
def C.b : C → Bool | .mk _ b _ _ _ _ => b
def C.i : C → Int | .mk _ _ i _ _ _ => i
def C.s : C → ByteArray | .mk _ _ _ s _ _ => s
def C.n : C → List ByteArray | .mk _ _ _ _ n _ => n
def C.l : C → List C | .mk _ _ _ _ _ l => l
def room : ByteArray := ⟨#[126, 114, 111, 111, 109]⟩
def behind : ByteArray := ⟨#[126, 98, 101, 104, 105, 110, 100]⟩
def room7 : Value := .agg #[.int .i64 (-7), .bool false, .int .i64 0, .string ⟨#[]⟩, .slice none 0 0, .slice none 0 0]
/-- Six cells in a row, as one. -/
def Six (w : World) (g o : Nat) (u : Value) : Prop :=
  ∃ v0 v1 v2 v3 v4 v5, u = .agg #[v0, v1, v2, v3, v4, v5] ∧ w.cell? ⟨g, o, none⟩ = some v0 ∧ w.cell? ⟨g, o + 1, none⟩ = some v1 ∧ w.cell? ⟨g, o + 2, none⟩ = some v2 ∧
    w.cell? ⟨g, o + 3, none⟩ = some v3 ∧ w.cell? ⟨g, o + 4, none⟩ = some v4 ∧ w.cell? ⟨g, o + 5, none⟩ = some v5
/-- v is a list of the texts n; r: with marked room behind them; their block is one of S. -/
def Tx (r : Bool) (S : Nat → Prop) (w : World) (v : Value) (n : List ByteArray) : Prop :=
  ∃ a cap, v = .slice a n.length cap ∧ n.length ≤ cap ∧ cap ≤ maxLen ∧ n.length * 16 ≤ 140737488351232 ∧ (∀ t ∈ n, t.size ≤ 140737488351232) ∧ (a = none → cap = 0) ∧
    ((n = [] ∧ r = false) ∨ ∃ g o, a = some ⟨g, o, none⟩ ∧ S g ∧ (∀ j (h : j < n.length), w.cell? ⟨g, o + j, none⟩ = some (.string n[j])) ∧
      (r = true → n.length + 2 ≤ cap ∧ w.cell? ⟨g, o + n.length, none⟩ = some (.string room) ∧ w.cell? ⟨g, o + n.length + 1, none⟩ = some (.string behind)))
/-- v lies in w and holds c, nested less than m deep. -/
def In (r : Bool) (S : Nat → Prop) (w : World) : Nat → Value → C → Prop
  | 0, _, _ => False
  | m + 1, v, .mk k b i s n l => ∃ nv a cap, v = .agg #[.int .i64 k, .bool b, .int .i64 i, .string s, nv, .slice a l.length cap] ∧
      (-9223372036854775808 ≤ k ∧ k ≤ 9223372036854775807) ∧ (-9223372036854775808 ≤ i ∧ i ≤ 9223372036854775807) ∧ s.size ≤ 140737488351232 ∧ Tx r S w nv n ∧
      l.length ≤ cap ∧ cap ≤ maxLen ∧ l.length * 88 ≤ 140737488351232 ∧ (a = none → cap = 0) ∧
      ((l = [] ∧ r = false) ∨ ∃ g o, a = some ⟨g, o, none⟩ ∧ S g ∧ (∀ j (h : j < l.length), ∃ u, Six w g (o + j * 6) u ∧ In r S w m u l[j]) ∧
        (r = true → l.length + 2 ≤ cap ∧ Six w g (o + l.length * 6) room7 ∧ Six w g (o + l.length * 6 + 6) room7))
/-- v is a list of the values l. -/
def InL (r : Bool) (S : Nat → Prop) (w : World) (m : Nat) (v : Value) (l : List C) : Prop :=
  ∃ a cap, v = .slice a l.length cap ∧ l.length ≤ cap ∧ cap ≤ maxLen ∧ l.length * 88 ≤ 140737488351232 ∧ (a = none → cap = 0) ∧
      ((l = [] ∧ r = false) ∨ ∃ g o, a = some ⟨g, o, none⟩ ∧ S g ∧ (∀ j (h : j < l.length), ∃ u, Six w g (o + j * 6) u ∧ In r S w m u l[j]) ∧
        (r = true → l.length + 2 ≤ cap ∧ Six w g (o + l.length * 6) room7 ∧ Six w g (o + l.length * 6 + 6) room7))
theorem in_iff {r : Bool} {S : Nat → Prop} {w : World} {m : Nat} {v : Value} {k : Int} {b : Bool} {i : Int} {s : ByteArray} {n : List ByteArray} {l : List C} :
    In r S w (m + 1) v (.mk k b i s n l) ↔ ∃ nv lv, v = .agg #[.int .i64 k, .bool b, .int .i64 i, .string s, nv, lv] ∧
      (-9223372036854775808 ≤ k ∧ k ≤ 9223372036854775807) ∧ (-9223372036854775808 ≤ i ∧ i ≤ 9223372036854775807) ∧ s.size ≤ 140737488351232 ∧ Tx r S w nv n ∧ InL r S w m lv l := by
  constructor
  · intro h
    rw [In] at h
    obtain ⟨nv, a, cap, h1, h2, h3, h4, h5, h6⟩ := h
    exact ⟨nv, _, h1, h2, h3, h4, h5, a, cap, rfl, h6⟩
  · rintro ⟨nv, lv, h1, h2, h3, h4, h5, a, cap, rfl, h6⟩
    rw [In]
    exact ⟨nv, a, cap, h1, h2, h3, h4, h5, h6⟩
theorem cell_lt {w : World} {a : Addr} {v : Value} (h : w.cell? a = some v) : a.block < w.heap.size := by
  unfold World.cell? at h
  split at h
  · next hh => exact (Array.getElem?_eq_some_iff.1 hh).1
  · cases h
/-- The blocks of S that stand in w are as they were. -/
def Keep (S : Nat → Prop) (w w' : World) : Prop := ∀ b, S b → b < w.heap.size → w'.heap[b]? = w.heap[b]?
theorem Keep.cell {S : Nat → Prop} {w w' : World} (h : Keep S w w') {g o : Nat} {v : Value} (hS : S g) (hc : w.cell? ⟨g, o, none⟩ = some v) : w'.cell? ⟨g, o, none⟩ = some v :=
  (World.cell?_of_block (w := w) (h g hS (cell_lt hc))).trans hc
theorem Keep.six {S : Nat → Prop} {w w' : World} (h : Keep S w w') {g o : Nat} {v : Value} (hS : S g) (hc : Six w g o v) : Six w' g o v := by
  obtain ⟨v0, v1, v2, v3, v4, v5, rfl, c0, c1, c2, c3, c4, c5⟩ := hc
  exact ⟨v0, v1, v2, v3, v4, v5, rfl, h.cell hS c0, h.cell hS c1, h.cell hS c2, h.cell hS c3, h.cell hS c4, h.cell hS c5⟩
theorem Keep.of_below {S : Nat → Prop} {w w' : World} (h : Below w.heap.size w w') : Keep S w w' := fun b _ hb => h.block b hb
theorem Tx.keep {r : Bool} {S : Nat → Prop} {w w' : World} {v : Value} {n : List ByteArray} (h : Tx r S w v n) (hk : Keep S w w') : Tx r S w' v n := by
  obtain ⟨a, cap, h1, h2, h3, h4, h5, h6, h7⟩ := h
  refine ⟨a, cap, h1, h2, h3, h4, h5, h6, ?_⟩
  rcases h7 with h7 | ⟨g, o, ha, hS, hc, hr⟩
  · exact .inl h7
  · exact .inr ⟨g, o, ha, hS, fun j hj => hk.cell hS (hc j hj), fun hr' => ⟨(hr hr').1, hk.cell hS (hr hr').2.1, hk.cell hS (hr hr').2.2⟩⟩
theorem InL.keep_of {r : Bool} {S : Nat → Prop} {w w' : World} {m : Nat} (ih : ∀ (v : Value) (c : C), In r S w m v c → In r S w' m v c) {v : Value} {l : List C} (h : InL r S w m v l) (hk : Keep S w w') : InL r S w' m v l := by
  obtain ⟨a, cap, h1, h2, h3, h4, h5, h6⟩ := h
  refine ⟨a, cap, h1, h2, h3, h4, h5, ?_⟩
  rcases h6 with h6 | ⟨g, o, ha, hS, hc, hr⟩
  · exact .inl h6
  · refine .inr ⟨g, o, ha, hS, fun j hj => ?_, fun hr' => ⟨(hr hr').1, hk.six hS (hr hr').2.1, hk.six hS (hr hr').2.2⟩⟩
    obtain ⟨u, hu, hi⟩ := hc j hj
    exact ⟨u, hk.six hS hu, ih _ _ hi⟩
theorem In.keep {r : Bool} {S : Nat → Prop} {w w' : World} (hk : Keep S w w') : ∀ {m : Nat} {v : Value} {c : C}, In r S w m v c → In r S w' m v c := by
  intro m
  induction m with
  | zero => intro v c h; rw [In] at h; exact h.elim
  | succ m ih =>
    intro v c h
    obtain ⟨k, b, i, s, n, l⟩ := c
    rw [in_iff] at h ⊢
    obtain ⟨nv, lv, h1, h2, h3, h4, h5, h6⟩ := h
    exact ⟨nv, lv, h1, h2, h3, h4, h5.keep hk, h6.keep_of (fun v c => ih) hk⟩
theorem InL.keep {r : Bool} {S : Nat → Prop} {w w' : World} {m : Nat} {v : Value} {l : List C} (h : InL r S w m v l) (hk : Keep S w w') : InL r S w' m v l := h.keep_of (fun v c h => h.keep hk) hk
theorem Tx.below {r : Bool} {S : Nat → Prop} {w w' : World} {v : Value} {n : List ByteArray} (h : Tx r S w v n) (hk : Below w.heap.size w w') : Tx r S w' v n := h.keep (.of_below hk)
theorem In.below {r : Bool} {S : Nat → Prop} {w w' : World} {m : Nat} {v : Value} {c : C} (h : In r S w m v c) (hk : Below w.heap.size w w') : In r S w' m v c := h.keep (.of_below hk)
theorem InL.below {r : Bool} {S : Nat → Prop} {w w' : World} {m : Nat} {v : Value} {l : List C} (h : InL r S w m v l) (hk : Below w.heap.size w w') : InL r S w' m v l := h.keep (.of_below hk)
/-- Less asked: no room, more blocks, deeper. -/
theorem Tx.weak {r : Bool} {S S' : Nat → Prop} {w : World} {v : Value} {n : List ByteArray} (hS : ∀ b, S b → S' b) (r' : Bool) (hr : r' = true → r = true) (h : Tx r S w v n) : Tx r' S' w v n := by
  obtain ⟨a, cap, h1, h2, h3, h4, h5, h6, h7⟩ := h
  refine ⟨a, cap, h1, h2, h3, h4, h5, h6, ?_⟩
  rcases h7 with ⟨h7, h8⟩ | ⟨g, o, ha, hg, hc, hr0⟩
  · refine .inl ⟨h7, ?_⟩
    cases r' with
    | true => rw [hr rfl] at h8; cases h8
    | false => rfl
  · exact .inr ⟨g, o, ha, hS _ hg, hc, fun h => hr0 (hr h)⟩
theorem InL.weak_of {r : Bool} {S S' : Nat → Prop} {w : World} {m m' : Nat} {v : Value} {l : List C} (hS : ∀ b, S b → S' b) (r' : Bool) (hr : r' = true → r = true) (ih : ∀ (v : Value) (c : C), In r S w m v c → In r' S' w m' v c)
    (h : InL r S w m v l) : InL r' S' w m' v l := by
  obtain ⟨a, cap, h1, h2, h3, h4, h5, h6⟩ := h
  refine ⟨a, cap, h1, h2, h3, h4, h5, ?_⟩
  rcases h6 with ⟨h7, h8⟩ | ⟨g, o, ha, hg, hc, hr0⟩
  · refine .inl ⟨h7, ?_⟩
    cases r' with
    | true => rw [hr rfl] at h8; cases h8
    | false => rfl
  · refine .inr ⟨g, o, ha, hS _ hg, fun j hj => ?_, fun h => hr0 (hr h)⟩
    obtain ⟨u, hu, hi⟩ := hc j hj
    exact ⟨u, hu, ih _ _ hi⟩
theorem In.weak {r : Bool} {S S' : Nat → Prop} {w : World} (hS : ∀ b, S b → S' b) (r' : Bool) (hr : r' = true → r = true) : ∀ {m : Nat} (m' : Nat) {v : Value} {c : C}, m ≤ m' → In r S w m v c → In r' S' w m' v c := by
  intro m
  induction m with
  | zero => intro m' v c _ h; rw [In] at h; exact h.elim
  | succ m ih =>
    intro m' v c hm h
    obtain ⟨m', rfl⟩ : ∃ q, m' = q + 1 := ⟨m' - 1, by omega⟩
    obtain ⟨k, b, i, s, n, l⟩ := c
    rw [in_iff] at h ⊢
    obtain ⟨nv, lv, h1, h2, h3, h4, h5, h6⟩ := h
    exact ⟨nv, lv, h1, h2, h3, h4, h5.weak hS r' hr, h6.weak_of hS r' hr (fun v c h => ih m' (by omega) h)⟩
theorem InL.weak {r : Bool} {S S' : Nat → Prop} {w : World} (hS : ∀ b, S b → S' b) (r' : Bool) (hr : r' = true → r = true) {m : Nat} (m' : Nat) {v : Value} {l : List C} (hm : m ≤ m') (h : InL r S w m v l) : InL r' S' w m' v l :=
  h.weak_of hS r' hr (fun v c h => h.weak hS r' hr m' hm)
/-- Any block. -/
def All : Nat → Prop := fun _ => True
theorem In.plain {r : Bool} {S : Nat → Prop} {w : World} {m : Nat} {v : Value} {c : C} (h : In r S w m v c) : In false All w m v c := h.weak (fun _ _ => trivial) false (fun h => by cases h) m (Nat.le_refl _)
theorem InL.plain {r : Bool} {S : Nat → Prop} {w : World} {m : Nat} {v : Value} {c : List C} (h : InL r S w m v c) : InL false All w m v c := h.weak (fun _ _ => trivial) false (fun h => by cases h) m (Nat.le_refl _)
theorem Tx.plain {r : Bool} {S : Nat → Prop} {w : World} {v : Value} {n : List ByteArray} (h : Tx r S w v n) : Tx false All w v n := h.weak (fun _ _ => trivial) false (fun h => by cases h)
/-- A box of six cells. -/
theorem six_box {w : World} {B : Nat} {v0 v1 v2 v3 v4 v5 : Value} {t : TypeId} (h : w.heap[B]? = some (.cells #[v0, v1, v2, v3, v4, v5] t (0, 0))) :
    w.cell? ⟨B, 0, none⟩ = some v0 ∧ w.cell? ⟨B, 1, none⟩ = some v1 ∧ w.cell? ⟨B, 2, none⟩ = some v2 ∧ w.cell? ⟨B, 3, none⟩ = some v3 ∧ w.cell? ⟨B, 4, none⟩ = some v4 ∧ w.cell? ⟨B, 5, none⟩ = some v5 := by
  refine ⟨?_, ?_, ?_, ?_, ?_, ?_⟩ <;> simp [World.cell?, h]
theorem nx {a b c : World} (h : Below a.heap.size a b) (k : Below b.heap.size b c) : Below a.heap.size a c := h.trans (k.mono h.size)
theorem add_none (g o j : Nat) : (⟨g, o, none⟩ : Addr).add j = ⟨g, o + j, none⟩ := by
  unfold Addr.add
  split
  · simp_all
  · rfl
theorem heap_alloc_new (w : World) (o : Obj) : (w.alloc o).heap[w.heap.size]? = some o := by
  show (w.heap.push o)[w.heap.size]? = _
  simp
/-- An element of a list. -/
def LAt (r : Bool) (S : Nat → Prop) (w : World) (m : Nat) (a : Option Addr) (cap : Nat) (l : List C) : Prop := (l = [] ∧ r = false) ∨ ∃ g o, a = some ⟨g, o, none⟩ ∧ S g ∧ (∀ j (h : j < l.length), ∃ u, Six w g (o + j * 6) u ∧ In r S w m u l[j]) ∧
        (r = true → l.length + 2 ≤ cap ∧ Six w g (o + l.length * 6) room7 ∧ Six w g (o + l.length * 6 + 6) room7)
def NAt (r : Bool) (S : Nat → Prop) (w : World) (a : Option Addr) (cap : Nat) (n : List ByteArray) : Prop := (n = [] ∧ r = false) ∨ ∃ g o, a = some ⟨g, o, none⟩ ∧ S g ∧ (∀ j (h : j < n.length), w.cell? ⟨g, o + j, none⟩ = some (.string n[j])) ∧
      (r = true → n.length + 2 ≤ cap ∧ w.cell? ⟨g, o + n.length, none⟩ = some (.string room) ∧ w.cell? ⟨g, o + n.length + 1, none⟩ = some (.string behind))
theorem InL.out {r : Bool} {S : Nat → Prop} {w : World} {m : Nat} {v : Value} {l : List C} (h : InL r S w m v l) :
    ∃ a cap, v = .slice a l.length cap ∧ l.length ≤ cap ∧ cap ≤ 9223372036854775807 ∧ l.length * 88 ≤ 140737488351232 ∧ (a = none → cap = 0) ∧ LAt r S w m a cap l := h
theorem Tx.out {r : Bool} {S : Nat → Prop} {w : World} {v : Value} {n : List ByteArray} (h : Tx r S w v n) :
    ∃ a cap, v = .slice a n.length cap ∧ n.length ≤ cap ∧ cap ≤ 9223372036854775807 ∧ n.length * 16 ≤ 140737488351232 ∧ (∀ t ∈ n, t.size ≤ 140737488351232) ∧ (a = none → cap = 0) ∧ NAt r S w a cap n := h
theorem elem_at {r : Bool} {S : Nat → Prop} {w : World} {m : Nat} {a : Option Addr} {cap : Nat} {l : List C} (hL : LAt r S w m a cap l) {q : Nat} (h : q < l.length) :
    ∃ g o u, a = some ⟨g, o, none⟩ ∧ S g ∧ Six w g (o + q * 6) u ∧ In r S w m u l[q] := by
  rcases hL with ⟨rfl, _⟩ | ⟨g, o, ha, hS, hc, _⟩
  · simp at h
  · obtain ⟨u, hu, hi⟩ := hc q h
    exact ⟨g, o, u, ha, hS, hu, hi⟩
theorem name_at {r : Bool} {S : Nat → Prop} {w : World} {a : Option Addr} {cap : Nat} {n : List ByteArray} (hL : NAt r S w a cap n) {q : Nat} (h : q < n.length) :
    ∃ g o, a = some ⟨g, o, none⟩ ∧ S g ∧ w.cell? ⟨g, o + q, none⟩ = some (.string n[q]) := by
  rcases hL with ⟨rfl, _⟩ | ⟨g, o, ha, hS, hc, _⟩
  · simp at h
  · exact ⟨g, o, ha, hS, hc q h⟩
theorem six_below {w w' : World} {g o : Nat} {u : Value} (h : Six w g o u) (hb : Below w.heap.size w w') : Six w' g o u := (Keep.of_below (S := All) hb).six trivial h
theorem below_cell {w w' : World} {g o : Nat} {u : Value} (h : w.cell? ⟨g, o, none⟩ = some u) (hb : Below w.heap.size w w') : w'.cell? ⟨g, o, none⟩ = some u := (Keep.of_below (S := All) hb).cell trivial h
theorem In.six {r : Bool} {S : Nat → Prop} {w : World} {m : Nat} {v : Value} {c : C} (h : In r S w m v c) :
    ∃ v0 v1 v2 v3 v4 v5, v = .agg #[v0, v1, v2, v3, v4, v5] ∧ ∀ u ∈ [v0, v1, v2, v3, v4, v5], u.oneCell' = true := by
  cases m with
  | zero => rw [In] at h; exact h.elim
  | succ m =>
    obtain ⟨k, b, i, s, n, l⟩ := c
    rw [in_iff] at h
    obtain ⟨nv, lv, rfl, -, -, -, ⟨a, ca, rfl, -⟩, ⟨a', ca', rfl, -⟩⟩ := h
    refine ⟨_, _, _, _, _, _, rfl, ?_⟩
    intro u hu
    simp at hu
    rcases hu with rfl | rfl | rfl | rfl | rfl | rfl <;> rfl
theorem In.shape {r : Bool} {S : Nat → Prop} {w : World} {m : Nat} {v : Value} {c : C} (h : In r S w m v c) :
    ∃ m' nv lv, m = m' + 1 ∧ v = .agg #[.int .i64 c.k, .bool c.b, .int .i64 c.i, .string c.s, nv, lv] ∧
      (-9223372036854775808 ≤ c.k ∧ c.k ≤ 9223372036854775807) ∧ (-9223372036854775808 ≤ c.i ∧ c.i ≤ 9223372036854775807) ∧ c.s.size ≤ 140737488351232 ∧ Tx r S w nv c.n ∧ InL r S w m' lv c.l := by
  cases m with
  | zero => rw [In] at h; exact h.elim
  | succ m =>
    obtain ⟨k, b, i, s, n, l⟩ := c
    rw [in_iff] at h
    obtain ⟨nv, lv, h⟩ := h
    exact ⟨m, nv, lv, rfl, h⟩
end Go.Proofs.YtdeigdbnnbikgaaGreatDoor.Base
namespace Go.Proofs.YtdeigdbnnbikgaaGreatDoor.Base
open Go.RowKit
set_option linter.unusedVariables false
theorem info9 : (Tryz.prog.info? 9).map (fun i => (i.zero, i.size, i.bytes)) = some (some (.string ⟨#[]⟩), 1, 16) := by kernel_rfl
theorem info25 : (Tryz.prog.info? 32).map (fun i => (i.zero, i.size, i.bytes)) = some (some (.agg #[.int .i64 0, .bool false, .int .i64 0, .string ⟨#[]⟩, .slice none 0 0, .slice none 0 0]), 6, 88) := by kernel_rfl
/-- Blocks from lo on, below hi. -/
def Rg (lo hi : Nat) : Nat → Prop := fun b => lo ≤ b ∧ b < hi
/-- A row of texts of one's own. -/
def OwnT (w : World) (B : Nat) (v : Value) (L : List ByteArray) : Prop := w.ownsRow B 9 1 v L.length (L.map Value.string)
theorem one_texts (L : List ByteArray) : ∀ u ∈ L.map Value.string, u.oneCell' = true := by
  intro u hu
  obtain ⟨_, _, rfl⟩ := List.mem_map.1 hu
  rfl
theorem ownT_cell {w : World} {B g n cap : Nat} {L : List ByteArray} (h : OwnT w B (.slice (some ⟨g, 0, none⟩) n cap) L) (j : Nat) (hj : j < L.length) : w.cell? ⟨g, 0 + j, none⟩ = some (.string L[j]) := by
  have hc := World.ownsRow.cells (g := g) h rfl j (.string L[j]) (by simp [hj])
  rw [add_none] at hc
  exact hc
/-- A row of values of one's own: their cells one behind the other. -/
def flat (us : List Value) : List Value := us.flatMap fun u => u.cells.toList
def Sixes (us : List Value) : Prop := ∀ u ∈ us, ∃ v0 v1 v2 v3 v4 v5, u = .agg #[v0, v1, v2, v3, v4, v5] ∧ ∀ x ∈ [v0, v1, v2, v3, v4, v5], x.oneCell' = true
def OwnV (w : World) (B : Nat) (v : Value) (us : List Value) : Prop := w.ownsRow B 32 6 v us.length (flat us) ∧ Sixes us
theorem flat_len {us : List Value} (h : Sixes us) : (flat us).length = us.length * 6 := by
  induction us with
  | nil => rfl
  | cons u us ih =>
    obtain ⟨v0, v1, v2, v3, v4, v5, rfl, -⟩ := h u (by simp)
    have := ih (fun x hx => h x (by simp [hx]))
    simp only [flat, List.flatMap_cons, List.length_append] at this ⊢
    simp only [Value.cells, List.length_cons] at this ⊢
    simp [this]
    omega
theorem flat_get {us : List Value} (h : Sixes us) : ∀ (j : Nat) (hj : j < us.length) (i : Nat), i < 6 → (flat us)[j * 6 + i]? = us[j].cells.toList[i]? := by
  induction us with
  | nil => intro j hj; simp at hj
  | cons u us ih =>
    intro j hj i hi
    obtain ⟨v0, v1, v2, v3, v4, v5, rfl, -⟩ := h u (by simp)
    have ih := ih (fun x hx => h x (by simp [hx]))
    have e : flat (.agg #[v0, v1, v2, v3, v4, v5] :: us) = [v0, v1, v2, v3, v4, v5] ++ flat us := by simp [flat, Value.cells]
    rw [e]
    cases j with
    | zero =>
      rw [List.getElem?_append_left (by simp; omega)]
      simp [Value.cells]
    | succ j =>
      rw [List.getElem?_append_right (by simp; omega)]
      have e2 : (j + 1) * 6 + i - [v0, v1, v2, v3, v4, v5].length = j * 6 + i := by simp; omega
      rw [e2, ih j (by simpa using hj) i hi]
      simp
theorem ownV_six {w : World} {B g n cap : Nat} {us : List Value} (h : OwnV w B (.slice (some ⟨g, 0, none⟩) n cap) us) (j : Nat) (hj : j < us.length) : Six w g (0 + j * 6) us[j] := by
  obtain ⟨v0, v1, v2, v3, v4, v5, e, -⟩ := h.2 us[j] (List.getElem_mem hj)
  have hc : ∀ i u, i < 6 → us[j].cells.toList[i]? = some u → w.cell? ⟨g, 0 + (j * 6 + i), none⟩ = some u := by
    intro i u hi hu
    rw [← add_none]
    exact World.ownsRow.cells (g := g) h.1 rfl (j * 6 + i) u (by rw [flat_get h.2 j hj i hi]; exact hu)
  rw [e] at hc ⊢
  refine ⟨v0, v1, v2, v3, v4, v5, rfl, ?_, ?_, ?_, ?_, ?_, ?_⟩
  · exact hc 0 v0 (by omega) rfl
  · exact hc 1 v1 (by omega) rfl
  · exact hc 2 v2 (by omega) rfl
  · exact hc 3 v3 (by omega) rfl
  · exact hc 4 v4 (by omega) rfl
  · exact hc 5 v5 (by omega) rfl
theorem ownV_lt {w : World} {B g n cap : Nat} {L : List Value} (h : OwnV w B (.slice (some ⟨g, 0, none⟩) n cap) L) : B ≤ g ∧ g < w.heap.size := World.ownsRow.lt h.1 g rfl
theorem block_set {w : World} {B j : Nat} {cs : Array Value} {t : TypeId} {fz : Nat × Nat} (h : w.heap[B]? = some (.cells cs t fz)) (u : Value) : (w.setCell ⟨B, j, none⟩ u).heap[B]? = some (.cells (cs.setIfInBounds j u) t fz) := by
  simp [World.setCell, Array.getElem?_modify, h]
theorem frozen_box {w : World} {B : Nat} {cs : Array Value} {t : TypeId} (h : w.heap[B]? = some (.cells cs t (0, 0))) (j : Nat) : w.frozen? ⟨B, j, none⟩ = false := by
  simp [World.frozen?, h]
/-- What the six cells of a value are. -/
theorem In.kinds {r : Bool} {S : Nat → Prop} {w : World} {m : Nat} {x0 x1 x2 x3 x4 x5 : Value} {c : C} (h : In r S w m (.agg #[x0, x1, x2, x3, x4, x5]) c) :
    ∃ a1 n1 c1 a2 n2 c2, x0 = .int .i64 c.k ∧ x1 = .bool c.b ∧ x2 = .int .i64 c.i ∧ x3 = .string c.s ∧ x4 = .slice a1 n1 c1 ∧ x5 = .slice a2 n2 c2 := by
  obtain ⟨m', nv, lv, -, e, -, -, -, ⟨a1, c1, rfl, -⟩, ⟨a2, c2, rfl, -⟩⟩ := h.shape
  simp only [Value.agg.injEq, Array.mk.injEq, List.cons.injEq, and_true] at e
  exact ⟨_, _, _, _, _, _, e⟩
/-- Six cells written. -/
theorem set6 {W W' : World} {B : Nat} {t : TypeId} {y0 y1 y2 y3 y4 y5 : Value} (x0 x1 x2 x3 x4 x5 : Value) (h : W.heap[B]? = some (.cells #[y0, y1, y2, y3, y4, y5] t (0, 0))) (hW : ((((((W.setCell ⟨B, 0, none⟩ x0).setCell ⟨B, 1, none⟩ x1).setCell ⟨B, 2, none⟩ x2).setCell ⟨B, 3, none⟩ x3).setCell ⟨B, 4, none⟩ x4).setCell ⟨B, 5, none⟩ x5) = W') :
    W'.heap[B]? = some (.cells #[x0, x1, x2, x3, x4, x5] t (0, 0)) ∧ (∀ b, b ≠ B → W'.heap[b]? = W.heap[b]?) ∧ W'.heap.size = W.heap.size ∧ ∀ w n, n ≤ B → Below n w W → Below n w W' := by
  subst hW
  refine ⟨?_, fun b hb => ?_, by simp [World.setCell], fun w n hn hb => ?_⟩
  · rw [block_set (block_set (block_set (block_set (block_set (block_set h _) _) _) _) _) _]
    rfl
  · rw [Below.heap_setCell _ _ _ _ hb, Below.heap_setCell _ _ _ _ hb, Below.heap_setCell _ _ _ _ hb, Below.heap_setCell _ _ _ _ hb, Below.heap_setCell _ _ _ _ hb, Below.heap_setCell _ _ _ _ hb]
  · exact (((((hb.setCell (p := ⟨B, 0, none⟩) hn x0).setCell (p := ⟨B, 1, none⟩) hn x1).setCell (p := ⟨B, 2, none⟩) hn x2).setCell (p := ⟨B, 3, none⟩) hn x3).setCell (p := ⟨B, 4, none⟩) hn x4).setCell (p := ⟨B, 5, none⟩) hn x5
theorem own_below {w w' : World} {B : Nat} {e : TypeId} {s n : Nat} {v : Value} {xs : List Value} (h : w.ownsRow B e s v n xs) (hb : Below w.heap.size w w') : w'.ownsRow B e s v n xs := by
  refine ⟨h.1, ?_⟩
  rcases h.2 with h2 | ⟨g, cap, cur, hv, hg, hh, r⟩
  · exact .inl h2
  · exact .inr ⟨g, cap, cur, hv, hg, (hb.block g (Array.getElem?_eq_some_iff.1 hh).1).trans hh, r⟩
end Go.Proofs.YtdeigdbnnbikgaaGreatDoor.Base
namespace Go.Proofs.YtdeigdbnnbikgaaGreatDoor.Eq
open Go.RowKit Go.Proofs.YtdeigdbnnbikgaaGreatDoor.Base
set_option linter.unusedVariables false
/-- Two texts are the same. -/
def eqB (a b : ByteArray) : Bool := a.toList == b.toList
def eqN : List ByteArray → List ByteArray → Bool
  | [], [] => true
  | a :: xs, b :: bs => eqB a b && eqN xs bs
  | _, _ => false
def sameL : List C → List C → Bool
  | [], [] => true
  | .mk k b i s n l :: cs, .mk k' b' i' s' n' l' :: ds => (decide (k = k') && (if k = 2 then b == b' else if k = 3 then i == i' else if k = 4 then eqB s s' else if k = 5 then sameL l l' else if k = 6 then eqN n n' && sameL l l' else true)) && sameL cs ds
  | _, _ => false
def same : C → C → Bool
  | .mk k b i s n l, .mk k' b' i' s' n' l' => decide (k = k') && (if k = 2 then b == b' else if k = 3 then i == i' else if k = 4 then eqB s s' else if k = 5 then sameL l l' else if k = 6 then eqN n n' && sameL l l' else true)
theorem sameL_cons (c d : C) (cs ds : List C) : sameL (c :: cs) (d :: ds) = (same c d && sameL cs ds) := by
  obtain ⟨k, b, i, s, n, l⟩ := c
  obtain ⟨k', b', i', s', n', l'⟩ := d
  rw [sameL, same]
theorem eqB_eq {a b : ByteArray} : eqB a b = true ↔ a = b := by
  unfold eqB
  rw [beq_iff_eq, ByteArray.toList_eq, ByteArray.toList_eq]
  constructor
  · intro h
    apply ByteArray.ext
    exact Array.toList_inj.1 h
  · rintro rfl; rfl
theorem eqN_len {L M : List ByteArray} (h : L.length ≠ M.length) : eqN L M = false := by
  induction L generalizing M with
  | nil => cases M with
    | nil => simp at h
    | cons b bs => rfl
  | cons a xs ih => cases M with
    | nil => rfl
    | cons b bs =>
      rw [eqN, ih (by simpa using h)]
      simp
theorem eqN_iff {L M : List ByteArray} (h : L.length = M.length) : eqN L M = true ↔ ∀ j (h1 : j < L.length) (h2 : j < M.length), eqB L[j] M[j] = true := by
  induction L generalizing M with
  | nil => cases M with
    | nil => simp [eqN]
    | cons b bs => simp at h
  | cons a xs ih => cases M with
    | nil => simp at h
    | cons b bs =>
      rw [eqN, Bool.and_eq_true, ih (by simpa using h)]
      constructor
      · rintro ⟨h1, h2⟩ j hj hj'
        cases j with
        | zero => exact h1
        | succ j => exact h2 j (by simpa using hj) (by simpa using hj')
      · intro hh
        exact ⟨hh 0 (by simp) (by simp), fun j h1 h2 => hh (j + 1) (by simpa using h1) (by simpa using h2)⟩
theorem sameL_len {L M : List C} (h : L.length ≠ M.length) : sameL L M = false := by
  induction L generalizing M with
  | nil => cases M with
    | nil => simp at h
    | cons b bs => simp [sameL]
  | cons a xs ih => cases M with
    | nil => simp [sameL]
    | cons b bs =>
      rw [sameL_cons, ih (by simpa using h)]
      simp
theorem sameL_iff {L M : List C} (h : L.length = M.length) : sameL L M = true ↔ ∀ j (h1 : j < L.length) (h2 : j < M.length), same L[j] M[j] = true := by
  induction L generalizing M with
  | nil => cases M with
    | nil => simp [sameL]
    | cons b bs => simp at h
  | cons a xs ih => cases M with
    | nil => simp at h
    | cons b bs =>
      rw [sameL_cons, Bool.and_eq_true, ih (by simpa using h)]
      constructor
      · rintro ⟨h1, h2⟩ j hj hj'
        cases j with
        | zero => exact h1
        | succ j => exact h2 j (by simpa using hj) (by simpa using hj')
      · intro hh
        exact ⟨hh 0 (by simp) (by simp), fun j h1 h2 => hh (j + 1) (by simpa using h1) (by simpa using h2)⟩
theorem false_of {b : Bool} (h : ¬ b = true) : b = false := by simpa using h
theorem eqT_c (u v : Value) (L M : List ByteArray) (w : World) (hu : Tx false All w u L) (hv : Tx false All w v M) :
    Calls Tryz.prog 194 #[u, v] w fun e w' => e = .returned (.bool (eqN L M)) ∧ Below w.heap.size w w' := by
  obtain ⟨a, cap, rfl, hlc, hm, hlen, hsz, hnil, hN⟩ := hu.out
  obtain ⟨a', cap', rfl, hlc', hm', hlen', hsz', hnil', hN'⟩ := hv.out
  clear hu hv hsz hsz'
  by_cases hne : L.length = M.length
  · have HI := eqN_iff hne
    generalize eqN L M = R at *
    have hne' : ((L.length : Int) != (M.length : Int)) = false := by simp; omega
    have HH : Hid (R = true ↔ ∀ j (h1 : j < L.length) (h2 : j < M.length), eqB L[j] M[j] = true) := HI
    clear HI
    go_enter Tryz.func194, Tryz.ntmps194
    go_wp2_with fail
    go_loopw [13] (fun i wr => ∃ q : Nat, q ≤ L.length ∧ i = .int .i64 q ∧ (∀ j (h1 : j < L.length) (h2 : j < M.length), j < q → eqB L[j] M[j] = true) ∧ Below w.heap.size w wr) (fun i _ => L.length - (intOf i).toNat)
    case atStart => exact ⟨0, by omega, rfl, fun j _ _ h => by omega, Below.refl _ _⟩
    case round =>
      obtain ⟨q, hq, rfl, hall, hb⟩ := hrel
      by_cases hlt : q < L.length
      · have hlt2 : q < M.length := by omega
        obtain ⟨g, o, rfl, -, hc⟩ := name_at hN hlt
        obtain ⟨g', o', rfl, -, hc'⟩ := name_at hN' hlt2
        have hc := below_cell hc hb
        have hc' := below_cell hc' hb
        have hb' := hb.drew
        have HA : Hid (∀ j (h1 : j < L.length) (h2 : j < M.length), j < q → eqB L[j] M[j] = true) := hall
        obtain ⟨x, hx⟩ : ∃ x, L[q] = x := ⟨_, rfl⟩
        obtain ⟨y, hy⟩ : ∃ y, M[q] = y := ⟨_, rfl⟩
        have HX : Hid (L[q] = x) := hx
        have HY : Hid (M[q] = y) := hy
        rw [hx] at hc
        rw [hy] at hc'
        clear hN hN' hall hx hy
        cases he : (x.toList == y.toList) with
        | true =>
          have he' : eqB x y = true := he
          go_wp2_with fail
          go_region
          all_goals go_wp2_with fail
          all_goals go_roundw
          all_goals first
            | (case rel =>
                refine ⟨q + 1, by omega, by go_num, fun j h1 h2 hj => ?_, hb'⟩
                by_cases e : j = q
                · subst e
                  rw [HX.out, HY.out]
                  exact he'
                · exact HA.out j h1 h2 (by omega))
            | (case measure => simp only [intOf]; omega)
        | false =>
          have he' : ¬ eqB x y = true := by unfold eqB; rw [he]; simp
          have hR : R = false := false_of fun h => he' (by have := HH.out.1 h q hlt hlt2; rwa [HX.out, HY.out] at this)
          subst hR
          go_wp2_with fail
          go_region
          all_goals go_wp2_with fail
          all_goals go_ret
          all_goals exact ⟨rfl, hb'⟩
      · have hlt' : decide ((q : Int) < (L.length : Int)) = false := by simp; omega
        have hR : R = true := HH.out.2 fun j h1 h2 => hall j h1 h2 (by omega)
        subst hR
        clear hall
        go_wp2_with fail
        go_ret
        exact ⟨rfl, hb⟩
  · rw [eqN_len hne]
    have hne' : ((L.length : Int) != (M.length : Int)) = true := by simp; omega
    go_enter Tryz.func194, Tryz.ntmps194
    go_wp2_with fail
    go_ret
    exact ⟨rfl, Below.refl _ _⟩
end Go.Proofs.YtdeigdbnnbikgaaGreatDoor.Eq
namespace Go.Proofs.YtdeigdbnnbikgaaGreatDoor.Same
open Go.RowKit Go.Proofs.YtdeigdbnnbikgaaGreatDoor.Base Go.Proofs.YtdeigdbnnbikgaaGreatDoor.Eq
set_option linter.unusedVariables false
def SameIs (m : Nat) : Prop := ∀ (u v : Value) (c d : C) (w : World), In false All w m u c → In false All w m v d →
    Calls Tryz.prog 155 #[u, v] w fun e w' => e = .returned (.bool (same c d)) ∧ Below w.heap.size w w'
set_option maxRecDepth 20000 in
set_option maxHeartbeats 800000 in
theorem eqF_of (m : Nat) (hm : SameIs m) (u v : Value) (L M : List C) (w : World) (hu : InL false All w m u L) (hv : InL false All w m v M) :
    Calls Tryz.prog 193 #[u, v, .func (.func 155) #[] #[]] w fun e w' => e = .returned (.bool (sameL L M)) ∧ Below w.heap.size w w' := by
  obtain ⟨a, cap, rfl, hlc, hcm, hlen, hnil, hN⟩ := hu.out
  obtain ⟨a', cap', rfl, hlc', hm', hlen', hnil', hN'⟩ := hv.out
  clear hu hv
  by_cases hne : L.length = M.length
  · have HI := sameL_iff hne
    generalize sameL L M = R at *
    have hne' : ((L.length : Int) != (M.length : Int)) = false := by simp; omega
    have HH : Hid (R = true ↔ ∀ j (h1 : j < L.length) (h2 : j < M.length), same L[j] M[j] = true) := HI
    have hle1 : L.length ≤ M.length := by omega
    have hle2 : M.length ≤ L.length := by omega
    clear HI hne
    go_enter Tryz.func193, Tryz.ntmps193
    go_wp2_with fail
    go_loopw [17] (fun i wr => ∃ q : Nat, q ≤ L.length ∧ i = .int .i64 q ∧ (∀ j (h1 : j < L.length) (h2 : j < M.length), j < q → same L[j] M[j] = true) ∧ Below w.heap.size w wr) (fun i _ => L.length - (intOf i).toNat)
    case atStart => exact ⟨0, by omega, rfl, fun j _ _ h => by omega, Below.refl _ _⟩
    case round =>
      obtain ⟨q, hq, rfl, hall, hb⟩ := hrel
      by_cases hlt : q < L.length
      · have hlt2 : q < M.length := by omega
        obtain ⟨g, o, x, rfl, -, hx, hin⟩ := elem_at hN hlt
        obtain ⟨g', o', y, rfl, -, hy, hin'⟩ := elem_at hN' hlt2
        have hx := six_below hx hb
        have hy := six_below hy hb
        obtain ⟨x0, x1, x2, x3, x4, x5, rfl, d0, d1, d2, d3, d4, d5⟩ := hx
        obtain ⟨y0, y1, y2, y3, y4, y5, rfl, e0, e1, e2, e3, e4, e5⟩ := hy
        obtain ⟨a1, n1, c1, a2, n2, c2, rfl, rfl, rfl, rfl, rfl, rfl⟩ := hin.kinds
        obtain ⟨p1, q1, r1, p2, q2, r2, rfl, rfl, rfl, rfl, rfl, rfl⟩ := hin'.kinds
        generalize L[q].k = kk, L[q].b = bb, L[q].i = ii, L[q].s = ss, M[q].k = kk', M[q].b = bb', M[q].i = ii', M[q].s = ss' at *
        have hg' : g' < wr.heap.size := cell_lt e0
        have hb2 : Below wr.heap.size wr ((wr.alloc (.cells #[.int .i64 kk, .bool bb, .int .i64 ii, .string ss, .slice a1 n1 c1, .slice a2 n2 c2] 32)).alloc (.cells #[.int .i64 kk', .bool bb', .int .i64 ii', .string ss', .slice p1 q1 r1, .slice p2 q2 r2] 32)) := ((Below.refl _ wr).alloc (Nat.le_refl _) _).alloc (by simp) _
        have c20 := hm _ _ L[q] M[q] _ ((hin.below hb).below hb2) ((hin'.below hb).below hb2)
        have HA : Hid (∀ j (h1 : j < L.length) (h2 : j < M.length), j < q → same L[j] M[j] = true) := hall
        obtain ⟨x, hx⟩ : ∃ x, same L[q] M[q] = x := ⟨_, rfl⟩
        have HX : Hid (same L[q] M[q] = x) := hx
        rw [hx] at c20
        clear hN hN' hall hx hin hin' hm
        go_wp2_with fail
        refine c20.mono ?_
        rintro e w1 ⟨rfl, b1⟩
        have hb3 := nx (nx hb hb2) b1
        clear hb2 b1 c20
        cases x with
        | true =>
          go_wp2_with fail
          go_roundw
          case rel =>
            refine ⟨q + 1, by omega, by go_num, fun j h1 h2 hj => ?_, hb3⟩
            by_cases e : j = q
            · subst e
              exact HX.out
            · exact HA.out j h1 h2 (by omega)
          case measure => simp only [intOf]; omega
        | false =>
          have hR : R = false := false_of fun h => by
            have := HH.out.1 h q hlt hlt2
            rw [HX.out] at this
            cases this
          subst hR
          go_wp2_with fail
          go_ret
          exact ⟨rfl, hb3⟩
      · have hlt' : decide ((q : Int) < (L.length : Int)) = false := by simp; omega
        have hR : R = true := HH.out.2 fun j h1 h2 => hall j h1 h2 (by omega)
        subst hR
        clear hall
        go_wp2_with fail
        go_ret
        exact ⟨rfl, hb⟩
  · rw [sameL_len hne]
    have hne' : ((L.length : Int) != (M.length : Int)) = true := by simp; omega
    go_enter Tryz.func193, Tryz.ntmps193
    go_wp2_with fail
    go_ret
    exact ⟨rfl, Below.refl _ _⟩
set_option maxRecDepth 20000 in
set_option maxHeartbeats 800000 in
theorem same_of (m : Nat) (hm : ∀ (u v : Value) (L M : List C) (w : World), InL false All w m u L → InL false All w m v M →
      Calls Tryz.prog 193 #[u, v, .func (.func 155) #[] #[]] w fun e w' => e = .returned (.bool (sameL L M)) ∧ Below w.heap.size w w') : SameIs (m + 1) := by
  intro u v c d w hu hv
  obtain ⟨k, b, i, s, n, l⟩ := c
  obtain ⟨k', b', i', s', n', l'⟩ := d
  rw [in_iff] at hu hv
  obtain ⟨nv, lv, rfl, -, -, -, hn, hl⟩ := hu
  obtain ⟨nv', lv', rfl, -, -, -, hn', hl'⟩ := hv
  obtain ⟨W0, hW0⟩ : ∃ W0, (w.alloc (.cells #[.int .i64 k, .bool b, .int .i64 i, .string s, nv, lv] 32)).alloc (.cells #[.int .i64 k', .bool b', .int .i64 i', .string s', nv', lv'] 32) = W0 := ⟨_, rfl⟩
  have hb0 : Below w.heap.size w W0 := by rw [← hW0]; exact ((Below.refl _ w).alloc (Nat.le_refl _) _).alloc (by simp) _
  have hsz0 : W0.heap.size = w.heap.size + 2 := by rw [← hW0]; simp
  have hx0 : W0.heap[w.heap.size]? = some (.cells #[.int .i64 k, .bool b, .int .i64 i, .string s, nv, lv] 32) := by
    rw [← hW0, Below.heap_alloc _ _ _ (by simp), heap_alloc_new]
  have hx1 : W0.heap[w.heap.size + 1]? = some (.cells #[.int .i64 k', .bool b', .int .i64 i', .string s', nv', lv'] 32) := by
    have := heap_alloc_new (w.alloc (.cells #[.int .i64 k, .bool b, .int .i64 i, .string s, nv, lv] 32)) (.cells #[.int .i64 k', .bool b', .int .i64 i', .string s', nv', lv'] 32)
    rwa [hW0, World.size_alloc] at this
  obtain ⟨d0, d1, d2, d3, d4, d5⟩ := six_box hx0
  obtain ⟨e0, e1, e2, e3, e4, e5⟩ := six_box hx1
  by_cases hk : ¬ k = k'
  · have hk' : (k != k') = true := by simp [hk]
    have e : same (.mk k b i s n l) (.mk k' b' i' s' n' l') = false := by simp [same, hk]
    rw [e]
    clear e
    go_enter Tryz.func155, Tryz.ntmps155
    go_wp2_with fail
    go_ret
    exact ⟨rfl, hb0⟩
  have hk : k = k' := Decidable.of_not_not hk
  subst hk
  by_cases h2 : k = 2
  · subst h2
    have e : same (.mk 2 b i s n l) (.mk 2 b' i' s' n' l') = (b == b') := by simp [same]
    rw [e]
    clear e
    go_enter Tryz.func155, Tryz.ntmps155
    go_wp2_with fail
    go_ret
    exact ⟨rfl, hb0⟩
  by_cases h3 : k = 3
  · subst h3
    have e : same (.mk 3 b i s n l) (.mk 3 b' i' s' n' l') = (i == i') := by simp [same]
    rw [e]
    clear e
    go_enter Tryz.func155, Tryz.ntmps155
    go_wp2_with fail
    go_ret
    exact ⟨rfl, hb0⟩
  by_cases h4 : k = 4
  · subst h4
    have e : same (.mk 4 b i s n l) (.mk 4 b' i' s' n' l') = (s.toList == s'.toList) := by simp [same, eqB]
    rw [e]
    clear e
    go_enter Tryz.func155, Tryz.ntmps155
    go_wp2_with fail
    go_ret
    exact ⟨rfl, hb0⟩
  have h2' : (k == 2) = false := by simp [h2]
  have h3' : (k == 3) = false := by simp [h3]
  have h4' : (k == 4) = false := by simp [h4]
  by_cases h5 : k = 5
  · subst h5
    have e : same (.mk 5 b i s n l) (.mk 5 b' i' s' n' l') = sameL l l' := by simp [same]
    rw [e]
    have c42 := hm lv lv' l l' W0 (hl.below hb0) (hl'.below hb0)
    generalize sameL l l' = R at *
    clear e hm hx0 hx1
    go_enter Tryz.func155, Tryz.ntmps155
    go_wp2_with (first | (go_at_call 193; refine c42.mono ?_; rintro e w1 ⟨rfl, b1⟩))
    go_ret
    exact ⟨rfl, nx hb0 b1⟩
  have h5' : (k == 5) = false := by simp [h5]
  by_cases h6 : k = 6
  · subst h6
    have e : same (.mk 6 b i s n l) (.mk 6 b' i' s' n' l') = (eqN n n' && sameL l l') := by simp [same]
    rw [e]
    have c43 := eqT_c nv nv' n n' W0 (hn.below hb0) (hn'.below hb0)
    generalize eqN n n' = T at *
    have hm := fun w h1 h2 => hm lv lv' l l' w h1 h2
    generalize sameL l l' = R at *
    clear e
    go_enter Tryz.func155, Tryz.ntmps155
    go_wp2_with fail
    refine c43.mono ?_
    rintro e w1 ⟨rfl, b1⟩
    have k5 := (six_box ((b1.block w.heap.size (by omega)).trans hx0)).2.2.2.2.2
    have j5 := (six_box ((b1.block (w.heap.size + 1) (by omega)).trans hx1)).2.2.2.2.2
    have c42 := hm w1 ((hl.below hb0).below b1) ((hl'.below hb0).below b1)
    clear c43 hx0 hx1 hW0 hm
    cases T with
    | false =>
      go_wp2_with fail
      go_ret
      exact ⟨rfl, nx hb0 b1⟩
    | true =>
      go_wp2_with (first | (go_at_call 193; refine c42.mono ?_; rintro e w2 ⟨rfl, b2⟩))
      go_ret
      exact ⟨by simp, nx (nx hb0 b1) b2⟩
  have h6' : (k == 6) = false := by simp [h6]
  have e : same (.mk k b i s n l) (.mk k b' i' s' n' l') = true := by simp [same, h2, h3, h4, h5, h6]
  rw [e]
  clear e
  go_enter Tryz.func155, Tryz.ntmps155
  go_wp2_with fail
  go_ret
  exact ⟨rfl, hb0⟩
theorem sames : ∀ m, SameIs m := by
  intro m
  induction m with
  | zero => intro u v c d w h; rw [In] at h; exact h.elim
  | succ m ih => exact same_of m (eqF_of m ih)
theorem same_c {m m' : Nat} {u v : Value} {c d : C} {w : World} (hu : In false All w m u c) (hv : In false All w m' v d) :
    Calls Tryz.prog 155 #[u, v] w fun e w' => e = .returned (.bool (same c d)) ∧ Below w.heap.size w w' :=
  sames (max m m') u v c d w (hu.weak (fun _ h => h) false id _ (Nat.le_max_left _ _)) (hv.weak (fun _ h => h) false id _ (Nat.le_max_right _ _))
end Go.Proofs.YtdeigdbnnbikgaaGreatDoor.Same
namespace Go.Proofs.YtdeigdbnnbikgaaGreatDoor.Shallow
open Go.RowKit Go.Proofs.YtdeigdbnnbikgaaGreatDoor.Base
set_option linter.unusedVariables false
def depL : List C → Nat
  | [] => 0
  | .mk _ _ _ _ _ l :: cs => max (depL l + 1) (depL cs)
def dep : C → Nat
  | .mk _ _ _ _ _ l => depL l + 1
theorem depL_cons (c : C) (cs : List C) : depL (c :: cs) = max (dep c) (depL cs) := by
  obtain ⟨k, b, i, s, n, l⟩ := c
  rw [depL, dep]
theorem depL_le {l : List C} {q : Nat} : depL l ≤ q ↔ ∀ j (h : j < l.length), dep l[j] ≤ q := by
  induction l with
  | nil => simp [depL]
  | cons c cs ih =>
    rw [depL_cons, Nat.max_le, ih]
    constructor
    · rintro ⟨h1, h2⟩ j hj
      cases j with
      | zero => exact h1
      | succ j => exact h2 j (by simpa using hj)
    · intro h
      exact ⟨h 0 (by simp), fun j hj => h (j + 1) (by simpa using hj)⟩
end Go.Proofs.YtdeigdbnnbikgaaGreatDoor.Shallow
namespace Go.Proofs.YtdeigdbnnbikgaaGreatDoor.Clone
open Go.RowKit Go.Proofs.YtdeigdbnnbikgaaGreatDoor.Base
set_option linter.unusedVariables false
theorem cloneT_c (v : Value) (L : List ByteArray) (w : World) (h : Tx false All w v L) :
    Calls Tryz.prog 77 #[v] w fun e w' => ∃ u, e = .returned u ∧ OwnT w' w.heap.size u L ∧ Below w.heap.size w w' := by
  obtain ⟨i0, hi, hz0, hz1, hz2⟩ := info_parts info9
  obtain ⟨a, cap, rfl, hlc, hm, hlen, hsz, hnil, hN⟩ := h.out
  have ho : OwnT (w.alloc (.cells #[] 9)) w.heap.size (.slice (some ⟨w.heap.size, 0, none⟩) 0 0) [] := by
    refine ⟨rfl, .inr ⟨w.heap.size, 0, #[], rfl, Nat.le_refl _, heap_alloc_new w _, Nat.le_refl _, by simp [maxLen], rfl, rfl⟩⟩
  have q22 : ∀ (w : World) (a : Option Addr) (n c n' c' : Nat), (binOp .eql 29 (.slice a n c) (.slice none n' c')).run Tryz.prog w = .ok (.bool a.isNone) w := fun w a n c n' c' => Lib.run_eql_slice_nil w _ _ a n c n' c' Tryz.underlying29
  have hb : Below w.heap.size w (w.alloc (.cells #[] 9)) := (Below.refl _ w).alloc (Nat.le_refl _) _
  cases a with
  | none =>
    obtain rfl := hnil rfl
    obtain rfl : L = [] := List.eq_nil_of_length_eq_zero (by omega)
    go_enter Tryz.func77, Tryz.ntmps77
    go_wp2_with fail
    go_ret
    exact ⟨_, rfl, World.ownsRow_nil _ _ _ _, Below.refl _ _⟩
  | some x =>
    obtain ⟨g, o, sp⟩ := x
    have hnews : ∀ j u, (L.map Value.string)[j]? = some u → (w.alloc (.cells #[] 9)).cell? ((⟨g, o, sp⟩ : Addr).add j) = some u := by
      intro j u hj
      have hl : j < L.length := by
        have := (List.getElem?_eq_some_iff.1 hj).1
        simpa using this
      obtain ⟨g', o', e, -, hc⟩ := name_at hN hl
      cases e
      rw [add_none]
      have hj' : u = .string L[j] := by simpa [hl] using hj.symm
      rw [hj']
      exact below_cell hc hb
    clear hN h
    go_enter Tryz.func77, Tryz.ntmps77
    go_wp2_with (first
      | (at_builtin; refine wpList_append_own _ rfl _ _ 29 rfl w.heap.size 9 i0 (.string ⟨#[]⟩) 1 16 Tryz.underlying29 hi hz0 hz1 hz2 rfl (by decide) _ _ _ rfl ho ⟨g, o, sp⟩ L.length cap (L.map Value.string) rfl (by simp) hnews (one_texts L) (by unfold maxLen; simp; omega) (by simp; omega) (by simp) ?_))
    intro v' w2 hown' hgrow hnn
    have hb3 := hb.grown hgrow (by simp) (fun k hk => by cases hk; exact Nat.le_refl _)
    have ho2 : OwnT w2 w.heap.size v' L := by
      unfold OwnT
      simpa using hown'
    clear hown' hgrow ho hb hnews hnn
    go_wp2_with fail
    go_ret
    exact ⟨_, rfl, ho2, hb3⟩
/-- The elements of a list, as values. -/
theorem elems {S : Nat → Prop} {w : World} {m : Nat} {a : Option Addr} {cap : Nat} {l : List C} (hL : LAt false S w m a cap l) :
    ∃ os : List Value, os.length = l.length ∧ Sixes os ∧ (∀ j (h : j < os.length) (h' : j < l.length), In false S w m os[j] l[j]) ∧
      ∀ g o, a = some ⟨g, o, none⟩ → ∀ j (h : j < os.length), Six w g (o + j * 6) os[j] := by
  rcases hL with ⟨rfl, _⟩ | ⟨g, o, rfl, hS, hc, _⟩
  · exact ⟨[], rfl, fun u hu => (by cases hu), fun j h => by simp at h, fun g o _ j h => by simp at h⟩
  · have : ∀ j : Fin l.length, ∃ u, Six w g (o + j.1 * 6) u ∧ In false S w m u l[j.1] := fun j => hc j.1 j.2
    obtain ⟨f, hf⟩ := Classical.axiomOfChoice this
    refine ⟨List.ofFn f, by simp, ?_, ?_, ?_⟩
    · intro u hu
      obtain ⟨j, rfl⟩ := List.mem_ofFn.1 hu
      exact (hf j).2.six
    · intro j h h'
      have := (hf ⟨j, h'⟩).2
      simpa using this
    · rintro g' o' e j h
      cases e
      have h' : j < l.length := by simpa using h
      have := (hf ⟨j, h'⟩).1
      simpa using this
theorem flat_one {us : List Value} (h : Sixes us) : ∀ u ∈ flat us, u.oneCell' = true := by
  intro u hu
  obtain ⟨x, hx, hu⟩ := List.mem_flatMap.1 hu
  obtain ⟨v0, v1, v2, v3, v4, v5, rfl, h1⟩ := h x hx
  exact h1 u (by simpa [Value.cells] using hu)
theorem flat_cells {w : World} {g o : Nat} {us : List Value} (h : ∀ j (h : j < us.length), Six w g (o + j * 6) us[j]) (hs : Sixes us) : ∀ j u, (flat us)[j]? = some u → w.cell? ⟨g, o + j, none⟩ = some u := by
  intro j u hj
  have hlt : j < us.length * 6 := by rw [← flat_len hs]; exact (List.getElem?_eq_some_iff.1 hj).1
  have hq : j / 6 < us.length := by omega
  have hr : j % 6 < 6 := by omega
  have e : j / 6 * 6 + j % 6 = j := by omega
  have hg := flat_get hs (j / 6) hq (j % 6) hr
  rw [e, hj] at hg
  obtain ⟨v0, v1, v2, v3, v4, v5, e6, c0, c1, c2, c3, c4, c5⟩ := h (j / 6) hq
  rw [e6] at hg
  have hcase : j % 6 = 0 ∨ j % 6 = 1 ∨ j % 6 = 2 ∨ j % 6 = 3 ∨ j % 6 = 4 ∨ j % 6 = 5 := by omega
  rcases hcase with h6 | h6 | h6 | h6 | h6 | h6 <;> rw [h6] at hg e <;> simp only [Value.cells] at hg <;> simp at hg <;> subst hg
  · rw [show o + j = o + j / 6 * 6 by omega]; exact c0
  · rw [show o + j = o + j / 6 * 6 + 1 by omega]; exact c1
  · rw [show o + j = o + j / 6 * 6 + 2 by omega]; exact c2
  · rw [show o + j = o + j / 6 * 6 + 3 by omega]; exact c3
  · rw [show o + j = o + j / 6 * 6 + 4 by omega]; exact c4
  · rw [show o + j = o + j / 6 * 6 + 5 by omega]; exact c5
set_option maxRecDepth 20000 in
theorem cloneV_c {S : Nat → Prop} (m : Nat) (v : Value) (l : List C) (w : World) (h : InL false S w m v l) :
    Calls Tryz.prog 78 #[v] w fun e w' => ∃ u, e = .returned u ∧ ∃ os, OwnV w' w.heap.size u os ∧ os.length = l.length ∧ (∀ j (h : j < os.length) (h' : j < l.length), In false S w m os[j] l[j]) ∧ Below w.heap.size w w' := by
  obtain ⟨i0, hi, hz0, hz1, hz2⟩ := info_parts info25
  obtain ⟨a, cap, rfl, hlc, hm, hlen, hnil, hL⟩ := h.out
  obtain ⟨os, hos, hsix, hins, hcs⟩ := elems hL
  have ho : (w.alloc (.cells #[] 32)).ownsRow w.heap.size 32 6 (.slice (some ⟨w.heap.size, 0, none⟩) 0 0) 0 [] := by
    refine ⟨rfl, .inr ⟨w.heap.size, 0, #[], rfl, Nat.le_refl _, heap_alloc_new w _, Nat.le_refl _, by simp [maxLen], rfl, rfl⟩⟩
  have q23 : ∀ (w : World) (a : Option Addr) (n c n' c' : Nat), (binOp .eql 30 (.slice a n c) (.slice none n' c')).run Tryz.prog w = .ok (.bool a.isNone) w := fun w a n c n' c' => Lib.run_eql_slice_nil w _ _ a n c n' c' Tryz.underlying30
  have hb : Below w.heap.size w (w.alloc (.cells #[] 32)) := (Below.refl _ w).alloc (Nat.le_refl _) _
  have HH : Hid (os.length = l.length ∧ Sixes os ∧ ∀ j (h : j < os.length) (h' : j < l.length), In false S w m os[j] l[j]) := ⟨hos, hsix, hins⟩
  cases a with
  | none =>
    obtain rfl := hnil rfl
    obtain rfl : l = [] := List.eq_nil_of_length_eq_zero (by omega)
    obtain rfl : os = [] := List.eq_nil_of_length_eq_zero (by simpa using hos)
    clear hos hsix hins hcs hL
    go_enter Tryz.func78, Tryz.ntmps78
    go_wp2_with fail
    go_ret
    exact ⟨_, rfl, [], ⟨World.ownsRow_nil _ _ _ _, HH.out.2.1⟩, rfl, Below.refl _ _⟩
  | some x =>
    obtain ⟨g, o, sp⟩ := x
    have hnews : ∀ j u, (flat os)[j]? = some u → (w.alloc (.cells #[] 32)).cell? ((⟨g, o, sp⟩ : Addr).add j) = some u := by
      intro j u hj
      have hl : j < os.length * 6 := by rw [← flat_len hsix]; exact (List.getElem?_eq_some_iff.1 hj).1
      obtain ⟨g', o', u', e, -⟩ := elem_at hL (q := 0) (by omega)
      cases e
      rw [add_none]
      exact below_cell (flat_cells (hcs g o rfl) hsix j u hj) hb
    have hfl : (flat os).length = l.length * 6 := by rw [flat_len hsix, hos]
    have hf1 := flat_one hsix
    have Hfl : Hid ((flat os).length = l.length * 6) := hfl
    obtain ⟨F, hF⟩ : ∃ F, flat os = F := ⟨_, rfl⟩
    have HF : Hid (flat os = F) := hF
    rw [hF] at hnews hfl hf1
    clear hF hL h hos hsix hins hcs hfl Hfl
    have hfl : F.length = l.length * 6 := by rw [← HF.out, flat_len HH.out.2.1, HH.out.1]
    go_enter Tryz.func78, Tryz.ntmps78
    go_wp2_with (first
      | (at_builtin; refine wpList_append_own _ rfl _ _ 30 rfl w.heap.size 32 i0 (.agg #[.int .i64 0, .bool false, .int .i64 0, .string ⟨#[]⟩, .slice none 0 0, .slice none 0 0]) 6 88 Tryz.underlying30 hi hz0 hz1 hz2 rfl (by decide) _ _ _ rfl ho ⟨g, o, sp⟩ l.length cap F rfl hfl hnews hf1 (by unfold maxLen; simp; omega) (by simp; omega) (by simp) ?_))
    intro v' w2 hown' hgrow hnn
    have hb3 := hb.grown hgrow (by simp) (fun k hk => by cases hk; exact Nat.le_refl _)
    have ho2 : OwnV w2 w.heap.size v' os := by
      refine ⟨?_, HH.out.2.1⟩
      rw [HF.out, HH.out.1]
      simpa using hown'
    clear hown' hgrow ho hb hnews hnn hf1 hfl
    go_wp2_with fail
    go_ret
    exact ⟨_, rfl, os, ho2, HH.out.1, HH.out.2.2, hb3⟩
end Go.Proofs.YtdeigdbnnbikgaaGreatDoor.Clone
