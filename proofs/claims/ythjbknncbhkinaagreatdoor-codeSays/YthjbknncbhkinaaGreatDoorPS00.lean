import Derived.Below
import Derived.Laws.AppendOwn
import Derived.Lib.SliceRun
import Derived.LoopN
import Derived.LoopTactic
import Derived.Maps.AppendAt
import Derived.ProofKit
import Derived.Test.YthjbknncbhkinaaGreatDoorProg
import Derived.WalkKit
open Go.Proofs.Tryz
set_option linter.unusedVariables false
set_option maxRecDepth 20000
namespace Go.Proofs.YthjbknncbhkinaaGreatDoor.Base
theorem zA {α : Type _} {xs : List α} {i : Nat} (h : i < xs.toArray.size) : xs.toArray[i] = xs[i]'(by simpa using h) := rfl
theorem zB {α : Type _} {a : α} {bs : List α} {h : 0 < (a :: bs).length} : getElem (a :: bs) 0 h = a := rfl
theorem zC {α : Type _} {a : α} {bs : List α} {i : Nat} {h : i + 1 < (a :: bs).length} : getElem (a :: bs) (i + 1) h = getElem bs i (Nat.lt_of_succ_lt_succ h) := rfl
theorem zD {α : Type _} {l : List α} {i : Nat} {a : α} : l.toArray.setIfInBounds i a = (l.set i a).toArray := List.setIfInBounds_toArray ..
theorem zE {α : Type _} {x : α} {xs : List α} {a : α} : (x :: xs).set 0 a = a :: xs := rfl
theorem zF {α : Type _} {x : α} {xs : List α} {i : Nat} {a : α} : (x :: xs).set (i + 1) a = x :: xs.set i a := rfl
open Go.RowKit
structure C where
 mk ::
 (k0 : Int) (b0 : Bool) (i0 : Int) (s0 : ByteArray) (n0 : List ByteArray) (l0 : List C)
def C.k : C -> Int | .mk k _ _ _ _ _ => k
def C.b : C -> Bool | .mk _ b _ _ _ _ => b
def C.i : C -> Int | .mk _ _ i _ _ _ => i
def C.s : C -> ByteArray | .mk _ _ _ s _ _ => s
def C.n : C -> List ByteArray | .mk _ _ _ _ n _ => n
def C.l : C -> List C | .mk _ _ _ _ _ l => l
def room : ByteArray := ⟨#[126, 114, 111, 111, 109]⟩
def behind : ByteArray := ⟨#[126, 98, 101, 104, 105, 110, 100]⟩
def room7 : Value := .agg #[.int .i64 (-7), .bool false, .int .i64 0, .string ⟨#[]⟩, .slice none 0 0, .slice none 0 0]
def Six (w : World) (g o : Nat) (u : Value) : Prop :=
 ∃ v0 v1 v2 v3 v4 v5, u = .agg #[v0, v1, v2, v3, v4, v5] /\ w.cell? ⟨g, o, none⟩ = some v0 /\ w.cell? ⟨g, o + 1, none⟩ = some v1 /\ w.cell? ⟨g, o + 2, none⟩ = some v2 /\
  w.cell? ⟨g, o + 3, none⟩ = some v3 /\ w.cell? ⟨g, o + 4, none⟩ = some v4 /\ w.cell? ⟨g, o + 5, none⟩ = some v5
def Tx (r : Bool) (S : Nat -> Prop) (w : World) (v : Value) (n : List ByteArray) : Prop :=
 ∃ a cap, v = .slice a n.length cap /\ n.length <= cap /\ cap <= maxLen /\ n.length * 16 <= 140737488351232 /\ (∀ t ∈ n, t.size <= 140737488351232) /\ (a = none -> cap = 0) /\
  ((n = [] /\ r = false) \/ ∃ g o, a = some ⟨g, o, none⟩ /\ S g /\ (∀ j (h : j < n.length), w.cell? ⟨g, o + j, none⟩ = some (.string n[j])) /\
   (r = true -> n.length + 2 <= cap /\ w.cell? ⟨g, o + n.length, none⟩ = some (.string room) /\ w.cell? ⟨g, o + n.length + 1, none⟩ = some (.string behind)))
def In (r : Bool) (S : Nat -> Prop) (w : World) : Nat -> Value -> C -> Prop
 | 0, _, _ => False
 | m + 1, v, .mk k b i s n l => ∃ nv a cap, v = .agg #[.int .i64 k, .bool b, .int .i64 i, .string s, nv, .slice a l.length cap] /\
   (-9223372036854775808 <= k /\ k <= 9223372036854775807) /\ (-9223372036854775808 <= i /\ i <= 9223372036854775807) /\ s.size <= 140737488351232 /\ Tx r S w nv n /\
   l.length <= cap /\ cap <= maxLen /\ l.length * 88 <= 140737488351232 /\ (a = none -> cap = 0) /\
   ((l = [] /\ r = false) \/ ∃ g o, a = some ⟨g, o, none⟩ /\ S g /\ (∀ j (h : j < l.length), ∃ u, Six w g (o + j * 6) u /\ In r S w m u l[j]) /\
    (r = true -> l.length + 2 <= cap /\ Six w g (o + l.length * 6) room7 /\ Six w g (o + l.length * 6 + 6) room7))
def InL (r : Bool) (S : Nat -> Prop) (w : World) (m : Nat) (v : Value) (l : List C) : Prop :=
 ∃ a cap, v = .slice a l.length cap /\ l.length <= cap /\ cap <= maxLen /\ l.length * 88 <= 140737488351232 /\ (a = none -> cap = 0) /\
   ((l = [] /\ r = false) \/ ∃ g o, a = some ⟨g, o, none⟩ /\ S g /\ (∀ j (h : j < l.length), ∃ u, Six w g (o + j * 6) u /\ In r S w m u l[j]) /\
    (r = true -> l.length + 2 <= cap /\ Six w g (o + l.length * 6) room7 /\ Six w g (o + l.length * 6 + 6) room7))
theorem in_iff {r : Bool} {S : Nat -> Prop} {w : World} {m : Nat} {v : Value} {k : Int} {b : Bool} {i : Int} {s : ByteArray} {n : List ByteArray} {l : List C} :
  In r S w (m + 1) v (.mk k b i s n l) ↔ ∃ nv lv, v = .agg #[.int .i64 k, .bool b, .int .i64 i, .string s, nv, lv] /\
   (-9223372036854775808 <= k /\ k <= 9223372036854775807) /\ (-9223372036854775808 <= i /\ i <= 9223372036854775807) /\ s.size <= 140737488351232 /\ Tx r S w nv n /\ InL r S w m lv l := by
 constructor
 ·intro h
  rw [In] at h
  obtain ⟨nv, a, cap, h1, h2, h3, h4, h5, h6⟩ := h
  exact ⟨nv, _, h1, h2, h3, h4, h5, a, cap, rfl, h6⟩
 ·rintro ⟨nv, lv, h1, h2, h3, h4, h5, a, cap, rfl, h6⟩
  rw [In]
  exact ⟨nv, a, cap, h1, h2, h3, h4, h5, h6⟩
theorem cell_lt {w : World} {a : Addr} {v : Value} (h : w.cell? a = some v) : a.block < w.heap.size := by
 unfold World.cell? at h
 split at h
 ·next hh => exact (Array.getElem?_eq_some_iff.1 hh).1
 ·cases h
def Keep (S : Nat -> Prop) (w w' : World) : Prop := ∀ b, S b -> b < w.heap.size -> w'.heap[b]? = w.heap[b]?
theorem Keep.cell {S : Nat -> Prop} {w w' : World} (h : Keep S w w') {g o : Nat} {v : Value} (hS : S g) (hc : w.cell? ⟨g, o, none⟩ = some v) : w'.cell? ⟨g, o, none⟩ = some v :=
 (World.cell?_of_block (w := w) (h g hS (cell_lt hc))).trans hc
theorem Keep.six {S : Nat -> Prop} {w w' : World} (h : Keep S w w') {g o : Nat} {v : Value} (hS : S g) (hc : Six w g o v) : Six w' g o v := by
 obtain ⟨v0, v1, v2, v3, v4, v5, rfl, c0, c1, c2, c3, c4, c5⟩ := hc
 exact ⟨v0, v1, v2, v3, v4, v5, rfl, h.cell hS c0, h.cell hS c1, h.cell hS c2, h.cell hS c3, h.cell hS c4, h.cell hS c5⟩
theorem Keep.of_below {S : Nat -> Prop} {w w' : World} (h : Below w.heap.size w w') : Keep S w w' := fun b _ hb => h.block b hb
theorem Tx.keep {r : Bool} {S : Nat -> Prop} {w w' : World} {v : Value} {n : List ByteArray} (h : Tx r S w v n) (hk : Keep S w w') : Tx r S w' v n := by
 obtain ⟨a, cap, h1, h2, h3, h4, h5, h6, h7⟩ := h
 refine ⟨a, cap, h1, h2, h3, h4, h5, h6, ?_⟩
 rcases h7 with h7 | ⟨g, o, ha, hS, hc, hr⟩
 ·exact .inl h7
 ·exact .inr ⟨g, o, ha, hS, fun j hj => hk.cell hS (hc j hj), fun hr' => ⟨(hr hr').1, hk.cell hS (hr hr').2.1, hk.cell hS (hr hr').2.2⟩⟩
theorem InL.keep_of {r : Bool} {S : Nat -> Prop} {w w' : World} {m : Nat} (ih : ∀ (v : Value) (c : C), In r S w m v c -> In r S w' m v c) {v : Value} {l : List C} (h : InL r S w m v l) (hk : Keep S w w') : InL r S w' m v l := by
 obtain ⟨a, cap, h1, h2, h3, h4, h5, h6⟩ := h
 refine ⟨a, cap, h1, h2, h3, h4, h5, ?_⟩
 rcases h6 with h6 | ⟨g, o, ha, hS, hc, hr⟩
 ·exact .inl h6
 ·refine .inr ⟨g, o, ha, hS, fun j hj => ?_, fun hr' => ⟨(hr hr').1, hk.six hS (hr hr').2.1, hk.six hS (hr hr').2.2⟩⟩
  obtain ⟨u, hu, hi⟩ := hc j hj
  exact ⟨u, hk.six hS hu, ih _ _ hi⟩
theorem In.keep {r : Bool} {S : Nat -> Prop} {w w' : World} (hk : Keep S w w') : ∀ {m : Nat} {v : Value} {c : C}, In r S w m v c -> In r S w' m v c := by
 intro m
 induction m with
 | zero => intro v c h; rw [In] at h; exact h.elim
 | succ m ih =>
  intro v c h
  obtain ⟨k, b, i, s, n, l⟩ := c
  rw [in_iff] at h ⊢
  obtain ⟨nv, lv, h1, h2, h3, h4, h5, h6⟩ := h
  exact ⟨nv, lv, h1, h2, h3, h4, h5.keep hk, h6.keep_of (fun v c => ih) hk⟩
theorem InL.keep {r : Bool} {S : Nat -> Prop} {w w' : World} {m : Nat} {v : Value} {l : List C} (h : InL r S w m v l) (hk : Keep S w w') : InL r S w' m v l := h.keep_of (fun v c h => h.keep hk) hk
theorem Tx.below {r : Bool} {S : Nat -> Prop} {w w' : World} {v : Value} {n : List ByteArray} (h : Tx r S w v n) (hk : Below w.heap.size w w') : Tx r S w' v n := h.keep (.of_below hk)
theorem In.below {r : Bool} {S : Nat -> Prop} {w w' : World} {m : Nat} {v : Value} {c : C} (h : In r S w m v c) (hk : Below w.heap.size w w') : In r S w' m v c := h.keep (.of_below hk)
theorem InL.below {r : Bool} {S : Nat -> Prop} {w w' : World} {m : Nat} {v : Value} {l : List C} (h : InL r S w m v l) (hk : Below w.heap.size w w') : InL r S w' m v l := h.keep (.of_below hk)
theorem Tx.weak {r : Bool} {S S' : Nat -> Prop} {w : World} {v : Value} {n : List ByteArray} (hS : ∀ b, S b -> S' b) (r' : Bool) (hr : r' = true -> r = true) (h : Tx r S w v n) : Tx r' S' w v n := by
 obtain ⟨a, cap, h1, h2, h3, h4, h5, h6, h7⟩ := h
 refine ⟨a, cap, h1, h2, h3, h4, h5, h6, ?_⟩
 rcases h7 with ⟨h7, h8⟩ | ⟨g, o, ha, hg, hc, hr0⟩
 ·refine .inl ⟨h7, ?_⟩
  cases r' with
  | true => rw [hr rfl] at h8; cases h8
  | false => rfl
 ·exact .inr ⟨g, o, ha, hS _ hg, hc, fun h => hr0 (hr h)⟩
theorem InL.weak_of {r : Bool} {S S' : Nat -> Prop} {w : World} {m m' : Nat} {v : Value} {l : List C} (hS : ∀ b, S b -> S' b) (r' : Bool) (hr : r' = true -> r = true) (ih : ∀ (v : Value) (c : C), In r S w m v c -> In r' S' w m' v c)
  (h : InL r S w m v l) : InL r' S' w m' v l := by
 obtain ⟨a, cap, h1, h2, h3, h4, h5, h6⟩ := h
 refine ⟨a, cap, h1, h2, h3, h4, h5, ?_⟩
 rcases h6 with ⟨h7, h8⟩ | ⟨g, o, ha, hg, hc, hr0⟩
 ·refine .inl ⟨h7, ?_⟩
  cases r' with
  | true => rw [hr rfl] at h8; cases h8
  | false => rfl
 ·refine .inr ⟨g, o, ha, hS _ hg, fun j hj => ?_, fun h => hr0 (hr h)⟩
  obtain ⟨u, hu, hi⟩ := hc j hj
  exact ⟨u, hu, ih _ _ hi⟩
theorem In.weak {r : Bool} {S S' : Nat -> Prop} {w : World} (hS : ∀ b, S b -> S' b) (r' : Bool) (hr : r' = true -> r = true) : ∀ {m : Nat} (m' : Nat) {v : Value} {c : C}, m <= m' -> In r S w m v c -> In r' S' w m' v c := by
 intro m
 induction m with
 | zero => intro m' v c _ h; rw [In] at h; exact h.elim
 | succ m ih =>
  intro m' v c hm h
  obtain ⟨m', rfl⟩ : ∃ q, m' = q + 1 := ⟨m' - 1, by omega⟩
  obtain ⟨k, b, i, s, n, l⟩ := c
  rw [in_iff] at h ⊢
  obtain ⟨nv, lv, h1, h2, h3, h4, h5, h6⟩ := h
  exact ⟨nv, lv, h1, h2, h3, h4, h5.weak hS r' hr, h6.weak_of hS r' hr (fun v c h => ih m' (by omega) h)⟩
theorem InL.weak {r : Bool} {S S' : Nat -> Prop} {w : World} (hS : ∀ b, S b -> S' b) (r' : Bool) (hr : r' = true -> r = true) {m : Nat} (m' : Nat) {v : Value} {l : List C} (hm : m <= m') (h : InL r S w m v l) : InL r' S' w m' v l :=
 h.weak_of hS r' hr (fun v c h => h.weak hS r' hr m' hm)
def All : Nat -> Prop := fun _ => True
theorem In.plain {r : Bool} {S : Nat -> Prop} {w : World} {m : Nat} {v : Value} {c : C} (h : In r S w m v c) : In false All w m v c := h.weak (fun _ _ => trivial) false (fun h => by cases h) m (Nat.le_refl _)
theorem Tx.plain {r : Bool} {S : Nat -> Prop} {w : World} {v : Value} {n : List ByteArray} (h : Tx r S w v n) : Tx false All w v n := h.weak (fun _ _ => trivial) false (fun h => by cases h)
theorem six_box {w : World} {B : Nat} {v0 v1 v2 v3 v4 v5 : Value} {t : TypeId} (h : w.heap[B]? = some (.cells #[v0, v1, v2, v3, v4, v5] t (0, 0))) :
  w.cell? ⟨B, 0, none⟩ = some v0 /\ w.cell? ⟨B, 1, none⟩ = some v1 /\ w.cell? ⟨B, 2, none⟩ = some v2 /\ w.cell? ⟨B, 3, none⟩ = some v3 /\ w.cell? ⟨B, 4, none⟩ = some v4 /\ w.cell? ⟨B, 5, none⟩ = some v5 := by
 refine ⟨?_, ?_, ?_, ?_, ?_, ?_⟩ <;> simp [World.cell?, h]
theorem nx {a b c : World} (h : Below a.heap.size a b) (k : Below b.heap.size b c) : Below a.heap.size a c := h.trans (k.mono h.size)
theorem nxB {B : Nat} {a b c : World} (h : Below B a b) (hB : B <= a.heap.size) (k : Below b.heap.size b c) : Below B a c := h.trans (k.mono (by have := h.size; omega))
theorem add_none (g o j : Nat) : (⟨g, o, none⟩ : Addr).add j = ⟨g, o + j, none⟩ := by
 unfold Addr.add
 split
 ·simp_all
 ·rfl
theorem heap_alloc_new (w : World) (o : Obj) : (w.alloc o).heap[w.heap.size]? = some o := by
 show (w.heap.push o)[w.heap.size]? = _
 simp
theorem box_at {w wr : World} {vs : Array Value} {t : TypeId} (h : Below (w.heap.size + 1) (w.alloc (.cells vs t)) wr) : wr.heap[w.heap.size]? = some (.cells vs t (0, 0)) :=
 (h.block _ (by omega)).trans (heap_alloc_new w _)
theorem below_box {w wr : World} {o : Obj} (h : Below (w.heap.size + 1) (w.alloc o) wr) : Below w.heap.size w wr := ((Below.refl _ w).alloc (Nat.le_refl _) o).trans (h.mono (by omega))
def LAt (r : Bool) (S : Nat -> Prop) (w : World) (m : Nat) (a : Option Addr) (cap : Nat) (l : List C) : Prop := (l = [] /\ r = false) \/ ∃ g o, a = some ⟨g, o, none⟩ /\ S g /\ (∀ j (h : j < l.length), ∃ u, Six w g (o + j * 6) u /\ In r S w m u l[j]) /\
    (r = true -> l.length + 2 <= cap /\ Six w g (o + l.length * 6) room7 /\ Six w g (o + l.length * 6 + 6) room7)
def NAt (r : Bool) (S : Nat -> Prop) (w : World) (a : Option Addr) (cap : Nat) (n : List ByteArray) : Prop := (n = [] /\ r = false) \/ ∃ g o, a = some ⟨g, o, none⟩ /\ S g /\ (∀ j (h : j < n.length), w.cell? ⟨g, o + j, none⟩ = some (.string n[j])) /\
   (r = true -> n.length + 2 <= cap /\ w.cell? ⟨g, o + n.length, none⟩ = some (.string room) /\ w.cell? ⟨g, o + n.length + 1, none⟩ = some (.string behind))
theorem InL.out {r : Bool} {S : Nat -> Prop} {w : World} {m : Nat} {v : Value} {l : List C} (h : InL r S w m v l) :
  ∃ a cap, v = .slice a l.length cap /\ l.length <= cap /\ cap <= 9223372036854775807 /\ l.length * 88 <= 140737488351232 /\ (a = none -> cap = 0) /\ LAt r S w m a cap l := h
theorem Tx.out {r : Bool} {S : Nat -> Prop} {w : World} {v : Value} {n : List ByteArray} (h : Tx r S w v n) :
  ∃ a cap, v = .slice a n.length cap /\ n.length <= cap /\ cap <= 9223372036854775807 /\ n.length * 16 <= 140737488351232 /\ (∀ t ∈ n, t.size <= 140737488351232) /\ (a = none -> cap = 0) /\ NAt r S w a cap n := h
theorem elem_at {r : Bool} {S : Nat -> Prop} {w : World} {m : Nat} {a : Option Addr} {cap : Nat} {l : List C} (hL : LAt r S w m a cap l) {q : Nat} (h : q < l.length) :
  ∃ g o u, a = some ⟨g, o, none⟩ /\ S g /\ Six w g (o + q * 6) u /\ In r S w m u l[q] := by
 rcases hL with ⟨rfl, _⟩ | ⟨g, o, ha, hS, hc, _⟩
 ·simp at h
 ·obtain ⟨u, hu, hi⟩ := hc q h
  exact ⟨g, o, u, ha, hS, hu, hi⟩
theorem name_at {r : Bool} {S : Nat -> Prop} {w : World} {a : Option Addr} {cap : Nat} {n : List ByteArray} (hL : NAt r S w a cap n) {q : Nat} (h : q < n.length) :
  ∃ g o, a = some ⟨g, o, none⟩ /\ S g /\ w.cell? ⟨g, o + q, none⟩ = some (.string n[q]) := by
 rcases hL with ⟨rfl, _⟩ | ⟨g, o, ha, hS, hc, _⟩
 ·simp at h
 ·exact ⟨g, o, ha, hS, hc q h⟩
theorem six_below {w w' : World} {g o : Nat} {u : Value} (h : Six w g o u) (hb : Below w.heap.size w w') : Six w' g o u := (Keep.of_below (S := All) hb).six trivial h
theorem below_cell {w w' : World} {g o : Nat} {u : Value} (h : w.cell? ⟨g, o, none⟩ = some u) (hb : Below w.heap.size w w') : w'.cell? ⟨g, o, none⟩ = some u := (Keep.of_below (S := All) hb).cell trivial h
theorem In.six {r : Bool} {S : Nat -> Prop} {w : World} {m : Nat} {v : Value} {c : C} (h : In r S w m v c) :
  ∃ v0 v1 v2 v3 v4 v5, v = .agg #[v0, v1, v2, v3, v4, v5] /\ ∀ u ∈ [v0, v1, v2, v3, v4, v5], u.oneCell' = true := by
 cases m with
 | zero => rw [In] at h; exact h.elim
 | succ m =>
  obtain ⟨k, b, i, s, n, l⟩ := c
  rw [in_iff] at h
  obtain ⟨nv, lv, rfl, -, -, -, ⟨a, ca, rfl, -⟩, ⟨a', ca', rfl, -⟩⟩ := h
  refine ⟨_, _, _, _, _, _, rfl, ?_⟩
  intro u hu
  simp at hu
  rcases hu with rfl | rfl | rfl | rfl | rfl | rfl <;> rfl
theorem In.shape {r : Bool} {S : Nat -> Prop} {w : World} {m : Nat} {v : Value} {c : C} (h : In r S w m v c) :
  ∃ m' nv lv, m = m' + 1 /\ v = .agg #[.int .i64 c.k, .bool c.b, .int .i64 c.i, .string c.s, nv, lv] /\
   (-9223372036854775808 <= c.k /\ c.k <= 9223372036854775807) /\ (-9223372036854775808 <= c.i /\ c.i <= 9223372036854775807) /\ c.s.size <= 140737488351232 /\ Tx r S w nv c.n /\ InL r S w m' lv c.l := by
 cases m with
 | zero => rw [In] at h; exact h.elim
 | succ m =>
  obtain ⟨k, b, i, s, n, l⟩ := c
  rw [in_iff] at h
  obtain ⟨nv, lv, h⟩ := h
  exact ⟨m, nv, lv, rfl, h⟩
end Go.Proofs.YthjbknncbhkinaaGreatDoor.Base
namespace Go.Proofs.YthjbknncbhkinaaGreatDoor.IPure
def upd {α : Type} (f : Nat -> α) (k : Nat) (x : α) : Nat -> α := fun j => if j = k then x else f j
end Go.Proofs.YthjbknncbhkinaaGreatDoor.IPure
namespace Go.Proofs.YthjbknncbhkinaaGreatDoor.Base
open Go.RowKit
theorem info9 : (prog.info? 9).map (fun i => (i.zero, i.size, i.bytes)) = some (some (.string ⟨#[]⟩), 1, 16) := by kernel_rfl
theorem info25 : (prog.info? 46).map (fun i => (i.zero, i.size, i.bytes)) = some (some (.agg #[.int .i64 0, .bool false, .int .i64 0, .string ⟨#[]⟩, .slice none 0 0, .slice none 0 0]), 6, 88) := by kernel_rfl
def Rg (lo hi : Nat) : Nat -> Prop := fun b => lo <= b /\ b < hi
def OwnT (w : World) (B : Nat) (v : Value) (L : List ByteArray) : Prop := w.ownsRow B 9 1 v L.length (L.map Value.string)
theorem one_texts (L : List ByteArray) : ∀ u ∈ L.map Value.string, u.oneCell' = true := by
 intro u hu
 obtain ⟨_, _, rfl⟩ := List.mem_map.1 hu
 rfl
theorem ownT_cell {w : World} {B g n cap : Nat} {L : List ByteArray} (h : OwnT w B (.slice (some ⟨g, 0, none⟩) n cap) L) (j : Nat) (hj : j < L.length) : w.cell? ⟨g, 0 + j, none⟩ = some (.string L[j]) := by
 have hc := World.ownsRow.cells (g := g) h rfl j (.string L[j]) (by simp [hj])
 rw [add_none] at hc
 exact hc
def flat (us : List Value) : List Value := us.flatMap fun u => u.cells.toList
def Sixes (us : List Value) : Prop := ∀ u ∈ us, ∃ v0 v1 v2 v3 v4 v5, u = .agg #[v0, v1, v2, v3, v4, v5] /\ ∀ x ∈ [v0, v1, v2, v3, v4, v5], x.oneCell' = true
def OwnV (w : World) (B : Nat) (v : Value) (us : List Value) : Prop := w.ownsRow B 46 6 v us.length (flat us) /\ Sixes us
theorem flat_append (a b : List Value) : flat (a ++ b) = flat a ++ flat b := by simp [flat]
theorem flat_len {us : List Value} (h : Sixes us) : (flat us).length = us.length * 6 := by
 induction us with
 | nil => rfl
 | cons u us ih =>
  obtain ⟨v0, v1, v2, v3, v4, v5, rfl, -⟩ := h u (by simp)
  have := ih (fun x hx => h x (by simp [hx]))
  simp only [flat, List.flatMap_cons, List.length_append] at this ⊢
  simp only [Value.cells, List.length_cons] at this ⊢
  simp [this]
  omega
theorem flat_get {us : List Value} (h : Sixes us) : ∀ (j : Nat) (hj : j < us.length) (i : Nat), i < 6 -> (flat us)[j * 6 + i]? = us[j].cells.toList[i]? := by
 induction us with
 | nil => intro j hj; simp at hj
 | cons u us ih =>
  intro j hj i hi
  obtain ⟨v0, v1, v2, v3, v4, v5, rfl, -⟩ := h u (by simp)
  have ih := ih (fun x hx => h x (by simp [hx]))
  have e : flat (.agg #[v0, v1, v2, v3, v4, v5] :: us) = [v0, v1, v2, v3, v4, v5] ++ flat us := by simp [flat, Value.cells]
  rw [e]
  cases j with
  | zero =>
   rw [List.getElem?_append_left (by simp; omega)]
   simp [Value.cells]
  | succ j =>
   rw [List.getElem?_append_right (by simp; omega)]
   have e2 : (j + 1) * 6 + i - [v0, v1, v2, v3, v4, v5].length = j * 6 + i := by simp; omega
   rw [e2, ih j (by simpa using hj) i hi]
   simp
theorem ownV_six {w : World} {B g n cap : Nat} {us : List Value} (h : OwnV w B (.slice (some ⟨g, 0, none⟩) n cap) us) (j : Nat) (hj : j < us.length) : Six w g (0 + j * 6) us[j] := by
 obtain ⟨v0, v1, v2, v3, v4, v5, e, -⟩ := h.2 us[j] (List.getElem_mem hj)
 have hc : ∀ i u, i < 6 -> us[j].cells.toList[i]? = some u -> w.cell? ⟨g, 0 + (j * 6 + i), none⟩ = some u := by
  intro i u hi hu
  rw [<- add_none]
  exact World.ownsRow.cells (g := g) h.1 rfl (j * 6 + i) u (by rw [flat_get h.2 j hj i hi]; exact hu)
 rw [e] at hc ⊢
 refine ⟨v0, v1, v2, v3, v4, v5, rfl, ?_, ?_, ?_, ?_, ?_, ?_⟩
 ·exact hc 0 v0 (by omega) rfl
 ·exact hc 1 v1 (by omega) rfl
 ·exact hc 2 v2 (by omega) rfl
 ·exact hc 3 v3 (by omega) rfl
 ·exact hc 4 v4 (by omega) rfl
 ·exact hc 5 v5 (by omega) rfl
theorem ownV_lt {w : World} {B g n cap : Nat} {L : List Value} (h : OwnV w B (.slice (some ⟨g, 0, none⟩) n cap) L) : B <= g /\ g < w.heap.size := World.ownsRow.lt h.1 g rfl
theorem new_cells (w : World) (cs : List Value) (t : TypeId) : ∀ j u, cs[j]? = some u -> (w.alloc (.cells cs.toArray t)).cell? ((⟨w.heap.size, 0, none⟩ : Addr).add j) = some u := by
 intro j u hu
 rw [add_none, Nat.zero_add]
 have h := heap_alloc_new w (.cells cs.toArray t)
 have e : (w.alloc (.cells cs.toArray t)).cell? ⟨w.heap.size, j, none⟩ = cs.toArray[j]? := by
  unfold World.cell?
  rw [h]
  rfl
 rw [e]
 simpa using hu
theorem block_set {w : World} {B j : Nat} {cs : Array Value} {t : TypeId} {fz : Nat × Nat} (h : w.heap[B]? = some (.cells cs t fz)) (u : Value) : (w.setCell ⟨B, j, none⟩ u).heap[B]? = some (.cells (cs.setIfInBounds j u) t fz) := by
 simp [World.setCell, Array.getElem?_modify, h]
theorem frozen_box {w : World} {B : Nat} {cs : Array Value} {t : TypeId} (h : w.heap[B]? = some (.cells cs t (0, 0))) (j : Nat) : w.frozen? ⟨B, j, none⟩ = false := by
 simp [World.frozen?, h]
theorem In.kinds {r : Bool} {S : Nat -> Prop} {w : World} {m : Nat} {x0 x1 x2 x3 x4 x5 : Value} {c : C} (h : In r S w m (.agg #[x0, x1, x2, x3, x4, x5]) c) :
  ∃ a1 n1 c1 a2 n2 c2, x0 = .int .i64 c.k /\ x1 = .bool c.b /\ x2 = .int .i64 c.i /\ x3 = .string c.s /\ x4 = .slice a1 n1 c1 /\ x5 = .slice a2 n2 c2 := by
 obtain ⟨m', nv, lv, -, e, -, -, -, ⟨a1, c1, rfl, -⟩, ⟨a2, c2, rfl, -⟩⟩ := h.shape
 simp only [Value.agg.injEq, Array.mk.injEq, List.cons.injEq, and_true] at e
 exact ⟨_, _, _, _, _, _, e⟩
theorem set6 {W W' : World} {B : Nat} {t : TypeId} {y0 y1 y2 y3 y4 y5 : Value} (x0 x1 x2 x3 x4 x5 : Value) (h : W.heap[B]? = some (.cells #[y0, y1, y2, y3, y4, y5] t (0, 0))) (hW : ((((((W.setCell ⟨B, 0, none⟩ x0).setCell ⟨B, 1, none⟩ x1).setCell ⟨B, 2, none⟩ x2).setCell ⟨B, 3, none⟩ x3).setCell ⟨B, 4, none⟩ x4).setCell ⟨B, 5, none⟩ x5) = W') :
  W'.heap[B]? = some (.cells #[x0, x1, x2, x3, x4, x5] t (0, 0)) /\ (∀ b, b ≠ B -> W'.heap[b]? = W.heap[b]?) /\ W'.heap.size = W.heap.size /\ ∀ w n, n <= B -> Below n w W -> Below n w W' := by
 subst hW
 refine ⟨?_, fun b hb => ?_, by simp [World.setCell], fun w n hn hb => ?_⟩
 ·rw [block_set (block_set (block_set (block_set (block_set (block_set h _) _) _) _) _) _]
  rfl
 ·rw [Below.heap_setCell _ _ _ _ hb, Below.heap_setCell _ _ _ _ hb, Below.heap_setCell _ _ _ _ hb, Below.heap_setCell _ _ _ _ hb, Below.heap_setCell _ _ _ _ hb, Below.heap_setCell _ _ _ _ hb]
 ·exact (((((hb.setCell (p := ⟨B, 0, none⟩) hn x0).setCell (p := ⟨B, 1, none⟩) hn x1).setCell (p := ⟨B, 2, none⟩) hn x2).setCell (p := ⟨B, 3, none⟩) hn x3).setCell (p := ⟨B, 4, none⟩) hn x4).setCell (p := ⟨B, 5, none⟩) hn x5
theorem own_below {w w' : World} {B : Nat} {e : TypeId} {s n : Nat} {v : Value} {xs : List Value} (h : w.ownsRow B e s v n xs) (hb : Below w.heap.size w w') : w'.ownsRow B e s v n xs := by
 refine ⟨h.1, ?_⟩
 rcases h.2 with h2 | ⟨g, cap, cur, hv, hg, hh, r⟩
 ·exact .inl h2
 ·exact .inr ⟨g, cap, cur, hv, hg, (hb.block g (Array.getElem?_eq_some_iff.1 hh).1).trans hh, r⟩
theorem sixes_snoc {us : List Value} {u : Value} (h : Sixes us) (hu : ∃ v0 v1 v2 v3 v4 v5, u = .agg #[v0, v1, v2, v3, v4, v5] /\ ∀ x ∈ [v0, v1, v2, v3, v4, v5], x.oneCell' = true) : Sixes (us ++ [u]) := by
 intro x hx
 rcases List.mem_append.1 hx with hx | hx
 ·exact h x hx
 ·simp at hx; subst hx; exact hu
end Go.Proofs.YthjbknncbhkinaaGreatDoor.Base
namespace Go.Proofs.YthjbknncbhkinaaGreatDoor.Clone
open Go.RowKit Base
theorem cloneT_c (v : Value) (L : List ByteArray) (w : World) (h : Tx false All w v L) :
  Calls prog 67 #[v] w fun e w' => ∃ u, e = .returned u /\ OwnT w' w.heap.size u L /\ Below w.heap.size w w' := by
 obtain ⟨i0, hi, hz0, hz1, hz2⟩ := info_parts info9
 obtain ⟨a, cap, rfl, hlc, hm, hlen, hsz, hnil, hN⟩ := h.out
 have ho : OwnT (w.alloc (.cells #[] 9)) w.heap.size (.slice (some ⟨w.heap.size, 0, none⟩) 0 0) [] := by
  refine ⟨rfl, .inr ⟨w.heap.size, 0, #[], rfl, Nat.le_refl _, heap_alloc_new w _, Nat.le_refl _, by simp [maxLen], rfl, rfl⟩⟩
 have q22 : ∀ (w : World) (a : Option Addr) (n c n' c' : Nat), (binOp .eql 28 (.slice a n c) (.slice none n' c')).run prog w = .ok (.bool a.isNone) w := fun w a n c n' c' => Lib.run_eql_slice_nil w _ _ a n c n' c' underlying28
 have hb : Below w.heap.size w (w.alloc (.cells #[] 9)) := (Below.refl _ w).alloc (Nat.le_refl _) _
 cases a with
 | none =>
  obtain rfl := hnil rfl
  obtain rfl : L = [] := List.eq_nil_of_length_eq_zero (by omega)
  go_enter func67, ntmps67
  go_wp2_with fail
  go_ret
  exact ⟨_, rfl, World.ownsRow_nil _ _ _ _, Below.refl _ _⟩
 | some x =>
  obtain ⟨g, o, sp⟩ := x
  have hnews : ∀ j u, (L.map Value.string)[j]? = some u -> (w.alloc (.cells #[] 9)).cell? ((⟨g, o, sp⟩ : Addr).add j) = some u := by
   intro j u hj
   have hl : j < L.length := by
    have := (List.getElem?_eq_some_iff.1 hj).1
    simpa using this
   obtain ⟨g', o', e, -, hc⟩ := name_at hN hl
   cases e
   rw [add_none]
   have hj' : u = .string L[j] := by simpa [hl] using hj.symm
   rw [hj']
   exact below_cell hc hb
  clear hN h
  go_enter func67, ntmps67
  go_wp2_with (first
   | (at_builtin; refine wpList_append_own _ rfl _ _ 28 rfl w.heap.size 9 i0 (.string ⟨#[]⟩) 1 16 underlying28 hi hz0 hz1 hz2 rfl (by decide) _ _ _ rfl ho ⟨g, o, sp⟩ L.length cap (L.map Value.string) rfl (by simp) hnews (one_texts L) (by unfold maxLen; simp; omega) (by simp; omega) (by simp) ?_))
  intro v' w2 hown' hgrow hnn
  have hb3 := hb.grown hgrow (by simp) (fun k hk => by cases hk; exact Nat.le_refl _)
  have ho2 : OwnT w2 w.heap.size v' L := by
   unfold OwnT
   simpa using hown'
  clear hown' hgrow ho hb hnews hnn
  go_wp2_with fail
  go_ret
  exact ⟨_, rfl, ho2, hb3⟩
theorem elems {S : Nat -> Prop} {w : World} {m : Nat} {a : Option Addr} {cap : Nat} {l : List C} (hL : LAt false S w m a cap l) :
  ∃ os : List Value, os.length = l.length /\ Sixes os /\ (∀ j (h : j < os.length) (h' : j < l.length), In false S w m os[j] l[j]) /\
   ∀ g o, a = some ⟨g, o, none⟩ -> ∀ j (h : j < os.length), Six w g (o + j * 6) os[j] := by
 rcases hL with ⟨rfl, _⟩ | ⟨g, o, rfl, hS, hc, _⟩
 ·exact ⟨[], rfl, fun u hu => (by cases hu), fun j h => by simp at h, fun g o _ j h => by simp at h⟩
 ·have : ∀ j : Fin l.length, ∃ u, Six w g (o + j.1 * 6) u /\ In false S w m u l[j.1] := fun j => hc j.1 j.2
  obtain ⟨f, hf⟩ := Classical.axiomOfChoice this
  refine ⟨List.ofFn f, by simp, ?_, ?_, ?_⟩
  ·intro u hu
   obtain ⟨j, rfl⟩ := List.mem_ofFn.1 hu
   exact (hf j).2.six
  ·intro j h h'
   have := (hf ⟨j, h'⟩).2
   simpa using this
  ·rintro g' o' e j h
   cases e
   have h' : j < l.length := by simpa using h
   have := (hf ⟨j, h'⟩).1
   simpa using this
theorem flat_one {us : List Value} (h : Sixes us) : ∀ u ∈ flat us, u.oneCell' = true := by
 intro u hu
 obtain ⟨x, hx, hu⟩ := List.mem_flatMap.1 hu
 obtain ⟨v0, v1, v2, v3, v4, v5, rfl, h1⟩ := h x hx
 exact h1 u (by simpa [Value.cells] using hu)
theorem flat_cells {w : World} {g o : Nat} {us : List Value} (h : ∀ j (h : j < us.length), Six w g (o + j * 6) us[j]) (hs : Sixes us) : ∀ j u, (flat us)[j]? = some u -> w.cell? ⟨g, o + j, none⟩ = some u := by
 intro j u hj
 have hlt : j < us.length * 6 := by rw [<- flat_len hs]; exact (List.getElem?_eq_some_iff.1 hj).1
 have hq : j / 6 < us.length := by omega
 have hr : j % 6 < 6 := by omega
 have e : j / 6 * 6 + j % 6 = j := by omega
 have hg := flat_get hs (j / 6) hq (j % 6) hr
 rw [e, hj] at hg
 obtain ⟨v0, v1, v2, v3, v4, v5, e6, c0, c1, c2, c3, c4, c5⟩ := h (j / 6) hq
 rw [e6] at hg
 have hcase : j % 6 = 0 \/ j % 6 = 1 \/ j % 6 = 2 \/ j % 6 = 3 \/ j % 6 = 4 \/ j % 6 = 5 := by omega
 rcases hcase with h6 | h6 | h6 | h6 | h6 | h6 <;> rw [h6] at hg e <;> simp only [Value.cells] at hg <;> simp at hg <;> subst hg
 ·rw [show o + j = o + j / 6 * 6 by omega]; exact c0
 ·rw [show o + j = o + j / 6 * 6 + 1 by omega]; exact c1
 ·rw [show o + j = o + j / 6 * 6 + 2 by omega]; exact c2
 ·rw [show o + j = o + j / 6 * 6 + 3 by omega]; exact c3
 ·rw [show o + j = o + j / 6 * 6 + 4 by omega]; exact c4
 ·rw [show o + j = o + j / 6 * 6 + 5 by omega]; exact c5
theorem cloneV_c {S : Nat -> Prop} (m : Nat) (v : Value) (l : List C) (w : World) (h : InL false S w m v l) :
  Calls prog 83 #[v] w fun e w' => ∃ u, e = .returned u /\ ∃ os, OwnV w' w.heap.size u os /\ os.length = l.length /\ (∀ j (h : j < os.length) (h' : j < l.length), In false S w m os[j] l[j]) /\ Below w.heap.size w w' := by
 obtain ⟨i0, hi, hz0, hz1, hz2⟩ := info_parts info25
 obtain ⟨a, cap, rfl, hlc, hm, hlen, hnil, hL⟩ := h.out
 obtain ⟨os, hos, hsix, hins, hcs⟩ := elems hL
 have ho : (w.alloc (.cells #[] 46)).ownsRow w.heap.size 46 6 (.slice (some ⟨w.heap.size, 0, none⟩) 0 0) 0 [] := by
  refine ⟨rfl, .inr ⟨w.heap.size, 0, #[], rfl, Nat.le_refl _, heap_alloc_new w _, Nat.le_refl _, by simp [maxLen], rfl, rfl⟩⟩
 have q23 : ∀ (w : World) (a : Option Addr) (n c n' c' : Nat), (binOp .eql 43 (.slice a n c) (.slice none n' c')).run prog w = .ok (.bool a.isNone) w := fun w a n c n' c' => Lib.run_eql_slice_nil w _ _ a n c n' c' underlying43
 have hb : Below w.heap.size w (w.alloc (.cells #[] 46)) := (Below.refl _ w).alloc (Nat.le_refl _) _
 have HH : Hid (os.length = l.length /\ Sixes os /\ ∀ j (h : j < os.length) (h' : j < l.length), In false S w m os[j] l[j]) := ⟨hos, hsix, hins⟩
 cases a with
 | none =>
  obtain rfl := hnil rfl
  obtain rfl : l = [] := List.eq_nil_of_length_eq_zero (by omega)
  obtain rfl : os = [] := List.eq_nil_of_length_eq_zero (by simpa using hos)
  clear hos hsix hins hcs hL
  go_enter func83, ntmps83
  go_wp2_with fail
  go_ret
  exact ⟨_, rfl, [], ⟨World.ownsRow_nil _ _ _ _, HH.out.2.1⟩, rfl, Below.refl _ _⟩
 | some x =>
  obtain ⟨g, o, sp⟩ := x
  have hnews : ∀ j u, (flat os)[j]? = some u -> (w.alloc (.cells #[] 46)).cell? ((⟨g, o, sp⟩ : Addr).add j) = some u := by
   intro j u hj
   have hl : j < os.length * 6 := by rw [<- flat_len hsix]; exact (List.getElem?_eq_some_iff.1 hj).1
   obtain ⟨g', o', u', e, -⟩ := elem_at hL (q := 0) (by omega)
   cases e
   rw [add_none]
   exact below_cell (flat_cells (hcs g o rfl) hsix j u hj) hb
  have hfl : (flat os).length = l.length * 6 := by rw [flat_len hsix, hos]
  have hf1 := flat_one hsix
  have Hfl : Hid ((flat os).length = l.length * 6) := hfl
  obtain ⟨F, hF⟩ : ∃ F, flat os = F := ⟨_, rfl⟩
  have HF : Hid (flat os = F) := hF
  rw [hF] at hnews hfl hf1
  clear hF hL h hos hsix hins hcs hfl Hfl
  have hfl : F.length = l.length * 6 := by rw [<- HF.out, flat_len HH.out.2.1, HH.out.1]
  go_enter func83, ntmps83
  go_wp2_with (first
   | (at_builtin; refine wpList_append_own _ rfl _ _ 43 rfl w.heap.size 46 i0 (.agg #[.int .i64 0, .bool false, .int .i64 0, .string ⟨#[]⟩, .slice none 0 0, .slice none 0 0]) 6 88 underlying43 hi hz0 hz1 hz2 rfl (by decide) _ _ _ rfl ho ⟨g, o, sp⟩ l.length cap F rfl hfl hnews hf1 (by unfold maxLen; simp; omega) (by simp; omega) (by simp) ?_))
  intro v' w2 hown' hgrow hnn
  have hb3 := hb.grown hgrow (by simp) (fun k hk => by cases hk; exact Nat.le_refl _)
  have ho2 : OwnV w2 w.heap.size v' os := by
   refine ⟨?_, HH.out.2.1⟩
   rw [HF.out, HH.out.1]
   simpa using hown'
  clear hown' hgrow ho hb hnews hnn hf1 hfl
  go_wp2_with fail
  go_ret
  exact ⟨_, rfl, os, ho2, HH.out.1, HH.out.2.2, hb3⟩
end Go.Proofs.YthjbknncbhkinaaGreatDoor.Clone
