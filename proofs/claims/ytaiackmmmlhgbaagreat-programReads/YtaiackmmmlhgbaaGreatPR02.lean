import Derived.Below
import Derived.Laws.AppendOwn
import Derived.LoopN
import Derived.LoopTactic
import Derived.Maps.AppendAt
import Derived.ProofKit
import Derived.Test.YtaiackmmmlhgbaaGreatProg
import Derived.WalkKit
open Go.Proofs.Tryz
set_option linter.unusedVariables false
namespace Go.Proofs.YtaiackmmmlhgbaaGreat.TBase
open Go.RowKit
structure T where
  mk ::
  (g0 : ByteArray) (s0 : ByteArray) (n0 : List (ByteArray × ByteArray)) (l0 : List T)
def T.g : T -> ByteArray | .mk g _ _ _ => g
def T.s : T -> ByteArray | .mk _ s _ _ => s
def T.n : T -> List (ByteArray × ByteArray) | .mk _ _ n _ => n
def T.l : T -> List T | .mk _ _ _ l => l
def room : ByteArray := ⟨#[126, 114, 111, 111, 109]⟩
def room4 : Value := .agg #[.string room, .string ⟨#[]⟩, .slice none 0 0, .slice none 0 0]
def room2 : ByteArray × ByteArray := (room, ⟨#[]⟩)
def Four (w : World) (g o : Nat) (u : Value) : Prop :=
  ∃ v0 v1 v2 v3, u = .agg #[v0, v1, v2, v3] /\ w.cell? ⟨g, o, none⟩ = some v0 /\ w.cell? ⟨g, o + 1, none⟩ = some v1 /\ w.cell? ⟨g, o + 2, none⟩ = some v2 /\ w.cell? ⟨g, o + 3, none⟩ = some v3
def Two (w : World) (g o : Nat) (t : ByteArray × ByteArray) : Prop := w.cell? ⟨g, o, none⟩ = some (.string t.1) /\ w.cell? ⟨g, o + 1, none⟩ = some (.string t.2)
def NAt (r : Bool) (S : Nat -> Prop) (w : World) (a : Option Addr) (cap : Nat) (n : List (ByteArray × ByteArray)) : Prop := (n = [] /\ r = false) \/ ∃ g o, a = some ⟨g, o, none⟩ /\ S g /\ (∀ j (h : j < n.length), Two w g (o + j * 2) n[j]) /\
      (r = true -> n.length + 2 <= cap /\ Two w g (o + n.length * 2) room2 /\ Two w g (o + n.length * 2 + 2) room2)
def Ax (r : Bool) (S : Nat -> Prop) (w : World) (v : Value) (n : List (ByteArray × ByteArray)) : Prop :=
  ∃ a cap, v = .slice a n.length cap /\ n.length <= cap /\ cap <= 9223372036854775807 /\ n.length * 32 <= 140737488351232 /\ (∀ t ∈ n, t.1.size <= 140737488351232 /\ t.2.size <= 140737488351232) /\ (a = none -> cap = 0) /\ NAt r S w a cap n
def In (r : Bool) (S : Nat -> Prop) (w : World) : Nat -> Value -> T -> Prop
  | 0, _, _ => False
  | m + 1, v, .mk g s n l => ∃ nv a cap, v = .agg #[.string g, .string s, nv, .slice a l.length cap] /\
      g.size <= 140737488351232 /\ s.size <= 140737488351232 /\ Ax r S w nv n /\
      l.length <= cap /\ cap <= 9223372036854775807 /\ l.length * 80 <= 140737488351232 /\ (a = none -> cap = 0) /\
      ((l = [] /\ r = false) \/ ∃ g o, a = some ⟨g, o, none⟩ /\ S g /\ (∀ j (h : j < l.length), ∃ u, Four w g (o + j * 4) u /\ In r S w m u l[j]) /\
        (r = true -> l.length + 2 <= cap /\ Four w g (o + l.length * 4) room4 /\ Four w g (o + l.length * 4 + 4) room4))
def LAt (r : Bool) (S : Nat -> Prop) (w : World) (m : Nat) (a : Option Addr) (cap : Nat) (l : List T) : Prop := (l = [] /\ r = false) \/ ∃ g o, a = some ⟨g, o, none⟩ /\ S g /\ (∀ j (h : j < l.length), ∃ u, Four w g (o + j * 4) u /\ In r S w m u l[j]) /\
        (r = true -> l.length + 2 <= cap /\ Four w g (o + l.length * 4) room4 /\ Four w g (o + l.length * 4 + 4) room4)
def InL (r : Bool) (S : Nat -> Prop) (w : World) (m : Nat) (v : Value) (l : List T) : Prop :=
  ∃ a cap, v = .slice a l.length cap /\ l.length <= cap /\ cap <= 9223372036854775807 /\ l.length * 80 <= 140737488351232 /\ (a = none -> cap = 0) /\ LAt r S w m a cap l
theorem in_iff {r : Bool} {S : Nat -> Prop} {w : World} {m : Nat} {v : Value} {g s : ByteArray} {n : List (ByteArray × ByteArray)} {l : List T} :
    In r S w (m + 1) v (.mk g s n l) ↔ ∃ nv lv, v = .agg #[.string g, .string s, nv, lv] /\
      g.size <= 140737488351232 /\ s.size <= 140737488351232 /\ Ax r S w nv n /\ InL r S w m lv l := by
  constructor
  · intro h
    rw [In] at h
    obtain ⟨nv, a, cap, h1, h2, h3, h4, h6⟩ := h
    exact ⟨nv, _, h1, h2, h3, h4, a, cap, rfl, h6⟩
  · rintro ⟨nv, lv, h1, h2, h3, h4, a, cap, rfl, h6⟩
    rw [In]
    exact ⟨nv, a, cap, h1, h2, h3, h4, h6⟩
theorem cell_lt {w : World} {a : Addr} {v : Value} (h : w.cell? a = some v) : a.block < w.heap.size := by
  unfold World.cell? at h
  split at h
  · next hh => exact (Array.getElem?_eq_some_iff.1 hh).1
  · cases h
def Keep (S : Nat -> Prop) (w w' : World) : Prop := ∀ b, S b -> b < w.heap.size -> w'.heap[b]? = w.heap[b]?
theorem Keep.cell {S : Nat -> Prop} {w w' : World} (h : Keep S w w') {g o : Nat} {v : Value} (hS : S g) (hc : w.cell? ⟨g, o, none⟩ = some v) : w'.cell? ⟨g, o, none⟩ = some v :=
  (World.cell?_of_block (w := w) (h g hS (cell_lt hc))).trans hc
theorem Keep.four {S : Nat -> Prop} {w w' : World} (h : Keep S w w') {g o : Nat} {v : Value} (hS : S g) (hc : Four w g o v) : Four w' g o v := by
  obtain ⟨v0, v1, v2, v3, rfl, c0, c1, c2, c3⟩ := hc
  exact ⟨v0, v1, v2, v3, rfl, h.cell hS c0, h.cell hS c1, h.cell hS c2, h.cell hS c3⟩
theorem Keep.two {S : Nat -> Prop} {w w' : World} (h : Keep S w w') {g o : Nat} {t : ByteArray × ByteArray} (hS : S g) (hc : Two w g o t) : Two w' g o t := ⟨h.cell hS hc.1, h.cell hS hc.2⟩
theorem Keep.of_below {S : Nat -> Prop} {w w' : World} (h : Below w.heap.size w w') : Keep S w w' := fun b _ hb => h.block b hb
theorem Ax.keep {r : Bool} {S : Nat -> Prop} {w w' : World} {v : Value} {n : List (ByteArray × ByteArray)} (h : Ax r S w v n) (hk : Keep S w w') : Ax r S w' v n := by
  obtain ⟨a, cap, h1, h2, h3, h4, h5, h6, h7⟩ := h
  refine ⟨a, cap, h1, h2, h3, h4, h5, h6, ?_⟩
  rcases h7 with h7 | ⟨g, o, ha, hS, hc, hr⟩
  · exact .inl h7
  · exact .inr ⟨g, o, ha, hS, fun j hj => hk.two hS (hc j hj), fun hr' => ⟨(hr hr').1, hk.two hS (hr hr').2.1, hk.two hS (hr hr').2.2⟩⟩
theorem InL.keep_of {r : Bool} {S : Nat -> Prop} {w w' : World} {m : Nat} (ih : ∀ (v : Value) (c : T), In r S w m v c -> In r S w' m v c) {v : Value} {l : List T} (h : InL r S w m v l) (hk : Keep S w w') : InL r S w' m v l := by
  obtain ⟨a, cap, h1, h2, h3, h4, h5, h6⟩ := h
  refine ⟨a, cap, h1, h2, h3, h4, h5, ?_⟩
  rcases h6 with h6 | ⟨g, o, ha, hS, hc, hr⟩
  · exact .inl h6
  · refine .inr ⟨g, o, ha, hS, fun j hj => ?_, fun hr' => ⟨(hr hr').1, hk.four hS (hr hr').2.1, hk.four hS (hr hr').2.2⟩⟩
    obtain ⟨u, hu, hi⟩ := hc j hj
    exact ⟨u, hk.four hS hu, ih _ _ hi⟩
theorem In.keep {r : Bool} {S : Nat -> Prop} {w w' : World} (hk : Keep S w w') : ∀ {m : Nat} {v : Value} {c : T}, In r S w m v c -> In r S w' m v c := by
  intro m
  induction m with
  | zero => intro v c h; rw [In] at h; exact h.elim
  | succ m ih =>
    intro v c h
    obtain ⟨g, s, n, l⟩ := c
    rw [in_iff] at h ⊢
    obtain ⟨nv, lv, h1, h3, h4, h5, h6⟩ := h
    exact ⟨nv, lv, h1, h3, h4, h5.keep hk, h6.keep_of (fun v c => ih) hk⟩
theorem InL.keep {r : Bool} {S : Nat -> Prop} {w w' : World} {m : Nat} {v : Value} {l : List T} (h : InL r S w m v l) (hk : Keep S w w') : InL r S w' m v l := h.keep_of (fun v c h => h.keep hk) hk
theorem Ax.below {r : Bool} {S : Nat -> Prop} {w w' : World} {v : Value} {n : List (ByteArray × ByteArray)} (h : Ax r S w v n) (hk : Below w.heap.size w w') : Ax r S w' v n := h.keep (.of_below hk)
theorem In.below {r : Bool} {S : Nat -> Prop} {w w' : World} {m : Nat} {v : Value} {c : T} (h : In r S w m v c) (hk : Below w.heap.size w w') : In r S w' m v c := h.keep (.of_below hk)
theorem InL.below {r : Bool} {S : Nat -> Prop} {w w' : World} {m : Nat} {v : Value} {l : List T} (h : InL r S w m v l) (hk : Below w.heap.size w w') : InL r S w' m v l := h.keep (.of_below hk)
theorem Ax.weak {r : Bool} {S S' : Nat -> Prop} {w : World} {v : Value} {n : List (ByteArray × ByteArray)} (hS : ∀ b, S b -> S' b) (r' : Bool) (hr : r' = true -> r = true) (h : Ax r S w v n) : Ax r' S' w v n := by
  obtain ⟨a, cap, h1, h2, h3, h4, h5, h6, h7⟩ := h
  refine ⟨a, cap, h1, h2, h3, h4, h5, h6, ?_⟩
  rcases h7 with ⟨h7, h8⟩ | ⟨g, o, ha, hg, hc, hr0⟩
  · refine .inl ⟨h7, ?_⟩
    cases r' with
    | true => rw [hr rfl] at h8; cases h8
    | false => rfl
  · exact .inr ⟨g, o, ha, hS _ hg, hc, fun h => hr0 (hr h)⟩
theorem InL.weak_of {r : Bool} {S S' : Nat -> Prop} {w : World} {m m' : Nat} {v : Value} {l : List T} (hS : ∀ b, S b -> S' b) (r' : Bool) (hr : r' = true -> r = true) (ih : ∀ (v : Value) (c : T), In r S w m v c -> In r' S' w m' v c)
    (h : InL r S w m v l) : InL r' S' w m' v l := by
  obtain ⟨a, cap, h1, h2, h3, h4, h5, h6⟩ := h
  refine ⟨a, cap, h1, h2, h3, h4, h5, ?_⟩
  rcases h6 with ⟨h7, h8⟩ | ⟨g, o, ha, hg, hc, hr0⟩
  · refine .inl ⟨h7, ?_⟩
    cases r' with
    | true => rw [hr rfl] at h8; cases h8
    | false => rfl
  · refine .inr ⟨g, o, ha, hS _ hg, fun j hj => ?_, fun h => hr0 (hr h)⟩
    obtain ⟨u, hu, hi⟩ := hc j hj
    exact ⟨u, hu, ih _ _ hi⟩
theorem In.weak {r : Bool} {S S' : Nat -> Prop} {w : World} (hS : ∀ b, S b -> S' b) (r' : Bool) (hr : r' = true -> r = true) : ∀ {m : Nat} (m' : Nat) {v : Value} {c : T}, m <= m' -> In r S w m v c -> In r' S' w m' v c := by
  intro m
  induction m with
  | zero => intro m' v c _ h; rw [In] at h; exact h.elim
  | succ m ih =>
    intro m' v c hm h
    obtain ⟨m', rfl⟩ : ∃ q, m' = q + 1 := ⟨m' - 1, by omega⟩
    obtain ⟨g, s, n, l⟩ := c
    rw [in_iff] at h ⊢
    obtain ⟨nv, lv, h1, h3, h4, h5, h6⟩ := h
    exact ⟨nv, lv, h1, h3, h4, h5.weak hS r' hr, h6.weak_of hS r' hr (fun v c h => ih m' (by omega) h)⟩
theorem InL.weak {r : Bool} {S S' : Nat -> Prop} {w : World} (hS : ∀ b, S b -> S' b) (r' : Bool) (hr : r' = true -> r = true) {m : Nat} (m' : Nat) {v : Value} {l : List T} (hm : m <= m') (h : InL r S w m v l) : InL r' S' w m' v l :=
  h.weak_of hS r' hr (fun v c h => h.weak hS r' hr m' hm)
def All : Nat -> Prop := fun _ => True
theorem In.plain {r : Bool} {S : Nat -> Prop} {w : World} {m : Nat} {v : Value} {c : T} (h : In r S w m v c) : In false All w m v c := h.weak (fun _ _ => trivial) false (fun h => by cases h) m (Nat.le_refl _)
theorem four_box {w : World} {B : Nat} {v0 v1 v2 v3 : Value} {t : TypeId} (h : w.heap[B]? = some (.cells #[v0, v1, v2, v3] t (0, 0))) :
    w.cell? ⟨B, 0, none⟩ = some v0 /\ w.cell? ⟨B, 1, none⟩ = some v1 /\ w.cell? ⟨B, 2, none⟩ = some v2 /\ w.cell? ⟨B, 3, none⟩ = some v3 := by
  refine ⟨?_, ?_, ?_, ?_⟩ <;> simp [World.cell?, h]
theorem two_box {w : World} {B : Nat} {v0 v1 : Value} {t : TypeId} (h : w.heap[B]? = some (.cells #[v0, v1] t (0, 0))) :
    w.cell? ⟨B, 0, none⟩ = some v0 /\ w.cell? ⟨B, 1, none⟩ = some v1 := by
  refine ⟨?_, ?_⟩ <;> simp [World.cell?, h]
theorem nx {a b c : World} (h : Below a.heap.size a b) (k : Below b.heap.size b c) : Below a.heap.size a c := h.trans (k.mono h.size)
theorem heap_alloc_new (w : World) (o : Obj) : (w.alloc o).heap[w.heap.size]? = some o := by
  show (w.heap.push o)[w.heap.size]? = _
  simp
theorem box_at {w wr : World} {vs : Array Value} {t : TypeId} (h : Below (w.heap.size + 1) (w.alloc (.cells vs t)) wr) : wr.heap[w.heap.size]? = some (.cells vs t (0, 0)) :=
  (h.block _ (by omega)).trans (heap_alloc_new w _)
theorem below_box {w wr : World} {o : Obj} (h : Below (w.heap.size + 1) (w.alloc o) wr) : Below w.heap.size w wr := ((Below.refl _ w).alloc (Nat.le_refl _) o).trans (h.mono (by omega))
theorem elem_at {r : Bool} {S : Nat -> Prop} {w : World} {m : Nat} {a : Option Addr} {cap : Nat} {l : List T} (hL : LAt r S w m a cap l) {q : Nat} (h : q < l.length) :
    ∃ g o u, a = some ⟨g, o, none⟩ /\ S g /\ Four w g (o + q * 4) u /\ In r S w m u l[q] := by
  rcases hL with ⟨rfl, _⟩ | ⟨g, o, ha, hS, hc, _⟩
  · simp at h
  · obtain ⟨u, hu, hi⟩ := hc q h
    exact ⟨g, o, u, ha, hS, hu, hi⟩
theorem attr_at {r : Bool} {S : Nat -> Prop} {w : World} {a : Option Addr} {cap : Nat} {n : List (ByteArray × ByteArray)} (hL : NAt r S w a cap n) {q : Nat} (h : q < n.length) :
    ∃ g o, a = some ⟨g, o, none⟩ /\ S g /\ w.cell? ⟨g, o + q * 2, none⟩ = some (.string n[q].1) /\ w.cell? ⟨g, o + q * 2 + 1, none⟩ = some (.string n[q].2) := by
  rcases hL with ⟨rfl, _⟩ | ⟨g, o, ha, hS, hc, _⟩
  · simp at h
  · exact ⟨g, o, ha, hS, hc q h⟩
theorem four_below {w w' : World} {g o : Nat} {u : Value} (h : Four w g o u) (hb : Below w.heap.size w w') : Four w' g o u := (Keep.of_below (S := All) hb).four trivial h
theorem below_cell {w w' : World} {g o : Nat} {u : Value} (h : w.cell? ⟨g, o, none⟩ = some u) (hb : Below w.heap.size w w') : w'.cell? ⟨g, o, none⟩ = some u := (Keep.of_below (S := All) hb).cell trivial h
theorem In.shape {r : Bool} {S : Nat -> Prop} {w : World} {m : Nat} {v : Value} {c : T} (h : In r S w m v c) :
    ∃ m' nv lv, m = m' + 1 /\ v = .agg #[.string c.g, .string c.s, nv, lv] /\ c.g.size <= 140737488351232 /\ c.s.size <= 140737488351232 /\ Ax r S w nv c.n /\ InL r S w m' lv c.l := by
  cases m with
  | zero => rw [In] at h; exact h.elim
  | succ m =>
    obtain ⟨g, s, n, l⟩ := c
    rw [in_iff] at h
    obtain ⟨nv, lv, h⟩ := h
    exact ⟨m, nv, lv, rfl, h⟩
theorem In.four {r : Bool} {S : Nat -> Prop} {w : World} {m : Nat} {v : Value} {c : T} (h : In r S w m v c) :
    ∃ v0 v1 v2 v3, v = .agg #[v0, v1, v2, v3] /\ ∀ u ∈ [v0, v1, v2, v3], u.oneCell' = true := by
  obtain ⟨m', nv, lv, -, rfl, -, -, ⟨a, ca, rfl, -⟩, ⟨a', ca', rfl, -⟩⟩ := h.shape
  refine ⟨_, _, _, _, rfl, ?_⟩
  intro u hu
  simp at hu
  rcases hu with rfl | rfl | rfl | rfl <;> rfl
theorem In.kinds {r : Bool} {S : Nat -> Prop} {w : World} {m : Nat} {x0 x1 x2 x3 : Value} {c : T} (h : In r S w m (.agg #[x0, x1, x2, x3]) c) :
    ∃ m' a1 c1 a2 c2, m = m' + 1 /\ x0 = .string c.g /\ x1 = .string c.s /\ x2 = .slice a1 c.n.length c1 /\ x3 = .slice a2 c.l.length c2 /\ c.g.size <= 140737488351232 /\ c.s.size <= 140737488351232 /\ Ax r S w (.slice a1 c.n.length c1) c.n /\ InL r S w m' (.slice a2 c.l.length c2) c.l := by
  obtain ⟨m', nv, lv, hm, e, hg, hs, hn, hl⟩ := h.shape
  simp only [Value.agg.injEq, Array.mk.injEq, List.cons.injEq, and_true] at e
  obtain ⟨rfl, rfl, rfl, rfl⟩ := e
  have hn0 := hn
  have hl0 := hl
  obtain ⟨a1, c1, rfl, -⟩ := hn
  obtain ⟨a2, c2, rfl, -⟩ := hl
  exact ⟨m', a1, c1, a2, c2, hm, rfl, rfl, rfl, rfl, hg, hs, hn0, hl0⟩
end Go.Proofs.YtaiackmmmlhgbaaGreat.TBase
namespace Go.Proofs.YtaiackmmmlhgbaaGreat.TBase
open Go.RowKit
theorem infoT : (prog.info? 68).map (fun i => (i.zero, i.size, i.bytes)) = some (some (.agg #[.string ⟨#[]⟩, .string ⟨#[]⟩, .slice none 0 0, .slice none 0 0]), 4, 80) := by kernel_rfl
theorem block_set {w : World} {B j : Nat} {cs : Array Value} {t : TypeId} {fz : Nat × Nat} (h : w.heap[B]? = some (.cells cs t fz)) (u : Value) : (w.setCell ⟨B, j, none⟩ u).heap[B]? = some (.cells (cs.setIfInBounds j u) t fz) := by
  simp [World.setCell, Array.getElem?_modify, h]
theorem frozen_box {w : World} {B : Nat} {cs : Array Value} {t : TypeId} (h : w.heap[B]? = some (.cells cs t (0, 0))) (j : Nat) : w.frozen? ⟨B, j, none⟩ = false := by
  simp [World.frozen?, h]
end Go.Proofs.YtaiackmmmlhgbaaGreat.TBase
