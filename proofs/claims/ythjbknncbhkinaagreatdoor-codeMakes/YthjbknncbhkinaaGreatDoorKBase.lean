/- What a core holds, and that it lies in a world. -/
import Derived.Test.YthjbknncbhkinaaGreatDoorXBase
namespace Go.Proofs.YthjbknncbhkinaaGreatDoor.KBase
open Go.RowKit Go.Proofs.YthjbknncbhkinaaGreatDoor.EPure
open Go.Proofs.YthjbknncbhkinaaGreatDoor.Base (cell_lt Keep nx nxB add_none heap_alloc_new box_at below_box All below_cell)
set_option linter.unusedVariables false

/-- A part of a text: plain, is it bound, its expression. -/
structure Pt where
  mk ::
  (p : ByteArray) (b : Bool) (e : Ex)
/-- A field: name, plain, is it bound, its expression, its place. -/
structure Fld where
  mk ::
  (n : ByteArray) (p : ByteArray) (b : Bool) (e : Ex) (a : Int)
/-- A core's node: kind, tag, fields, parts, expressions, kids, else. -/
structure Co where
  mk ::
  (k0 : Int) (t0 : ByteArray) (f0 : List Fld) (p0 : List Pt) (x0 : List Ex) (l0 : List Co) (u0 : List Co)
def Co.k : Co → Int | .mk k _ _ _ _ _ _ => k
def Co.t : Co → ByteArray | .mk _ t _ _ _ _ _ => t
def Co.f : Co → List Fld | .mk _ _ f _ _ _ _ => f
def Co.p : Co → List Pt | .mk _ _ _ p _ _ _ => p
def Co.x : Co → List Ex | .mk _ _ _ _ x _ _ => x
def Co.l : Co → List Co | .mk _ _ _ _ _ l _ => l
def Co.u : Co → List Co | .mk _ _ _ _ _ _ u => u
/-- How a part, a field, a node lie in memory. -/
def Pt6 (w : World) (g o : Nat) (u : Value) : Prop :=
  ∃ v0 v1 e0 e1 e2 e3, u = .agg #[v0, v1, e0, e1, e2, e3] ∧ w.cell? ⟨g, o, none⟩ = some v0 ∧ w.cell? ⟨g, o + 1, none⟩ = some v1 ∧ w.cell? ⟨g, o + 2, none⟩ = some e0 ∧ w.cell? ⟨g, o + 3, none⟩ = some e1 ∧ w.cell? ⟨g, o + 4, none⟩ = some e2 ∧ w.cell? ⟨g, o + 5, none⟩ = some e3
def Fd8 (w : World) (g o : Nat) (u : Value) : Prop :=
  ∃ v0 v1 v2 e0 e1 e2 e3 v7, u = .agg #[v0, v1, v2, e0, e1, e2, e3, v7] ∧ w.cell? ⟨g, o, none⟩ = some v0 ∧ w.cell? ⟨g, o + 1, none⟩ = some v1 ∧ w.cell? ⟨g, o + 2, none⟩ = some v2 ∧ w.cell? ⟨g, o + 3, none⟩ = some e0 ∧ w.cell? ⟨g, o + 4, none⟩ = some e1 ∧ w.cell? ⟨g, o + 5, none⟩ = some e2 ∧ w.cell? ⟨g, o + 6, none⟩ = some e3 ∧ w.cell? ⟨g, o + 7, none⟩ = some v7
def Co7 (w : World) (g o : Nat) (u : Value) : Prop :=
  ∃ v0 v1 v2 v3 v4 v5 v6, u = .agg #[v0, v1, v2, v3, v4, v5, v6] ∧ w.cell? ⟨g, o, none⟩ = some v0 ∧ w.cell? ⟨g, o + 1, none⟩ = some v1 ∧ w.cell? ⟨g, o + 2, none⟩ = some v2 ∧ w.cell? ⟨g, o + 3, none⟩ = some v3 ∧ w.cell? ⟨g, o + 4, none⟩ = some v4 ∧ w.cell? ⟨g, o + 5, none⟩ = some v5 ∧ w.cell? ⟨g, o + 6, none⟩ = some v6
theorem Keep.pt {S : Nat → Prop} {w w' : World} (h : Keep S w w') {g o : Nat} {v : Value} (hS : S g) (hc : Pt6 w g o v) : Pt6 w' g o v := by
  obtain ⟨v0, v1, v2, v3, v4, v5, rfl, c0, c1, c2, c3, c4, c5⟩ := hc
  exact ⟨v0, v1, v2, v3, v4, v5, rfl, h.cell hS c0, h.cell hS c1, h.cell hS c2, h.cell hS c3, h.cell hS c4, h.cell hS c5⟩
theorem Keep.fd {S : Nat → Prop} {w w' : World} (h : Keep S w w') {g o : Nat} {v : Value} (hS : S g) (hc : Fd8 w g o v) : Fd8 w' g o v := by
  obtain ⟨v0, v1, v2, v3, v4, v5, v6, v7, rfl, c0, c1, c2, c3, c4, c5, c6, c7⟩ := hc
  exact ⟨v0, v1, v2, v3, v4, v5, v6, v7, rfl, h.cell hS c0, h.cell hS c1, h.cell hS c2, h.cell hS c3, h.cell hS c4, h.cell hS c5, h.cell hS c6, h.cell hS c7⟩
theorem Keep.co {S : Nat → Prop} {w w' : World} (h : Keep S w w') {g o : Nat} {v : Value} (hS : S g) (hc : Co7 w g o v) : Co7 w' g o v := by
  obtain ⟨v0, v1, v2, v3, v4, v5, v6, rfl, c0, c1, c2, c3, c4, c5, c6⟩ := hc
  exact ⟨v0, v1, v2, v3, v4, v5, v6, rfl, h.cell hS c0, h.cell hS c1, h.cell hS c2, h.cell hS c3, h.cell hS c4, h.cell hS c5, h.cell hS c6⟩
/-- A row of things: n cells and z bytes each, laid out by Ly, what each is by P; r: with the room rm behind it, marked. -/
def RwAt {α : Type} (n : Nat) (Ly : World → Nat → Nat → Value → Prop) (rm : Value) (r : Bool) (S : Nat → Prop) (w : World) (P : Value → α → Prop) (a : Option Addr) (cap : Nat) (l : List α) : Prop :=
  (l = [] ∧ r = false) ∨ ∃ g o, a = some ⟨g, o, none⟩ ∧ S g ∧ (∀ j (h : j < l.length), ∃ u, Ly w g (o + j * n) u ∧ P u l[j]) ∧ (r = true → l.length + 2 ≤ cap ∧ Ly w g (o + l.length * n) rm ∧ Ly w g (o + l.length * n + n) rm)
def Rw {α : Type} (n z : Nat) (Ly : World → Nat → Nat → Value → Prop) (rm : Value) (r : Bool) (S : Nat → Prop) (w : World) (P : Value → α → Prop) (v : Value) (l : List α) : Prop :=
  ∃ a cap, v = .slice a l.length cap ∧ l.length ≤ cap ∧ cap ≤ 9223372036854775807 ∧ l.length * z ≤ 140737488351232 ∧ (a = none → cap = 0) ∧ RwAt n Ly rm r S w P a cap l
theorem Rw.keep_of {α : Type} {n z : Nat} {Ly : World → Nat → Nat → Value → Prop} {rm : Value} {r : Bool} {S : Nat → Prop} {w w' : World} {P P' : Value → α → Prop} {v : Value} {l : List α} (hL : ∀ {g o : Nat} {v : Value}, S g → Ly w g o v → Ly w' g o v)
    (hP : ∀ u c, c ∈ l → P u c → P' u c) (h : Rw n z Ly rm r S w P v l) : Rw n z Ly rm r S w' P' v l := by
  obtain ⟨a, cap, h1, h2, h3, h4, h5, h6⟩ := h
  refine ⟨a, cap, h1, h2, h3, h4, h5, ?_⟩
  rcases h6 with h6 | ⟨g, o, ha, hS, hc, hr⟩
  · exact .inl h6
  · refine .inr ⟨g, o, ha, hS, fun j hj => ?_, fun hr' => ⟨(hr hr').1, hL hS (hr hr').2.1, hL hS (hr hr').2.2⟩⟩
    obtain ⟨u, hu, hi⟩ := hc j hj
    exact ⟨u, hL hS hu, hP _ _ (List.getElem_mem hj) hi⟩
theorem Rw.weak_of {α : Type} {n z : Nat} {Ly : World → Nat → Nat → Value → Prop} {rm : Value} {r : Bool} {S S' : Nat → Prop} {w : World} {P P' : Value → α → Prop} {v : Value} {l : List α} (hS : ∀ b, S b → S' b) (r' : Bool) (hr : r' = true → r = true)
    (hP : ∀ u c, c ∈ l → P u c → P' u c) (h : Rw n z Ly rm r S w P v l) : Rw n z Ly rm r' S' w P' v l := by
  obtain ⟨a, cap, h1, h2, h3, h4, h5, h6⟩ := h
  refine ⟨a, cap, h1, h2, h3, h4, h5, ?_⟩
  rcases h6 with ⟨h7, h8⟩ | ⟨g, o, ha, hg, hc, hr0⟩
  · refine .inl ⟨h7, ?_⟩
    cases r' with
    | true => rw [hr rfl] at h8; cases h8
    | false => rfl
  · refine .inr ⟨g, o, ha, hS _ hg, fun j hj => ?_, fun h => hr0 (hr h)⟩
    obtain ⟨u, hu, hi⟩ := hc j hj
    exact ⟨u, hu, hP _ _ (List.getElem_mem hj) hi⟩
theorem RwAt.elem {α : Type} {n : Nat} {Ly : World → Nat → Nat → Value → Prop} {rm : Value} {r : Bool} {S : Nat → Prop} {w : World} {P : Value → α → Prop} {a : Option Addr} {cap : Nat} {l : List α} (hL : RwAt n Ly rm r S w P a cap l) {q : Nat} (h : q < l.length) :
    ∃ g o u, a = some ⟨g, o, none⟩ ∧ S g ∧ Ly w g (o + q * n) u ∧ P u l[q] := by
  rcases hL with ⟨rfl, _⟩ | ⟨g, o, ha, hS, hc, _⟩
  · simp at h
  · obtain ⟨u, hu, hi⟩ := hc q h
    exact ⟨g, o, u, ha, hS, hu, hi⟩
theorem Rw.nil {α : Type} {n z : Nat} {Ly : World → Nat → Nat → Value → Prop} {rm : Value} {S : Nat → Prop} {w : World} {P : Value → α → Prop} : Rw n z Ly rm false S w P (.slice none 0 0) ([] : List α) :=
  ⟨none, 0, rfl, by simp, by simp, by simp, fun _ => rfl, .inl ⟨rfl, rfl⟩⟩
/-- The marked rooms. -/
def rmP : Value := .agg #[.string Base.room, .bool false, .int .i64 0, .int .i64 0, .string ⟨#[]⟩, .slice none 0 0]
def rmF : Value := .agg #[.string Base.room, .string ⟨#[]⟩, .bool false, .int .i64 0, .int .i64 0, .string ⟨#[]⟩, .slice none 0 0, .int .i64 0]
def rmC : Value := .agg #[.int .i64 (-7), .string ⟨#[]⟩, .slice none 0 0, .slice none 0 0, .slice none 0 0, .slice none 0 0, .slice none 0 0]
/-- A part, a field, in memory. -/
def InP (r : Bool) (S : Nat → Prop) (w : World) (u : Value) (c : Pt) : Prop := ∃ m e0 e1 e2 e3, u = .agg #[.string c.p, .bool c.b, e0, e1, e2, e3] ∧ c.p.size ≤ 140737488351232 ∧ XBase.In r S w m (.agg #[e0, e1, e2, e3]) c.e
def InF (r : Bool) (S : Nat → Prop) (w : World) (u : Value) (c : Fld) : Prop := ∃ m e0 e1 e2 e3, u = .agg #[.string c.n, .string c.p, .bool c.b, e0, e1, e2, e3, .int .i64 c.a] ∧ c.n.size ≤ 140737488351232 ∧ c.p.size ≤ 140737488351232 ∧ XBase.In r S w m (.agg #[e0, e1, e2, e3]) c.e ∧ (-9223372036854775808 ≤ c.a ∧ c.a ≤ 9223372036854775807)
abbrev RP (r : Bool) (S : Nat → Prop) (w : World) (v : Value) (l : List Pt) : Prop := Rw 6 80 Pt6 rmP r S w (InP r S w) v l
abbrev RF (r : Bool) (S : Nat → Prop) (w : World) (v : Value) (l : List Fld) : Prop := Rw 8 104 Fd8 rmF r S w (InF r S w) v l
abbrev RX (r : Bool) (S : Nat → Prop) (w : World) (v : Value) (l : List Ex) : Prop := ∃ m, XBase.InL r S w m v l
/-- A node in memory, nested less than m deep. -/
def In (r : Bool) (S : Nat → Prop) (w : World) : Nat → Value → Co → Prop
  | 0, _, _ => False
  | m + 1, v, c => ∃ fv pv xv lv uv, v = .agg #[.int .i64 c.k, .string c.t, fv, pv, xv, lv, uv] ∧ (-9223372036854775808 ≤ c.k ∧ c.k ≤ 9223372036854775807) ∧ c.t.size ≤ 140737488351232 ∧ RF r S w fv c.f ∧ RP r S w pv c.p ∧ RX r S w xv c.x ∧
      Rw 7 144 Co7 rmC r S w (In r S w m) lv c.l ∧ Rw 7 144 Co7 rmC r S w (In r S w m) uv c.u
abbrev InL (r : Bool) (S : Nat → Prop) (w : World) (m : Nat) (v : Value) (l : List Co) : Prop := Rw 7 144 Co7 rmC r S w (In r S w m) v l
theorem in_zero {r : Bool} {S : Nat → Prop} {w : World} {v : Value} {c : Co} (h : In r S w 0 v c) : False := by rw [In] at h; exact h
theorem in_succ {r : Bool} {S : Nat → Prop} {w : World} {m : Nat} {v : Value} {c : Co} : In r S w (m + 1) v c ↔ ∃ fv pv xv lv uv, v = .agg #[.int .i64 c.k, .string c.t, fv, pv, xv, lv, uv] ∧ (-9223372036854775808 ≤ c.k ∧ c.k ≤ 9223372036854775807) ∧ c.t.size ≤ 140737488351232 ∧ RF r S w fv c.f ∧ RP r S w pv c.p ∧ RX r S w xv c.x ∧
      InL r S w m lv c.l ∧ InL r S w m uv c.u := by rw [In]
theorem InP.keep {r : Bool} {S : Nat → Prop} {w w' : World} (hk : Keep S w w') {u : Value} {c : Pt} (h : InP r S w u c) : InP r S w' u c := by
  obtain ⟨m, e0, e1, e2, e3, h1, h2, h3⟩ := h
  exact ⟨m, e0, e1, e2, e3, h1, h2, h3.keep hk⟩
theorem InF.keep {r : Bool} {S : Nat → Prop} {w w' : World} (hk : Keep S w w') {u : Value} {c : Fld} (h : InF r S w u c) : InF r S w' u c := by
  obtain ⟨m, e0, e1, e2, e3, h1, h2, h3, h4, h5⟩ := h
  exact ⟨m, e0, e1, e2, e3, h1, h2, h3, h4.keep hk, h5⟩
theorem RP.keep {r : Bool} {S : Nat → Prop} {w w' : World} (hk : Keep S w w') {v : Value} {l : List Pt} (h : RP r S w v l) : RP r S w' v l := h.keep_of (Keep.pt hk) (fun _ _ _ h => h.keep hk)
theorem RF.keep {r : Bool} {S : Nat → Prop} {w w' : World} (hk : Keep S w w') {v : Value} {l : List Fld} (h : RF r S w v l) : RF r S w' v l := h.keep_of (Keep.fd hk) (fun _ _ _ h => h.keep hk)
theorem RX.keep {r : Bool} {S : Nat → Prop} {w w' : World} (hk : Keep S w w') {v : Value} {l : List Ex} (h : RX r S w v l) : RX r S w' v l := by
  obtain ⟨m, h⟩ := h
  exact ⟨m, h.keep hk⟩
theorem In.keep {r : Bool} {S : Nat → Prop} {w w' : World} (hk : Keep S w w') : ∀ {m : Nat} {v : Value} {c : Co}, In r S w m v c → In r S w' m v c := by
  intro m
  induction m with
  | zero => intro v c h; exact (in_zero h).elim
  | succ m ih =>
    intro v c h
    rw [in_succ] at h ⊢
    obtain ⟨fv, pv, xv, lv, uv, h1, h2, h3, h4, h5, h6, h7, h8⟩ := h
    exact ⟨fv, pv, xv, lv, uv, h1, h2, h3, RF.keep hk h4, RP.keep hk h5, RX.keep hk h6, h7.keep_of (Keep.co hk) (fun _ _ _ h => ih h), h8.keep_of (Keep.co hk) (fun _ _ _ h => ih h)⟩
theorem InL.keep {r : Bool} {S : Nat → Prop} {w w' : World} (hk : Keep S w w') {m : Nat} {v : Value} {l : List Co} (h : InL r S w m v l) : InL r S w' m v l := h.keep_of (Keep.co hk) (fun _ _ _ h => h.keep hk)
theorem In.below {r : Bool} {S : Nat → Prop} {w w' : World} {m : Nat} {v : Value} {c : Co} (h : In r S w m v c) (hk : Below w.heap.size w w') : In r S w' m v c := h.keep (.of_below hk)
theorem InL.below {r : Bool} {S : Nat → Prop} {w w' : World} {m : Nat} {v : Value} {l : List Co} (h : InL r S w m v l) (hk : Below w.heap.size w w') : InL r S w' m v l := InL.keep (.of_below hk) h
/-- Less asked. -/
theorem InP.weak {r : Bool} {S S' : Nat → Prop} {w : World} (hS : ∀ b, S b → S' b) (r' : Bool) (hr : r' = true → r = true) {u : Value} {c : Pt} (h : InP r S w u c) : InP r' S' w u c := by
  obtain ⟨m, e0, e1, e2, e3, h1, h2, h3⟩ := h
  exact ⟨m, e0, e1, e2, e3, h1, h2, h3.weak hS r' hr m (Nat.le_refl _)⟩
theorem InF.weak {r : Bool} {S S' : Nat → Prop} {w : World} (hS : ∀ b, S b → S' b) (r' : Bool) (hr : r' = true → r = true) {u : Value} {c : Fld} (h : InF r S w u c) : InF r' S' w u c := by
  obtain ⟨m, e0, e1, e2, e3, h1, h2, h3, h4, h5⟩ := h
  exact ⟨m, e0, e1, e2, e3, h1, h2, h3, h4.weak hS r' hr m (Nat.le_refl _), h5⟩
theorem In.weak {r : Bool} {S S' : Nat → Prop} {w : World} (hS : ∀ b, S b → S' b) (r' : Bool) (hr : r' = true → r = true) : ∀ {m : Nat} (m' : Nat) {v : Value} {c : Co}, m ≤ m' → In r S w m v c → In r' S' w m' v c := by
  intro m
  induction m with
  | zero => intro m' v c _ h; exact (in_zero h).elim
  | succ m ih =>
    intro m' v c hm h
    obtain ⟨m', rfl⟩ : ∃ q, m' = q + 1 := ⟨m' - 1, by omega⟩
    rw [in_succ] at h ⊢
    obtain ⟨fv, pv, xv, lv, uv, h1, h2, h3, h4, h5, ⟨mx, h6⟩, h7, h8⟩ := h
    exact ⟨fv, pv, xv, lv, uv, h1, h2, h3, h4.weak_of hS r' hr (fun _ _ _ h => h.weak hS r' hr), h5.weak_of hS r' hr (fun _ _ _ h => h.weak hS r' hr), ⟨mx, h6.weak hS r' hr mx (Nat.le_refl _)⟩,
      h7.weak_of hS r' hr (fun _ _ _ h => ih m' (by omega) h), h8.weak_of hS r' hr (fun _ _ _ h => ih m' (by omega) h)⟩
theorem InL.weak {r : Bool} {S S' : Nat → Prop} {w : World} (hS : ∀ b, S b → S' b) (r' : Bool) (hr : r' = true → r = true) {m : Nat} (m' : Nat) {v : Value} {l : List Co} (hm : m ≤ m') (h : InL r S w m v l) : InL r' S' w m' v l :=
  h.weak_of hS r' hr (fun v c _ h => h.weak hS r' hr m' hm)
theorem In.plain {r : Bool} {S : Nat → Prop} {w : World} {m : Nat} {v : Value} {c : Co} (h : In r S w m v c) : In false All w m v c := h.weak (fun _ _ => trivial) false (fun h => by cases h) m (Nat.le_refl _)
/-- What lies in a world lies in blocks below its size. -/
theorem In4.low {r : Bool} {S : Nat → Prop} {w : World} : ∀ {m : Nat} {v : Value} {c : Ex}, XBase.In r S w m v c → XBase.In r (fun b => S b ∧ b < w.heap.size) w m v c := by
  intro m
  induction m with
  | zero => intro v c h; rw [XBase.In] at h; exact h.elim
  | succ m ih =>
    intro v c h
    obtain ⟨k, i, s, l⟩ := c
    rw [XBase.in_iff] at h ⊢
    obtain ⟨lv, h1, h3, h4, h5, a, cap, g1, g2, g3, g4, g5, g6⟩ := h
    refine ⟨lv, h1, h3, h4, h5, a, cap, g1, g2, g3, g4, g5, ?_⟩
    rcases g6 with g6 | ⟨g, o, ha, hS, hc, hr⟩
    · exact .inl g6
    · by_cases hl : l = [] ∧ r = false
      · exact .inl hl
      · refine .inr ⟨g, o, ha, ⟨hS, ?_⟩, fun j hj => ?_, hr⟩
        · cases l with
          | nil =>
            have hrt : r = true := by
              cases r with
              | true => rfl
              | false => exact absurd ⟨rfl, rfl⟩ hl
            obtain ⟨_, _, _, _, _, c0, _⟩ := (hr hrt).2.1
            exact cell_lt c0
          | cons x t =>
            obtain ⟨u, ⟨_, _, _, _, _, c0, _⟩, _⟩ := hc 0 (by simp)
            exact cell_lt c0
        · obtain ⟨u, hu, hi⟩ := hc j hj
          exact ⟨u, hu, ih hi⟩
theorem InL4.low {r : Bool} {S : Nat → Prop} {w : World} {m : Nat} {v : Value} {l : List Ex} (h : XBase.InL r S w m v l) : XBase.InL r (fun b => S b ∧ b < w.heap.size) w m v l := by
  obtain ⟨a, cap, g1, g2, g3, g4, g5, g6⟩ := h
  refine ⟨a, cap, g1, g2, g3, g4, g5, ?_⟩
  rcases g6 with g6 | ⟨g, o, ha, hS, hc, hr⟩
  · exact .inl g6
  · by_cases hl : l = [] ∧ r = false
    · exact .inl hl
    · refine .inr ⟨g, o, ha, ⟨hS, ?_⟩, fun j hj => ?_, hr⟩
      · cases l with
        | nil =>
          have hrt : r = true := by
            cases r with
            | true => rfl
            | false => exact absurd ⟨rfl, rfl⟩ hl
          obtain ⟨_, _, _, _, _, c0, _⟩ := (hr hrt).2.1
          exact cell_lt c0
        | cons x t =>
          obtain ⟨u, ⟨_, _, _, _, _, c0, _⟩, _⟩ := hc 0 (by simp)
          exact cell_lt c0
      · obtain ⟨u, hu, hi⟩ := hc j hj
        exact ⟨u, hu, In4.low hi⟩
theorem Rw.low_of {α : Type} {n z : Nat} {Ly : World → Nat → Nat → Value → Prop} {rm : Value} {r : Bool} {S : Nat → Prop} {w : World} {P P' : Value → α → Prop} {v : Value} {l : List α} (hLy : ∀ {g o : Nat} {v : Value}, Ly w g o v → g < w.heap.size)
    (hP : ∀ u c, c ∈ l → P u c → P' u c) (h : Rw n z Ly rm r S w P v l) : Rw n z Ly rm r (fun b => S b ∧ b < w.heap.size) w P' v l := by
  obtain ⟨a, cap, g1, g2, g3, g4, g5, g6⟩ := h
  refine ⟨a, cap, g1, g2, g3, g4, g5, ?_⟩
  rcases g6 with g6 | ⟨g, o, ha, hS, hc, hr⟩
  · exact .inl g6
  · by_cases hl : l = [] ∧ r = false
    · exact .inl hl
    · refine .inr ⟨g, o, ha, ⟨hS, ?_⟩, fun j hj => ?_, hr⟩
      · cases l with
        | nil =>
          have hrt : r = true := by
            cases r with
            | true => rfl
            | false => exact absurd ⟨rfl, rfl⟩ hl
          exact hLy (hr hrt).2.1
        | cons x t =>
          obtain ⟨u, hu, _⟩ := hc 0 (by simp)
          exact hLy hu
      · obtain ⟨u, hu, hi⟩ := hc j hj
        exact ⟨u, hu, hP _ _ (List.getElem_mem hj) hi⟩
theorem Pt6.lt {w : World} {g o : Nat} {v : Value} (h : Pt6 w g o v) : g < w.heap.size := by obtain ⟨_, _, _, _, _, _, _, c0, _⟩ := h; exact cell_lt c0
theorem Fd8.lt {w : World} {g o : Nat} {v : Value} (h : Fd8 w g o v) : g < w.heap.size := by obtain ⟨_, _, _, _, _, _, _, _, _, c0, _⟩ := h; exact cell_lt c0
theorem Co7.lt {w : World} {g o : Nat} {v : Value} (h : Co7 w g o v) : g < w.heap.size := by obtain ⟨_, _, _, _, _, _, _, _, c0, _⟩ := h; exact cell_lt c0
theorem InP.low {r : Bool} {S : Nat → Prop} {w : World} {u : Value} {c : Pt} (h : InP r S w u c) : InP r (fun b => S b ∧ b < w.heap.size) w u c := by
  obtain ⟨m, e0, e1, e2, e3, h1, h2, h3⟩ := h
  exact ⟨m, e0, e1, e2, e3, h1, h2, In4.low h3⟩
theorem InF.low {r : Bool} {S : Nat → Prop} {w : World} {u : Value} {c : Fld} (h : InF r S w u c) : InF r (fun b => S b ∧ b < w.heap.size) w u c := by
  obtain ⟨m, e0, e1, e2, e3, h1, h2, h3, h4, h5⟩ := h
  exact ⟨m, e0, e1, e2, e3, h1, h2, h3, In4.low h4, h5⟩
theorem In.low {r : Bool} {S : Nat → Prop} {w : World} : ∀ {m : Nat} {v : Value} {c : Co}, In r S w m v c → In r (fun b => S b ∧ b < w.heap.size) w m v c := by
  intro m
  induction m with
  | zero => intro v c h; exact (in_zero h).elim
  | succ m ih =>
    intro v c h
    rw [in_succ] at h ⊢
    obtain ⟨fv, pv, xv, lv, uv, h1, h2, h3, h4, h5, ⟨mx, h6⟩, h7, h8⟩ := h
    exact ⟨fv, pv, xv, lv, uv, h1, h2, h3, h4.low_of Fd8.lt (fun _ _ _ h => h.low), h5.low_of Pt6.lt (fun _ _ _ h => h.low), ⟨mx, InL4.low h6⟩, h7.low_of Co7.lt (fun _ _ _ h => ih h), h8.low_of Co7.lt (fun _ _ _ h => ih h)⟩
theorem InL.low {r : Bool} {S : Nat → Prop} {w : World} {m : Nat} {v : Value} {l : List Co} (h : InL r S w m v l) : InL r (fun b => S b ∧ b < w.heap.size) w m v l := h.low_of Co7.lt (fun _ _ _ h => h.low)
/-- What lay in a world lies in blocks other than a new one. -/
theorem InL.other {S : Nat → Prop} {w w' : World} {m : Nat} {v : Value} {l : List Co} {R : Nat} (h : InL false S w m v l) (hb : Below w.heap.size w w') (hR : w.heap.size ≤ R := by omega) : InL false (fun b => b ≠ R) w' m v l :=
  InL.weak (fun b hb => by have := hb.2; omega) false (fun h => h) m (Nat.le_refl _) (InL.below h.low hb)
/-- A box of seven cells. -/
theorem seven_box {w : World} {B : Nat} {v0 v1 v2 v3 v4 v5 v6 : Value} {t : TypeId} (h : w.heap[B]? = some (.cells #[v0, v1, v2, v3, v4, v5, v6] t (0, 0))) :
    w.cell? ⟨B, 0, none⟩ = some v0 ∧ w.cell? ⟨B, 1, none⟩ = some v1 ∧ w.cell? ⟨B, 2, none⟩ = some v2 ∧ w.cell? ⟨B, 3, none⟩ = some v3 ∧ w.cell? ⟨B, 4, none⟩ = some v4 ∧ w.cell? ⟨B, 5, none⟩ = some v5 ∧ w.cell? ⟨B, 6, none⟩ = some v6 := by
  refine ⟨?_, ?_, ?_, ?_, ?_, ?_, ?_⟩ <;> simp [World.cell?, h]
theorem eight_box {w : World} {B : Nat} {v0 v1 v2 v3 v4 v5 v6 v7 : Value} {t : TypeId} (h : w.heap[B]? = some (.cells #[v0, v1, v2, v3, v4, v5, v6, v7] t (0, 0))) :
    w.cell? ⟨B, 0, none⟩ = some v0 ∧ w.cell? ⟨B, 1, none⟩ = some v1 ∧ w.cell? ⟨B, 2, none⟩ = some v2 ∧ w.cell? ⟨B, 3, none⟩ = some v3 ∧ w.cell? ⟨B, 4, none⟩ = some v4 ∧ w.cell? ⟨B, 5, none⟩ = some v5 ∧ w.cell? ⟨B, 6, none⟩ = some v6 ∧ w.cell? ⟨B, 7, none⟩ = some v7 := by
  refine ⟨?_, ?_, ?_, ?_, ?_, ?_, ?_, ?_⟩ <;> simp [World.cell?, h]
/-- What the cells of a part, a field, a node are. -/
theorem InP.kinds {r : Bool} {S : Nat → Prop} {w : World} {v0 v1 e0 e1 e2 e3 : Value} {c : Pt} (h : InP r S w (.agg #[v0, v1, e0, e1, e2, e3]) c) :
    v0 = .string c.p ∧ v1 = .bool c.b ∧ c.p.size ≤ 140737488351232 ∧ ∃ m, XBase.In r S w m (.agg #[e0, e1, e2, e3]) c.e := by
  obtain ⟨m, x0, x1, x2, x3, e, h1, h2⟩ := h
  simp only [Value.agg.injEq, Array.mk.injEq, List.cons.injEq, and_true] at e
  obtain ⟨rfl, rfl, rfl, rfl, rfl, rfl⟩ := e
  exact ⟨rfl, rfl, h1, m, h2⟩
theorem InF.kinds {r : Bool} {S : Nat → Prop} {w : World} {v0 v1 v2 e0 e1 e2 e3 v7 : Value} {c : Fld} (h : InF r S w (.agg #[v0, v1, v2, e0, e1, e2, e3, v7]) c) :
    v0 = .string c.n ∧ v1 = .string c.p ∧ v2 = .bool c.b ∧ v7 = .int .i64 c.a ∧ c.n.size ≤ 140737488351232 ∧ c.p.size ≤ 140737488351232 ∧ (-9223372036854775808 ≤ c.a ∧ c.a ≤ 9223372036854775807) ∧ ∃ m, XBase.In r S w m (.agg #[e0, e1, e2, e3]) c.e := by
  obtain ⟨m, x0, x1, x2, x3, e, h1, h2, h3, h4⟩ := h
  simp only [Value.agg.injEq, Array.mk.injEq, List.cons.injEq, and_true] at e
  obtain ⟨rfl, rfl, rfl, rfl, rfl, rfl, rfl, rfl⟩ := e
  exact ⟨rfl, rfl, rfl, rfl, h1, h2, h4, m, h3⟩
theorem InP.six {r : Bool} {S : Nat → Prop} {w : World} {v0 v1 e0 e1 e2 e3 : Value} {c : Pt} (h : InP r S w (.agg #[v0, v1, e0, e1, e2, e3]) c) :
    ∃ a cap, v0 = .string c.p ∧ v1 = .bool c.b ∧ e0 = .int .i64 c.e.o ∧ e1 = .int .i64 c.e.i ∧ e2 = .string c.e.s ∧ e3 = .slice a c.e.l.length cap ∧ c.p.size ≤ 140737488351232 ∧ c.e.l.length * 56 ≤ 140737488351232 := by
  obtain ⟨h1, h2, h3, m, h4⟩ := h.kinds
  obtain ⟨m', a, cap, -, k0, k1, k2, k3, -, -, -, hl⟩ := h4.kinds
  obtain ⟨aa, cc, hsl, -, -, hl, -, -⟩ := hl
  exact ⟨a, cap, h1, h2, k0, k1, k2, k3, h3, hl⟩
theorem InF.eight {r : Bool} {S : Nat → Prop} {w : World} {v0 v1 v2 e0 e1 e2 e3 v7 : Value} {c : Fld} (h : InF r S w (.agg #[v0, v1, v2, e0, e1, e2, e3, v7]) c) :
    ∃ a cap, v0 = .string c.n ∧ v1 = .string c.p ∧ v2 = .bool c.b ∧ e0 = .int .i64 c.e.o ∧ e1 = .int .i64 c.e.i ∧ e2 = .string c.e.s ∧ e3 = .slice a c.e.l.length cap ∧ v7 = .int .i64 c.a ∧ c.n.size ≤ 140737488351232 ∧ c.p.size ≤ 140737488351232 ∧ c.e.l.length * 56 ≤ 140737488351232 ∧ (-9223372036854775808 ≤ c.a ∧ c.a ≤ 9223372036854775807) := by
  obtain ⟨h1, h2, h3, h4, h5, h6, h7, m, h8⟩ := h.kinds
  obtain ⟨m', a, cap, -, k0, k1, k2, k3, -, -, -, hl⟩ := h8.kinds
  obtain ⟨aa, cc, hsl, -, -, hl, -, -⟩ := hl
  exact ⟨a, cap, h1, h2, h3, k0, k1, k2, k3, h4, h5, h6, hl, h7⟩
theorem In.shape {r : Bool} {S : Nat → Prop} {w : World} {m : Nat} {v : Value} {c : Co} (h : In r S w m v c) :
    ∃ m' fv pv xv lv uv, m = m' + 1 ∧ v = .agg #[.int .i64 c.k, .string c.t, fv, pv, xv, lv, uv] ∧ (-9223372036854775808 ≤ c.k ∧ c.k ≤ 9223372036854775807) ∧ c.t.size ≤ 140737488351232 ∧ RF r S w fv c.f ∧ RP r S w pv c.p ∧ RX r S w xv c.x ∧ InL r S w m' lv c.l ∧ InL r S w m' uv c.u := by
  cases m with
  | zero => exact (in_zero h).elim
  | succ m =>
    rw [in_succ] at h
    obtain ⟨fv, pv, xv, lv, uv, h⟩ := h
    exact ⟨m, fv, pv, xv, lv, uv, rfl, h⟩
end Go.Proofs.YthjbknncbhkinaaGreatDoor.KBase
