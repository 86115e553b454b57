import Derived.LoopN
import Derived.LoopTactic
import Derived.Maps.AppendAt
import Derived.Test.YtghnhkagkngjcaaGreatDoorPN00
import Derived.Test.YtghnhkagkngjcaaGreatDoorPN01
import Derived.Test.YtghnhkagkngjcaaGreatDoorPN03
set_option linter.unusedVariables false
set_option maxRecDepth 20000
set_option maxHeartbeats 3200000
namespace Go.Proofs.YtghnhkagkngjcaaGreatDoor.EPure
open UBase
structure Ex where
 mk ::
 (o0 : Int) (i0 : Int) (s0 : ByteArray) (l0 : List Ex)
def Ex.o : Ex → Int | .mk o _ _ _ => o
def Ex.i : Ex → Int | .mk _ i _ _ => i
def Ex.s : Ex → ByteArray | .mk _ _ s _ => s
def Ex.l : Ex → List Ex | .mk _ _ _ l => l
abbrev F := Nat × Nat
structure Tk where
 k : Nat
 t : ByteArray
 n : Int
 a : Nat
def isb (c : Nat) : Bool := c == 32 || (c == 9 || (c == 10 || c == 13))
def dig (c : Nat) : Bool := decide (48 ≤ c) && decide (c ≤ 57)
def let' (c : Nat) : Bool := decide (97 ≤ c) && decide (c ≤ 122)
def wrd (c : Nat) : Bool := let' c || (dig c || c == 95)
def sk (p : Nat → Bool) (s : ByteArray) : Nat → Nat → Nat
 | 0, i => i
 | f + 1, i => if i < s.size ∧ p (at' s i) = true then sk p s f (i + 1) else i
def skp (p : Nat → Bool) (s : ByteArray) (i : Nat) : Nat := sk p s (s.size - i) i
def signs : List (List UInt8) := [[124, 124], [38, 38], [61, 61], [33, 61], [60, 61], [62, 61], [60, 60], [62, 62], [63], [58], [60], [62], [124], [94], [38], [126], [43], [45], [42], [47], [37], [33], [46], [91], [93], [40], [41]]
def pre (s : ByteArray) (i : Nat) (x : List UInt8) : Bool := decide (i + x.length ≤ s.size) && ((s.data.toList.drop i).take x.length == x)
def sgn (s : ByteArray) (i : Nat) : List (List UInt8) → Except F (ByteArray × Nat)
 | [] => .error (1000, i)
 | x :: l => if pre s i x = true then .ok (⟨x.toArray⟩, i + x.length) else sgn s i l
def esc (c : Nat) : Option Nat := if c = 39 then some 39 else if c = 92 then some 92 else if c = 125 then some 125 else if c = 110 then some 10 else none
def chr (s : ByteArray) (i : Nat) : Except F (List UInt8 × Nat) :=
 if s.size ≤ i then .error (1000, i)
 else if at' s i < 32 then .error (1000, i)
 else if at' s i = 92 then
  if s.size ≤ i + 1 then .error (1000, i + 1)
  else match esc (at' s (i + 1)) with
   | none => .error (1000, i + 1)
   | some c => .ok ([UInt8.ofNat c], i + 2)
 else if len s i = 0 then .error (1000, i)
 else .ok ((s.data.toList.drop i).take (len s i), i + len s i)
def txl (s : ByteArray) : Nat → Nat → List UInt8 → Except F (List UInt8 × Nat)
 | 0, i, _ => .error (1000, i)
 | f + 1, i, acc => if s.size ≤ i then .error (1000, i) else if at' s i = 39 then .ok (acc, i + 1) else match chr s i with
  | .error e => .error e
  | .ok (x, j) => txl s f j (acc ++ x)
def cut (s : ByteArray) (i j : Nat) : ByteArray := s.extract i j
def scan (s : ByteArray) (i : Nat) : Except F (Tk × Nat) :=
 if s.size ≤ i then .ok (⟨0, ⟨#[]⟩, 0, i⟩, i)
 else if at' s i = 39 then match txl s (s.size + 1) (i + 1) [] with
  | .error e => .error e
  | .ok (l, j) => if 4096 < l.length then .error (1002, i) else .ok (⟨2, ⟨l.toArray⟩, 0, i⟩, j)
 else if at' s i = 48 then .ok (⟨1, ⟨#[]⟩, 0, i⟩, i + 1)
 else if dig (at' s i) = true then
  if Nums.perr (Sums.bs (cut s i (skp dig s i))) = 0 then .ok (⟨1, ⟨#[]⟩, Nums.pnum (Sums.bs (cut s i (skp dig s i))), i⟩, skp dig s i) else .error (1000, i)
 else if let' (at' s i) = true then
  if skp wrd s i - i ≤ 32 then .ok (⟨3, cut s i (skp wrd s i), 0, i⟩, skp wrd s i) else .error (1000, i)
 else match sgn s i signs with
  | .error e => .error e
  | .ok (x, j) => .ok (⟨4, x, 0, i⟩, j)
structure Sr where
 tk : Tk
 a : Nat
 r : Nat
def adv (s : ByteArray) (a r : Nat) : Except F Sr := match scan s (skp isb s a) with
 | .error e => .error e
 | .ok (t, j) => if t.k = 0 then .ok ⟨t, j, r⟩ else if r = 512 then .error (1002, t.a) else .ok ⟨t, j, r + 1⟩
def is (t : Tk) (x : List UInt8) : Bool := t.k == 4 && t.t.data.toList == x
def ends (t : Tk) : F := (1000, t.a)
def tak (s : ByteArray) (x : List UInt8) (g : Sr) : Except F Sr := if is g.tk x = true then adv s g.a g.r else .error (ends g.tk)
def lvs : List (List (List UInt8 × Int)) := [[([124, 124], 30)], [([38, 38], 29)], [([61, 61], 27), ([33, 61], 28)], [([60], 23), ([60, 61], 24), ([62], 25), ([62, 61], 26)], [([124], 22)], [([94], 21)], [([38], 20)], [([60, 60], 18), ([62, 62], 19)], [([126], 17)], [([43], 15), ([45], 16)], [([42], 12), ([47], 13), ([37], 14)]]
def opOf (t : Tk) : List (List UInt8 × Int) → Option Int
 | [] => none
 | (x, o) :: l => if is t x = true then some o else opOf t l
def wordOp (x : List UInt8) : Option Int := if x = [110, 117, 108, 108] then some 1 else if x = [102, 97, 108, 115, 101] then some 2 else if x = [116, 114, 117, 101] then some 3 else none
def callOf (x : List UInt8) : Option Int := if x = [108, 101, 110] then some 1 else if x = [115, 116, 114] then some 2 else if x = [105, 56] then some 3 else if x = [117, 56] then some 4 else if x = [105, 49, 54] then some 5 else if x = [117, 49, 54] then some 6 else if x = [105, 51, 50] then some 7 else if x = [117, 51, 50] then some 8 else none
abbrev A (α : Type) := Except F (α × Sr)
def nd (o : Int) (l : List Ex) : Ex := .mk o 0 ⟨#[]⟩ l
abbrev P := Sr → A Ex
def ded : P := fun g => if g.tk.k = 0 then .error (1000, g.tk.a) else .error (1001, g.tk.a)
def more (s : ByteArray) (k : Nat) (q : P) : Nat → Ex → P
 | 0, _, g => .error (ends g.tk)
 | f + 1, l, g => match opOf g.tk (lvs.getD k []) with
  | none => .ok (l, g)
  | some o => match adv s g.a g.r with
   | .error e => .error e
   | .ok g1 => match q g1 with
    | .error e => .error e
    | .ok (r, g2) => more s k q f (nd o [l, r]) g2
def lev (s : ByteArray) (q : P) : Nat → P
 | 0 => q
 | j + 1 => fun g => match lev s q j g with
  | .error e => .error e
  | .ok (l, g1) => more s (10 - j) (lev s q j) (2 * s.size + 2) l g1
def chc (s : ByteArray) (S C : P) : P := fun g => match lev s S 11 g with
 | .error e => .error e
 | .ok (t, g1) => if is g1.tk [63] = true then match adv s g1.a g1.r with
   | .error e => .error e
   | .ok g2 => match C g2 with
    | .error e => .error e
    | .ok (a, g3) => match tak s [58] g3 with
     | .error e => .error e
     | .ok g4 => match C g4 with
      | .error e => .error e
      | .ok (b, g5) => .ok (nd 31 [t, a, b], g5)
  else .ok (t, g1)
def btw (s : ByteArray) (C : P) (o c : List UInt8) : P := fun g => match tak s o g with
 | .error e => .error e
 | .ok g1 => match C g1 with
  | .error e => .error e
  | .ok (x, g2) => match tak s c g2 with
   | .error e => .error e
   | .ok g3 => .ok (x, g3)
def prt (s : ByteArray) (C : P) : Nat → Ex → P
 | 0, _, g => .error (ends g.tk)
 | f + 1, x, g => if is g.tk [46] = true then match adv s g.a g.r with
   | .error e => .error e
   | .ok g1 => if g1.tk.k = 3 then match adv s g1.a g1.r with
     | .error e => .error e
     | .ok g2 => prt s C f (.mk 7 0 g1.tk.t [x]) g2
    else .error (ends g1.tk)
  else if is g.tk [91] = true then match btw s C [91] [93] g with
   | .error e => .error e
   | .ok (y, g1) => prt s C f (nd 8 [x, y]) g1
  else .ok (x, g)
def nmd (s : ByteArray) (C : P) (t : ByteArray) : P := fun g1 => match wordOp t.data.toList with
 | some o => .ok (nd o [], g1)
 | none => match callOf t.data.toList with
  | some c => if is g1.tk [40] = true then match btw s C [40] [41] g1 with
    | .error e => .error e
    | .ok (x, g2) => .ok (.mk 9 c ⟨#[]⟩ [x], g2)
   else .ok (.mk 6 0 t [], g1)
  | none => .ok (.mk 6 0 t [], g1)
def wor (s : ByteArray) (C : P) : P := fun g => if g.tk.k = 1 then match adv s g.a g.r with
  | .error e => .error e
  | .ok g1 => .ok (.mk 4 g.tk.n ⟨#[]⟩ [], g1)
 else if g.tk.k = 2 then match adv s g.a g.r with
  | .error e => .error e
  | .ok g1 => .ok (.mk 5 0 g.tk.t [], g1)
 else if g.tk.k = 3 then match adv s g.a g.r with
  | .error e => .error e
  | .ok g1 => nmd s C g.tk.t g1
 else btw s C [40] [41] g
def par (s : ByteArray) (C : P) : P := fun g => match wor s C g with
 | .error e => .error e
 | .ok (x, g1) => prt s C (2 * s.size + 2) x g1
def sgd (s : ByteArray) (S C : P) : P := fun g => if is g.tk [45] = true then match adv s g.a g.r with
  | .error e => .error e
  | .ok g1 => match S g1 with
   | .error e => .error e
   | .ok (x, g2) => .ok (nd 10 [x], g2)
 else if is g.tk [33] = true then match adv s g.a g.r with
  | .error e => .error e
  | .ok g1 => match S g1 with
   | .error e => .error e
   | .ok (x, g2) => .ok (nd 11 [x], g2)
 else par s C g
def lv2 (s : ByteArray) : Nat → P × P
 | 0 => (ded, chc s ded ded)
 | m + 1 => (sgd s (lv2 s m).1 (lv2 s m).2, chc s (sgd s (lv2 s m).1 (lv2 s m).2) (lv2 s m).2)
def prs (s : ByteArray) : Except F Ex := match adv s 0 0 with
 | .error e => .error e
 | .ok g => match (lv2 s 32).2 g with
  | .error e => .error e
  | .ok (x, g1) => if g1.tk.k = 0 then .ok x else .error (ends g1.tk)
end Go.Proofs.YtghnhkagkngjcaaGreatDoor.EPure
namespace Go.Proofs.YtghnhkagkngjcaaGreatDoor.XBase
open Go.RowKit EPure
open Base (cell_lt Keep nx add_none heap_alloc_new All below_cell)
def room7 : Value := .agg #[.int .i64 (-7), .int .i64 0, .string ⟨#[]⟩, .slice none 0 0]
def Four (w : World) (g o : Nat) (u : Value) : Prop :=
 ∃ v0 v1 v2 v3, u = .agg #[v0, v1, v2, v3] ∧ w.cell? ⟨g, o, none⟩ = some v0 ∧ w.cell? ⟨g, o + 1, none⟩ = some v1 ∧ w.cell? ⟨g, o + 2, none⟩ = some v2 ∧ w.cell? ⟨g, o + 3, none⟩ = some v3
def In (r : Bool) (S : Nat → Prop) (w : World) : Nat → Value → Ex → Prop
 | 0, _, _ => False
 | m + 1, v, .mk k i s l => ∃ a cap, v = .agg #[.int .i64 k, .int .i64 i, .string s, .slice a l.length cap] ∧
   (-9223372036854775808 ≤ k ∧ k ≤ 9223372036854775807) ∧ (-9223372036854775808 ≤ i ∧ i ≤ 9223372036854775807) ∧ s.size ≤ 140737488351232 ∧
   l.length ≤ cap ∧ cap ≤ 9223372036854775807 ∧ l.length * 56 ≤ 140737488351232 ∧ (a = none → cap = 0) ∧
   ((l = [] ∧ r = false) ∨ ∃ g o, a = some ⟨g, o, none⟩ ∧ S g ∧ (∀ j (h : j < l.length), ∃ u, Four w g (o + j * 4) u ∧ In r S w m u l[j]) ∧
    (r = true → l.length + 2 ≤ cap ∧ Four w g (o + l.length * 4) room7 ∧ Four w g (o + l.length * 4 + 4) room7))
def LAt (r : Bool) (S : Nat → Prop) (w : World) (m : Nat) (a : Option Addr) (cap : Nat) (l : List Ex) : Prop := (l = [] ∧ r = false) ∨ ∃ g o, a = some ⟨g, o, none⟩ ∧ S g ∧ (∀ j (h : j < l.length), ∃ u, Four w g (o + j * 4) u ∧ In r S w m u l[j]) ∧
    (r = true → l.length + 2 ≤ cap ∧ Four w g (o + l.length * 4) room7 ∧ Four w g (o + l.length * 4 + 4) room7)
def InL (r : Bool) (S : Nat → Prop) (w : World) (m : Nat) (v : Value) (l : List Ex) : Prop :=
 ∃ a cap, v = .slice a l.length cap ∧ l.length ≤ cap ∧ cap ≤ 9223372036854775807 ∧ l.length * 56 ≤ 140737488351232 ∧ (a = none → cap = 0) ∧ LAt r S w m a cap l
theorem in_iff {r : Bool} {S : Nat → Prop} {w : World} {m : Nat} {v : Value} {k i : Int} {s : ByteArray} {l : List Ex} :
  In r S w (m + 1) v (.mk k i s l) ↔ ∃ lv, v = .agg #[.int .i64 k, .int .i64 i, .string s, lv] ∧
   (-9223372036854775808 ≤ k ∧ k ≤ 9223372036854775807) ∧ (-9223372036854775808 ≤ i ∧ i ≤ 9223372036854775807) ∧ s.size ≤ 140737488351232 ∧ InL r S w m lv l := by
 constructor
 ·intro h
  rw [In] at h
  obtain ⟨a, cap, h1, h2, h3, h4, h6⟩ := h
  exact ⟨_, h1, h2, h3, h4, a, cap, rfl, h6⟩
 ·rintro ⟨lv, h1, h2, h3, h4, a, cap, rfl, h6⟩
  rw [In]
  exact ⟨a, cap, h1, h2, h3, h4, h6⟩
theorem Keep.four {S : Nat → Prop} {w w' : World} (h : Keep S w w') {g o : Nat} {v : Value} (hS : S g) (hc : Four w g o v) : Four w' g o v := by
 obtain ⟨v0, v1, v2, v3, rfl, c0, c1, c2, c3⟩ := hc
 exact ⟨v0, v1, v2, v3, rfl, h.cell hS c0, h.cell hS c1, h.cell hS c2, h.cell hS c3⟩
theorem InL.keep_of {r : Bool} {S : Nat → Prop} {w w' : World} {m : Nat} (ih : ∀ (v : Value) (c : Ex), In r S w m v c → In r S w' m v c) {v : Value} {l : List Ex} (h : InL r S w m v l) (hk : Keep S w w') : InL r S w' m v l := by
 obtain ⟨a, cap, h1, h2, h3, h4, h5, h6⟩ := h
 refine ⟨a, cap, h1, h2, h3, h4, h5, ?_⟩
 rcases h6 with h6 | ⟨g, o, ha, hS, hc, hr⟩
 ·exact .inl h6
 ·refine .inr ⟨g, o, ha, hS, fun j hj => ?_, fun hr' => ⟨(hr hr').1, Keep.four hk hS (hr hr').2.1, Keep.four hk hS (hr hr').2.2⟩⟩
  obtain ⟨u, hu, hi⟩ := hc j hj
  exact ⟨u, Keep.four hk hS hu, ih _ _ hi⟩
theorem In.keep {r : Bool} {S : Nat → Prop} {w w' : World} (hk : Keep S w w') : ∀ {m : Nat} {v : Value} {c : Ex}, In r S w m v c → In r S w' m v c := by
 intro m
 induction m with
 | zero => intro v c h; rw [In] at h; exact h.elim
 | succ m ih =>
  intro v c h
  obtain ⟨k, i, s, l⟩ := c
  rw [in_iff] at h ⊢
  obtain ⟨lv, h1, h3, h4, h5, h6⟩ := h
  exact ⟨lv, h1, h3, h4, h5, h6.keep_of (fun v c => ih) hk⟩
theorem InL.keep {r : Bool} {S : Nat → Prop} {w w' : World} {m : Nat} {v : Value} {l : List Ex} (h : InL r S w m v l) (hk : Keep S w w') : InL r S w' m v l := h.keep_of (fun v c h => h.keep hk) hk
theorem In.below {r : Bool} {S : Nat → Prop} {w w' : World} {m : Nat} {v : Value} {c : Ex} (h : In r S w m v c) (hk : Below w.heap.size w w') : In r S w' m v c := h.keep (.of_below hk)
theorem InL.below {r : Bool} {S : Nat → Prop} {w w' : World} {m : Nat} {v : Value} {l : List Ex} (h : InL r S w m v l) (hk : Below w.heap.size w w') : InL r S w' m v l := h.keep (.of_below hk)
theorem InL.weak_of {r : Bool} {S S' : Nat → Prop} {w : World} {m m' : Nat} {v : Value} {l : List Ex} (hS : ∀ b, S b → S' b) (r' : Bool) (hr : r' = true → r = true) (ih : ∀ (v : Value) (c : Ex), In r S w m v c → In r' S' w m' v c)
  (h : InL r S w m v l) : InL r' S' w m' v l := by
 obtain ⟨a, cap, h1, h2, h3, h4, h5, h6⟩ := h
 refine ⟨a, cap, h1, h2, h3, h4, h5, ?_⟩
 rcases h6 with ⟨h7, h8⟩ | ⟨g, o, ha, hg, hc, hr0⟩
 ·refine .inl ⟨h7, ?_⟩
  cases r' with
  | true => rw [hr rfl] at h8; cases h8
  | false => rfl
 ·refine .inr ⟨g, o, ha, hS _ hg, fun j hj => ?_, fun h => hr0 (hr h)⟩
  obtain ⟨u, hu, hi⟩ := hc j hj
  exact ⟨u, hu, ih _ _ hi⟩
theorem In.weak {r : Bool} {S S' : Nat → Prop} {w : World} (hS : ∀ b, S b → S' b) (r' : Bool) (hr : r' = true → r = true) : ∀ {m : Nat} (m' : Nat) {v : Value} {c : Ex}, m ≤ m' → In r S w m v c → In r' S' w m' v c := by
 intro m
 induction m with
 | zero => intro m' v c _ h; rw [In] at h; exact h.elim
 | succ m ih =>
  intro m' v c hm h
  obtain ⟨m', rfl⟩ : ∃ q, m' = q + 1 := ⟨m' - 1, by omega⟩
  obtain ⟨k, i, s, l⟩ := c
  rw [in_iff] at h ⊢
  obtain ⟨lv, h1, h3, h4, h5, h6⟩ := h
  exact ⟨lv, h1, h3, h4, h5, h6.weak_of hS r' hr (fun v c h => ih m' (by omega) h)⟩
theorem InL.weak {r : Bool} {S S' : Nat → Prop} {w : World} (hS : ∀ b, S b → S' b) (r' : Bool) (hr : r' = true → r = true) {m : Nat} (m' : Nat) {v : Value} {l : List Ex} (hm : m ≤ m') (h : InL r S w m v l) : InL r' S' w m' v l :=
 h.weak_of hS r' hr (fun v c h => h.weak hS r' hr m' hm)
theorem In.plain {r : Bool} {S : Nat → Prop} {w : World} {m : Nat} {v : Value} {c : Ex} (h : In r S w m v c) : In false All w m v c := h.weak (fun _ _ => trivial) false (fun h => by cases h) m (Nat.le_refl _)
theorem four_box {w : World} {B : Nat} {v0 v1 v2 v3 : Value} {t : TypeId} (h : w.heap[B]? = some (.cells #[v0, v1, v2, v3] t (0, 0))) :
  w.cell? ⟨B, 0, none⟩ = some v0 ∧ w.cell? ⟨B, 1, none⟩ = some v1 ∧ w.cell? ⟨B, 2, none⟩ = some v2 ∧ w.cell? ⟨B, 3, none⟩ = some v3 := by
 refine ⟨?_, ?_, ?_, ?_⟩ <;> simp [World.cell?, h]
theorem two_box {w : World} {B : Nat} {v0 v1 : Value} {t : TypeId} (h : w.heap[B]? = some (.cells #[v0, v1] t (0, 0))) :
  w.cell? ⟨B, 0, none⟩ = some v0 ∧ w.cell? ⟨B, 1, none⟩ = some v1 := by
 refine ⟨?_, ?_⟩ <;> simp [World.cell?, h]
theorem frozen_box {w : World} {B : Nat} {vs : Array Value} {t : TypeId} (h : w.heap[B]? = some (.cells vs t (0, 0))) (j : Nat) : w.frozen? ⟨B, j, none⟩ = false := by
 simp [World.frozen?, h]
theorem elem_at {r : Bool} {S : Nat → Prop} {w : World} {m : Nat} {a : Option Addr} {cap : Nat} {l : List Ex} (hL : LAt r S w m a cap l) {q : Nat} (h : q < l.length) :
  ∃ g o u, a = some ⟨g, o, none⟩ ∧ S g ∧ Four w g (o + q * 4) u ∧ In r S w m u l[q] := by
 rcases hL with ⟨rfl, _⟩ | ⟨g, o, ha, hS, hc, _⟩
 ·simp at h
 ·obtain ⟨u, hu, hi⟩ := hc q h
  exact ⟨g, o, u, ha, hS, hu, hi⟩
theorem four_below {w w' : World} {g o : Nat} {u : Value} (h : Four w g o u) (hb : Below w.heap.size w w') : Four w' g o u := Keep.four (Keep.of_below (S := All) hb) trivial h
theorem In.shape {r : Bool} {S : Nat → Prop} {w : World} {m : Nat} {v : Value} {c : Ex} (h : In r S w m v c) :
  ∃ m' lv, m = m' + 1 ∧ v = .agg #[.int .i64 c.o, .int .i64 c.i, .string c.s, lv] ∧ (-9223372036854775808 ≤ c.o ∧ c.o ≤ 9223372036854775807) ∧ (-9223372036854775808 ≤ c.i ∧ c.i ≤ 9223372036854775807) ∧ c.s.size ≤ 140737488351232 ∧ InL r S w m' lv c.l := by
 cases m with
 | zero => rw [In] at h; exact h.elim
 | succ m =>
  obtain ⟨k, i, s, l⟩ := c
  rw [in_iff] at h
  obtain ⟨lv, h⟩ := h
  exact ⟨m, lv, rfl, h⟩
theorem In.kinds {r : Bool} {S : Nat → Prop} {w : World} {m : Nat} {x0 x1 x2 x3 : Value} {c : Ex} (h : In r S w m (.agg #[x0, x1, x2, x3]) c) :
  ∃ m' a2 c2, m = m' + 1 ∧ x0 = .int .i64 c.o ∧ x1 = .int .i64 c.i ∧ x2 = .string c.s ∧ x3 = .slice a2 c.l.length c2 ∧ (-9223372036854775808 ≤ c.o ∧ c.o ≤ 9223372036854775807) ∧ (-9223372036854775808 ≤ c.i ∧ c.i ≤ 9223372036854775807) ∧ c.s.size ≤ 140737488351232 ∧ InL r S w m' (.slice a2 c.l.length c2) c.l := by
 obtain ⟨m', lv, hm, e, ho, hi, hs, hl⟩ := h.shape
 simp only [Value.agg.injEq, Array.mk.injEq, List.cons.injEq, and_true] at e
 obtain ⟨rfl, rfl, rfl, rfl⟩ := e
 have hl0 := hl
 obtain ⟨a2, c2, rfl, -⟩ := hl
 exact ⟨m', a2, c2, hm, rfl, rfl, rfl, rfl, ho, hi, hs, hl0⟩
def Rg (lo hi : Nat) : Nat → Prop := fun b => lo ≤ b ∧ b < hi
theorem In.leaf (w : World) (m : Nat) (S : Nat → Prop) (k i : Int) (s : ByteArray) (hk : -9223372036854775808 ≤ k ∧ k ≤ 9223372036854775807) (hi : -9223372036854775808 ≤ i ∧ i ≤ 9223372036854775807) (hs : s.size ≤ 140737488351232) :
  In false S w (m + 1) (.agg #[.int .i64 k, .int .i64 i, .string s, .slice none 0 0]) (.mk k i s []) := by
 rw [in_iff]
 exact ⟨_, rfl, hk, hi, hs, none, 0, rfl, by simp, by simp, by simp, fun _ => rfl, .inl ⟨rfl, rfl⟩⟩
end Go.Proofs.YtghnhkagkngjcaaGreatDoor.XBase
namespace Go.Proofs.YtghnhkagkngjcaaGreatDoor.XSh
open Go.RowKit EPure XBase
open Base (All heap_alloc_new)
def Dp (m : Nat) : Prop := ∀ (v : Value) (x : Ex) (left : Nat) (w : World), left ≤ 4096 → In false All w m v x →
  Calls Tryz.prog 12 #[v, .int .i64 left] w fun e w' => (∃ b, e = .returned (.bool b)) ∧ Below w.heap.size w w'
theorem dp_of (m : Nat) (ih : Dp m) : Dp (m + 1) := by
 intro v x left w hleft h
 obtain ⟨o, i, s, l⟩ := x
 rw [in_iff] at h
 obtain ⟨lv, rfl, ho, hi, hs, a, cap, rfl, hl, hcap, hlen, ha, hL⟩ := h
 have H : Hid (Dp m) := ih
 obtain ⟨W0, hW0⟩ : ∃ W0, w.alloc (.cells #[.int .i64 o, .int .i64 i, .string s, .slice a l.length cap] 24) = W0 := ⟨_, rfl⟩
 have b0 : Below w.heap.size w W0 := by rw [← hW0]; exact (Below.refl _ w).alloc (Nat.le_refl _) _
 have s0 : W0.heap.size = w.heap.size + 1 := by rw [← hW0]; simp
 have hx : W0.heap[w.heap.size]? = some (.cells #[.int .i64 o, .int .i64 i, .string s, .slice a l.length cap] 24 (0, 0)) := by rw [← hW0]; exact heap_alloc_new w _
 have HX : Hid (W0.heap[w.heap.size]? = some (.cells #[.int .i64 o, .int .i64 i, .string s, .slice a l.length cap] 24 (0, 0)) ∧ W0.heap.size = w.heap.size + 1 ∧ Below w.heap.size w W0) := ⟨hx, s0, b0⟩
 clear ih hx s0 b0
 by_cases h0 : left = 0
 ·subst h0
  clear hL
  go_enter Tryz.func12, Tryz.ntmps12
  go_wp2_with fail
  go_ret
  exact ⟨⟨_, rfl⟩, HX.out.2.2⟩
 ·have h0' : ((left : Int) == 0) = false := by simp; omega
  go_enter Tryz.func12, Tryz.ntmps12
  go_wp2_with fail
  clear hW0
  go_loopw [5] (fun i' wr => ∃ q : Nat, q ≤ l.length ∧ i' = .int .i64 q ∧ Below W0.heap.size W0 wr) (fun i' _ => l.length - (intOf i').toNat)
  case atStart => exact ⟨0, by omega, rfl, Below.refl _ _⟩
  case round =>
   obtain ⟨q, hq, rfl, hb⟩ := hrel
   have hbx := (hb.block w.heap.size (by have := HX.out.2.1; omega)).trans HX.out.1
   obtain ⟨y0, y1, y2, y3⟩ := four_box hbx
   have hbw : Below w.heap.size w wr := HX.out.2.2.trans (hb.mono (by have := HX.out.2.1; omega))
   have HB : Hid (Below W0.heap.size W0 wr ∧ Below w.heap.size w wr) := ⟨hb, hbw⟩
   clear hbx
   by_cases hlt : q < l.length
   ·obtain ⟨g, o', u, rfl, -, hu, hin⟩ := elem_at hL hlt
    have hu := four_below hu hbw
    have c1 := H.out u l[q] (left - 1) wr (by omega) (hin.below hbw)
    obtain ⟨v0, v1, v2, v3, rfl, d0, d1, d2, d3⟩ := hu
    have en : ((left - 1 : Nat) : Int) = (left : Int) - 1 := by omega
    rw [en] at c1
    clear hb hbw hL hin en
    go_wp2_with fail
    refine c1.mono ?_
    rintro e W1 ⟨⟨b, rfl⟩, b1⟩
    have HB1 : Hid (Below W0.heap.size W0 W1) := HB.out.1.trans (b1.mono HB.out.1.size)
    clear c1 b1 y0 y1 y2 y3 d0 d1 d2 d3
    cases b with
    | true =>
     go_wp2_with fail
     go_roundw
     case rel => exact ⟨q + 1, by omega, by go_num, HB1.out⟩
     case measure => simp only [intOf]; omega
    | false =>
     go_wp2_with fail
     go_ret
     exact ⟨⟨_, rfl⟩, HX.out.2.2.trans (HB1.out.mono (by have := HX.out.2.1; omega))⟩
   ·have d : decide ((q : Int) < (l.length : Int)) = false := by simp; omega
    clear hL hb hbw
    go_wp2_with fail
    go_ret
    exact ⟨⟨_, rfl⟩, HB.out.2⟩
theorem dp : ∀ m, Dp m
 | 0 => by intro v x left w _ h; rw [In] at h; exact h.elim
 | m + 1 => dp_of m (dp m)
theorem shallow_c {m : Nat} {v : Value} {x : Ex} {w : World} (h : In false All w m v x) :
  Calls Tryz.prog 4 #[v] w fun e w' => (∃ b, e = .returned (.bool b)) ∧ Below w.heap.size w w' := by
 obtain ⟨m', lv, rfl, rfl, ho, hi, hs, hL⟩ := h.shape
 obtain ⟨a, cap, rfl, -⟩ := hL
 obtain ⟨W0, hW0⟩ : ∃ W0, w.alloc (.cells #[.int .i64 x.o, .int .i64 x.i, .string x.s, .slice a x.l.length cap] 24) = W0 := ⟨_, rfl⟩
 have b0 : Below w.heap.size w W0 := by rw [← hW0]; exact (Below.refl _ w).alloc (Nat.le_refl _) _
 have c1 := dp (m' + 1) _ x 4096 W0 (by omega) (h.below b0)
 have hx : W0.heap[w.heap.size]? = some (.cells #[.int .i64 x.o, .int .i64 x.i, .string x.s, .slice a x.l.length cap] 24 (0, 0)) := by rw [← hW0]; exact heap_alloc_new w _
 obtain ⟨y0, y1, y2, y3⟩ := four_box hx
 have HB : Hid (Below w.heap.size w W0) := b0
 clear b0 h hx
 go_enter Tryz.func4, Tryz.ntmps4
 go_wp2_with fail
 refine c1.mono ?_
 rintro e W1 ⟨⟨b, rfl⟩, b1⟩
 have HB1 : Hid (Below w.heap.size w W1) := HB.out.trans (b1.mono HB.out.size)
 clear c1 b1
 go_wp2_with fail
 go_ret
 exact ⟨⟨_, rfl⟩, HB1.out⟩
end Go.Proofs.YtghnhkagkngjcaaGreatDoor.XSh
