import Derived.Lib.ItoaMem
import Derived.LoopN
import Derived.LoopTactic
import Derived.Maps.AppendAt
import Derived.WalkKit
import Derived.Test.YthjbknncbhkinaaGreatDoorPS00
import Derived.Test.YthjbknncbhkinaaGreatDoorPS02
open Go.Proofs.Tryz
set_option linter.unusedVariables false
set_option maxRecDepth 20000
set_option maxHeartbeats 3200000
namespace Go.Proofs.YthjbknncbhkinaaGreatDoor.EPure
structure Ex where
 mk ::
 (o0 : Int) (i0 : Int) (s0 : ByteArray) (l0 : List Ex)
def Ex.o : Ex -> Int | .mk o _ _ _ => o
def Ex.i : Ex -> Int | .mk _ i _ _ => i
def Ex.s : Ex -> ByteArray | .mk _ _ s _ => s
def Ex.l : Ex -> List Ex | .mk _ _ _ l => l
end Go.Proofs.YthjbknncbhkinaaGreatDoor.EPure
namespace Go.Proofs.YthjbknncbhkinaaGreatDoor.XBase
open Go.RowKit EPure
open Base (cell_lt Keep nx nxB add_none heap_alloc_new box_at below_box All below_cell)
def room7 : Value := .agg #[.int .i64 (-7), .int .i64 0, .string ⟨#[]⟩, .slice none 0 0]
def Four (w : World) (g o : Nat) (u : Value) : Prop :=
 ∃ v0 v1 v2 v3, u = .agg #[v0, v1, v2, v3] /\ w.cell? ⟨g, o, none⟩ = some v0 /\ w.cell? ⟨g, o + 1, none⟩ = some v1 /\ w.cell? ⟨g, o + 2, none⟩ = some v2 /\ w.cell? ⟨g, o + 3, none⟩ = some v3
def In (r : Bool) (S : Nat -> Prop) (w : World) : Nat -> Value -> Ex -> Prop
 | 0, _, _ => False
 | m + 1, v, .mk k i s l => ∃ a cap, v = .agg #[.int .i64 k, .int .i64 i, .string s, .slice a l.length cap] /\
   (-9223372036854775808 <= k /\ k <= 9223372036854775807) /\ (-9223372036854775808 <= i /\ i <= 9223372036854775807) /\ s.size <= 140737488351232 /\
   l.length <= cap /\ cap <= 9223372036854775807 /\ l.length * 56 <= 140737488351232 /\ (a = none -> cap = 0) /\
   ((l = [] /\ r = false) \/ ∃ g o, a = some ⟨g, o, none⟩ /\ S g /\ (∀ j (h : j < l.length), ∃ u, Four w g (o + j * 4) u /\ In r S w m u l[j]) /\
    (r = true -> l.length + 2 <= cap /\ Four w g (o + l.length * 4) room7 /\ Four w g (o + l.length * 4 + 4) room7))
def LAt (r : Bool) (S : Nat -> Prop) (w : World) (m : Nat) (a : Option Addr) (cap : Nat) (l : List Ex) : Prop := (l = [] /\ r = false) \/ ∃ g o, a = some ⟨g, o, none⟩ /\ S g /\ (∀ j (h : j < l.length), ∃ u, Four w g (o + j * 4) u /\ In r S w m u l[j]) /\
    (r = true -> l.length + 2 <= cap /\ Four w g (o + l.length * 4) room7 /\ Four w g (o + l.length * 4 + 4) room7)
def InL (r : Bool) (S : Nat -> Prop) (w : World) (m : Nat) (v : Value) (l : List Ex) : Prop :=
 ∃ a cap, v = .slice a l.length cap /\ l.length <= cap /\ cap <= 9223372036854775807 /\ l.length * 56 <= 140737488351232 /\ (a = none -> cap = 0) /\ LAt r S w m a cap l
theorem in_iff {r : Bool} {S : Nat -> Prop} {w : World} {m : Nat} {v : Value} {k i : Int} {s : ByteArray} {l : List Ex} :
  In r S w (m + 1) v (.mk k i s l) ↔ ∃ lv, v = .agg #[.int .i64 k, .int .i64 i, .string s, lv] /\
   (-9223372036854775808 <= k /\ k <= 9223372036854775807) /\ (-9223372036854775808 <= i /\ i <= 9223372036854775807) /\ s.size <= 140737488351232 /\ InL r S w m lv l := by
 constructor
 ·intro h
  rw [In] at h
  obtain ⟨a, cap, h1, h2, h3, h4, h6⟩ := h
  exact ⟨_, h1, h2, h3, h4, a, cap, rfl, h6⟩
 ·rintro ⟨lv, h1, h2, h3, h4, a, cap, rfl, h6⟩
  rw [In]
  exact ⟨a, cap, h1, h2, h3, h4, h6⟩
theorem Keep.four {S : Nat -> Prop} {w w' : World} (h : Keep S w w') {g o : Nat} {v : Value} (hS : S g) (hc : Four w g o v) : Four w' g o v := by
 obtain ⟨v0, v1, v2, v3, rfl, c0, c1, c2, c3⟩ := hc
 exact ⟨v0, v1, v2, v3, rfl, h.cell hS c0, h.cell hS c1, h.cell hS c2, h.cell hS c3⟩
theorem InL.keep_of {r : Bool} {S : Nat -> Prop} {w w' : World} {m : Nat} (ih : ∀ (v : Value) (c : Ex), In r S w m v c -> In r S w' m v c) {v : Value} {l : List Ex} (h : InL r S w m v l) (hk : Keep S w w') : InL r S w' m v l := by
 obtain ⟨a, cap, h1, h2, h3, h4, h5, h6⟩ := h
 refine ⟨a, cap, h1, h2, h3, h4, h5, ?_⟩
 rcases h6 with h6 | ⟨g, o, ha, hS, hc, hr⟩
 ·exact .inl h6
 ·refine .inr ⟨g, o, ha, hS, fun j hj => ?_, fun hr' => ⟨(hr hr').1, Keep.four hk hS (hr hr').2.1, Keep.four hk hS (hr hr').2.2⟩⟩
  obtain ⟨u, hu, hi⟩ := hc j hj
  exact ⟨u, Keep.four hk hS hu, ih _ _ hi⟩
theorem In.keep {r : Bool} {S : Nat -> Prop} {w w' : World} (hk : Keep S w w') : ∀ {m : Nat} {v : Value} {c : Ex}, In r S w m v c -> In r S w' m v c := by
 intro m
 induction m with
 | zero => intro v c h; rw [In] at h; exact h.elim
 | succ m ih =>
  intro v c h
  obtain ⟨k, i, s, l⟩ := c
  rw [in_iff] at h ⊢
  obtain ⟨lv, h1, h3, h4, h5, h6⟩ := h
  exact ⟨lv, h1, h3, h4, h5, h6.keep_of (fun v c => ih) hk⟩
theorem InL.keep {r : Bool} {S : Nat -> Prop} {w w' : World} {m : Nat} {v : Value} {l : List Ex} (h : InL r S w m v l) (hk : Keep S w w') : InL r S w' m v l := h.keep_of (fun v c h => h.keep hk) hk
theorem In.below {r : Bool} {S : Nat -> Prop} {w w' : World} {m : Nat} {v : Value} {c : Ex} (h : In r S w m v c) (hk : Below w.heap.size w w') : In r S w' m v c := h.keep (.of_below hk)
theorem InL.below {r : Bool} {S : Nat -> Prop} {w w' : World} {m : Nat} {v : Value} {l : List Ex} (h : InL r S w m v l) (hk : Below w.heap.size w w') : InL r S w' m v l := h.keep (.of_below hk)
theorem InL.weak_of {r : Bool} {S S' : Nat -> Prop} {w : World} {m m' : Nat} {v : Value} {l : List Ex} (hS : ∀ b, S b -> S' b) (r' : Bool) (hr : r' = true -> r = true) (ih : ∀ (v : Value) (c : Ex), In r S w m v c -> In r' S' w m' v c)
  (h : InL r S w m v l) : InL r' S' w m' v l := by
 obtain ⟨a, cap, h1, h2, h3, h4, h5, h6⟩ := h
 refine ⟨a, cap, h1, h2, h3, h4, h5, ?_⟩
 rcases h6 with ⟨h7, h8⟩ | ⟨g, o, ha, hg, hc, hr0⟩
 ·refine .inl ⟨h7, ?_⟩
  cases r' with
  | true => rw [hr rfl] at h8; cases h8
  | false => rfl
 ·refine .inr ⟨g, o, ha, hS _ hg, fun j hj => ?_, fun h => hr0 (hr h)⟩
  obtain ⟨u, hu, hi⟩ := hc j hj
  exact ⟨u, hu, ih _ _ hi⟩
theorem In.weak {r : Bool} {S S' : Nat -> Prop} {w : World} (hS : ∀ b, S b -> S' b) (r' : Bool) (hr : r' = true -> r = true) : ∀ {m : Nat} (m' : Nat) {v : Value} {c : Ex}, m <= m' -> In r S w m v c -> In r' S' w m' v c := by
 intro m
 induction m with
 | zero => intro m' v c _ h; rw [In] at h; exact h.elim
 | succ m ih =>
  intro m' v c hm h
  obtain ⟨m', rfl⟩ : ∃ q, m' = q + 1 := ⟨m' - 1, by omega⟩
  obtain ⟨k, i, s, l⟩ := c
  rw [in_iff] at h ⊢
  obtain ⟨lv, h1, h3, h4, h5, h6⟩ := h
  exact ⟨lv, h1, h3, h4, h5, h6.weak_of hS r' hr (fun v c h => ih m' (by omega) h)⟩
theorem InL.weak {r : Bool} {S S' : Nat -> Prop} {w : World} (hS : ∀ b, S b -> S' b) (r' : Bool) (hr : r' = true -> r = true) {m : Nat} (m' : Nat) {v : Value} {l : List Ex} (hm : m <= m') (h : InL r S w m v l) : InL r' S' w m' v l :=
 h.weak_of hS r' hr (fun v c h => h.weak hS r' hr m' hm)
theorem four_box {w : World} {B : Nat} {v0 v1 v2 v3 : Value} {t : TypeId} (h : w.heap[B]? = some (.cells #[v0, v1, v2, v3] t (0, 0))) :
  w.cell? ⟨B, 0, none⟩ = some v0 /\ w.cell? ⟨B, 1, none⟩ = some v1 /\ w.cell? ⟨B, 2, none⟩ = some v2 /\ w.cell? ⟨B, 3, none⟩ = some v3 := by
 refine ⟨?_, ?_, ?_, ?_⟩ <;> simp [World.cell?, h]
theorem frozen_box {w : World} {B : Nat} {vs : Array Value} {t : TypeId} (h : w.heap[B]? = some (.cells vs t (0, 0))) (j : Nat) : w.frozen? ⟨B, j, none⟩ = false := by
 simp [World.frozen?, h]
theorem elem_at {r : Bool} {S : Nat -> Prop} {w : World} {m : Nat} {a : Option Addr} {cap : Nat} {l : List Ex} (hL : LAt r S w m a cap l) {q : Nat} (h : q < l.length) :
  ∃ g o u, a = some ⟨g, o, none⟩ /\ S g /\ Four w g (o + q * 4) u /\ In r S w m u l[q] := by
 rcases hL with ⟨rfl, _⟩ | ⟨g, o, ha, hS, hc, _⟩
 ·simp at h
 ·obtain ⟨u, hu, hi⟩ := hc q h
  exact ⟨g, o, u, ha, hS, hu, hi⟩
theorem four_below {w w' : World} {g o : Nat} {u : Value} (h : Four w g o u) (hb : Below w.heap.size w w') : Four w' g o u := Keep.four (Keep.of_below (S := All) hb) trivial h
theorem In.shape {r : Bool} {S : Nat -> Prop} {w : World} {m : Nat} {v : Value} {c : Ex} (h : In r S w m v c) :
  ∃ m' lv, m = m' + 1 /\ v = .agg #[.int .i64 c.o, .int .i64 c.i, .string c.s, lv] /\ (-9223372036854775808 <= c.o /\ c.o <= 9223372036854775807) /\ (-9223372036854775808 <= c.i /\ c.i <= 9223372036854775807) /\ c.s.size <= 140737488351232 /\ InL r S w m' lv c.l := by
 cases m with
 | zero => rw [In] at h; exact h.elim
 | succ m =>
  obtain ⟨k, i, s, l⟩ := c
  rw [in_iff] at h
  obtain ⟨lv, h⟩ := h
  exact ⟨m, lv, rfl, h⟩
theorem In.kinds {r : Bool} {S : Nat -> Prop} {w : World} {m : Nat} {x0 x1 x2 x3 : Value} {c : Ex} (h : In r S w m (.agg #[x0, x1, x2, x3]) c) :
  ∃ m' a2 c2, m = m' + 1 /\ x0 = .int .i64 c.o /\ x1 = .int .i64 c.i /\ x2 = .string c.s /\ x3 = .slice a2 c.l.length c2 /\ (-9223372036854775808 <= c.o /\ c.o <= 9223372036854775807) /\ (-9223372036854775808 <= c.i /\ c.i <= 9223372036854775807) /\ c.s.size <= 140737488351232 /\ InL r S w m' (.slice a2 c.l.length c2) c.l := by
 obtain ⟨m', lv, hm, e, ho, hi, hs, hl⟩ := h.shape
 simp only [Value.agg.injEq, Array.mk.injEq, List.cons.injEq, and_true] at e
 obtain ⟨rfl, rfl, rfl, rfl⟩ := e
 have hl0 := hl
 obtain ⟨a2, c2, rfl, -⟩ := hl
 exact ⟨m', a2, c2, hm, rfl, rfl, rfl, rfl, ho, hi, hs, hl0⟩
def Rg (lo hi : Nat) : Nat -> Prop := fun b => lo <= b /\ b < hi
end Go.Proofs.YthjbknncbhkinaaGreatDoor.XBase
namespace Go.Proofs.YthjbknncbhkinaaGreatDoor.XSh
open Go.RowKit EPure XBase
open Base (All heap_alloc_new)
def Dp (m : Nat) : Prop := ∀ (v : Value) (x : Ex) (left : Nat) (w : World), left <= 4096 -> In false All w m v x ->
  Calls prog 25 #[v, .int .i64 left] w fun e w' => (∃ b, e = .returned (.bool b)) /\ Below w.heap.size w w'
theorem dp_of (m : Nat) (ih : Dp m) : Dp (m + 1) := by
 intro v x left w hleft h
 obtain ⟨o, i, s, l⟩ := x
 rw [in_iff] at h
 obtain ⟨lv, rfl, ho, hi, hs, a, cap, rfl, hl, hcap, hlen, ha, hL⟩ := h
 have H : Hid (Dp m) := ih
 obtain ⟨W0, hW0⟩ : ∃ W0, w.alloc (.cells #[.int .i64 o, .int .i64 i, .string s, .slice a l.length cap] 24) = W0 := ⟨_, rfl⟩
 have b0 : Below w.heap.size w W0 := by rw [<- hW0]; exact (Below.refl _ w).alloc (Nat.le_refl _) _
 have s0 : W0.heap.size = w.heap.size + 1 := by rw [<- hW0]; simp
 have hx : W0.heap[w.heap.size]? = some (.cells #[.int .i64 o, .int .i64 i, .string s, .slice a l.length cap] 24 (0, 0)) := by rw [<- hW0]; exact heap_alloc_new w _
 have HX : Hid (W0.heap[w.heap.size]? = some (.cells #[.int .i64 o, .int .i64 i, .string s, .slice a l.length cap] 24 (0, 0)) /\ W0.heap.size = w.heap.size + 1 /\ Below w.heap.size w W0) := ⟨hx, s0, b0⟩
 clear ih hx s0 b0
 by_cases h0 : left = 0
 ·subst h0
  clear hL
  go_enter func25, ntmps25
  go_wp2_with fail
  go_ret
  exact ⟨⟨_, rfl⟩, HX.out.2.2⟩
 ·have h0' : ((left : Int) == 0) = false := by simp; omega
  go_enter func25, ntmps25
  go_wp2_with fail
  clear hW0
  go_loopw [5] (fun i' wr => ∃ q : Nat, q <= l.length /\ i' = .int .i64 q /\ Below W0.heap.size W0 wr) (fun i' _ => l.length - (intOf i').toNat)
  case atStart => exact ⟨0, by omega, rfl, Below.refl _ _⟩
  case round =>
   obtain ⟨q, hq, rfl, hb⟩ := hrel
   have hbx := (hb.block w.heap.size (by have := HX.out.2.1; omega)).trans HX.out.1
   obtain ⟨y0, y1, y2, y3⟩ := four_box hbx
   have hbw : Below w.heap.size w wr := HX.out.2.2.trans (hb.mono (by have := HX.out.2.1; omega))
   have HB : Hid (Below W0.heap.size W0 wr /\ Below w.heap.size w wr) := ⟨hb, hbw⟩
   clear hbx
   by_cases hlt : q < l.length
   ·obtain ⟨g, o', u, rfl, -, hu, hin⟩ := elem_at hL hlt
    have hu := four_below hu hbw
    have c1 := H.out u l[q] (left - 1) wr (by omega) (hin.below hbw)
    obtain ⟨v0, v1, v2, v3, rfl, d0, d1, d2, d3⟩ := hu
    have en : ((left - 1 : Nat) : Int) = (left : Int) - 1 := by omega
    rw [en] at c1
    clear hb hbw hL hin en
    go_wp2_with fail
    refine c1.mono ?_
    rintro e W1 ⟨⟨b, rfl⟩, b1⟩
    have HB1 : Hid (Below W0.heap.size W0 W1) := HB.out.1.trans (b1.mono HB.out.1.size)
    clear c1 b1 y0 y1 y2 y3 d0 d1 d2 d3
    cases b with
    | true =>
     go_wp2_with fail
     go_roundw
     case rel => exact ⟨q + 1, by omega, by go_num, HB1.out⟩
     case measure => simp only [intOf]; omega
    | false =>
     go_wp2_with fail
     go_ret
     exact ⟨⟨_, rfl⟩, HX.out.2.2.trans (HB1.out.mono (by have := HX.out.2.1; omega))⟩
   ·have d : decide ((q : Int) < (l.length : Int)) = false := by simp; omega
    clear hL hb hbw
    go_wp2_with fail
    go_ret
    exact ⟨⟨_, rfl⟩, HB.out.2⟩
theorem dp : ∀ m, Dp m
 | 0 => by intro v x left w _ h; rw [In] at h; exact h.elim
 | m + 1 => dp_of m (dp m)
theorem shallow_c {m : Nat} {v : Value} {x : Ex} {w : World} (h : In false All w m v x) :
  Calls prog 5 #[v] w fun e w' => (∃ b, e = .returned (.bool b)) /\ Below w.heap.size w w' := by
 obtain ⟨m', lv, rfl, rfl, ho, hi, hs, hL⟩ := h.shape
 obtain ⟨a, cap, rfl, -⟩ := hL
 obtain ⟨W0, hW0⟩ : ∃ W0, w.alloc (.cells #[.int .i64 x.o, .int .i64 x.i, .string x.s, .slice a x.l.length cap] 24) = W0 := ⟨_, rfl⟩
 have b0 : Below w.heap.size w W0 := by rw [<- hW0]; exact (Below.refl _ w).alloc (Nat.le_refl _) _
 have c1 := dp (m' + 1) _ x 4096 W0 (by omega) (h.below b0)
 have hx : W0.heap[w.heap.size]? = some (.cells #[.int .i64 x.o, .int .i64 x.i, .string x.s, .slice a x.l.length cap] 24 (0, 0)) := by rw [<- hW0]; exact heap_alloc_new w _
 obtain ⟨y0, y1, y2, y3⟩ := four_box hx
 have HB : Hid (Below w.heap.size w W0) := b0
 clear b0 h hx
 go_enter func5, ntmps5
 go_wp2_with fail
 refine c1.mono ?_
 rintro e W1 ⟨⟨b, rfl⟩, b1⟩
 have HB1 : Hid (Below w.heap.size w W1) := HB.out.trans (b1.mono HB.out.size)
 clear c1 b1
 go_wp2_with fail
 go_ret
 exact ⟨⟨_, rfl⟩, HB1.out⟩
end Go.Proofs.YthjbknncbhkinaaGreatDoor.XSh
