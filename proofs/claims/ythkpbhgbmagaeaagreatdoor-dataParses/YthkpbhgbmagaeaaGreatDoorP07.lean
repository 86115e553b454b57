import Derived.LoopN
import Derived.LoopTactic
import Derived.Test.YthkpbhgbmagaeaaGreatDoorP00
namespace Go.Proofs.YthkpbhgbmagaeaaGreatDoor.Own
open Go.RowKit Go.Proofs.YthkpbhgbmagaeaaGreatDoor.Base Go.Proofs.YthkpbhgbmagaeaaGreatDoor.Fresh
set_option linter.unusedVariables false
/-- v holds c; its lists lie in blocks of S, no two in one. -/
def Fs (w : World) : Nat → (Nat → Prop) → Value → C → Prop
 | 0, _, _, _ => False
 | m + 1, S, v, .mk k b i s n l => ∃ nv lv us, ∃ T : Nat → Nat → Prop, v = .agg #[.int .i64 k, .bool b, .int .i64 i, .string s, nv, lv] ∧
   (-9223372036854775808 ≤ k ∧ k ≤ 9223372036854775807) ∧ (-9223372036854775808 ≤ i ∧ i ≤ 9223372036854775807) ∧ s.size ≤ 140737488351232 ∧ n.length * 16 ≤ 140737488351232 ∧ (∀ t ∈ n, t.size ≤ 140737488351232) ∧ l.length * 88 ≤ 140737488351232 ∧
   OwnT w 0 nv n ∧ (∀ g, nv.ownBlock = some g → S g) ∧ OwnV w 0 lv us ∧ (∀ g, lv.ownBlock = some g → S g ∧ nv.ownBlock ≠ some g) ∧ us.length = l.length ∧
   (∀ j, j < l.length → ∀ g, T j g → S g ∧ nv.ownBlock ≠ some g ∧ lv.ownBlock ≠ some g) ∧ (∀ j j', j < j' → j' < l.length → ∀ g, T j g → ¬ T j' g) ∧
   ∀ j (h : j < us.length) (h' : j < l.length), Fs w m (T j) us[j] l[j]
theorem Fs.in {w : World} : ∀ {m : Nat} {S : Nat → Prop} {v : Value} {c : C}, Fs w m S v c → In false S w m v c := by
 intro m
 induction m with
 | zero => intro S v c h; rw [Fs] at h; exact h.elim
 | succ m ih =>
  intro S v c h
  obtain ⟨k, b, i, s, n, l⟩ := c
  rw [Fs] at h
  obtain ⟨nv, lv, us, T, rfl, hk, hi, hs, hn1, hn2, hl1, hT, hTb, hV, hVb, hus, hel, hdis, hfr⟩ := h
  rw [in_iff]
  refine ⟨nv, lv, rfl, hk, hi, hs, ?_, ?_⟩
  ·rcases hT.2 with ⟨rfl, h0⟩ | ⟨g, cap, cur, rfl, hlo, hg, hn, hm, _⟩
   ·have : n = [] := List.eq_nil_of_length_eq_zero h0
    subst this
    exact ⟨none, 0, rfl, by simp, by simp, by simp, by simp, fun _ => rfl, .inl ⟨rfl, rfl⟩⟩
   ·exact ⟨_, cap, rfl, hn, hm, hn1, hn2, (fun h => by cases h), .inr ⟨g, 0, rfl, hTb g rfl, ownT_cell hT, fun h => by cases h⟩⟩
  ·rcases hV.1.2 with ⟨rfl, h0⟩ | ⟨g, cap, cur, rfl, hlo, hg, hn, hm, _⟩
   ·have : l = [] := List.eq_nil_of_length_eq_zero (by omega)
    subst this
    exact ⟨none, 0, rfl, by simp, by simp, by simp, fun _ => rfl, .inl ⟨rfl, rfl⟩⟩
   ·refine ⟨some ⟨g, 0, none⟩, cap, by rw [hus], by omega, hm, hl1, (fun h => by cases h), .inr ⟨g, 0, rfl, (hVb g rfl).1, fun j hj => ?_, fun h => by cases h⟩⟩
    exact ⟨us[j]'(by omega), ownV_six hV j (by omega), (ih (hfr j (by omega) hj)).weak (fun x hx => (hel j hj x hx).1) false id m (Nat.le_refl _)⟩
theorem Fs.keep {w w' : World} : ∀ {m : Nat} {S : Nat → Prop} {v : Value} {c : C}, Fs w m S v c → Keep S w w' → Fs w' m S v c := by
 intro m
 induction m with
 | zero => intro S v c h; rw [Fs] at h; exact h.elim
 | succ m ih =>
  intro S v c h hk0
  obtain ⟨k, b, i, s, n, l⟩ := c
  rw [Fs] at h ⊢
  obtain ⟨nv, lv, us, T, rfl, hk, hi, hs, hn1, hn2, hl1, hT, hTb, hV, hVb, hus, hel, hdis, hfr⟩ := h
  refine ⟨nv, lv, us, T, rfl, hk, hi, hs, hn1, hn2, hl1, own_keep hT (fun g hg => ?_), hTb, ⟨own_keep hV.1 (fun g hg => ?_), hV.2⟩, hVb, hus, hel, hdis, fun j h h' => ih (hfr j h h') (fun b hb hlt => hk0 b (hel j h' b hb).1 hlt)⟩
  ·exact hk0 g (hTb g hg) (World.ownsRow.lt hT g hg).2
  ·exact hk0 g (hVb g hg).1 (World.ownsRow.lt hV.1 g hg).2
theorem Fs.below {w w' : World} {m : Nat} {S : Nat → Prop} {v : Value} {c : C} (h : Fs w m S v c) (hb : Below w.heap.size w w') : Fs w' m S v c := h.keep (.of_below hb)
theorem Fs.weak {w : World} : ∀ {m : Nat} (m' : Nat) {S S' : Nat → Prop} {v : Value} {c : C}, m ≤ m' → Fs w m S v c → (∀ g, S g → S' g) → Fs w m' S' v c := by
 intro m
 induction m with
 | zero => intro m' S S' v c _ h; rw [Fs] at h; exact h.elim
 | succ m ih =>
  intro m' S S' v c hm h hS
  obtain ⟨m', rfl⟩ : ∃ q, m' = q + 1 := ⟨m' - 1, by omega⟩
  obtain ⟨k, b, i, s, n, l⟩ := c
  rw [Fs] at h ⊢
  obtain ⟨nv, lv, us, T, rfl, hk, hi, hs, hn1, hn2, hl1, hT, hTb, hV, hVb, hus, hel, hdis, hfr⟩ := h
  exact ⟨nv, lv, us, T, rfl, hk, hi, hs, hn1, hn2, hl1, hT, fun g hg => hS g (hTb g hg), hV, fun g hg => ⟨hS g (hVb g hg).1, (hVb g hg).2⟩, hus, fun j hj g hg => ⟨hS g (hel j hj g hg).1, (hel j hj g hg).2⟩, hdis, fun j h h' => ih m' (by omega) (hfr j h h') (fun g hg => hg)⟩
theorem row0 {w : World} {B : Nat} {e : TypeId} {z n : Nat} {v : Value} {xs : List Value} (h : w.ownsRow B e z v n xs) : w.ownsRow 0 e z v n xs := by
 refine ⟨h.1, ?_⟩
 rcases h.2 with h2 | ⟨g, cap, cur, rfl, hg, r⟩
 ·exact .inl h2
 ·exact .inr ⟨g, cap, cur, rfl, by omega, r⟩
/-- A value without lists. -/
theorem Fs.plain (w : World) (m : Nat) (S : Nat → Prop) (k : Int) (b : Bool) (i : Int) (s : ByteArray) (hk : -9223372036854775808 ≤ k ∧ k ≤ 9223372036854775807) (hi : -9223372036854775808 ≤ i ∧ i ≤ 9223372036854775807) (hs : s.size ≤ 140737488351232) :
  Fs w (m + 1) S (.agg #[.int .i64 k, .bool b, .int .i64 i, .string s, .slice none 0 0, .slice none 0 0]) (.mk k b i s [] []) := by
 rw [Fs]
 exact ⟨_, _, [], fun _ _ => False, rfl, hk, hi, hs, by simp, by simp, by simp, World.ownsRow_nil _ _ _ _, (fun g hg => by cases hg), ⟨World.ownsRow_nil _ _ _ _, fun x hx => by cases hx⟩, (fun g hg => by cases hg), rfl, (fun j hj => by simp at hj), (fun j j' h h' => by simp at h'), fun j h => by simp at h⟩
end Go.Proofs.YthkpbhgbmagaeaaGreatDoor.Own
namespace Go.Proofs.YthkpbhgbmagaeaaGreatDoor.Shallow
open Go.RowKit Go.Proofs.YthkpbhgbmagaeaaGreatDoor.Base
set_option linter.unusedVariables false
def depL : List C → Nat
 | [] => 0
 | .mk _ _ _ _ _ l :: cs => max (depL l + 1) (depL cs)
def dep : C → Nat
 | .mk _ _ _ _ _ l => depL l + 1
theorem depL_cons (c : C) (cs : List C) : depL (c :: cs) = max (dep c) (depL cs) := by
 obtain ⟨k, b, i, s, n, l⟩ := c
 rw [depL, dep]
theorem depL_le {l : List C} {q : Nat} : depL l ≤ q ↔ ∀ j (h : j < l.length), dep l[j] ≤ q := by
 induction l with
 | nil => simp [depL]
 | cons c cs ih =>
  rw [depL_cons, Nat.max_le, ih]
  constructor
  ·rintro ⟨h1, h2⟩ j hj
   cases j with
   | zero => exact h1
   | succ j => exact h2 j (by simpa using hj)
  ·intro h
   exact ⟨h 0 (by simp), fun j hj => h (j + 1) (by simpa using hj)⟩
end Go.Proofs.YthkpbhgbmagaeaaGreatDoor.Shallow
namespace Go.Proofs.YthkpbhgbmagaeaaGreatDoor.Eq
open Go.RowKit Go.Proofs.YthkpbhgbmagaeaaGreatDoor.Base
set_option linter.unusedVariables false
/-- Two texts are the same. -/
def eqB (a b : ByteArray) : Bool := a.toList == b.toList
def eqN : List ByteArray → List ByteArray → Bool
 | [], [] => true
 | a :: xs, b :: bs => eqB a b && eqN xs bs
 | _, _ => false
def sameL : List C → List C → Bool
 | [], [] => true
 | .mk k b i s n l :: cs, .mk k' b' i' s' n' l' :: ds => (decide (k = k') && (if k = 2 then b == b' else if k = 3 then i == i' else if k = 4 then eqB s s' else if k = 5 then sameL l l' else if k = 6 then eqN n n' && sameL l l' else true)) && sameL cs ds
 | _, _ => false
def same : C → C → Bool
 | .mk k b i s n l, .mk k' b' i' s' n' l' => decide (k = k') && (if k = 2 then b == b' else if k = 3 then i == i' else if k = 4 then eqB s s' else if k = 5 then sameL l l' else if k = 6 then eqN n n' && sameL l l' else true)
theorem eqB_eq {a b : ByteArray} : eqB a b = true ↔ a = b := by
 unfold eqB
 rw [beq_iff_eq, ByteArray.toList_eq, ByteArray.toList_eq]
 constructor
 ·intro h
  apply ByteArray.ext
  exact Array.toList_inj.1 h
 ·rintro rfl; rfl
end Go.Proofs.YthkpbhgbmagaeaaGreatDoor.Eq
namespace Go.Proofs.YthkpbhgbmagaeaaGreatDoor.SameT
open Go.RowKit Go.Proofs.YthkpbhgbmagaeaaGreatDoor.Base
set_option linter.unusedVariables false
theorem sameT_c (u v : Value) (L : List ByteArray) (w : World) (hu : Tx false All w u L) (hv : Tx false All w v L) :
  Calls Tryz.prog 17 #[u, v] w fun e w' => e = .returned (.bool true) ∧ Below w.heap.size w w' := by
 obtain ⟨a, cap, rfl, hlc, hm, hlen, hsz, hnil, hN⟩ := hu.out
 obtain ⟨a', cap', rfl, hlc', hm', hlen', hsz', hnil', hN'⟩ := hv.out
 clear hu hv hsz hsz' hlen'
 go_enter Tryz.func17, Tryz.ntmps17
 go_wp2_with fail
 go_loopw [5] (fun i wr => ∃ q : Nat, q ≤ L.length ∧ i = .int .i64 q ∧ Below w.heap.size w wr) (fun i _ => L.length - (intOf i).toNat)
 case atStart => exact ⟨0, by omega, rfl, Below.refl _ _⟩
 case round =>
  obtain ⟨q, hq, rfl, hb⟩ := hrel
  by_cases hlt : q < L.length
  ·obtain ⟨g, o, rfl, -, hc⟩ := name_at hN hlt
   obtain ⟨g', o', rfl, -, hc'⟩ := name_at hN' hlt
   have hc := below_cell hc hb
   have hc' := below_cell hc' hb
   have hb' := hb.drew
   generalize L[q] = x at *
   clear hN hN'
   go_wp2_with fail
   go_region
   all_goals go_wp2_with fail
   all_goals go_roundw
   all_goals first
    | (case rel => exact ⟨q + 1, by omega, by go_num, hb'⟩)
    | (case measure => simp only [intOf]; omega)
  ·have hlt' : decide ((q : Int) < (L.length : Int)) = false := by simp; omega
   go_wp2_with fail
   go_ret
   exact ⟨rfl, hb⟩
end Go.Proofs.YthkpbhgbmagaeaaGreatDoor.SameT
