import Derived.Below
import Derived.Laws.AppendOwn
import Derived.Laws.Externs
import Derived.Lib.AppendStr
import Derived.Lib.Builder
import Derived.Lib.UnsafeStr
import Derived.LoopN
import Derived.LoopTactic
import Derived.Maps.AppendAt
import Derived.ProofKit
import Derived.Test.YthonejomogkjjaaGreatDoorProg
import Derived.WalkKit
import Derived.Test.YthonejomogkjjaaGreatDoorPA00
set_option linter.unusedVariables false
set_option maxRecDepth 20000
set_option maxHeartbeats 3200000
namespace Go.Proofs.YthonejomogkjjaaGreatDoor.Same
open Go.RowKit Base Go.Proofs.YthonejomogkjjaaGreatDoor.Eq
def SameIs (m : Nat) : Prop := ∀ (u v : Value) (c d : C) (w : World), In false All w m u c → In false All w m v d →
  Calls Tryz.prog 40 #[u, v] w fun e w' => e = .returned (.bool (same c d)) ∧ Below w.heap.size w w'
theorem eqF_of (m : Nat) (hm : SameIs m) (u v : Value) (L M : List C) (w : World) (hu : InL false All w m u L) (hv : InL false All w m v M) :
  Calls Tryz.prog 79 #[u, v, .func (.func 40) #[] #[]] w fun e w' => e = .returned (.bool (sameL L M)) ∧ Below w.heap.size w w' := by
 obtain ⟨a, cap, rfl, hlc, hcm, hlen, hnil, hN⟩ := hu.out
 obtain ⟨a', cap', rfl, hlc', hm', hlen', hnil', hN'⟩ := hv.out
 clear hu hv
 by_cases hne : L.length = M.length
 ·have HI := sameL_iff hne
  generalize sameL L M = R at *
  have hne' : ((L.length : Int) != (M.length : Int)) = false := by simp; omega
  have HH : Hid (R = true ↔ ∀ j (h1 : j < L.length) (h2 : j < M.length), same L[j] M[j] = true) := HI
  have hle1 : L.length ≤ M.length := by omega
  have hle2 : M.length ≤ L.length := by omega
  clear HI hne
  go_enter Tryz.func79, Tryz.ntmps79
  go_wp2_with fail
  go_loopw [17] (fun i wr => ∃ q : Nat, q ≤ L.length ∧ i = .int .i64 q ∧ (∀ j (h1 : j < L.length) (h2 : j < M.length), j < q → same L[j] M[j] = true) ∧ Below w.heap.size w wr) (fun i _ => L.length - (intOf i).toNat)
  case atStart => exact ⟨0, by omega, rfl, fun j _ _ h => by omega, Below.refl _ _⟩
  case round =>
   obtain ⟨q, hq, rfl, hall, hb⟩ := hrel
   by_cases hlt : q < L.length
   ·have hlt2 : q < M.length := by omega
    obtain ⟨g, o, x, rfl, -, hx, hin⟩ := elem_at hN hlt
    obtain ⟨g', o', y, rfl, -, hy, hin'⟩ := elem_at hN' hlt2
    have hx := six_below hx hb
    have hy := six_below hy hb
    obtain ⟨x0, x1, x2, x3, x4, x5, rfl, d0, d1, d2, d3, d4, d5⟩ := hx
    obtain ⟨y0, y1, y2, y3, y4, y5, rfl, e0, e1, e2, e3, e4, e5⟩ := hy
    obtain ⟨a1, n1, c1, a2, n2, c2, rfl, rfl, rfl, rfl, rfl, rfl⟩ := hin.kinds
    obtain ⟨p1, q1, r1, p2, q2, r2, rfl, rfl, rfl, rfl, rfl, rfl⟩ := hin'.kinds
    generalize L[q].k = kk, L[q].b = bb, L[q].i = ii, L[q].s = ss, M[q].k = kk', M[q].b = bb', M[q].i = ii', M[q].s = ss' at *
    have hg' : g' < wr.heap.size := cell_lt e0
    have hb2 : Below wr.heap.size wr ((wr.alloc (.cells #[.int .i64 kk, .bool bb, .int .i64 ii, .string ss, .slice a1 n1 c1, .slice a2 n2 c2] 26)).alloc (.cells #[.int .i64 kk', .bool bb', .int .i64 ii', .string ss', .slice p1 q1 r1, .slice p2 q2 r2] 26)) := ((Below.refl _ wr).alloc (Nat.le_refl _) _).alloc (by simp) _
    have c20 := hm _ _ L[q] M[q] _ ((hin.below hb).below hb2) ((hin'.below hb).below hb2)
    have HA : Hid (∀ j (h1 : j < L.length) (h2 : j < M.length), j < q → same L[j] M[j] = true) := hall
    obtain ⟨x, hx⟩ : ∃ x, same L[q] M[q] = x := ⟨_, rfl⟩
    have HX : Hid (same L[q] M[q] = x) := hx
    rw [hx] at c20
    clear hN hN' hall hx hin hin' hm
    go_wp2_with fail
    refine c20.mono ?_
    rintro e w1 ⟨rfl, b1⟩
    have hb3 := nx (nx hb hb2) b1
    clear hb2 b1 c20
    cases x with
    | true =>
     go_wp2_with fail
     go_roundw
     case rel =>
      refine ⟨q + 1, by omega, by go_num, fun j h1 h2 hj => ?_, hb3⟩
      by_cases e : j = q
      ·subst e
       exact HX.out
      ·exact HA.out j h1 h2 (by omega)
     case measure => simp only [intOf]; omega
    | false =>
     have hR : R = false := false_of fun h => by
      have := HH.out.1 h q hlt hlt2
      rw [HX.out] at this
      cases this
     subst hR
     go_wp2_with fail
     go_ret
     exact ⟨rfl, hb3⟩
   ·have hlt' : decide ((q : Int) < (L.length : Int)) = false := by simp; omega
    have hR : R = true := HH.out.2 fun j h1 h2 => hall j h1 h2 (by omega)
    subst hR
    clear hall
    go_wp2_with fail
    go_ret
    exact ⟨rfl, hb⟩
 ·rw [sameL_len hne]
  have hne' : ((L.length : Int) != (M.length : Int)) = true := by simp; omega
  go_enter Tryz.func79, Tryz.ntmps79
  go_wp2_with fail
  go_ret
  exact ⟨rfl, Below.refl _ _⟩
theorem same_of (m : Nat) (hm : ∀ (u v : Value) (L M : List C) (w : World), InL false All w m u L → InL false All w m v M →
   Calls Tryz.prog 79 #[u, v, .func (.func 40) #[] #[]] w fun e w' => e = .returned (.bool (sameL L M)) ∧ Below w.heap.size w w') : SameIs (m + 1) := by
 intro u v c d w hu hv
 obtain ⟨k, b, i, s, n, l⟩ := c
 obtain ⟨k', b', i', s', n', l'⟩ := d
 rw [in_iff] at hu hv
 obtain ⟨nv, lv, rfl, -, -, -, hn, hl⟩ := hu
 obtain ⟨nv', lv', rfl, -, -, -, hn', hl'⟩ := hv
 obtain ⟨W0, hW0⟩ : ∃ W0, (w.alloc (.cells #[.int .i64 k, .bool b, .int .i64 i, .string s, nv, lv] 26)).alloc (.cells #[.int .i64 k', .bool b', .int .i64 i', .string s', nv', lv'] 26) = W0 := ⟨_, rfl⟩
 have hb0 : Below w.heap.size w W0 := by rw [← hW0]; exact ((Below.refl _ w).alloc (Nat.le_refl _) _).alloc (by simp) _
 have hsz0 : W0.heap.size = w.heap.size + 2 := by rw [← hW0]; simp
 have hx0 : W0.heap[w.heap.size]? = some (.cells #[.int .i64 k, .bool b, .int .i64 i, .string s, nv, lv] 26) := by
  rw [← hW0, Below.heap_alloc _ _ _ (by simp), heap_alloc_new]
 have hx1 : W0.heap[w.heap.size + 1]? = some (.cells #[.int .i64 k', .bool b', .int .i64 i', .string s', nv', lv'] 26) := by
  have := heap_alloc_new (w.alloc (.cells #[.int .i64 k, .bool b, .int .i64 i, .string s, nv, lv] 26)) (.cells #[.int .i64 k', .bool b', .int .i64 i', .string s', nv', lv'] 26)
  rwa [hW0, World.size_alloc] at this
 obtain ⟨d0, d1, d2, d3, d4, d5⟩ := six_box hx0
 obtain ⟨e0, e1, e2, e3, e4, e5⟩ := six_box hx1
 by_cases hk : ¬ k = k'
 ·have hk' : (k != k') = true := by simp [hk]
  have e : same (.mk k b i s n l) (.mk k' b' i' s' n' l') = false := by simp [same, hk]
  rw [e]
  clear e
  go_enter Tryz.func40, Tryz.ntmps40
  go_wp2_with fail
  go_ret
  exact ⟨rfl, hb0⟩
 have hk : k = k' := Decidable.of_not_not hk
 subst hk
 by_cases h2 : k = 2
 ·subst h2
  have e : same (.mk 2 b i s n l) (.mk 2 b' i' s' n' l') = (b == b') := by simp [same]
  rw [e]
  clear e
  go_enter Tryz.func40, Tryz.ntmps40
  go_wp2_with fail
  go_ret
  exact ⟨rfl, hb0⟩
 by_cases h3 : k = 3
 ·subst h3
  have e : same (.mk 3 b i s n l) (.mk 3 b' i' s' n' l') = (i == i') := by simp [same]
  rw [e]
  clear e
  go_enter Tryz.func40, Tryz.ntmps40
  go_wp2_with fail
  go_ret
  exact ⟨rfl, hb0⟩
 by_cases h4 : k = 4
 ·subst h4
  have e : same (.mk 4 b i s n l) (.mk 4 b' i' s' n' l') = (s.toList == s'.toList) := by simp [same, eqB]
  rw [e]
  clear e
  go_enter Tryz.func40, Tryz.ntmps40
  go_wp2_with fail
  go_ret
  exact ⟨rfl, hb0⟩
 have h2' : (k == 2) = false := by simp [h2]
 have h3' : (k == 3) = false := by simp [h3]
 have h4' : (k == 4) = false := by simp [h4]
 by_cases h5 : k = 5
 ·subst h5
  have e : same (.mk 5 b i s n l) (.mk 5 b' i' s' n' l') = sameL l l' := by simp [same]
  rw [e]
  have c42 := hm lv lv' l l' W0 (hl.below hb0) (hl'.below hb0)
  generalize sameL l l' = R at *
  clear e hm hx0 hx1
  go_enter Tryz.func40, Tryz.ntmps40
  go_wp2_with (first | (go_at_call 79; refine c42.mono ?_; rintro e w1 ⟨rfl, b1⟩))
  go_ret
  exact ⟨rfl, nx hb0 b1⟩
 have h5' : (k == 5) = false := by simp [h5]
 by_cases h6 : k = 6
 ·subst h6
  have e : same (.mk 6 b i s n l) (.mk 6 b' i' s' n' l') = (eqN n n' && sameL l l') := by simp [same]
  rw [e]
  have c43 := eqT_c nv nv' n n' W0 (hn.below hb0) (hn'.below hb0)
  generalize eqN n n' = T at *
  have hm := fun w h1 h2 => hm lv lv' l l' w h1 h2
  generalize sameL l l' = R at *
  clear e
  go_enter Tryz.func40, Tryz.ntmps40
  go_wp2_with fail
  refine c43.mono ?_
  rintro e w1 ⟨rfl, b1⟩
  have k5 := (six_box ((b1.block w.heap.size (by omega)).trans hx0)).2.2.2.2.2
  have j5 := (six_box ((b1.block (w.heap.size + 1) (by omega)).trans hx1)).2.2.2.2.2
  have c42 := hm w1 ((hl.below hb0).below b1) ((hl'.below hb0).below b1)
  clear c43 hx0 hx1 hW0 hm
  cases T with
  | false =>
   go_wp2_with fail
   go_ret
   exact ⟨rfl, nx hb0 b1⟩
  | true =>
   go_wp2_with (first | (go_at_call 79; refine c42.mono ?_; rintro e w2 ⟨rfl, b2⟩))
   go_ret
   exact ⟨by simp, nx (nx hb0 b1) b2⟩
 have h6' : (k == 6) = false := by simp [h6]
 have e : same (.mk k b i s n l) (.mk k b' i' s' n' l') = true := by simp [same, h2, h3, h4, h5, h6]
 rw [e]
 clear e
 go_enter Tryz.func40, Tryz.ntmps40
 go_wp2_with fail
 go_ret
 exact ⟨rfl, hb0⟩
theorem sames : ∀ m, SameIs m := by
 intro m
 induction m with
 | zero => intro u v c d w h; rw [In] at h; exact h.elim
 | succ m ih => exact same_of m (eqF_of m ih)
theorem same_c {m m' : Nat} {u v : Value} {c d : C} {w : World} (hu : In false All w m u c) (hv : In false All w m' v d) :
  Calls Tryz.prog 40 #[u, v] w fun e w' => e = .returned (.bool (same c d)) ∧ Below w.heap.size w w' :=
 sames (max m m') u v c d w (hu.weak (fun _ h => h) false id _ (Nat.le_max_left _ _)) (hv.weak (fun _ h => h) false id _ (Nat.le_max_right _ _))
end Go.Proofs.YthonejomogkjjaaGreatDoor.Same
namespace Go.Proofs.YthonejomogkjjaaGreatDoor.TBase
open Go.RowKit
structure T where
 mk ::
 (g0 : ByteArray) (s0 : ByteArray) (n0 : List (ByteArray × ByteArray)) (l0 : List T)
def T.g : T → ByteArray | .mk g _ _ _ => g
def T.s : T → ByteArray | .mk _ s _ _ => s
def T.n : T → List (ByteArray × ByteArray) | .mk _ _ n _ => n
def T.l : T → List T | .mk _ _ _ l => l
def room : ByteArray := ⟨#[126, 114, 111, 111, 109]⟩
def room4 : Value := .agg #[.string room, .string ⟨#[]⟩, .slice none 0 0, .slice none 0 0]
def room2 : ByteArray × ByteArray := (room, ⟨#[]⟩)
def Four (w : World) (g o : Nat) (u : Value) : Prop :=
 ∃ v0 v1 v2 v3, u = .agg #[v0, v1, v2, v3] ∧ w.cell? ⟨g, o, none⟩ = some v0 ∧ w.cell? ⟨g, o + 1, none⟩ = some v1 ∧ w.cell? ⟨g, o + 2, none⟩ = some v2 ∧ w.cell? ⟨g, o + 3, none⟩ = some v3
def Two (w : World) (g o : Nat) (t : ByteArray × ByteArray) : Prop := w.cell? ⟨g, o, none⟩ = some (.string t.1) ∧ w.cell? ⟨g, o + 1, none⟩ = some (.string t.2)
def NAt (r : Bool) (S : Nat → Prop) (w : World) (a : Option Addr) (cap : Nat) (n : List (ByteArray × ByteArray)) : Prop := (n = [] ∧ r = false) ∨ ∃ g o, a = some ⟨g, o, none⟩ ∧ S g ∧ (∀ j (h : j < n.length), Two w g (o + j * 2) n[j]) ∧
   (r = true → n.length + 2 ≤ cap ∧ Two w g (o + n.length * 2) room2 ∧ Two w g (o + n.length * 2 + 2) room2)
def Ax (r : Bool) (S : Nat → Prop) (w : World) (v : Value) (n : List (ByteArray × ByteArray)) : Prop :=
 ∃ a cap, v = .slice a n.length cap ∧ n.length ≤ cap ∧ cap ≤ 9223372036854775807 ∧ n.length * 32 ≤ 140737488351232 ∧ (∀ t ∈ n, t.1.size ≤ 140737488351232 ∧ t.2.size ≤ 140737488351232) ∧ (a = none → cap = 0) ∧ NAt r S w a cap n
def In (r : Bool) (S : Nat → Prop) (w : World) : Nat → Value → T → Prop
 | 0, _, _ => False
 | m + 1, v, .mk g s n l => ∃ nv a cap, v = .agg #[.string g, .string s, nv, .slice a l.length cap] ∧
   g.size ≤ 140737488351232 ∧ s.size ≤ 140737488351232 ∧ Ax r S w nv n ∧
   l.length ≤ cap ∧ cap ≤ 9223372036854775807 ∧ l.length * 80 ≤ 140737488351232 ∧ (a = none → cap = 0) ∧
   ((l = [] ∧ r = false) ∨ ∃ g o, a = some ⟨g, o, none⟩ ∧ S g ∧ (∀ j (h : j < l.length), ∃ u, Four w g (o + j * 4) u ∧ In r S w m u l[j]) ∧
    (r = true → l.length + 2 ≤ cap ∧ Four w g (o + l.length * 4) room4 ∧ Four w g (o + l.length * 4 + 4) room4))
def LAt (r : Bool) (S : Nat → Prop) (w : World) (m : Nat) (a : Option Addr) (cap : Nat) (l : List T) : Prop := (l = [] ∧ r = false) ∨ ∃ g o, a = some ⟨g, o, none⟩ ∧ S g ∧ (∀ j (h : j < l.length), ∃ u, Four w g (o + j * 4) u ∧ In r S w m u l[j]) ∧
    (r = true → l.length + 2 ≤ cap ∧ Four w g (o + l.length * 4) room4 ∧ Four w g (o + l.length * 4 + 4) room4)
def InL (r : Bool) (S : Nat → Prop) (w : World) (m : Nat) (v : Value) (l : List T) : Prop :=
 ∃ a cap, v = .slice a l.length cap ∧ l.length ≤ cap ∧ cap ≤ 9223372036854775807 ∧ l.length * 80 ≤ 140737488351232 ∧ (a = none → cap = 0) ∧ LAt r S w m a cap l
theorem in_iff {r : Bool} {S : Nat → Prop} {w : World} {m : Nat} {v : Value} {g s : ByteArray} {n : List (ByteArray × ByteArray)} {l : List T} :
  In r S w (m + 1) v (.mk g s n l) ↔ ∃ nv lv, v = .agg #[.string g, .string s, nv, lv] ∧
   g.size ≤ 140737488351232 ∧ s.size ≤ 140737488351232 ∧ Ax r S w nv n ∧ InL r S w m lv l := by
 constructor
 ·intro h
  rw [In] at h
  obtain ⟨nv, a, cap, h1, h2, h3, h4, h6⟩ := h
  exact ⟨nv, _, h1, h2, h3, h4, a, cap, rfl, h6⟩
 ·rintro ⟨nv, lv, h1, h2, h3, h4, a, cap, rfl, h6⟩
  rw [In]
  exact ⟨nv, a, cap, h1, h2, h3, h4, h6⟩
theorem cell_lt {w : World} {a : Addr} {v : Value} (h : w.cell? a = some v) : a.block < w.heap.size := by
 unfold World.cell? at h
 split at h
 ·next hh => exact (Array.getElem?_eq_some_iff.1 hh).1
 ·cases h
def Keep (S : Nat → Prop) (w w' : World) : Prop := ∀ b, S b → b < w.heap.size → w'.heap[b]? = w.heap[b]?
theorem Keep.cell {S : Nat → Prop} {w w' : World} (h : Keep S w w') {g o : Nat} {v : Value} (hS : S g) (hc : w.cell? ⟨g, o, none⟩ = some v) : w'.cell? ⟨g, o, none⟩ = some v :=
 (World.cell?_of_block (w := w) (h g hS (cell_lt hc))).trans hc
theorem Keep.four {S : Nat → Prop} {w w' : World} (h : Keep S w w') {g o : Nat} {v : Value} (hS : S g) (hc : Four w g o v) : Four w' g o v := by
 obtain ⟨v0, v1, v2, v3, rfl, c0, c1, c2, c3⟩ := hc
 exact ⟨v0, v1, v2, v3, rfl, h.cell hS c0, h.cell hS c1, h.cell hS c2, h.cell hS c3⟩
theorem Keep.two {S : Nat → Prop} {w w' : World} (h : Keep S w w') {g o : Nat} {t : ByteArray × ByteArray} (hS : S g) (hc : Two w g o t) : Two w' g o t := ⟨h.cell hS hc.1, h.cell hS hc.2⟩
theorem Ax.keep {r : Bool} {S : Nat → Prop} {w w' : World} {v : Value} {n : List (ByteArray × ByteArray)} (h : Ax r S w v n) (hk : Keep S w w') : Ax r S w' v n := by
 obtain ⟨a, cap, h1, h2, h3, h4, h5, h6, h7⟩ := h
 refine ⟨a, cap, h1, h2, h3, h4, h5, h6, ?_⟩
 rcases h7 with h7 | ⟨g, o, ha, hS, hc, hr⟩
 ·exact .inl h7
 ·exact .inr ⟨g, o, ha, hS, fun j hj => hk.two hS (hc j hj), fun hr' => ⟨(hr hr').1, hk.two hS (hr hr').2.1, hk.two hS (hr hr').2.2⟩⟩
theorem InL.keep_of {r : Bool} {S : Nat → Prop} {w w' : World} {m : Nat} (ih : ∀ (v : Value) (c : T), In r S w m v c → In r S w' m v c) {v : Value} {l : List T} (h : InL r S w m v l) (hk : Keep S w w') : InL r S w' m v l := by
 obtain ⟨a, cap, h1, h2, h3, h4, h5, h6⟩ := h
 refine ⟨a, cap, h1, h2, h3, h4, h5, ?_⟩
 rcases h6 with h6 | ⟨g, o, ha, hS, hc, hr⟩
 ·exact .inl h6
 ·refine .inr ⟨g, o, ha, hS, fun j hj => ?_, fun hr' => ⟨(hr hr').1, hk.four hS (hr hr').2.1, hk.four hS (hr hr').2.2⟩⟩
  obtain ⟨u, hu, hi⟩ := hc j hj
  exact ⟨u, hk.four hS hu, ih _ _ hi⟩
theorem In.keep {r : Bool} {S : Nat → Prop} {w w' : World} (hk : Keep S w w') : ∀ {m : Nat} {v : Value} {c : T}, In r S w m v c → In r S w' m v c := by
 intro m
 induction m with
 | zero => intro v c h; rw [In] at h; exact h.elim
 | succ m ih =>
  intro v c h
  obtain ⟨g, s, n, l⟩ := c
  rw [in_iff] at h ⊢
  obtain ⟨nv, lv, h1, h3, h4, h5, h6⟩ := h
  exact ⟨nv, lv, h1, h3, h4, h5.keep hk, h6.keep_of (fun v c => ih) hk⟩
theorem Ax.weak {r : Bool} {S S' : Nat → Prop} {w : World} {v : Value} {n : List (ByteArray × ByteArray)} (hS : ∀ b, S b → S' b) (r' : Bool) (hr : r' = true → r = true) (h : Ax r S w v n) : Ax r' S' w v n := by
 obtain ⟨a, cap, h1, h2, h3, h4, h5, h6, h7⟩ := h
 refine ⟨a, cap, h1, h2, h3, h4, h5, h6, ?_⟩
 rcases h7 with ⟨h7, h8⟩ | ⟨g, o, ha, hg, hc, hr0⟩
 ·refine .inl ⟨h7, ?_⟩
  cases r' with
  | true => rw [hr rfl] at h8; cases h8
  | false => rfl
 ·exact .inr ⟨g, o, ha, hS _ hg, hc, fun h => hr0 (hr h)⟩
theorem InL.weak_of {r : Bool} {S S' : Nat → Prop} {w : World} {m m' : Nat} {v : Value} {l : List T} (hS : ∀ b, S b → S' b) (r' : Bool) (hr : r' = true → r = true) (ih : ∀ (v : Value) (c : T), In r S w m v c → In r' S' w m' v c)
  (h : InL r S w m v l) : InL r' S' w m' v l := by
 obtain ⟨a, cap, h1, h2, h3, h4, h5, h6⟩ := h
 refine ⟨a, cap, h1, h2, h3, h4, h5, ?_⟩
 rcases h6 with ⟨h7, h8⟩ | ⟨g, o, ha, hg, hc, hr0⟩
 ·refine .inl ⟨h7, ?_⟩
  cases r' with
  | true => rw [hr rfl] at h8; cases h8
  | false => rfl
 ·refine .inr ⟨g, o, ha, hS _ hg, fun j hj => ?_, fun h => hr0 (hr h)⟩
  obtain ⟨u, hu, hi⟩ := hc j hj
  exact ⟨u, hu, ih _ _ hi⟩
theorem In.weak {r : Bool} {S S' : Nat → Prop} {w : World} (hS : ∀ b, S b → S' b) (r' : Bool) (hr : r' = true → r = true) : ∀ {m : Nat} (m' : Nat) {v : Value} {c : T}, m ≤ m' → In r S w m v c → In r' S' w m' v c := by
 intro m
 induction m with
 | zero => intro m' v c _ h; rw [In] at h; exact h.elim
 | succ m ih =>
  intro m' v c hm h
  obtain ⟨m', rfl⟩ : ∃ q, m' = q + 1 := ⟨m' - 1, by omega⟩
  obtain ⟨g, s, n, l⟩ := c
  rw [in_iff] at h ⊢
  obtain ⟨nv, lv, h1, h3, h4, h5, h6⟩ := h
  exact ⟨nv, lv, h1, h3, h4, h5.weak hS r' hr, h6.weak_of hS r' hr (fun v c h => ih m' (by omega) h)⟩
theorem InL.weak {r : Bool} {S S' : Nat → Prop} {w : World} (hS : ∀ b, S b → S' b) (r' : Bool) (hr : r' = true → r = true) {m : Nat} (m' : Nat) {v : Value} {l : List T} (hm : m ≤ m') (h : InL r S w m v l) : InL r' S' w m' v l :=
 h.weak_of hS r' hr (fun v c h => h.weak hS r' hr m' hm)
theorem add_none (g o j : Nat) : (⟨g, o, none⟩ : Addr).add j = ⟨g, o + j, none⟩ := by
 unfold Addr.add
 split
 ·simp_all
 ·rfl
theorem heap_alloc_new (w : World) (o : Obj) : (w.alloc o).heap[w.heap.size]? = some o := by
 show (w.heap.push o)[w.heap.size]? = _
 simp
theorem elem_at {r : Bool} {S : Nat → Prop} {w : World} {m : Nat} {a : Option Addr} {cap : Nat} {l : List T} (hL : LAt r S w m a cap l) {q : Nat} (h : q < l.length) :
  ∃ g o u, a = some ⟨g, o, none⟩ ∧ S g ∧ Four w g (o + q * 4) u ∧ In r S w m u l[q] := by
 rcases hL with ⟨rfl, _⟩ | ⟨g, o, ha, hS, hc, _⟩
 ·simp at h
 ·obtain ⟨u, hu, hi⟩ := hc q h
  exact ⟨g, o, u, ha, hS, hu, hi⟩
theorem attr_at {r : Bool} {S : Nat → Prop} {w : World} {a : Option Addr} {cap : Nat} {n : List (ByteArray × ByteArray)} (hL : NAt r S w a cap n) {q : Nat} (h : q < n.length) :
  ∃ g o, a = some ⟨g, o, none⟩ ∧ S g ∧ w.cell? ⟨g, o + q * 2, none⟩ = some (.string n[q].1) ∧ w.cell? ⟨g, o + q * 2 + 1, none⟩ = some (.string n[q].2) := by
 rcases hL with ⟨rfl, _⟩ | ⟨g, o, ha, hS, hc, _⟩
 ·simp at h
 ·exact ⟨g, o, ha, hS, hc q h⟩
theorem In.shape {r : Bool} {S : Nat → Prop} {w : World} {m : Nat} {v : Value} {c : T} (h : In r S w m v c) :
  ∃ m' nv lv, m = m' + 1 ∧ v = .agg #[.string c.g, .string c.s, nv, lv] ∧ c.g.size ≤ 140737488351232 ∧ c.s.size ≤ 140737488351232 ∧ Ax r S w nv c.n ∧ InL r S w m' lv c.l := by
 cases m with
 | zero => rw [In] at h; exact h.elim
 | succ m =>
  obtain ⟨g, s, n, l⟩ := c
  rw [in_iff] at h
  obtain ⟨nv, lv, h⟩ := h
  exact ⟨m, nv, lv, rfl, h⟩
end Go.Proofs.YthonejomogkjjaaGreatDoor.TBase
namespace Go.Proofs.YthonejomogkjjaaGreatDoor.HBuild
open Go.RowKit
theorem info5 : (Tryz.prog.info? 5).map (fun i => (i.zero, i.size, i.bytes)) = some (some (.int .u8 0), 1, 1) := by kernel_rfl
theorem info36 : (Tryz.prog.info? 268).map (fun i => i.size) = some 2 := by kernel_rfl
theorem lies36 : liesAt Tryz.prog Tryz.prog.depth 268 (2 / Tryz.prog.cellsOf 268) 0 268 1 = true := by kernel_rfl
theorem check_used (b : Nat) (w : World) (h0 : w.cell? ⟨b, 0, none⟩ = some (.pointer (some ⟨b, 0, none⟩))) :
  Calls Tryz.prog 291 #[.pointer (some ⟨b, 0, none⟩)] w fun e w' => e = .returned (.tuple #[]) ∧ w' = w := by
 obtain ⟨j, hj, _⟩ := Option.map_eq_some_iff.1 info36
 have hq := Lib.run_neq_ptr_same (P := Tryz.prog) w ⟨b, 0, none⟩ Tryz.underlying266 hj
 go_enter Tryz.func291, Tryz.ntmps291
 go_wp2
 go_end0
 exact ⟨rfl, rfl⟩
theorem check_fresh (b : Nat) (w : World) (h0 : w.cell? ⟨b, 0, none⟩ = some (.pointer none)) (hsh : w.shape? b = some (268, 2)) (hfz : w.frozen? ⟨b, 0, none⟩ = false) :
  Calls Tryz.prog 291 #[.pointer (some ⟨b, 0, none⟩)] w fun e w' => e = .returned (.tuple #[]) ∧ w' = w.setCell ⟨b, 0, none⟩ (.pointer (some ⟨b, 0, none⟩)) := by
 obtain ⟨j, hj, hjs⟩ := Option.map_eq_some_iff.1 info36
 have hto := Lib.run_to_unsafe (P := Tryz.prog) w ⟨b, 0, none⟩ Tryz.underlying266 Tryz.underlying316 hj (by rw [hjs]; decide) hsh (Nat.zero_lt_succ 1)
 have hfrom := Lib.run_from_unsafe (P := Tryz.prog) w ⟨b, 0, none⟩ Tryz.underlying316 Tryz.underlying266 hj hsh lies36
 have hesc : (callFunc 308 #[.pointer (some ⟨b, 0, none⟩)]).run Tryz.prog w = .ok (.value (.pointer (some ⟨b, 0, none⟩))) w := by
  rw [run_callFunc_extern Tryz.func308 (by kernel_rfl) (by kernel_rfl) (by kernel_rfl) (e := Extern.AbiNoEscape.same) (by kernel_rfl), Lib.run_noEscape]
  rfl
 have hq := Lib.run_neq_ptr_same (P := Tryz.prog) (w.setCell ⟨b, 0, none⟩ (.pointer (some ⟨b, 0, none⟩))) ⟨b, 0, none⟩ Tryz.underlying266 hj
 go_enter Tryz.func291, Tryz.ntmps291
 go_wp2
 go_end0
 exact ⟨rfl, rfl⟩
theorem check_c (B b : Nat) (bs : List Value) (w : World) (h : Lib.IsBuilder 268 5 B b bs w) :
  Calls Tryz.prog 291 #[.pointer (some ⟨b, 0, none⟩)] w fun e w' => e = .returned (.tuple #[]) ∧ Lib.BuilderAt 268 5 B b (.pointer (some ⟨b, 0, none⟩)) bs w' ∧ Below B w w' := by
 rcases h with h | h
 ·refine (check_fresh b w h.cell0 h.shape h.frozen0).mono ?_
  rintro e w' ⟨rfl, rfl⟩
  exact ⟨rfl, h.used _, (Below.refl B w).setCell (p := ⟨b, 0, none⟩) h.1 _⟩
 ·refine (check_used b w h.cell0).mono ?_
  rintro e w' ⟨rfl, rfl⟩
  exact ⟨rfl, h, Below.refl B _⟩
theorem at_open {B b : Nat} {bs : List Value} {w : World} (h : Lib.BuilderAt 268 5 B b (.pointer (some ⟨b, 0, none⟩)) bs w) :
  ∃ v, w.cell? ⟨b, 1, none⟩ = some v ∧ w.ownsRow B 5 1 v bs.length bs ∧ b < w.heap.size ∧ B ≤ b ∧ v.ownBlock ≠ some b ∧ w.heap[b]? = some (.cells #[.pointer (some ⟨b, 0, none⟩), v] 268 (0, 0)) := by
 have hl := h.lt
 obtain ⟨hB, v, hb, hown, hne⟩ := h
 exact ⟨v, by rw [Lib.cell_of_heap hb]; rfl, hown, hl, hB, hne, hb⟩
theorem text_c (B b : Nat) (bs : List Value) (x : ByteArray) (w : World) (h : Lib.IsBuilder 268 5 B b bs w) (hlen : bs.length + x.size ≤ 140737488355328) (hBw : B ≤ w.heap.size) :
  Calls Tryz.prog 245 #[.pointer (some ⟨b, 0, none⟩), .string x] w fun e w' => e = .returned (.tuple #[.int .i64 x.size, .nilIface]) ∧ Lib.IsBuilder 268 5 B b (bs ++ Lib.strCells x) w' ∧ Below B w w' := by
 obtain ⟨i0, hi, hz0, hz1, hz2⟩ := info_parts info5
 go_enter Tryz.func245, Tryz.ntmps245
 go_wp2_with (first
  | (go_at_call 291; refine (check_c B b bs _ h).mono ?_))
 rintro e w1 ⟨rfl, h1, hb1⟩
 obtain ⟨v, c1, hown, hlt, hB, hne, hbk⟩ := at_open h1
 have hs1 := hb1.size
 clear h1 h
 go_wp2_with (first
  | (at_builtin; refine Lib.wpList_append_own_string _ rfl _ _ 129 9 rfl B 5 i0 Tryz.underlying129 Tryz.underlying9 hi hz0 hz1 hz2 _ _ _ rfl hown x rfl (by unfold maxLen; omega) (by omega) (by omega) ?_))
 intro v' w2 hown' hgrow _
 have hb2 : w2.heap[b]? = some (.cells #[.pointer (some ⟨b, 0, none⟩), v] 268 (0, 0)) := by
  rw [hgrow.block b (by omega) (fun e => hne e.symm)]
  exact hbk
 have d1 : w2.cell? ⟨b, 1, none⟩ = some v := by rw [Lib.cell_of_heap hb2]; rfl
 have f1 : w2.frozen? ⟨b, 1, none⟩ = false := Lib.frozen_of_heap hb2 1
 have hnew : Lib.BuilderAt 268 5 B b (.pointer (some ⟨b, 0, none⟩)) (bs ++ Lib.strCells x) (w2.setCell ⟨b, 1, none⟩ v') := Lib.BuilderAt.put hB hb2 (by simpa [Lib.strCells_length] using hown') (by decide)
 have hbel := (hb1.grown hgrow (by omega) (fun k hk => (World.ownsRow.lt hown k hk).1)).setCell (p := ⟨b, 1, none⟩) hB v'
 obtain ⟨ao, n', cap, rfl⟩ : ∃ ao n' cap, v' = .slice ao n' cap := by
  rcases hown'.2 with ⟨hv, _⟩ | ⟨g, cap, cur, hv, _⟩
  ·exact ⟨_, _, _, hv⟩
  ·exact ⟨_, _, _, hv⟩
 clear hown' hgrow hown hb2 hbk hne
 go_wp2
 go_ret2
 exact ⟨rfl, Or.inr hnew, hbel⟩
end Go.Proofs.YthonejomogkjjaaGreatDoor.HBuild
namespace Go.Proofs.YthonejomogkjjaaGreatDoor.Shallow
open Go.RowKit Base
def depL : List C → Nat
 | [] => 0
 | .mk _ _ _ _ _ l :: cs => max (depL l + 1) (depL cs)
def dep : C → Nat
 | .mk _ _ _ _ _ l => depL l + 1
theorem depL_cons (c : C) (cs : List C) : depL (c :: cs) = max (dep c) (depL cs) := by
 obtain ⟨k, b, i, s, n, l⟩ := c
 rw [depL, dep]
theorem depL_le {l : List C} {q : Nat} : depL l ≤ q ↔ ∀ j (h : j < l.length), dep l[j] ≤ q := by
 induction l with
 | nil => simp [depL]
 | cons c cs ih =>
  rw [depL_cons, Nat.max_le, ih]
  constructor
  ·rintro ⟨h1, h2⟩ j hj
   cases j with
   | zero => exact h1
   | succ j => exact h2 j (by simpa using hj)
  ·intro h
   exact ⟨h 0 (by simp), fun j hj => h (j + 1) (by simpa using hj)⟩
theorem value_c : ∀ (m : Nat) (v : Value) (c : C) (left : Nat) (w : World), left ≤ 4096 → In false All w m v c →
  Calls Tryz.prog 55 #[v, .int .i64 left] w fun r w' => r = .returned (.bool (decide (dep c ≤ left))) ∧ Below w.heap.size w w' := by
 intro m
 induction m with
 | zero => intro v c left w _ h; rw [In] at h; exact h.elim
 | succ m ih =>
  intro v c left w hle h
  obtain ⟨k, b, i, s, n, l⟩ := c
  rw [in_iff] at h
  obtain ⟨nv, lv, rfl, hk, hi, hs, hn, hL0⟩ := h
  obtain ⟨a, cap, rfl, hl, hcap, hlen, ha, hL⟩ := hL0.out
  clear hL0
  have ih' := Hid.out ih
  have H : Hid (∀ (v : Value) (c : C) (left : Nat) (w : World), left ≤ 4096 → In false All w m v c →
   Calls Tryz.prog 55 #[v, .int .i64 left] w fun r w' => r = .returned (.bool (decide (dep c ≤ left))) ∧ Below w.heap.size w w') := ih
  clear ih ih'
  by_cases h0 : left = 0
  ·subst h0
   have hd : decide (dep (.mk k b i s n l) ≤ 0) = false := by simp [dep]
   rw [hd]
   clear hd
   go_enter Tryz.func55, Tryz.ntmps55
   go_wp2_with fail
   go_ret
   exact ⟨rfl, (Below.refl _ _).alloc (Nat.le_refl _) _⟩
  ·have h0' : ((left : Int) == 0) = false := by simp; omega
   have hd : decide (dep (.mk k b i s n l) ≤ left) = decide (depL l ≤ left - 1) := by simp only [dep]; congr 1; exact propext ⟨fun _ => by omega, fun _ => by omega⟩
   rw [hd]
   clear hd
   go_enter Tryz.func55, Tryz.ntmps55
   go_wp2_with fail
   go_loopw [5] (fun i' wr => ∃ q : Nat, q ≤ l.length ∧ i' = .int .i64 q ∧ (∀ j (h : j < l.length), j < q → dep l[j] ≤ left - 1) ∧
    Below (w.heap.size + 1) (w.alloc (.cells #[.int .i64 k, .bool b, .int .i64 i, .string s, nv, .slice a l.length cap] 26)) wr) (fun i' _ => l.length - (intOf i').toNat)
   case atStart => exact ⟨0, by omega, rfl, fun j _ h => by omega, Below.refl _ _⟩
   case round =>
    obtain ⟨q, hq, rfl, hall, hb⟩ := hrel
    obtain ⟨c0, c1, c2, c3, c4, c5⟩ := six_box (box_at hb)
    by_cases hlt : q < l.length
    ·obtain ⟨g, o, u, rfl, -, hu, hin⟩ := elem_at hL hlt
     have hu := six_below hu (below_box hb)
     have hin := hin.below (below_box hb)
     obtain ⟨v0, v1, v2, v3, v4, v5, rfl, d0, d1, d2, d3, d4, d5⟩ := hu
     go_wp2_with fail
     rw [show (left : Int) - 1 = ((left - 1 : Nat) : Int) by omega]
     refine (H.out _ _ (left - 1) _ (by omega) hin).mono ?_
     rintro e w2 ⟨rfl, b2⟩
     cases hd : decide (dep l[q] ≤ left - 1) with
     | true =>
      go_wp2_with fail
      go_roundw
      case rel =>
       refine ⟨q + 1, by omega, by go_num, fun j hj hjq => ?_, nxB hb (by simp) b2⟩
       by_cases e : j = q
       ·subst e
        exact of_decide_eq_true hd
       ·exact hall j hj (by omega)
      case measure => simp only [intOf]; omega
     | false =>
      go_wp2_with fail
      go_ret
      refine ⟨?_, nx (below_box hb) b2⟩
      have h1 : ¬ dep l[q] ≤ left - 1 := of_decide_eq_false hd
      have : ¬ depL l ≤ left - 1 := fun h => h1 (depL_le.1 h q hlt)
      simp [this]
    ·have hlt' : decide ((q : Int) < (l.length : Int)) = false := by simp; omega
     go_wp2_with fail
     go_ret
     refine ⟨?_, below_box hb⟩
     have : depL l ≤ left - 1 := depL_le.2 fun j hj => hall j hj (by omega)
     simp [this]
theorem shallow_c (m : Nat) (v : Value) (c : C) (w : World) (h : In false All w m v c) :
  Calls Tryz.prog 41 #[v] w fun r w' => r = .returned (.bool (decide (dep c ≤ 4096))) ∧ Below w.heap.size w w' := by
 obtain ⟨v0, v1, v2, v3, v4, v5, rfl, -⟩ := h.six
 have hb : Below w.heap.size w (w.alloc (.cells #[v0, v1, v2, v3, v4, v5] 26)) := (Below.refl _ w).alloc (Nat.le_refl _) _
 have hv := value_c m _ c 4096 (w.alloc (.cells #[v0, v1, v2, v3, v4, v5] 26)) (by omega) (h.below hb)
 generalize dep c = d at *
 clear h
 go_enter Tryz.func41, Tryz.ntmps41
 go_wp2_with (first | (go_at_call 55; refine hv.mono ?_; rintro e w2 ⟨rfl, b2⟩))
 go_ret
 exact ⟨rfl, nx hb b2⟩
end Go.Proofs.YthonejomogkjjaaGreatDoor.Shallow
