/- A value gone through in preorder: the row of its parts, and contracts of walk and parts. -/
import Derived.Test.YthjbknncbhkinaaGreatDoorBase
import Derived.LoopTactic
import Derived.LoopN
import Derived.Test.YthjbknncbhkinaaGreatDoorRow
import Derived.RangeFuncNested
import Derived.RangeFuncBound
import Derived.RangeFuncCalls
import Derived.RangeFuncLeaves
import Derived.Shelf.Abstract
import Derived.Shelf.RegionOpen
import Derived.OwnWalkIn
import Derived.TacticsInMore
import Derived.LoopNIn
import Derived.LoopIn
namespace Go.Proofs.YthjbknncbhkinaaGreatDoor.Shallow
open Go.RowKit Go.Proofs.YthjbknncbhkinaaGreatDoor.Base
set_option linter.unusedVariables false

def depL : List C → Nat
  | [] => 0
  | .mk _ _ _ _ _ l :: cs => max (depL l + 1) (depL cs)
def dep : C → Nat
  | .mk _ _ _ _ _ l => depL l + 1
theorem depL_cons (c : C) (cs : List C) : depL (c :: cs) = max (dep c) (depL cs) := by
  obtain ⟨k, b, i, s, n, l⟩ := c
  rw [depL, dep]
theorem depL_le {l : List C} {q : Nat} : depL l ≤ q ↔ ∀ j (h : j < l.length), dep l[j] ≤ q := by
  induction l with
  | nil => simp [depL]
  | cons c cs ih =>
    rw [depL_cons, Nat.max_le, ih]
    constructor
    · rintro ⟨h1, h2⟩ j hj
      cases j with
      | zero => exact h1
      | succ j => exact h2 j (by simpa using hj)
    · intro h
      exact ⟨h 0 (by simp), fun j hj => h (j + 1) (by simpa using hj)⟩
theorem value_c : ∀ (m : Nat) (v : Value) (c : C) (left : Nat) (w : World), left ≤ 4096 → In false All w m v c →
    Calls Tryz.prog 36 #[v, .int .i64 left] w fun r w' => r = .returned (.bool (decide (dep c ≤ left))) ∧ Below w.heap.size w w' := by
  intro m
  induction m with
  | zero => intro v c left w _ h; rw [In] at h; exact h.elim
  | succ m ih =>
    intro v c left w hle h
    obtain ⟨k, b, i, s, n, l⟩ := c
    rw [in_iff] at h
    obtain ⟨nv, lv, rfl, hk, hi, hs, hn, hL0⟩ := h
    obtain ⟨a, cap, rfl, hl, hcap, hlen, ha, hL⟩ := hL0.out
    clear hL0
    have ih' := Hid.out ih
    have H : Hid (∀ (v : Value) (c : C) (left : Nat) (w : World), left ≤ 4096 → In false All w m v c →
      Calls Tryz.prog 36 #[v, .int .i64 left] w fun r w' => r = .returned (.bool (decide (dep c ≤ left))) ∧ Below w.heap.size w w') := ih
    clear ih ih'
    by_cases h0 : left = 0
    · subst h0
      have hd : decide (dep (.mk k b i s n l) ≤ 0) = false := by simp [dep]
      rw [hd]
      clear hd
      go_enter Tryz.func36, Tryz.ntmps36
      go_wp2_with fail
      go_ret
      exact ⟨rfl, (Below.refl _ _).alloc (Nat.le_refl _) _⟩
    · have h0' : ((left : Int) == 0) = false := by simp; omega
      have hd : decide (dep (.mk k b i s n l) ≤ left) = decide (depL l ≤ left - 1) := by simp only [dep]; congr 1; exact propext ⟨fun _ => by omega, fun _ => by omega⟩
      rw [hd]
      clear hd
      go_enter Tryz.func36, Tryz.ntmps36
      go_wp2_with fail
      go_loopw [5] (fun i' wr => ∃ q : Nat, q ≤ l.length ∧ i' = .int .i64 q ∧ (∀ j (h : j < l.length), j < q → dep l[j] ≤ left - 1) ∧
        Below (w.heap.size + 1) (w.alloc (.cells #[.int .i64 k, .bool b, .int .i64 i, .string s, nv, .slice a l.length cap] 46)) wr) (fun i' _ => l.length - (intOf i').toNat)
      case atStart => exact ⟨0, by omega, rfl, fun j _ h => by omega, Below.refl _ _⟩
      case round =>
        obtain ⟨q, hq, rfl, hall, hb⟩ := hrel
        obtain ⟨c0, c1, c2, c3, c4, c5⟩ := six_box (box_at hb)
        by_cases hlt : q < l.length
        · obtain ⟨g, o, u, rfl, -, hu, hin⟩ := elem_at hL hlt
          have hu := six_below hu (below_box hb)
          have hin := hin.below (below_box hb)
          obtain ⟨v0, v1, v2, v3, v4, v5, rfl, d0, d1, d2, d3, d4, d5⟩ := hu
          go_wp2_with fail
          rw [show (left : Int) - 1 = ((left - 1 : Nat) : Int) by omega]
          refine (H.out _ _ (left - 1) _ (by omega) hin).mono ?_
          rintro e w2 ⟨rfl, b2⟩
          cases hd : decide (dep l[q] ≤ left - 1) with
          | true =>
            go_wp2_with fail
            go_roundw
            case rel =>
              refine ⟨q + 1, by omega, by go_num, fun j hj hjq => ?_, nxB hb (by simp) b2⟩
              by_cases e : j = q
              · subst e
                exact of_decide_eq_true hd
              · exact hall j hj (by omega)
            case measure => simp only [intOf]; omega
          | false =>
            go_wp2_with fail
            go_ret
            refine ⟨?_, nx (below_box hb) b2⟩
            have h1 : ¬ dep l[q] ≤ left - 1 := of_decide_eq_false hd
            have : ¬ depL l ≤ left - 1 := fun h => h1 (depL_le.1 h q hlt)
            simp [this]
        · have hlt' : decide ((q : Int) < (l.length : Int)) = false := by simp; omega
          go_wp2_with fail
          go_ret
          refine ⟨?_, below_box hb⟩
          have : depL l ≤ left - 1 := depL_le.2 fun j hj => hall j hj (by omega)
          simp [this]
end Go.Proofs.YthjbknncbhkinaaGreatDoor.Shallow

namespace Go.Proofs.YthjbknncbhkinaaGreatDoor.Walk
open Go.RowKit Go.Shelf Go.Proofs.YthjbknncbhkinaaGreatDoor.Base Go.Proofs.YthjbknncbhkinaaGreatDoor.Shallow
set_option linter.unusedVariables false
attribute [local go_sem] Oper.semAt_some

def plL : Nat → List C → List (Nat × C)
  | _, [] => []
  | d, .mk k b i s n l :: cs => (d, .mk k b i s n l) :: plL (d + 1) l ++ plL d cs
def pl : Nat → C → List (Nat × C)
  | d, .mk k b i s n l => (d, .mk k b i s n l) :: plL (d + 1) l
theorem plL_nil (d : Nat) : plL d [] = [] := by rw [plL]
theorem plL_cons (d : Nat) (c : C) (cs : List C) : plL d (c :: cs) = pl d c ++ plL d cs := by
  obtain ⟨k, b, i, s, n, l⟩ := c
  rw [plL, pl]
theorem plL_append (d : Nat) (a b : List C) : plL d (a ++ b) = plL d a ++ plL d b := by
  induction a with
  | nil => simp [plL]
  | cons c cs ih => simp [plL_cons, ih]
theorem plL_take (d : Nat) (l : List C) (q : Nat) (h : q < l.length) : plL d (l.take (q + 1)) = plL d (l.take q) ++ pl d l[q] := by
  rw [List.take_add_one, List.getElem?_eq_getElem h, plL_append]
  show _ ++ plL d [l[q]] = _
  simp only [plL_cons, plL_nil, List.append_nil]
theorem plL_pre (d : Nat) (l : List C) (q : Nat) : plL d (l.take q) <+: plL d l := by
  refine ⟨plL d (l.drop q), ?_⟩
  rw [← plL_append, List.take_append_drop]

theorem room_none (k : Nat) : Fence.wide.room k := fun d h => by cases h
theorem round_any {m m' : Nat} {P : Program} {l : Nat} {f : FuncId} {tmps : Array Value} {assign body : Code} {w : World} {R : Ending → World → Prop}
    (h : RoundIn Fence.wide m P l f tmps assign body w R) : RoundIn Fence.wide m' P l f tmps assign body w R := ⟨h.1, fun c cs _ => h.2 c cs (room_none _)⟩
theorem yield_any {m : Nat} (m' : Nat) {P : Program} {l : Nat} {args : Array Value} {W : World} {R : Ending → World → Prop} (h : YieldAt Fence.wide m P l args W R) : YieldAt Fence.wide m' P l args W R := by
  obtain ⟨fn, tmps, assign, body, hy, hR⟩ := h
  exact ⟨fn, tmps, assign, body, hy, round_any hR⟩
/-- A part: how deep it lies, the value, what it holds; it lies in w0. -/
def Al (w0 : World) : Type := { x : Nat × Value × C // ∃ m, In false All w0 m x.2.1 x.2.2 }
def pr {w0 : World} (x : Al w0) : Nat × C := (x.1.1, x.1.2.2)
def enc {w0 : World} (x : Al w0) : Array Value := #[.int .i64 x.1.1, x.1.2.1]
/-- What a round keeps: all below n0, and the cells from n1 on. -/
def Kp (n0 n1 : Nat) (W W' : World) : Prop := Below n0 W W' ∧ ∀ b c t fz, n1 ≤ b → W.heap[b]? = some (.cells c t fz) → W'.heap[b]? = some (.cells c t fz)
theorem Kp.trans {n0 n1 : Nat} {A B D : World} (h : Kp n0 n1 A B) (k : Kp n0 n1 B D) : Kp n0 n1 A D := ⟨h.1.trans k.1, fun b c t fz hb hc => k.2 b c t fz hb (h.2 b c t fz hb hc)⟩
theorem Kp.of_below {n0 n1 : Nat} {A B : World} (h : Below A.heap.size A B) (hn : n0 ≤ A.heap.size) : Kp n0 n1 A B :=
  ⟨h.mono hn, fun b c t fz _ hc => (h.block b (Array.getElem?_eq_some_iff.1 hc).1).trans hc⟩
theorem Kp.book {n0 n1 : Nat} {w : World} (hn : n0 ≤ w.heap.size) (W : World) (l : Nat) (o o' : Obj) (hl : w.heap.size ≤ l) (h : W.heap[l]? = some o) (ho : o.isCells = false) (hw : o.isWalk = false) : Kp n0 n1 W (W.putObj l o') := by
  refine ⟨belowK_b hn W l o o' hl h ho hw, fun b c t fz _ hc => ?_⟩
  by_cases e : b = l
  · subst e
    rw [h] at hc
    cases hc
    cases ho
  · rw [World.putObj_heap_other (fun h => e h)]
    exact hc
def WalkIs (w0 : World) (n1 l N : Nat) (J Jx : List (Al w0) → World → Prop) (m : Nat) : Prop :=
  ∀ (v : Value) (c : C) (d n : Nat) (pre : List (Al w0)) (W : World), In false All w0 m v c → d + dep c ≤ 5000 → Below w0.heap.size w0 W → n1 ≤ W.heap.size → J pre W → pre.length + (pl d c).length ≤ N →
    CallsIn Fence.wide n Tryz.prog 127 #[v, .int .i64 d, .func (.yield l) #[] #[]] W fun e W' =>
      (e = .returned (.bool true) ∧ ∃ xs, xs.map pr = pl d c ∧ J (pre ++ xs) W' ∧ Kp w0.heap.size n1 W W') ∨ (e = .returned (.bool false) ∧ ∃ q, q.map pr <+: pl d c ∧ Jx (pre ++ q) W')
set_option maxRecDepth 100000 in
set_option maxHeartbeats 2000000 in
theorem walk_of (w0 : World) (n1 l N : Nat) (J Jx : List (Al w0) → World → Prop) (hJa : ∀ s W o, J s W → J s (W.alloc o))
    (hY : ∀ m pre x W, J pre W → pre.length < N → YieldAt Fence.wide m Tryz.prog l (enc x) W fun e W' => (e = .returned (.bool true) ∧ J (pre ++ [x]) W' ∧ Kp w0.heap.size n1 W W') ∨ (e = .returned (.bool false) ∧ Jx (pre ++ [x]) W'))
    (m : Nat) (ih : WalkIs w0 n1 l N J Jx m) : WalkIs w0 n1 l N J Jx (m + 1) := by
  intro v c d n pre W hin hdep hB hn1 hJ hN
  have hdd : ∀ k : Nat, (Fence.wide.depth.isSome = true → 1 ≤ k) := fun k h => by cases h
  obtain ⟨k, b, i, s, ns, ls⟩ := c
  have hin' := hin
  rw [in_iff] at hin'
  obtain ⟨nv, lv, rfl, -, -, -, hn, hl⟩ := hin'
  obtain ⟨a, cap, rfl, hlc, hcm, hlen, hnil, hL⟩ := hl.out
  clear hn hl
  have hsz := hB.size
  obtain ⟨W0, hW0⟩ : ∃ W0, W.alloc (.cells #[.int .i64 k, .bool b, .int .i64 i, .string s, nv, .slice a ls.length cap] 46) = W0 := ⟨_, rfl⟩
  have hx0 : W0.heap[W.heap.size]? = some (.cells #[.int .i64 k, .bool b, .int .i64 i, .string s, nv, .slice a ls.length cap] 46 (0, 0)) := by rw [← hW0, heap_alloc_new]
  have hs0 : W0.heap.size = W.heap.size + 1 := by rw [← hW0]; simp
  have hB0 : Kp w0.heap.size n1 W W0 := by rw [← hW0]; exact Kp.of_below ((Below.refl _ W).alloc (Nat.le_refl _) _) hsz
  have hJ0 : J pre W0 := by rw [← hW0]; exact hJa _ _ _ hJ
  obtain ⟨d0, d1, d2, d3, d4, d5⟩ := six_box hx0
  obtain ⟨x0, hx⟩ : ∃ x0 : Al w0, x0 = ⟨(d, .agg #[.int .i64 k, .bool b, .int .i64 i, .string s, nv, .slice a ls.length cap], .mk k b i s ns ls), m + 1, hin⟩ := ⟨_, rfl⟩
  have hpr : pr x0 = (d, .mk k b i s ns ls) := by rw [hx]; rfl
  have henc : enc x0 = #[.int .i64 d, .agg #[.int .i64 k, .bool b, .int .i64 i, .string s, nv, .slice a ls.length cap]] := by rw [hx]; rfl
  have hpl : (pl d (.mk k b i s ns ls)).length = (plL (d + 1) ls).length + 1 := by simp [pl]
  obtain ⟨fn, tmps, assign, body, hy, hR⟩ := hY (n - 1) pre x0 W0 hJ0 (by omega)
  rw [henc] at hy
  have Hpr : Hid (pr x0 = (d, .mk k b i s ns ls)) := hpr
  have Hih : Hid (WalkIs w0 n1 l N J Jx m) := ih
  have Hdep : Hid (∀ j (h : j < ls.length), d + 1 + dep ls[j] ≤ 5000) := fun j h => by
    have h1 : dep ls[j] ≤ depL ls := depL_le.1 (Nat.le_refl _) j h
    rw [dep] at hdep
    omega
  have hd5 : d ≤ 5000 := by omega
  have HN : Hid (pre.length + ((plL (d + 1) ls).length + 1) ≤ N) := by show _ ≤ _; omega
  clear hx hpr henc ih hdep hpl hN
  refine callsIn_of_wp Tryz.func127 rfl trivial ?_ rfl
  simp only [Tryz.ntmps127, List.size_toArray, List.length_cons, List.length_nil, Nat.reduceAdd, Nat.reduceSub, Array.replicate_succ, Array.replicate_zero, List.push_toArray, List.append_toArray, List.nil_append, List.cons_append]
  gi_wp2
  refine ⟨hdd _, ?_⟩
  refine hR.mono ?_
  clear hR
  rintro e W1 (⟨rfl, hJ1, hk1⟩ | ⟨rfl, hx1⟩)
  · have hx1 := hk1.2 _ _ _ _ hn1 hx0
    obtain ⟨-, -, -, -, -, y5⟩ := six_box hx1
    have hk2 := hB0.trans hk1
    clear hx0 hx1 hy hW0 hJ0 hJ d0 d1 d2 d3 d4 d5
    gi_wp2
    gi_loopw [17] (fun i' wr => ∃ (q : Nat) (xs : List (Al w0)), q ≤ ls.length ∧ i' = .int .i64 q ∧ xs.map pr = plL (d + 1) (ls.take q) ∧ J (pre ++ x0 :: xs) wr ∧ Kp w0.heap.size n1 W wr) (fun i' _ => ls.length - (intOf i').toNat)
    case atStart => exact ⟨0, [], by omega, rfl, by simp [plL], hJ1, hk2⟩
    case round =>
      obtain ⟨q, xs, hq, rfl, hxs, hJs, hk⟩ := hrel
      have Hxs : Hid (xs.map pr = plL (d + 1) (ls.take q)) := hxs
      clear hxs hJ1 hk1 hk2 y5
      have hBr : Below w0.heap.size w0 wr := hB.trans hk.1
      have hwr := hBr.size
      by_cases hlt : q < ls.length
      · obtain ⟨g, o, u, rfl, -, hu, hin2⟩ := elem_at hL hlt
        have hu := six_below hu hBr
        obtain ⟨v0, v1, v2, v3, v4, v5, rfl, d0, d1, d2, d3, d4, d5⟩ := hu
        obtain ⟨a1, b1, c1, a2, b2, c2, rfl, rfl, rfl, rfl, rfl, rfl⟩ := hin2.kinds
        have hlen2 : (pre ++ x0 :: xs).length + (pl (d + 1) ls[q]).length ≤ N := by
          have e1 := congrArg List.length Hxs.out
          have e2 := (plL_pre (d + 1) ls (q + 1)).length_le
          rw [plL_take _ _ _ hlt, List.length_append] at e2
          have := HN.out
          simp at e1 ⊢
          omega
        have hdq := Hdep.out q hlt
        have HP1 : Hid (plL (d + 1) (ls.take (q + 1)) = plL (d + 1) (ls.take q) ++ pl (d + 1) ls[q]) := plL_take _ _ _ hlt
        have hk3 : Kp w0.heap.size n1 wr (wr.alloc (.cells #[.int .i64 ls[q].k, .bool ls[q].b, .int .i64 ls[q].i, .string ls[q].s, .slice a1 b1 c1, .slice a2 b2 c2] 46)) := Kp.of_below ((Below.refl _ wr).alloc (Nat.le_refl _) _) hwr
        have hwk := hk.1.size
        have c62 := Hih.out _ ls[q] (d + 1) (n - 1) (pre ++ x0 :: xs) _ hin2 hdq (hBr.trans hk3.1) (by simp; omega) (hJa _ _ _ hJs) hlen2
        have hkk := hk.trans hk3
        clear hk3 hk hlen2 hdq hin2 hL hwk
        generalize ls[q].k = kk, ls[q].b = bb, ls[q].i = ii, ls[q].s = ss at *
        gi_wp2_with fail
        refine ⟨trivial, hdd _, ?_⟩
        rw [show (d : Int) + 1 = ((d + 1 : Nat) : Int) by omega]
        refine c62.mono ?_
        rintro e W3 (⟨rfl, ys, hys, hJ3, hk3⟩ | ⟨rfl, q', hq', hx3⟩)
        · have HY3 : Hid (ys.map pr = pl (d + 1) ls[q]) := hys
          clear c62 hys
          gi_wp2_with fail
          go_roundw
          case rel =>
            refine ⟨q + 1, xs ++ ys, by omega, by go_num, ?_, ?_, hkk.trans hk3⟩
            · rw [HP1.out, List.map_append, Hxs.out, HY3.out]
            · simpa using hJ3
          case measure => simp only [intOf]; omega
        · clear c62
          gi_wp2_with fail
          go_ret
          refine .inr ⟨rfl, x0 :: (xs ++ q'), ?_, ?_⟩
          · rw [List.map_cons, List.map_append, Hpr.out, Hxs.out, pl]
            obtain ⟨r, hr⟩ := hq'
            obtain ⟨r', hr'⟩ := plL_pre (d + 1) ls (q + 1)
            refine ⟨r ++ r', ?_⟩
            rw [← hr', HP1.out, ← hr]
            simp
          · simpa using hx3
      · have hlt' : decide ((q : Int) < (ls.length : Int)) = false := by simp; omega
        gi_wp2
        go_ret
        refine .inl ⟨rfl, x0 :: xs, ?_, hJs, hk⟩
        rw [List.map_cons, Hpr.out, Hxs.out, pl, List.take_of_length_le (by omega)]
  · gi_wp2
    go_ret
    refine .inr ⟨rfl, [x0], ?_, hx1⟩
    rw [List.map_cons, List.map_nil, Hpr.out, pl]
    exact ⟨plL (d + 1) ls, rfl⟩
end Go.Proofs.YthjbknncbhkinaaGreatDoor.Walk
