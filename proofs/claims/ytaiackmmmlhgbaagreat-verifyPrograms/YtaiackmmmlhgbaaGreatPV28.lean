import Derived.LoopN
import Derived.LoopTactic
import Derived.Maps.AppendAt
import Derived.Test.YtaiackmmmlhgbaaGreatPV01
open Go.Proofs.Tryz
set_option linter.unusedVariables false
set_option maxRecDepth 20000
set_option maxHeartbeats 3200000
namespace Go.Proofs.YtaiackmmmlhgbaaGreat.TShallow
open Go.RowKit TBase
def depL : List T -> Nat
 | [] => 0
 | .mk _ _ _ l :: cs => max (depL l + 1) (depL cs)
theorem depL_cons (c : T) (cs : List T) : depL (c :: cs) = max (depL c.l + 1) (depL cs) := by
 obtain ⟨g, s, n, l⟩ := c
 rw [depL]
 rfl
theorem depL_le {l : List T} {q : Nat} : depL l <= q ↔ ∀ j (h : j < l.length), depL l[j].l + 1 <= q := by
 induction l with
 | nil => simp [depL]
 | cons c cs ih =>
  rw [depL_cons, Nat.max_le, ih]
  constructor
  ·rintro ⟨h1, h2⟩ j hj
   cases j with
   | zero => exact h1
   | succ j => exact h2 j (by simpa using hj)
  ·intro h
   exact ⟨h 0 (by simp), fun j hj => h (j + 1) (by simpa using hj)⟩
def Deeps (m : Nat) : Prop := ∀ (v : Value) (l : List T) (left : Nat) (w : World), left <= 4096 -> InL false All w m v l ->
  Calls prog 39 #[v, .int .i64 left] w fun r w' => r = .returned (.bool (decide (depL l <= left))) /\ Below w.heap.size w w'
theorem deeps_of (m : Nat) (ih : ∀ m', m = m' + 1 -> Deeps m') : Deeps m := by
 intro v l left w hleft h
 obtain ⟨a, cap, rfl, hl, hcap, hlen, ha, hL⟩ := h
 have H : Hid (∀ m', m = m' + 1 -> Deeps m') := ih
 clear ih
 by_cases h0 : left = 0
 ·subst h0
  have hd : decide (depL l <= 0) = ((l.length : Int) == 0) := by
   cases l with
   | nil => simp [depL]
   | cons c cs =>
    have : ¬ depL (c :: cs) <= 0 := by rw [depL_cons]; omega
    simp [this]
    omega
  rw [hd]
  clear hd hL
  go_enter func39, ntmps39
  go_wp2_with fail
  go_ret
  exact ⟨rfl, Below.refl _ _⟩
 ·have h0' : ((left : Int) == 0) = false := by simp; omega
  go_enter func39, ntmps39
  go_wp2_with fail
  go_loopw [5] (fun i' wr => ∃ q : Nat, q <= l.length /\ i' = .int .i64 q /\ (∀ j (h : j < l.length), j < q -> depL l[j].l + 1 <= left) /\
   Below w.heap.size w wr) (fun i' _ => l.length - (intOf i').toNat)
  case atStart => exact ⟨0, by omega, rfl, fun j _ h => by omega, Below.refl _ _⟩
  case round =>
   obtain ⟨q, hq, rfl, hall, hb⟩ := hrel
   by_cases hlt : q < l.length
   ·obtain ⟨g, o, u, rfl, -, hu, hin⟩ := elem_at hL hlt
    have hu := four_below hu hb
    have hin := hin.below hb
    obtain ⟨v0, v1, v2, v3, rfl, d0, d1, d2, d3⟩ := hu
    obtain ⟨m', a1, c1, a2, c2, hm, rfl, rfl, rfl, rfl, -, -, -, hk⟩ := hin.kinds
    have hc := H.out m' hm _ _ (left - 1) wr (by omega) hk
    rw [show ((left - 1 : Nat) : Int) = (left : Int) - 1 by omega] at hc
    clear hin hk
    go_wp2_with fail
    refine hc.mono ?_
    rintro e w2 ⟨rfl, b2⟩
    cases hd : decide (depL l[q].l <= left - 1) with
    | true =>
     go_wp2_with fail
     go_roundw
     case rel =>
      refine ⟨q + 1, by omega, by go_num, fun j hj hjq => ?_, nxB hb (by simp) b2⟩
      by_cases e : j = q
      ·subst e
       have := of_decide_eq_true hd
       omega
      ·exact hall j hj (by omega)
     case measure => simp only [intOf]; omega
    | false =>
     go_wp2_with fail
     go_ret
     refine ⟨?_, nx hb b2⟩
     have h1 : ¬ depL l[q].l <= left - 1 := of_decide_eq_false hd
     have : ¬ depL l <= left := fun h => h1 (by have := depL_le.1 h q hlt; omega)
     simp [this]
   ·have hlt' : decide ((q : Int) < (l.length : Int)) = false := by simp; omega
    go_wp2_with fail
    go_ret
    refine ⟨?_, hb⟩
    have : depL l <= left := depL_le.2 fun j hj => hall j hj (by omega)
    simp [this]
theorem deeps : ∀ m, Deeps m := by
 intro m
 induction m with
 | zero => exact deeps_of 0 (fun m' h => by omega)
 | succ m ih => exact deeps_of (m + 1) (fun m' h => by have e : m = m' := (by omega); subst e; exact ih)
theorem shallow_c (m : Nat) (v : Value) (l : List T) (w : World) (h : InL false All w m v l) :
  Calls prog 13 #[v] w fun r w' => r = .returned (.bool (decide (depL l <= 4096))) /\ Below w.heap.size w w' := by
 have hv := deeps m v l 4096 w (by omega) h
 obtain ⟨a, cap, rfl, -⟩ := h
 generalize depL l = d at *
 generalize l.length = n at *
 go_enter func13, ntmps13
 go_wp2_with (first | (go_at_call 39; refine hv.mono ?_; rintro e w2 ⟨rfl, b2⟩))
 go_ret
 exact ⟨rfl, b2⟩
end Go.Proofs.YtaiackmmmlhgbaaGreat.TShallow
namespace Go.Proofs.YtaiackmmmlhgbaaGreat.TLend
open Go.RowKit TBase
theorem copyA_c (v : Value) (L : List (ByteArray × ByteArray)) (w : World) (h : Ax false All w v L) :
  Calls prog 179 #[v] w fun e w' => ∃ u, e = .returned u /\ u ≠ .slice none 0 0 /\ OwnA w' w.heap.size u L /\ Below w.heap.size w w' := by
 obtain ⟨i0, hi, hz0, hz1, hz2⟩ := info_parts infoA
 obtain ⟨a, cap, rfl, hlc, hm, hlen, hsz, hnil, hN⟩ := h
 have ho : OwnA (w.alloc (.cells #[] 124)) w.heap.size (.slice (some ⟨w.heap.size, 0, none⟩) 0 0) [] := by
  refine ⟨rfl, .inr ⟨w.heap.size, 0, #[], rfl, Nat.le_refl _, heap_alloc_new w _, Nat.le_refl _, by simp [maxLen], rfl, rfl⟩⟩
 have hb : Below w.heap.size w (w.alloc (.cells #[] 124)) := (Below.refl _ w).alloc (Nat.le_refl _) _
 cases a with
 | none =>
  obtain rfl := hnil rfl
  obtain rfl : L = [] := List.eq_nil_of_length_eq_zero (by omega)
  go_enter func179, ntmps179
  go_wp2_with fail
  go_ret
  exact ⟨_, rfl, (fun h => by cases h), ho, hb⟩
 | some x =>
  obtain ⟨g, o, sp⟩ := x
  have hnews : ∀ j u, (flatA L)[j]? = some u -> (w.alloc (.cells #[] 124)).cell? ((⟨g, o, sp⟩ : Addr).add j) = some u := by
   intro j u hj
   have hl : j < L.length * 2 := by
    have := (List.getElem?_eq_some_iff.1 hj).1
    rwa [flatA_len] at this
   have hq : j / 2 < L.length := by omega
   obtain ⟨g', o', e, -, hc, hc2⟩ := attr_at hN hq
   cases e
   rw [add_none]
   have hget := flatA_get L (j / 2) hq
   rcases Nat.mod_two_eq_zero_or_one j with hj2 | hj2
   ·have e : j / 2 * 2 = j := by omega
    rw [e] at hget hc
    rw [hget.1] at hj
    cases hj
    exact below_cell hc hb
   ·have e : j / 2 * 2 + 1 = j := by omega
    rw [e] at hget
    rw [show o + j / 2 * 2 + 1 = o + j by omega] at hc2
    rw [hget.2] at hj
    cases hj
    exact below_cell hc2 hb
  have hfl := flatA_len L
  clear hN
  go_enter func179, ntmps179
  go_wp2_with (first
   | (at_builtin; refine wpList_append_own _ rfl _ _ 66 rfl w.heap.size 124 i0 (.agg #[.string ⟨#[]⟩, .string ⟨#[]⟩]) 2 32 underlying66 hi hz0 hz1 hz2 rfl (by decide) _ _ _ rfl ho ⟨g, o, sp⟩ L.length cap (flatA L) rfl (by rw [hfl]) hnews (one_attrs L) (by unfold maxLen; simp; omega) (by simp; omega) (by simp) ?_))
  intro v' w2 hown' hgrow hnn
  have hb3 := hb.grown hgrow (by simp) (fun k hk => by cases hk; exact Nat.le_refl _)
  have ho2 : OwnA w2 w.heap.size v' L := by
   unfold OwnA
   simpa [flatA] using hown'
  have hn2 : v' ≠ .slice none 0 0 := hnn
  clear hown' hgrow ho hb hnews hnn
  go_wp2_with fail
  go_ret
  exact ⟨_, rfl, hn2, ho2, hb3⟩
theorem lendA_c (v : Value) (L : List (ByteArray × ByteArray)) (w : World) (h : Ax false All w v L) :
  Calls prog 127 #[v] w fun e w' => ∃ u, e = .returned u /\ Ax true (Rg w.heap.size w'.heap.size) w' u L /\ Below w.heap.size w w' := by
 obtain ⟨i0, hi, hz0, hz1, hz2⟩ := info_parts infoA
 have c44 := copyA_c v L w h
 obtain ⟨a, cap, rfl, hlc, hm, hlen, hsz, hnil, hN⟩ := h
 clear hN
 go_enter func127, ntmps127
 go_wp2_with (first
  | (go_at_call 179; refine c44.mono ?_; rintro e w1 ⟨u, rfl, hne, ho, hb⟩)
  | (at_builtin; refine wpList_append_own _ rfl _ _ 66 rfl w.heap.size 124 i0 (.agg #[.string ⟨#[]⟩, .string ⟨#[]⟩]) 2 32 underlying66 hi hz0 hz1 hz2 rfl (by decide) _ _ _ rfl (World.ownsRow.alloc ho _) ⟨w1.heap.size, 0, none⟩ 2 2 (flatA [room2, room2]) rfl rfl (new_cells w1 _ 124) (one_attrs _) (by unfold maxLen; omega) (by omega) (by have := hb.size; simp; omega) ?_))
 intro v' w2 hown' hgrow hnn
 have hb3 := (hb.alloc hb.size (.cells (flatA [room2, room2]).toArray 124)).grown hgrow (by have := hb.size; simp; omega) (fun k hk => (World.ownsRow.lt ho k hk).1)
 have ho2 : OwnA w2 w.heap.size v' (L ++ [room2, room2]) := by
  unfold OwnA
  rw [flatA_append, List.length_append]
  exact hown'
 rcases hown'.2 with ⟨h0, _⟩ | ⟨g, cap2, cur, rfl, _, _, hn2, hm2, _⟩
 ·exact absurd h0 hnn
 clear hown' hgrow ho hb c44 hnn
 have hm3 : cap2 <= 9223372036854775807 := hm2
 clear hm2
 go_wp2_with fail
 go_ret
 refine ⟨_, rfl, ⟨_, cap2, rfl, by omega, hm3, hlen, hsz, (fun h => by cases h), .inr ⟨g, 0, rfl, ⟨(ownA_lt ho2).1, (ownA_lt ho2).2⟩, ?_, fun _ => ⟨hn2, ?_, ?_⟩⟩⟩, hb3⟩
 ·intro j hj
  have := ownA_cell ho2 j (by simp; omega)
  rwa [List.getElem_append_left hj] at this
 ·have := ownA_cell ho2 L.length (by simp)
  simpa using this
 ·have := ownA_cell ho2 (L.length + 1) (by simp)
  rw [show 0 + (L.length + 1) * 2 = 0 + L.length * 2 + 2 by omega] at this
  simpa using this
end Go.Proofs.YtaiackmmmlhgbaaGreat.TLend
namespace Go.Proofs.YtaiackmmmlhgbaaGreat.Base
open Go.RowKit
theorem info9 : (prog.info? 9).map (fun i => (i.zero, i.size, i.bytes)) = some (some (.string ⟨#[]⟩), 1, 16) := by kernel_rfl
def Rg (lo hi : Nat) : Nat -> Prop := fun b => lo <= b /\ b < hi
def OwnT (w : World) (B : Nat) (v : Value) (L : List ByteArray) : Prop := w.ownsRow B 9 1 v L.length (L.map Value.string)
theorem one_texts (L : List ByteArray) : ∀ u ∈ L.map Value.string, u.oneCell' = true := by
 intro u hu
 obtain ⟨_, _, rfl⟩ := List.mem_map.1 hu
 rfl
theorem ownT_cell {w : World} {B g n cap : Nat} {L : List ByteArray} (h : OwnT w B (.slice (some ⟨g, 0, none⟩) n cap) L) (j : Nat) (hj : j < L.length) : w.cell? ⟨g, 0 + j, none⟩ = some (.string L[j]) := by
 have hc := World.ownsRow.cells (g := g) h rfl j (.string L[j]) (by simp [hj])
 rw [add_none] at hc
 exact hc
theorem ownT_lt {w : World} {B g n cap : Nat} {L : List ByteArray} (h : OwnT w B (.slice (some ⟨g, 0, none⟩) n cap) L) : B <= g /\ g < w.heap.size := World.ownsRow.lt h g rfl
theorem new_cells (w : World) (cs : List Value) (t : TypeId) : ∀ j u, cs[j]? = some u -> (w.alloc (.cells cs.toArray t)).cell? ((⟨w.heap.size, 0, none⟩ : Addr).add j) = some u := by
 intro j u hu
 rw [add_none, Nat.zero_add]
 have h := heap_alloc_new w (.cells cs.toArray t)
 have e : (w.alloc (.cells cs.toArray t)).cell? ⟨w.heap.size, j, none⟩ = cs.toArray[j]? := by
  unfold World.cell?
  rw [h]
  rfl
 rw [e]
 simpa using hu
end Go.Proofs.YtaiackmmmlhgbaaGreat.Base
namespace Go.Proofs.YtaiackmmmlhgbaaGreat.SameT
open Go.RowKit Base
theorem sameT_c (u v : Value) (L : List ByteArray) (w : World) (hu : Tx false All w u L) (hv : Tx false All w v L) :
  Calls prog 29 #[u, v] w fun e w' => e = .returned (.bool true) /\ Below w.heap.size w w' := by
 obtain ⟨a, cap, rfl, hlc, hm, hlen, hsz, hnil, hN⟩ := hu.out
 obtain ⟨a', cap', rfl, hlc', hm', hlen', hsz', hnil', hN'⟩ := hv.out
 clear hu hv hsz hsz' hlen'
 go_enter func29, ntmps29
 go_wp2_with fail
 go_loopw [5] (fun i wr => ∃ q : Nat, q <= L.length /\ i = .int .i64 q /\ Below w.heap.size w wr) (fun i _ => L.length - (intOf i).toNat)
 case atStart => exact ⟨0, by omega, rfl, Below.refl _ _⟩
 case round =>
  obtain ⟨q, hq, rfl, hb⟩ := hrel
  by_cases hlt : q < L.length
  ·obtain ⟨g, o, rfl, -, hc⟩ := name_at hN hlt
   obtain ⟨g', o', rfl, -, hc'⟩ := name_at hN' hlt
   have hc := below_cell hc hb
   have hc' := below_cell hc' hb
   have hb' := hb.drew
   generalize L[q] = x at *
   clear hN hN'
   go_wp2_with fail
   go_region
   all_goals go_wp2_with fail
   all_goals go_roundw
   all_goals first
    | (case rel => exact ⟨q + 1, by omega, by go_num, hb'⟩)
    | (case measure => simp only [intOf]; omega)
  ·have hlt' : decide ((q : Int) < (L.length : Int)) = false := by simp; omega
   go_wp2_with fail
   go_ret
   exact ⟨rfl, hb⟩
theorem keptT_c {S : Nat -> Prop} (u v : Value) (L : List ByteArray) (w : World) (hu : Tx true S w u L) (hv : Tx false All w v L) :
  Calls prog 50 #[u, v] w fun e w' => e = .returned (.bool true) /\ Below w.heap.size w w' := by
 have c50 := sameT_c u v L w hu.plain hv
 obtain ⟨a, cap, rfl, hlc, hm, hlen, hsz, hnil, hN⟩ := hu.out
 obtain ⟨a', cap', rfl, hlc', hm', -, -, hnil', -⟩ := hv.out
 obtain ⟨g, o, rfl, -, -, hr⟩ : ∃ g o, a = some ⟨g, o, none⟩ /\ S g /\ (∀ j (h : j < L.length), w.cell? ⟨g, o + j, none⟩ = some (.string L[j])) /\
   (true = true -> L.length + 2 <= cap /\ w.cell? ⟨g, o + L.length, none⟩ = some (.string room) /\ w.cell? ⟨g, o + L.length + 1, none⟩ = some (.string behind)) := by
  rcases hN with ⟨_, h⟩ | h
  ·cases h
  ·exact h
 obtain ⟨h2, r1, r2⟩ := hr rfl
 clear hu hv hsz hr hN
 generalize L.length = n at *
 go_enter func50, ntmps50
 go_wp2_with (first | (go_at_call 29; refine c50.mono ?_; rintro e w1 ⟨rfl, b1⟩; have r1' : w1.cell? ⟨g, o + n, none⟩ = some (.string ⟨#[126, 114, 111, 111, 109]⟩) := below_cell r1 b1; have r2' : w1.cell? ⟨g, o + (n + 1), none⟩ = some (.string ⟨#[126, 98, 101, 104, 105, 110, 100]⟩) := below_cell r2 b1))
 go_ret
 exact ⟨rfl, b1⟩
end Go.Proofs.YtaiackmmmlhgbaaGreat.SameT
namespace Go.Proofs.YtaiackmmmlhgbaaGreat.Lend
open Go.RowKit Base
theorem copyT_c (v : Value) (L : List ByteArray) (w : World) (h : Tx false All w v L) :
  Calls prog 78 #[v] w fun e w' => ∃ u, e = .returned u /\ u ≠ .slice none 0 0 /\ OwnT w' w.heap.size u L /\ Below w.heap.size w w' := by
 obtain ⟨i0, hi, hz0, hz1, hz2⟩ := info_parts info9
 obtain ⟨a, cap, rfl, hlc, hm, hlen, hsz, hnil, hN⟩ := h.out
 have ho : OwnT (w.alloc (.cells #[] 9)) w.heap.size (.slice (some ⟨w.heap.size, 0, none⟩) 0 0) [] := by
  refine ⟨rfl, .inr ⟨w.heap.size, 0, #[], rfl, Nat.le_refl _, heap_alloc_new w _, Nat.le_refl _, by simp [maxLen], rfl, rfl⟩⟩
 have hb : Below w.heap.size w (w.alloc (.cells #[] 9)) := (Below.refl _ w).alloc (Nat.le_refl _) _
 cases a with
 | none =>
  obtain rfl := hnil rfl
  obtain rfl : L = [] := List.eq_nil_of_length_eq_zero (by omega)
  go_enter func78, ntmps78
  go_wp2_with fail
  go_ret
  exact ⟨_, rfl, (fun h => by cases h), ho, hb⟩
 | some x =>
  obtain ⟨g, o, sp⟩ := x
  have hnews : ∀ j u, (L.map Value.string)[j]? = some u -> (w.alloc (.cells #[] 9)).cell? ((⟨g, o, sp⟩ : Addr).add j) = some u := by
   intro j u hj
   have hl : j < L.length := by
    have := (List.getElem?_eq_some_iff.1 hj).1
    simpa using this
   obtain ⟨g', o', e, -, hc⟩ := name_at hN hl
   cases e
   rw [add_none]
   have hj' : u = .string L[j] := by simpa [hl] using hj.symm
   rw [hj']
   exact below_cell hc hb
  clear hN h
  go_enter func78, ntmps78
  go_wp2_with (first
   | (at_builtin; refine wpList_append_own _ rfl _ _ 24 rfl w.heap.size 9 i0 (.string ⟨#[]⟩) 1 16 underlying24 hi hz0 hz1 hz2 rfl (by decide) _ _ _ rfl ho ⟨g, o, sp⟩ L.length cap (L.map Value.string) rfl (by simp) hnews (one_texts L) (by unfold maxLen; simp; omega) (by simp; omega) (by simp) ?_))
  intro v' w2 hown' hgrow hnn
  have hb3 := hb.grown hgrow (by simp) (fun k hk => by cases hk; exact Nat.le_refl _)
  have ho2 : OwnT w2 w.heap.size v' L := by
   unfold OwnT
   simpa using hown'
  have hn2 : v' ≠ .slice none 0 0 := hnn
  clear hown' hgrow ho hb hnews hnn
  go_wp2_with fail
  go_ret
  exact ⟨_, rfl, hn2, ho2, hb3⟩
theorem lendT_c (v : Value) (L : List ByteArray) (w : World) (h : Tx false All w v L) :
  Calls prog 40 #[v] w fun e w' => ∃ u, e = .returned u /\ Tx true (Rg w.heap.size w'.heap.size) w' u L /\ Below w.heap.size w w' := by
 obtain ⟨i0, hi, hz0, hz1, hz2⟩ := info_parts info9
 have c44 := copyT_c v L w h
 obtain ⟨a, cap, rfl, hlc, hm, hlen, hsz, hnil, hN⟩ := h.out
 clear hN h
 go_enter func40, ntmps40
 go_wp2_with (first
  | (go_at_call 78; refine c44.mono ?_; rintro e w1 ⟨u, rfl, hne, ho, hb⟩)
  | (at_builtin; refine wpList_append_own _ rfl _ _ 24 rfl w.heap.size 9 i0 (.string ⟨#[]⟩) 1 16 underlying24 hi hz0 hz1 hz2 rfl (by decide) _ _ _ rfl (World.ownsRow.alloc ho _) ⟨w1.heap.size, 0, none⟩ 2 2 ([room, behind].map Value.string) rfl rfl (new_cells w1 _ 9) (one_texts _) (by unfold maxLen; omega) (by omega) (by have := hb.size; simp; omega) ?_))
 intro v' w2 hown' hgrow hnn
 have hb3 := (hb.alloc hb.size (.cells #[.string room, .string behind] 9)).grown hgrow (by have := hb.size; simp; omega) (fun k hk => (World.ownsRow.lt ho k hk).1)
 have ho2 : OwnT w2 w.heap.size v' (L ++ [room, behind]) := by
  unfold OwnT
  rw [List.map_append, List.length_append]
  exact hown'
 rcases hown'.2 with ⟨h0, _⟩ | ⟨g, cap2, cur, rfl, _, _, hn2, hm2, _⟩
 ·exact absurd h0 hnn
 clear hown' hgrow ho hb c44 hnn
 have hm3 : cap2 <= 9223372036854775807 := hm2
 clear hm2
 go_wp2_with fail
 go_ret
 refine ⟨_, rfl, ⟨_, cap2, rfl, by omega, hm3, hlen, hsz, (fun h => by cases h), .inr ⟨g, 0, rfl, ⟨(ownT_lt ho2).1, (ownT_lt ho2).2⟩, ?_, fun _ => ⟨hn2, ?_, ?_⟩⟩⟩, hb3⟩
 ·intro j hj
  have := ownT_cell ho2 j (by simp; omega)
  rwa [List.getElem_append_left hj] at this
 ·have := ownT_cell ho2 L.length (by simp)
  simpa using this
 ·have := ownT_cell ho2 (L.length + 1) (by simp)
  simpa [Nat.add_assoc] using this
end Go.Proofs.YtaiackmmmlhgbaaGreat.Lend
namespace Go.Proofs.YtaiackmmmlhgbaaGreat.TLends
open Go.RowKit TBase TLend
def Lends (m : Nat) : Prop := ∀ (v : Value) (c : T) (w : World), In false All w m v c ->
  Calls prog 80 #[v] w fun e w' => ∃ u, e = .returned u /\ In true (Rg w.heap.size w'.heap.size) w' m u c /\ Below w.heap.size w w'
theorem lendTs_of (m : Nat) (hm : Lends m) (v : Value) (l : List T) (w : World) (h : InL false All w m v l) :
  Calls prog 42 #[v] w fun e w' => ∃ u, e = .returned u /\ InL true (Rg w.heap.size w'.heap.size) w' m u l /\ Below w.heap.size w w' := by
 obtain ⟨i0, hi, hz0, hz1, hz2⟩ := info_parts infoT
 obtain ⟨a, cap, rfl, hlc, hcm, hlen, hnil, hL⟩ := h
 go_enter func42, ntmps42
 go_wp2_with fail
 go_loopw [3, 4] (fun out i wr => ∃ (q : Nat) (us : List Value), q <= l.length /\ us.length = q /\ i = .int .i64 q /\ OwnV wr w.heap.size out us /\
   (∀ j (h : j < us.length) (h' : j < l.length), In true (El w.heap.size wr.heap.size out) wr m us[j] l[j]) /\ Below w.heap.size w wr) (fun _ i _ => l.length - (intOf i).toNat)
 case atStart => exact ⟨0, [], by omega, rfl, rfl, ⟨World.ownsRow_nil _ _ _ _, fun x hx => by cases hx⟩, fun j h => by simp at h, Below.refl _ _⟩
 case round =>
  obtain ⟨q, us, hq, hus, rfl, hown, hels, hb⟩ := hrel
  have hsz := hb.size
  by_cases hlt : q < l.length
  ·obtain ⟨g, o, u, rfl, -, hu, hin⟩ := elem_at hL hlt
   have hu := four_below hu hb
   have hin := hin.below hb
   obtain ⟨v0, v1, v2, v3, rfl, d0, d1, d2, d3⟩ := hu
   have c10 := hm _ _ wr hin
   have HH : Hid (∀ j (h : j < us.length) (h' : j < l.length), In true (El w.heap.size wr.heap.size u3) wr m us[j] l[j]) := hels
   have Hus : Hid (us.length = q) := hus
   have Hown : Hid (OwnV wr w.heap.size u3 us) := hown
   have hrow := hown.1
   have hlen2 : us.length = q := hus
   clear hels hin hus hown
   go_wp2_with (first
    | (go_at_call 80; refine c10.mono ?_; rintro e w1 ⟨u, rfl, hin1, b1⟩; obtain ⟨x0, x1, x2, x3, rfl, hone⟩ := hin1.four; have hrow1 := World.ownsRow.alloc (own_below hrow b1) (.cells #[x0, x1, x2, x3] 68); have hs1 := b1.size)
    | (at_builtin; refine wpList_append_own_at _ rfl _ _ 26 rfl w.heap.size 68 i0 (.agg #[.string ⟨#[]⟩, .string ⟨#[]⟩, .slice none 0 0, .slice none 0 0]) 4 80 underlying26 hi hz0 hz1 hz2 rfl (by decide) _ _ _ rfl hrow1 ⟨w1.heap.size, 0, none⟩ 1 1 [x0, x1, x2, x3] rfl rfl (new_cells w1 _ 68) hone (by unfold maxLen; omega) (by omega) (by simp; omega) ?_))
   intro v' w2 hown' hgrow _ hat
   have hels2 := els_step HH.out Hus.out hlt Hown.out b1 hin1 hsz _ hgrow hat
   have hb3 := ((hb.trans (b1.mono hsz)).alloc (by omega) (.cells #[x0, x1, x2, x3] 68)).grown hgrow (by simp; omega) (fun k hk => (World.ownsRow.lt hrow k hk).1)
   have ho2 : OwnV w2 w.heap.size v' (us ++ [.agg #[x0, x1, x2, x3]]) := by
    refine ⟨?_, fours_snoc Hown.out.2 ⟨_, _, _, _, rfl, hone⟩⟩
    rw [flat_append, List.length_append, hlen2]
    exact hown'
   have hlen3 : (us ++ [Value.agg #[x0, x1, x2, x3]]).length = q + 1 := by simp [hlen2]
   obtain ⟨us2, hus2⟩ : ∃ us2, us ++ [Value.agg #[x0, x1, x2, x3]] = us2 := ⟨_, rfl⟩
   rw [hus2] at hels2 ho2 hlen3
   have H2 : Hid (∀ j (h : j < us2.length) (h' : j < l.length), In true (El w.heap.size w2.heap.size v') w2 m us2[j] l[j]) := fun j h h' => hels2 j h h'
   clear hown' hgrow hat hrow hrow1 Hown HH Hus hels2 hus2 hin1 hone c10
   go_wp2_with fail
   go_roundw
   case rel => exact ⟨q + 1, us2, by omega, hlen3, by go_num, ho2, H2.out, hb3⟩
   case measure => simp only [intOf]; omega
  ·obtain rfl : q = l.length := by omega
   have hnlt : decide ((l.length : Int) < (l.length : Int)) = false := by simp
   have HH : Hid (∀ j (h : j < us.length) (h' : j < l.length), In true (El w.heap.size wr.heap.size u3) wr m us[j] l[j]) := hels
   have Hown : Hid (OwnV wr w.heap.size u3 us) := hown
   have hrow := World.ownsRow.alloc hown.1 (.cells (flat [room4, room4]).toArray 68)
   have Hus : Hid (us.length = l.length) := hus
   have hlen2 : us.length = l.length := hus
   clear hels hus hown
   go_wp2_with (first
    | (at_builtin; refine wpList_append_own_at _ rfl _ _ 26 rfl w.heap.size 68 i0 (.agg #[.string ⟨#[]⟩, .string ⟨#[]⟩, .slice none 0 0, .slice none 0 0]) 4 80 underlying26 hi hz0 hz1 hz2 rfl (by decide) _ _ _ rfl hrow ⟨wr.heap.size, 0, none⟩ 2 2 (flat [room4, room4]) rfl rfl (new_cells wr _ 68) (by decide) (by unfold maxLen; omega) (by omega) (by simp; omega) ?_))
   intro v' w2 hown' hgrow hnn hat
   have hels2 := els_keep HH.out (Below.refl _ _) _ hgrow hat
   have hb3 := (hb.alloc hsz (.cells (flat [room4, room4]).toArray 68)).grown hgrow (by simp; omega) (fun k hk => (World.ownsRow.lt hrow k hk).1)
   have ho2 : OwnV w2 w.heap.size v' (us ++ [room4, room4]) := by
    refine ⟨?_, ?_⟩
    ·rw [flat_append, List.length_append, hlen2]
     exact hown'
    ·rw [show us ++ [room4, room4] = (us ++ [room4]) ++ [room4] by simp]
     exact fours_snoc (fours_snoc Hown.out.2 room4_four) room4_four
   have H2 : Hid (∀ j (h : j < us.length) (h' : j < l.length), In true (El w.heap.size w2.heap.size v') w2 m us[j] l[j]) := fun j h h' => hels2 j h h'
   rcases hown'.2 with ⟨h0, _⟩ | ⟨g, cap2, cur, rfl, _, _, hn2, hm2, _⟩
   ·exact absurd h0 hnn
   have hm3 : cap2 <= 9223372036854775807 := hm2
   have hn3 : l.length + 2 <= cap2 := by omega
   have Ho2 : Hid (OwnV w2 w.heap.size (.slice (some ⟨g, 0, none⟩) (l.length + 2) cap2) (us ++ [room4, room4])) := ho2
   clear hown' hgrow hat hrow Hown HH hels2 hnn hm2 ho2 hn2
   go_wp2_with fail
   go_ret
   have hus := Hus.out
   have ho2 := Ho2.out
   refine ⟨_, rfl, ⟨_, cap2, rfl, by omega, hm3, hlen, (fun h => by cases h), .inr ⟨g, 0, rfl, ⟨(ownV_lt ho2).1, (ownV_lt ho2).2⟩, ?_, fun _ => ⟨hn3, ?_, ?_⟩⟩⟩, hb3⟩
   ·intro j hj
    have := ownV_four ho2 j (by simp; omega)
    rw [List.getElem_append_left (by omega)] at this
    exact ⟨_, this, (H2.out j (by omega) hj).weak (fun b hS => ⟨hS.1, hS.2.1⟩) true id m (Nat.le_refl _)⟩
   ·have := ownV_four ho2 us.length (by simp)
    have e : (us ++ [room4, room4])[us.length]'(by simp) = room4 := by simp
    rw [e, hus] at this
    exact this
   ·have := ownV_four ho2 (us.length + 1) (by simp)
    have e : (us ++ [room4, room4])[us.length + 1]'(by simp) = room4 := by simp
    rw [e, hus, show 0 + (l.length + 1) * 4 = 0 + l.length * 4 + 4 by omega] at this
    exact this
theorem lendT_of (m : Nat) (hm : ∀ (v : Value) (l : List T) (w : World), InL false All w m v l ->
   Calls prog 42 #[v] w fun e w' => ∃ u, e = .returned u /\ InL true (Rg w.heap.size w'.heap.size) w' m u l /\ Below w.heap.size w w') : Lends (m + 1) := by
 intro v c w h
 obtain ⟨g, s, n, l⟩ := c
 rw [in_iff] at h
 obtain ⟨nv, lv, rfl, hg, hs, hn, hl⟩ := h
 obtain ⟨W0, hW0⟩ : ∃ W0, (w.alloc (.cells #[.string g, .string s, nv, lv] 68)).alloc (.cells #[.string ⟨#[]⟩, .string ⟨#[]⟩, .slice none 0 0, .slice none 0 0] 68) = W0 := ⟨_, rfl⟩
 have hb0 : Below w.heap.size w W0 := by rw [<- hW0]; exact ((Below.refl _ w).alloc (Nat.le_refl _) _).alloc (by simp) _
 have hsz0 : W0.heap.size = w.heap.size + 2 := by rw [<- hW0]; simp
 have hx0 : W0.heap[w.heap.size]? = some (.cells #[.string g, .string s, nv, lv] 68) := by
  rw [<- hW0, Below.heap_alloc _ _ _ (by simp), heap_alloc_new]
 have hx1 : W0.heap[w.heap.size + 1]? = some (.cells #[.string ⟨#[]⟩, .string ⟨#[]⟩, .slice none 0 0, .slice none 0 0] 68) := by
  have := heap_alloc_new (w.alloc (.cells #[.string g, .string s, nv, lv] 68)) (.cells #[.string ⟨#[]⟩, .string ⟨#[]⟩, .slice none 0 0, .slice none 0 0] 68)
  rwa [hW0, World.size_alloc] at this
 have c34 := lendA_c nv n W0 (hn.below hb0)
 obtain ⟨-, -, e2, -⟩ := four_box hx0
 go_enter func80, ntmps80
 go_wp2_with fail
 refine c34.mono ?_
 rintro e w1 ⟨nu, rfl, ht1, b1⟩
 have hy0 := (b1.block w.heap.size (by omega)).trans hx0
 have hy1 := (b1.block (w.heap.size + 1) (by omega)).trans hx1
 clear c34 hx0 hx1 hW0
 obtain ⟨d0, d1, d2, d3⟩ := four_box hy0
 have f2 := frozen_box hy0 2
 have hs1 := b1.size
 obtain ⟨W1, hW1⟩ : ∃ W1, w1.setCell ⟨w.heap.size, 2, none⟩ nu = W1 := ⟨_, rfl⟩
 have hz0 : W1.heap[w.heap.size]? = some (.cells #[.string g, .string s, nu, lv] 68 (0, 0)) := by rw [<- hW1, block_set hy0]; rfl
 have hz1 : W1.heap[w.heap.size + 1]? = some (.cells #[.string ⟨#[]⟩, .string ⟨#[]⟩, .slice none 0 0, .slice none 0 0] 68 (0, 0)) := by rw [<- hW1, Below.heap_setCell _ _ _ _ (by simp)]; exact hy1
 have hsz1 : W1.heap.size = w1.heap.size := by rw [<- hW1]; simp [World.setCell]
 have hb1 : Below w.heap.size w W1 := by rw [<- hW1]; exact (hb0.trans (b1.mono (by omega))).setCell (p := ⟨w.heap.size, 2, none⟩) (Nat.le_refl _) _
 have ht2 : Ax true (Rg W0.heap.size w1.heap.size) W1 nu n := ht1.keep fun b hS hb => by rw [<- hW1]; exact Below.heap_setCell _ _ _ _ (by have := hS.1; simp; omega)
 have c35 := hm lv l W1 (hl.below hb1)
 obtain ⟨an, cn, rfl, -⟩ := ht1
 clear hy0 hy1
 obtain ⟨-, -, -, k3⟩ := four_box hz0
 go_wp2_with fail
 refine c35.mono ?_
 rintro e w2 ⟨lu, rfl, hl2, b2⟩
 have hy0 := (b2.block w.heap.size (by omega)).trans hz0
 have hy1 := (b2.block (w.heap.size + 1) (by omega)).trans hz1
 clear c35 hz0 hz1 hW1 d0 d1 d2 d3 f2 k3
 have f3 := frozen_box hy0 3
 have hs2 := b2.size
 obtain ⟨d0, d1, d2, d3⟩ := four_box hy0
 obtain ⟨W2, hW2⟩ : ∃ W2, w2.setCell ⟨w.heap.size, 3, none⟩ lu = W2 := ⟨_, rfl⟩
 have hz0 : W2.heap[w.heap.size]? = some (.cells #[.string g, .string s, .slice an n.length cn, lu] 68 (0, 0)) := by rw [<- hW2, block_set hy0]; rfl
 have hz1 : W2.heap[w.heap.size + 1]? = some (.cells #[.string ⟨#[]⟩, .string ⟨#[]⟩, .slice none 0 0, .slice none 0 0] 68 (0, 0)) := by rw [<- hW2, Below.heap_setCell _ _ _ _ (by simp)]; exact hy1
 have hsz2 : W2.heap.size = w2.heap.size := by rw [<- hW2]; simp [World.setCell]
 have hb2 : Below w.heap.size w W2 := by rw [<- hW2]; exact (hb1.trans (b2.mono (by omega))).setCell (p := ⟨w.heap.size, 3, none⟩) (Nat.le_refl _) _
 have ht3 : Ax true (Rg W0.heap.size w1.heap.size) W2 (.slice an n.length cn) n := ht2.keep fun b hS hb => by
  rw [<- hW2, Below.heap_setCell _ _ _ _ (by have := hS.1; simp; omega)]
  exact b2.block b hb
 have hl3 : InL true (Rg W1.heap.size w2.heap.size) W2 m lu l := hl2.keep fun b hS hb => by rw [<- hW2]; exact Below.heap_setCell _ _ _ _ (by have := hS.1; simp; omega)
 obtain ⟨al, cl, rfl, -⟩ := hl2
 clear ht2 hy0 hy1
 obtain ⟨k0, k1, k2, k3⟩ := four_box hz0
 obtain ⟨e0, e1, e2, e3⟩ := four_box hz1
 have g0 := frozen_box hz1 0
 have g1 := frozen_box hz1 1
 have g2 := frozen_box hz1 2
 have g3 := frozen_box hz1 3
 go_wp2_with fail
 obtain ⟨W3, hW3⟩ : ∃ W3, ((((W2.setCell ⟨w.heap.size + 1, 0, none⟩ (.string g)).setCell ⟨w.heap.size + 1, 1, none⟩ (.string s)).setCell
  ⟨w.heap.size + 1, 2, none⟩ (.slice an n.length cn)).setCell ⟨w.heap.size + 1, 3, none⟩ (.slice al l.length cl)) = W3 := ⟨_, rfl⟩
 rw [hW3]
 obtain ⟨q1, q2, q3, q4⟩ := set4 _ _ _ _ hz1 hW3
 refine bodyPost_ret (results_cell_row rfl _ W3 (w.heap.size + 1) 68 _ (0, 0) _ rfl q1 underlying68 rfl (by kernel_rfl)) rfl ?_
 refine ⟨_, rfl, ?_, q4 _ _ (by omega) hb2⟩
 rw [in_iff]
 refine ⟨_, _, rfl, hg, hs, ?_, ?_⟩
 ·exact (ht3.keep fun b hS hb => q2 b (by have := hS.1; omega)).weak (fun b hS => ⟨by have := hS.1; omega, by have := hS.2; omega⟩) true id
 ·exact (hl3.keep fun b hS hb => q2 b (by have := hS.1; omega)).weak (fun b hS => ⟨by have := hS.1; omega, by have := hS.2; omega⟩) true id m (Nat.le_refl _)
theorem lendTAll : ∀ m, Lends m := by
 intro m
 induction m with
 | zero => intro v c w h; rw [In] at h; exact h.elim
 | succ m ih => exact lendT_of m (lendTs_of m ih)
theorem lendTs_c (m : Nat) (v : Value) (l : List T) (w : World) (h : InL false All w m v l) :
  Calls prog 42 #[v] w fun e w' => ∃ u, e = .returned u /\ InL true (Rg w.heap.size w'.heap.size) w' m u l /\ Below w.heap.size w w' := lendTs_of m (lendTAll m) v l w h
end Go.Proofs.YtaiackmmmlhgbaaGreat.TLends
