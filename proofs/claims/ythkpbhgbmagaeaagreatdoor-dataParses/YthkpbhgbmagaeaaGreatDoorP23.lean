import Derived.Test.YthkpbhgbmagaeaaGreatDoorP05
import Derived.Test.YthkpbhgbmagaeaaGreatDoorP09
import Derived.Test.YthkpbhgbmagaeaaGreatDoorP17
import Derived.Test.YthkpbhgbmagaeaaGreatDoorP20
namespace Go.Proofs.YthkpbhgbmagaeaaGreatDoor.NameR
open Go.RowKit Go.Maps Go.WideMaps Go.Proofs.YthkpbhgbmagaeaaGreatDoor.Base Go.Proofs.YthkpbhgbmagaeaaGreatDoor.UBase Go.Proofs.YthkpbhgbmagaeaaGreatDoor.Spec Go.Proofs.YthkpbhgbmagaeaaGreatDoor.Rdr Go.Proofs.YthkpbhgbmagaeaaGreatDoor.Text Go.Proofs.YthkpbhgbmagaeaaGreatDoor.Names
set_option linter.unusedVariables false
/-- The map in block M has just the names ns. -/
def Met (w : World) (M : Nat) (ns : List ByteArray) : Prop := ∃ D : DataW Unit, w.ownsMap Tryz.prog 9 (plainElem Tryz.prog 3) M ns.length D ∧ Dat D ns
theorem Met.kr {w w' : World} {R M : Nat} {ns : List ByteArray} (h : Met w M ns) (hk : Kr R w w') (hM : M ≠ R) : Met w' M ns := by
 obtain ⟨D, h1, h2⟩ := h
 exact ⟨D, h1.kept (row := some R) ⟨hk.below.os, hk.below.tape, hk.below.output, hk.below.size, fun k hs hk' => hk.other k (fun e => hk' (by rw [e])) hs⟩ (by intro e; exact hM (Option.some.inj e)), h2⟩
/-- Only the blocks R and M have changed, and new ones have come. -/
structure Km (R M : Nat) (w w' : World) : Prop where
 below : Below R w w'
 other : ∀ k, k ≠ R → k ≠ M → k < w.heap.size → w'.heap[k]? = w.heap[k]?
def nmK (s : ByteArray) (i : Nat) (ns : List ByteArray) : Except F (ByteArray × Nat) → Except F (ByteArray × Nat)
 | .error e => .error e
 | .ok (t, j) => if has t ns = true then .error (602, i) else .ok (t, j)
set_option maxRecDepth 20000 in
set_option maxHeartbeats 1600000 in
theorem name_c {w : World} {R M : Nat} {v : Value} {s : ByteArray} {i b : Nat} {ns : List ByteArray} (h : Rd w R v s i b) (hm : Met w M ns) (hRM : R < M) (hl : ns.length ≤ 65536) :
  Calls Tryz.prog 59 #[ptr R, .map (some M)] w fun e w' => Km R M w w' ∧ match nmK s i ns (txt s i) with
   | .ok (t, j) => e = .returned (.string t) ∧ Rd w' R v s j b ∧ Met w' M (ns ++ [t])
   | .error x => e = .panicked (pk x) := by
 have c60 := text_c h
 obtain ⟨k0, k1, k2, f1, f2⟩ := h.cells
 have hle := h.le
 have hsz := h.sz
 have HIN : Hid (∀ t j, txt s i = .ok (t, j) → t.size ≤ 4096) := fun t j e => (SpecIn.txt_in e).2.2.1
 obtain ⟨X, hX⟩ : ∃ X, txt s i = X := ⟨_, rfl⟩
 rw [hX] at c60 HIN ⊢
 unfold ptr at c60 ⊢
 clear hX h
 cases X with
 | error x =>
  have e : nmK s i ns (.error x) = .error x := rfl
  rw [e]
  go_enter Tryz.func59, Tryz.ntmps59
  go_wp2_with (go_at_call 39; refine c60.mono ?_; rintro e w' ⟨k, rfl⟩)
  exact ⟨rfl, ⟨k.below, fun q h1 _ h3 => k.other q h1 h3⟩, rfl⟩
 | ok y =>
  obtain ⟨t, j⟩ := y
  have e : nmK s i ns (.ok (t, j)) = if has t ns = true then .error (602, i) else .ok (t, j) := rfl
  rw [e]
  have ht := HIN.out t j rfl
  have hkey : keyOf Tryz.prog 9 (.string t) = some (key t) := keyOf_string_mk Tryz.underlying9 (by unfold maxLen; omega)
  have hz3 : ∀ w, (zeroValue 3).run Tryz.prog w = .ok (.int .i64 0) w := Tryz.zeroValue3
  have HM : Hid (Met w M ns) := hm
  clear hm
  cases hh : has t ns with
  | true =>
   rw [if_pos rfl]
   have e602 : pk (602, i) = [{ v := .iface 41 (.agg #[.int .i64 602, .int .i64 (i : Nat)]), recovered := false }] := rfl
   go_enter Tryz.func59, Tryz.ntmps59
   go_wp2_with (first
    | (go_at_call 39; refine c60.mono ?_; rintro e w1 ⟨k, rfl, h1⟩; obtain ⟨D, hown, hD⟩ := HM.out.kr k (by omega); have hhas : Maps.has D (key t) = true := (hD.has t).2 (has_iff.1 hh))
    | (at_lookup; refine wpList_lookup_own_ok_int _ rfl _ _ 80 rfl 9 3 .i64 law9 Tryz.underlying80 Tryz.underlying3 (hz3 _) M ns.length D rfl hown _ _ rfl hkey ?_; intro c hat hwc; rw [hhas])
    | fail)
   exact ⟨rfl, ⟨k.below, fun q h1 _ h3 => k.other q h1 h3⟩, rfl⟩
  | false =>
   rw [if_neg (by simp)]
   have hval : plainElem (H := Unit) Tryz.prog 3 (.int .i64 (i : Int)) = some (.lit (.int .i64 (i : Int)), []) := plainElem_int Tryz.underlying3 (Go.WalkArith.wf_i64 (by omega))
   go_enter Tryz.func59, Tryz.ntmps59
   go_wp2_with (first
    | (go_at_call 39; refine c60.mono ?_; rintro e w1 ⟨k, rfl, h1⟩; obtain ⟨D, hown, hD⟩ := HM.out.kr k (by omega); have hhas : Maps.has D (key t) = false := by (rw [← Bool.not_eq_true, hD.has t]; intro h5; rw [← has_iff, hh] at h5; cases h5))
    | (at_lookup; refine wpList_lookup_own_ok_int _ rfl _ _ 80 rfl 9 3 .i64 law9 Tryz.underlying80 Tryz.underlying3 (hz3 _) M ns.length D rfl hown _ _ rfl hkey ?_; intro c hat hwc; rw [hhas])
    | (at_mapUpdate; refine wpList_mapUpdate_own _ rfl _ _ _ 80 rfl 9 3 law9 Tryz.underlying80 (plainElem (H := Unit) Tryz.prog 3) M ns.length _ rfl hown (by unfold maxLen; omega) _ _ _ rfl rfl hkey _ [] hval ?_; intro w2 hown2 hgrow2)
    | fail)
   go_ret
   refine ⟨⟨k.below.grown hgrow2 (by have := h1.lt; omega) (fun q hq => by cases hq; omega), fun q h2 h3 h4 => ?_⟩, rfl, h1.keep fun q hq => hgrow2.block q (by have := h1.lt; omega) (fun e => by cases e; omega), ⟨_, by rw [List.length_append]; exact hown2, hD.snoc t _⟩⟩
   rw [hgrow2.block q (by have := k.below.size; omega) (fun e => by cases e; exact h3 rfl)]
   exact k.other q h2 h4
end Go.Proofs.YthkpbhgbmagaeaaGreatDoor.NameR
namespace Go.Proofs.YthkpbhgbmagaeaaGreatDoor.RState
open Go.RowKit Go.Proofs.YthkpbhgbmagaeaaGreatDoor.Base Go.Proofs.YthkpbhgbmagaeaaGreatDoor.UBase Go.Proofs.YthkpbhgbmagaeaaGreatDoor.Spec Go.Proofs.YthkpbhgbmagaeaaGreatDoor.Rdr Go.Proofs.YthkpbhgbmagaeaaGreatDoor.RowR Go.Proofs.YthkpbhgbmagaeaaGreatDoor.Own Go.Proofs.YthkpbhgbmagaeaaGreatDoor.LState Go.Proofs.YthkpbhgbmagaeaaGreatDoor.NameR
set_option linter.unusedVariables false
/-- A record that is read: the boxes from block B on; names ns, elements acc. -/
structure JM (R B d m : Nat) (v : Value) (s : ByteArray) (w : World) (i b : Nat) (ns : List ByteArray) (acc : List C) : Prop where
 rd : Rd w R v s i b
 RB : R < B
 sz : B + 6 ≤ w.heap.size
 rb : w.heap[B]? = some (.cells #[ptr R] 65 (0, 0))
 db : w.heap[B + 1]? = some (.cells #[.int .i64 d] 3 (0, 0))
 res : w.heap[B + 2]? = some (.cells #[.int .i64 0, .bool false, .int .i64 0, .string ⟨#[]⟩, .slice none 0 0, .slice none 0 0] 27 (0, 0))
 mb : w.heap[B + 5]? = some (.cells #[.map (some (B + 4))] 80 (0, 0))
 met : Met w (B + 4) ns
 box : ∃ nv lv us T, w.heap[B + 3]? = some (.cells #[.int .i64 6, .bool false, .int .i64 0, .string ⟨#[]⟩, nv, lv] 27 (0, 0)) ∧ OwnT w (B + 6) nv ns ∧ Els w m (B + 6) lv us acc T ∧
  (∀ g, nv.ownBlock = some g → lv.ownBlock ≠ some g) ∧ (∀ j, j < acc.length → ∀ g, T j g → nv.ownBlock ≠ some g)
 le : ns.length ≤ i
 le2 : acc.length ≤ i
 small : ∀ t ∈ ns, t.size ≤ 4096
theorem ownT_kr {w w' : World} {R lo : Nat} {nv : Value} {ns : List ByteArray} (h : OwnT w lo nv ns) (hk : Kr R w w') (hR : R < lo) : OwnT w' lo nv ns := Byts.own_kr h hk hR
theorem JM.kr {R B d m : Nat} {v : Value} {s : ByteArray} {w w' : World} {i j b : Nat} {ns : List ByteArray} {acc : List C} (h : JM R B d m v s w i b ns acc) (hr : Rd w' R v s j b) (hk : Kr R w w') (hij : i ≤ j) : JM R B d m v s w' j b ns acc := by
 have hsz := h.sz
 have hRB := h.RB
 obtain ⟨nv, lv, us, T, hb, hn, he, h1, h2⟩ := h.box
 have hs := hk.below.size
 exact ⟨hr, h.RB, by omega, (hk.other _ (by omega) (by omega)).trans h.rb, (hk.other _ (by omega) (by omega)).trans h.db, (hk.other _ (by omega) (by omega)).trans h.res, (hk.other _ (by omega) (by omega)).trans h.mb, h.met.kr hk (by omega), ⟨nv, lv, us, T, (hk.other _ (by omega) (by omega)).trans hb, ownT_kr hn hk (by omega), he.kr hk (by omega), h1, h2⟩, by have := h.le; omega, by have := h.le2; omega, h.small⟩
/-- One more element. -/
theorem JM.more {R B d m : Nat} {v : Value} {s : ByteArray} {w w1 w5 : World} {i j b b' l1 h1 : Nat} {ns : List ByteArray} {acc : List C} {c : C} {nv lv lv' u : Value} {us : List Value} {T : Nat → Nat → Prop} (h : JM R B d m v s w i b ns acc)
  (hnT : OwnT w (B + 6) nv ns) (hels : Els w m (B + 6) lv us acc T) (hd1 : ∀ g, nv.ownBlock = some g → lv.ownBlock ≠ some g) (hd2 : ∀ j, j < acc.length → ∀ g, T j g → nv.ownBlock ≠ some g)
  (hu : Fs w1 m (Rg l1 h1) u c) (hl1 : w.heap.size ≤ l1) (hh1 : h1 ≤ w5.heap.size) (hs : w.heap.size ≤ w5.heap.size) (hown : OwnV w5 (B + 6) lv' (us ++ [u])) (hb : ∀ g, lv'.ownBlock = some g → lv.ownBlock = some g ∨ (h1 ≤ g ∧ w.heap.size ≤ g))
  (hbox : w5.heap[B + 3]? = some (.cells #[.int .i64 6, .bool false, .int .i64 0, .string ⟨#[]⟩, nv, lv'] 27 (0, 0)))
  (hoth : ∀ k, k < w.heap.size → k ≠ R → k ≠ B + 3 → lv.ownBlock ≠ some k → w5.heap[k]? = w.heap[k]?) (hk1 : Keep (Rg l1 h1) w1 w5) (hrd : Rd w5 R v s j b') (hij : i < j) (hbel : Below R w w5) :
  Kb R B w w5 ∧ JM R B d m v s w5 j b' ns (acc ++ [c]) := by
 have hsz := h.sz
 have hRB := h.RB
 have hlo : ∀ g, lv.ownBlock = some g → B + 6 ≤ g := fun g hg => (World.ownsRow.lt hels.own.1 g hg).1
 have hne : ∀ k, k < B + 6 → lv.ownBlock ≠ some k := fun k hk e => by have := hlo k e; omega
 have hnlt := World.ownsRow.lt hnT
 have hmet : Met w5 (B + 4) ns := by
  obtain ⟨D, ⟨es, ck, e1, er⟩, e2⟩ := h.met
  exact ⟨D, ⟨es, ck, (hoth _ (by omega) (by omega) (by omega) (hne _ (by omega))).trans e1, er⟩, e2⟩
 refine ⟨⟨hbel, fun k hk hkB => hoth k (by omega) hk (by omega) (hne k (by omega))⟩, hrd, h.RB, by omega, (hoth _ (by omega) (by omega) (by omega) (hne _ (by omega))).trans h.rb, (hoth _ (by omega) (by omega) (by omega) (hne _ (by omega))).trans h.db, (hoth _ (by omega) (by omega) (by omega) (hne _ (by omega))).trans h.res, (hoth _ (by omega) (by omega) (by omega) (hne _ (by omega))).trans h.mb, hmet, ?_, by have := h.le; omega, by have := h.le2; simp; omega, h.small⟩
 refine ⟨nv, lv', us ++ [u], _, hbox, Fresh.own_keep hnT fun g hg => hoth g (hnlt g hg).2 (by have := (hnlt g hg).1; omega) (by have := (hnlt g hg).1; omega) (hd1 g hg), hels.more hu (by omega) hl1 hh1 hs hown (fun g hg => (hb g hg).imp id And.left) (fun g hg => (hb g hg).imp id And.right) (fun g hg hlt hne' => hoth g hlt (by omega) (by omega) hne') hk1, fun g hg e => ?_, fun q hq g hg e => ?_⟩
 ·rcases hb g e with h3 | h3
  ·exact hd1 g hg h3
  ·have := (hnlt g hg).2; omega
 ·by_cases e' : q < acc.length
  ·rw [if_pos e'] at hg
   exact hd2 q e' g hg e
  ·rw [if_neg e'] at hg
   have := (hnlt g e).2
   have := hg.1
   omega
end Go.Proofs.YthkpbhgbmagaeaaGreatDoor.RState
