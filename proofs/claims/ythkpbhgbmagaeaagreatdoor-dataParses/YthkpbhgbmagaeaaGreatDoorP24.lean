import Derived.Test.YthkpbhgbmagaeaaGreatDoorP21
import Derived.Test.YthkpbhgbmagaeaaGreatDoorP23
namespace Go.Proofs.YthkpbhgbmagaeaaGreatDoor.ROne
open Go.RowKit Go.Proofs.YthkpbhgbmagaeaaGreatDoor.Base Go.Proofs.YthkpbhgbmagaeaaGreatDoor.UBase Go.Proofs.YthkpbhgbmagaeaaGreatDoor.Spec Go.Proofs.YthkpbhgbmagaeaaGreatDoor.Rdr Go.Proofs.YthkpbhgbmagaeaaGreatDoor.Take Go.Proofs.YthkpbhgbmagaeaaGreatDoor.Skip Go.Proofs.YthkpbhgbmagaeaaGreatDoor.RowR Go.Proofs.YthkpbhgbmagaeaaGreatDoor.Own Go.Proofs.YthkpbhgbmagaeaaGreatDoor.LState Go.Proofs.YthkpbhgbmagaeaaGreatDoor.LOne Go.Proofs.YthkpbhgbmagaeaaGreatDoor.NameR Go.Proofs.YthkpbhgbmagaeaaGreatDoor.RState Go.Proofs.YthkpbhgbmagaeaaGreatDoor.Copied
set_option linter.unusedVariables false
abbrev Pr := List ByteArray × List C
/-- What follows a name. -/
def stV (a : Pr) (t : ByteArray) : Except F (C × Nat × Nat) → Except F (Pr × Nat × Nat)
 | .error e => .error e
 | .ok (c, k, b') => .ok ((a.1 ++ [t], a.2 ++ [c]), k, b')
def stN (s : ByteArray) (n b : Nat) (a : Pr) : Except F (ByteArray × Nat) → Except F (Pr × Nat × Nat)
 | .error e => .error e
 | .ok (t, j) => if at' s (blk s j) = 58 then stV a t (vl s n (blk s j + 1) b) else .error (600, blk s j)
/-- The step of a record. -/
def stR (s : ByteArray) (n : Nat) : Stp Pr := fun i b a => stN s n b a (nmK s i a.1 (txt s i))
def JR (R B d m : Nat) (v : Value) (s : ByteArray) (w : World) (i b : Nat) (a : Pr) : Prop := JM R B d m v s w i b a.1 a.2 ∧ a.1.length = a.2.length
/-- A name more. -/
theorem JM.name {R B d m : Nat} {v : Value} {s : ByteArray} {w w4 : World} {i j b : Nat} {ns : List ByteArray} {acc : List C} {t : ByteArray} {nv lv nv' : Value} {us : List Value} {T : Nat → Nat → Prop} (h : JM R B d m v s w i b ns acc)
  (hnT : OwnT w (B + 6) nv ns) (hels : Els w m (B + 6) lv us acc T) (hd1 : ∀ g, nv.ownBlock = some g → lv.ownBlock ≠ some g) (hd2 : ∀ j, j < acc.length → ∀ g, T j g → nv.ownBlock ≠ some g)
  (hs : w.heap.size ≤ w4.heap.size) (hown : OwnT w4 (B + 6) nv' (ns ++ [t])) (hb : ∀ g, nv'.ownBlock = some g → nv.ownBlock = some g ∨ w.heap.size ≤ g)
  (hbox : w4.heap[B + 3]? = some (.cells #[.int .i64 6, .bool false, .int .i64 0, .string ⟨#[]⟩, nv', lv] 27 (0, 0)))
  (hoth : ∀ k, k < w.heap.size → k ≠ R → k ≠ B + 3 → k ≠ B + 4 → nv.ownBlock ≠ some k → w4.heap[k]? = w.heap[k]?) (hrd : Rd w4 R v s j b) (hmet : Met w4 (B + 4) (ns ++ [t])) (hij : i < j) (ht : t.size ≤ 4096) (hbel : Below R w w4) :
  Kb R B w w4 ∧ JM R B d m v s w4 j b (ns ++ [t]) acc := by
 have hsz := h.sz
 have hRB := h.RB
 have hnlt := World.ownsRow.lt hnT
 have hvlt := World.ownsRow.lt hels.own.1
 have hne : ∀ k, k < B + 6 → nv.ownBlock ≠ some k := fun k hk e => by have := (hnlt k e).1; omega
 refine ⟨⟨hbel, fun k hk hkB => hoth k (by omega) hk (by omega) (by omega) (hne k (by omega))⟩, hrd, h.RB, by omega, (hoth _ (by omega) (by omega) (by omega) (by omega) (hne _ (by omega))).trans h.rb, (hoth _ (by omega) (by omega) (by omega) (by omega) (hne _ (by omega))).trans h.db, (hoth _ (by omega) (by omega) (by omega) (by omega) (hne _ (by omega))).trans h.res, (hoth _ (by omega) (by omega) (by omega) (by omega) (hne _ (by omega))).trans h.mb, hmet, ?_, by have := h.le; simp; omega, by have := h.le2; omega, ?_⟩
 ·refine ⟨nv', lv, us, T, hbox, hown, ?_, fun g hg e => ?_, fun q hq g hg e => ?_⟩
  ·refine ⟨⟨Fresh.own_keep hels.own.1 fun g hg => ?_, hels.own.2⟩, hels.len, fun q h1 h2 => (hels.fs q h1 h2).keep fun g hg hlt => ?_, fun q hq g hg => ?_, hels.dis⟩
   ·have := hvlt g hg
    exact hoth g this.2 (by omega) (by omega) (by omega) (fun e => hd1 g e hg)
   ·have := hels.out q h2 g hg
    exact hoth g this.2.1 (by omega) (by omega) (by omega) (hd2 q h2 g hg)
   ·have := hels.out q hq g hg
    exact ⟨this.1, by omega, this.2.2⟩
  ·rcases hb g hg with h3 | h3
   ·exact hd1 g h3 e
   ·have := (hvlt g e).2; omega
  ·rcases hb g e with h3 | h3
   ·exact hd2 q hq g hg h3
   ·have := (hels.out q hq g hg).2.1; omega
 ·intro x hx
  rcases List.mem_append.1 hx with h3 | h3
  ·exact h.small x h3
  ·simp at h3; subst h3; exact ht
set_option maxRecDepth 20000 in
set_option maxHeartbeats 6400000 in
theorem one_c {n d m R B : Nat} {v : Value} {s : ByteArray} (hv : VIs n (d + 1) m) (hd : d ≤ 24) :
  OneIs 58 #[.pointer (some ⟨B + 3, 0, none⟩), .pointer (some ⟨B, 0, none⟩), .pointer (some ⟨B + 5, 0, none⟩), .pointer (some ⟨B + 1, 0, none⟩)] R B v s (stR s n) (JR R B d m v s) := by
 intro w i b a hJR
 obtain ⟨h, hlen⟩ := hJR
 obtain ⟨ns, acc⟩ := a
 dsimp only at h hlen
 obtain ⟨i0, hi0, hz0, hz1, hz2⟩ := info_parts info25
 obtain ⟨i9, hi9, hz90, hz91, hz92⟩ := info_parts info9
 have hRB := h.RB
 have hsz := h.sz
 have hle := h.le
 have hbd := h.rd.sz
 have hil := h.rd.le
 obtain ⟨nv, lv, us, T, hbox, hnT, hels, hd1, hd2⟩ := h.box
 have r0 := box1 h.rb
 have m0 := box1 h.mb
 obtain ⟨b0, b1, b2, b3, b4, b5⟩ := six_box hbox
 have cN := name_c (i := i) h.rd.drew (h.met.kr ((Kr.refl R w).drew) (by omega)) (by omega : R < B + 4) (by omega)
 have hst : stR s n i b (ns, acc) = stN s n b (ns, acc) (nmK s i ns (txt s i)) := rfl
 rw [hst]
 have HIN : Hid (∀ t j, nmK s i ns (txt s i) = .ok (t, j) → i < j ∧ j ≤ s.size ∧ t.size ≤ 4096) := fun t j e => by
  cases ht : txt s i with
  | error x => rw [ht] at e; cases e
  | ok y =>
   obtain ⟨t', j'⟩ := y
   rw [ht] at e
   have g := SpecIn.txt_in ht
   unfold nmK at e
   dsimp only at e
   split at e
   ·cases e
   ·cases e
    exact ⟨g.1, g.2.1, g.2.2.1⟩
 obtain ⟨X1, hX1⟩ : ∃ X1, nmK s i ns (txt s i) = X1 := ⟨_, rfl⟩
 rw [hX1] at cN HIN ⊢
 have F0 : Hid (∀ W : World, (∀ k, k ≠ R → k ≠ B + 4 → k < w.heap.size → W.heap[k]? = w.heap[k]?) → (W.cell? ⟨B, 0, none⟩ = some (.pointer (some ⟨R, 0, none⟩)) ∧ W.cell? ⟨B + 5, 0, none⟩ = some (.map (some (B + 4)))) ∧ W.cell? ⟨B + 3, 4, none⟩ = some nv) := fun W hk => by
  have e1 := hk B (by omega) (by omega) (by omega)
  have e2 := hk (B + 5) (by omega) (by omega) (by omega)
  have e3 := hk (B + 3) (by omega) (by omega) (by omega)
  exact ⟨⟨(World.cell?_of_block (w := w) e1).trans r0, (World.cell?_of_block (w := w) e2).trans m0⟩, (World.cell?_of_block (w := w) e3).trans b4⟩
 have HW : Hid (R < w.heap.size) := h.rd.lt
 obtain ⟨an, capn, env⟩ : ∃ an capn, nv = .slice an ns.length capn := by
  rcases hnT.2 with ⟨e, e0⟩ | ⟨g, cap, cur, e, _⟩
  ·exact ⟨none, 0, by rw [e, e0]⟩
  ·exact ⟨_, cap, e⟩
 subst env
 have HN0 : Hid (OwnT w (B + 6) (.slice an ns.length capn) ns) := hnT
 have HE0 : Hid (Els w m (B + 6) lv us acc T) := hels
 have HX0 : Hid (∀ g, (Value.slice an ns.length capn).ownBlock = some g → lv.ownBlock ≠ some g) := hd1
 have HY0 : Hid (∀ j, j < acc.length → ∀ g, T j g → (Value.slice an ns.length capn).ownBlock ≠ some g) := hd2
 have HB0 : Hid (w.heap[B + 3]? = some (.cells #[.int .i64 6, .bool false, .int .i64 0, .string ⟨#[]⟩, .slice an ns.length capn, lv] 27 (0, 0))) := hbox
 have HJ0 : Hid (JM R B d m v s w i b ns acc) := h
 have HLN : Hid (ns.length = acc.length) := hlen
 have HV : Hid (VIs n (d + 1) m) := hv
 unfold ptr at cN
 clear hst hbox hels h hX1 b0 b1 b2 b3 b4 b5 r0 m0 hv hnT hd1 hd2 hlen

 cases X1 with
 | error x =>
  have eK : stN s n b (ns, acc) (.error x) = .error x := rfl
  rw [eK]
  go_enter Tryz.func58, Tryz.ntmps58
  go_wp2_with fail
  refine wp_region_held_drew (S := (fun w' => w'.cell? ⟨B, 0, none⟩ = some (.pointer (some ⟨R, 0, none⟩)) ∧ w'.cell? ⟨B + 5, 0, none⟩ = some (.map (some (B + 4))))) (by kernel_rfl) ?_ (fun hHeld => ?_)
  ·exact (F0.out _ (fun _ _ _ _ => rfl)).1
  refine wpAnyH_take (i := 0) (v := ?_) rfl (by kernel_rfl) (by kernel_rfl) (by kernel_rfl) (fun _ _ _ h => h) (Or.inl ⟨by rfl, ?_⟩) (by assumption) ?_
  rotate_left 1
  ·intro w hSw; (try dsimp only at hSw); go_simp; first | done | with_reducible rfl
  try simp only [Act.put, zA, zB, zD, zE, zF]
  refine wpAnyH_take (i := 2) (v := ?_) rfl (by kernel_rfl) (by kernel_rfl) (by kernel_rfl) (fun _ _ _ h => h) (Or.inl ⟨by rfl, ?_⟩) (by assumption) ?_
  rotate_left 1
  ·intro w hSw; (try dsimp only at hSw); go_simp; first | done | with_reducible rfl
  try simp only [Act.put, zA, zB, zC, zD, zE, zF]
  refine wpAnyH_take (i := 3) (v := ?_) rfl (by kernel_rfl) (by kernel_rfl) (by kernel_rfl) (fun _ _ _ h => h) (Or.inl ⟨by rfl, ?_⟩) (by assumption) ?_
  rotate_left 1
  ·intro w hSw; (try dsimp only at hSw); go_simp; first | done | with_reducible rfl
  try simp only [Act.put, zA, zB, zC, zD, zE, zF]
  refine wpAnyH_ready (rs := [1, 4]) (by kernel_rfl) (by simp) ?_
  refine AllReadyH.cons rfl (fun K hK => ?_) (AllReadyH.cons rfl (fun K hK => ?_) AllReadyH.nil)
  ·have hl4 := (F0.out w.drew (fun _ _ _ _ => rfl)).2
   go_simp
   refine hK.out _ _ ?_ (fun hHeld => ?_)
   ·exact (F0.out _ (fun _ _ _ _ => rfl)).1
   clear hK K hl4
   try simp only [Act.put, zA, zB, zC, zD, zE, zF]
   refine wpAnyH_ready (rs := [4]) (by kernel_rfl) (by simp) ?_
   refine AllReadyH.cons rfl (fun K hK => ?_) AllReadyH.nil
   go_simp
   refine cN.mono ?_
   rintro e w1 ⟨k1, rfl⟩
   exact ⟨rfl, ⟨(Below.refl _ w).drew.trans k1.below, fun k hk hkB => (k1.other k hk (by omega) (show k < w.drew.heap.size by show k < w.heap.size; omega)).trans rfl⟩, rfl⟩
  ·go_simp
   refine cN.mono ?_
   rintro e w1 ⟨k1, rfl⟩
   exact ⟨rfl, ⟨(Below.refl _ w).drew.trans k1.below, fun k hk hkB => (k1.other k hk (by omega) (show k < w.drew.heap.size by show k < w.heap.size; omega)).trans rfl⟩, rfl⟩
 | ok y =>
  obtain ⟨t, e1⟩ := y
  have eK : stN s n b (ns, acc) (.ok (t, e1)) = if at' s (blk s e1) = 58 then stV (ns, acc) t (vl s n (blk s e1 + 1) b) else .error (600, blk s e1) := rfl
  rw [eK]
  obtain ⟨hie, hes, htz⟩ := HIN.out t e1 rfl
  obtain ⟨UU, hUU⟩ : ∃ UU, (if at' s (blk s e1) = 58 then stV (ns, acc) t (vl s n (blk s e1 + 1) b) else .error (600, blk s e1)) = UU := ⟨_, rfl⟩
  rw [hUU]
  have HUU : Hid ((if at' s (blk s e1) = 58 then stV (ns, acc) t (vl s n (blk s e1 + 1) b) else .error (600, blk s e1)) = UU) := hUU
  clear hUU eK
  go_enter Tryz.func58, Tryz.ntmps58
  go_wp2_with fail
  rename_i Q1 K1 hK1
  have KEY : ∀ (w1 w4 : World) (g3 cap3 : Nat), Kb R B w w4 → JM R B d m v s w4 e1 b (ns ++ [t]) acc → K1 { tmps := #[.pointer (some ⟨B + 3, 0, none⟩), .pointer (some ⟨B, 0, none⟩), .pointer (some ⟨B + 5, 0, none⟩), .pointer (some ⟨B + 1, 0, none⟩), .pointer (some ⟨B + 3, 4, none⟩), .slice an ns.length capn, .pointer (some ⟨R, 0, none⟩), .map (some (B + 4)), .string t, .slice (some ⟨w1.heap.size, 0, none⟩) 1 1, .slice (some ⟨g3, 0, none⟩) (ns.length + 1) cap3, .pointer (some ⟨B + 3, 4, none⟩), undef, undef, undef, undef, undef, undef, undef, undef, undef, undef, undef, undef, undef, undef, undef], defers := [] } w4 := by
   intro w1 w4 g3 cap3 KB4 J4
   refine hK1 _ _ ?_
   have HKB4 : Hid (Kb R B w w4) := KB4
   have HJ4 : Hid (JM R B d m v s w4 e1 b (ns ++ [t]) acc) := J4
   clear KB4 J4 hK1 cN
   have rq := box1 HJ4.out.rb
   unfold ptr at rq
   have c40 := blanks_c HJ4.out.rd
   unfold ptr at c40
   go_wp2_with (
    go_at_call 25
    refine c40.mono ?_
    rintro e w5 ⟨⟨r5, rfl⟩, h5, k5⟩
    have HJ5 : Hid (JM R B d m v s w5 (blk s e1) b (ns ++ [t]) acc) := HJ4.out.kr h5 k5 (blk_ge _ _)
    have KB5 : Hid (Kb R B w w5) := HKB4.out.trans (Kr.kb k5 (by have := HJ4.out.sz; omega))
    have rq5 := box1 HJ5.out.rb
    unfold ptr at rq5
    clear c40 rq k5 HJ4 HKB4)
   by_cases h58 : ¬ at' s (blk s e1) = 58
   ·have hU2 : UU = .error (600, blk s e1) := by rw [← HUU.out, if_neg h58]
    subst hU2
    have c77 := take_no h5 h58 (by omega) (by omega)
    unfold ptr at c77
    clear h5
    go_wp2_with (go_at_call 53; refine c77.mono ?_; rintro e w6 ⟨rfl, k6⟩)
    exact ⟨rfl, KB5.out.trans (Kr.kb k6 (by have := HJ5.out.sz; omega)), rfl⟩
   have h58 : at' s (blk s e1) = 58 := Decidable.of_not_not h58
   have c77 := take_c h5 h58 (by omega) (by omega)
   unfold ptr at c77
   clear h5
   go_wp2_with (go_at_call 53; refine c77.mono ?_; rintro e wq ⟨rfl, hq, kq⟩)
   have HJ : Hid (JM R B d m v s wq (blk s e1 + 1) b (ns ++ [t]) acc) := HJ5.out.kr hq kq (by omega)
   have KBQ : Hid (Kb R B w wq) := KB5.out.trans (Kr.kb kq (by have := HJ5.out.sz; omega))
   clear c77 rq5 kq HJ5 KB5 F0 HJ0 HN0 HE0 HX0 HY0 HB0
   have hR := hq
   have hszq := HJ.out.sz
   have hleq := HJ.out.le2
   have hilq := hq.le
   obtain ⟨nv, lv, us, T, hbox, hnT, hels, hd1, hd2⟩ := HJ.out.box
   have r0 := box1 HJ.out.rb
   have d0 := box1 HJ.out.db
   unfold ptr at r0
   obtain ⟨b0, b1, b2, b3, b4, b5⟩ := six_box hbox
   obtain ⟨p0, hp0⟩ : ∃ p0, blk s e1 + 1 = p0 := ⟨_, rfl⟩
   have HP0 : Hid (blk s e1 + 1 = p0) := hp0
   rw [hp0] at hR hilq hleq
   have CV : Hid (∀ W, Below wq.heap.size wq W → Calls Tryz.prog 24 #[.pointer (some ⟨R, 0, none⟩), .int .i64 ((d : Int) + 1)] W fun e w' => Kr R W w' ∧ match vl s n p0 b with
    | .ok (c, j, b') => (∃ u, e = .returned u ∧ Fs w' m (Rg W.heap.size w'.heap.size) u c) ∧ Rd w' R v s j b'
    | .error x => e = .panicked (pk x)) := fun W hW => HV.out W R v s p0 b (hR.below hW)
   obtain ⟨X, hX⟩ : ∃ X, vl s n p0 b = X := ⟨_, rfl⟩
   have hUe : stV (ns, acc) t X = UU := by rw [← HUU.out, if_pos h58, HP0.out, hX]
   rw [hX] at CV
   have hXI : Hid (∀ c j b', X = .ok (c, j, b') → p0 ≤ j ∧ j ≤ s.size ∧ p0 < j) := fun c j b' e => by rw [← hX] at e; have := SpecIn.vl_in s n p0 b c j b' hilq e; exact ⟨by omega, by omega, by omega⟩
   have FA : Hid (∀ W, Kr R wq W → (W.cell? ⟨B, 0, none⟩ = some (.pointer (some ⟨R, 0, none⟩)) ∧ W.cell? ⟨B + 1, 0, none⟩ = some (.int .i64 (d : Nat))) ∧ W.cell? ⟨B + 3, 5, none⟩ = some lv) := fun W hk => by
    have g1 := hk.other B (by omega) (by omega)
    have g2 := hk.other (B + 1) (by omega) (by omega)
    have g3 := hk.other (B + 3) (by omega) (by omega)
    exact ⟨⟨(World.cell?_of_block (w := wq) g1).trans r0, (World.cell?_of_block (w := wq) g2).trans d0⟩, (World.cell?_of_block (w := wq) g3).trans b5⟩
   have hwr : IntKind.i64.wrap ((d : Int) + 1) = (d : Int) + 1 := LOne.wrap_small (by omega) (by omega)
   have HWq : Hid (R ≤ wq.heap.size) := by have := hR.lt; show R ≤ _; omega
   obtain ⟨a5, cap5, elv⟩ : ∃ a5 cap5, lv = .slice a5 us.length cap5 := by
    rcases hels.own.1.2 with ⟨e, e0⟩ | ⟨g, cap, cur, e, _⟩
    ·exact ⟨none, 0, by rw [e, e0]⟩
    ·exact ⟨_, cap, e⟩
   subst elv
   have hul : us.length ≤ 65536 := by have := hels.len; omega
   have HELS : Hid (Els wq m (B + 6) (.slice a5 us.length cap5) us acc T) := hels
   have HNT : Hid (OwnT wq (B + 6) nv (ns ++ [t])) := hnT
   have HD1 : Hid (∀ g, nv.ownBlock = some g → (Value.slice a5 us.length cap5).ownBlock ≠ some g) := hd1
   have HD2 : Hid (∀ j, j < acc.length → ∀ g, T j g → nv.ownBlock ≠ some g) := hd2
   have HBOX : Hid (wq.heap[B + 3]? = some (.cells #[.int .i64 6, .bool false, .int .i64 0, .string ⟨#[]⟩, nv, .slice a5 us.length cap5] 27 (0, 0))) := hbox
   rw [hp0] at HJ
   clear hbox hels hR hX b0 b1 b2 b3 b4 b5 r0 d0 hq hp0 hnT hd1 hd2 HW
   have HW := HWq
   cases X with
   | error x =>
    have eK : UU = .error x := by rw [← hUe]; rfl
    subst eK
    go_wp2_with fail
    refine wp_region_held_drew (S := (fun w' => w'.cell? ⟨B, 0, none⟩ = some (.pointer (some ⟨R, 0, none⟩)) ∧ w'.cell? ⟨B + 1, 0, none⟩ = some (.int .i64 (d : Nat)))) (by kernel_rfl) ?_ (fun hHeld => ?_)
    ·exact (FA.out _ ((Kr.refl R wq).drew)).1
    refine wpAnyH_take (i := 0) (v := ?_) rfl (by kernel_rfl) (by kernel_rfl) (by kernel_rfl) (fun _ _ _ h => h) (Or.inl ⟨by rfl, ?_⟩) (by assumption) ?_
    rotate_left 1
    ·intro w hSw; (try dsimp only at hSw); go_simp; first | done | with_reducible rfl
    try simp only [Act.put, zA, zB, zD, zE, zF]
    refine wpAnyH_take (i := 2) (v := ?_) rfl (by kernel_rfl) (by kernel_rfl) (by kernel_rfl) (fun _ _ _ h => h) (Or.inl ⟨by rfl, ?_⟩) (by assumption) ?_
    rotate_left 1
    ·intro w hSw; (try dsimp only at hSw); go_simp; first | done | with_reducible rfl
    try simp only [Act.put, zA, zB, zC, zD, zE, zF]
    refine wpAnyH_take (i := 3) (v := ?_) rfl (by kernel_rfl) (by kernel_rfl) (by kernel_rfl) (fun _ _ _ h => h) (Or.inl ⟨by rfl, ?_⟩) (by assumption) ?_
    rotate_left 1
    ·intro w hSw; (try dsimp only at hSw); go_simp; first | done | with_reducible rfl
    try simp only [Act.put, zA, zB, zC, zD, zE, zF]
    refine wpAnyH_take (i := 4) (v := ?_) rfl (by kernel_rfl) (by kernel_rfl) (by kernel_rfl) (fun _ _ _ h => h) (Or.inl ⟨by rfl, ?_⟩) (by assumption) ?_
    rotate_left 1
    ·intro w hSw; (try dsimp only at hSw); go_simp; first | done | with_reducible rfl
    try simp only [Act.put, zA, zB, zC, zD, zE, zF]
    refine wpAnyH_ready (rs := [1, 5, 7]) (by kernel_rfl) (by simp) ?_
    refine AllReadyH.cons rfl (fun K hK => ?_) (AllReadyH.cons rfl (fun K hK => ?_) (AllReadyH.cons rfl (fun K hK => ?_) (AllReadyH.nil)))
    ·have hl5 := (FA.out _ ((Kr.refl R wq).drew)).2
     go_simp
     refine hK.out _ _ ?_ (fun hHeld => ?_)
     ·exact (FA.out _ ((Kr.refl R wq).drew)).1
     clear hK K hl5
     try simp only [Act.put, zA, zB, zC, zD, zE, zF]
     refine wpAnyH_take (i := 6) (v := ?_) rfl (by kernel_rfl) (by kernel_rfl) (by kernel_rfl) (fun _ _ _ h => h) (Or.inl ⟨by rfl, ?_⟩) (by assumption) ?_
     rotate_left 1
     ·intro wq hSw; (try dsimp only at hSw); go_simp; first | done | with_reducible rfl
     try simp only [Act.put, zA, zB, zC, zD, zE, zF]
     refine wpAnyH_ready (rs := [5, 7]) (by kernel_rfl) (by simp) ?_
     refine AllReadyH.cons rfl (fun K hK => ?_) (AllReadyH.cons rfl (fun K hK => ?_) (AllReadyH.nil))
     ·go_simp
      have cv := CV.out _ ((Below.refl _ wq).drew)
      refine cv.mono ?_
      rintro e w1 ⟨k1, rfl⟩
      exact ⟨rfl, KBQ.out.trans (Kr.kb (((Kr.refl R wq).drew).trans k1) (by omega)), rfl⟩
     ·go_simp
      refine hK.out _ _ ?_ (fun hHeld => ?_)
      ·exact (FA.out _ (((Kr.refl R wq).alloc HW.out (.cells #[.int .i64 0, .bool false, .int .i64 0, .string ⟨#[]⟩, .slice none 0 0, .slice none 0 0] 27)).drew)).1
      clear hK K
      try simp only [Act.put, zA, zB, zC, zD, zE, zF]
      refine wpAnyH_ready (rs := [5]) (by kernel_rfl) (by simp) ?_
      refine AllReadyH.cons rfl (fun K hK => ?_) (AllReadyH.nil)
      ·go_simp
       have cv := CV.out _ (((Below.refl _ wq).alloc (Nat.le_refl _) (.cells #[.int .i64 0, .bool false, .int .i64 0, .string ⟨#[]⟩, .slice none 0 0, .slice none 0 0] 27)).drew)
       refine cv.mono ?_
       rintro e w1 ⟨k1, rfl⟩
       exact ⟨rfl, KBQ.out.trans (Kr.kb ((((Kr.refl R wq).alloc HW.out (.cells #[.int .i64 0, .bool false, .int .i64 0, .string ⟨#[]⟩, .slice none 0 0, .slice none 0 0] 27)).drew).trans k1) (by omega)), rfl⟩
    ·go_simp
     have cv := CV.out _ ((Below.refl _ wq).drew)
     refine cv.mono ?_
     rintro e w1 ⟨k1, rfl⟩
     exact ⟨rfl, KBQ.out.trans (Kr.kb (((Kr.refl R wq).drew).trans k1) (by omega)), rfl⟩
    ·go_simp
     refine hK.out _ _ ?_ (fun hHeld => ?_)
     ·exact (FA.out _ (((Kr.refl R wq).alloc HW.out (.cells #[.int .i64 0, .bool false, .int .i64 0, .string ⟨#[]⟩, .slice none 0 0, .slice none 0 0] 27)).drew)).1
     clear hK K
     try simp only [Act.put, zA, zB, zC, zD, zE, zF]
     refine wpAnyH_ready (rs := [1, 5]) (by kernel_rfl) (by simp) ?_
     refine AllReadyH.cons rfl (fun K hK => ?_) (AllReadyH.cons rfl (fun K hK => ?_) (AllReadyH.nil))
     ·have hl5 := (FA.out _ (((Kr.refl R wq).alloc HW.out (.cells #[.int .i64 0, .bool false, .int .i64 0, .string ⟨#[]⟩, .slice none 0 0, .slice none 0 0] 27)).drew)).2
      go_simp
      refine hK.out _ _ ?_ (fun hHeld => ?_)
      ·exact (FA.out _ (((Kr.refl R wq).alloc HW.out (.cells #[.int .i64 0, .bool false, .int .i64 0, .string ⟨#[]⟩, .slice none 0 0, .slice none 0 0] 27)).drew)).1
      clear hK K hl5
      try simp only [Act.put, zA, zB, zC, zD, zE, zF]
      refine wpAnyH_take (i := 6) (v := ?_) rfl (by kernel_rfl) (by kernel_rfl) (by kernel_rfl) (fun _ _ _ h => h) (Or.inl ⟨by rfl, ?_⟩) (by assumption) ?_
      rotate_left 1
      ·intro wq hSw; (try dsimp only at hSw); go_simp; first | done | with_reducible rfl
      try simp only [Act.put, zA, zB, zC, zD, zE, zF]
      refine wpAnyH_ready (rs := [5]) (by kernel_rfl) (by simp) ?_
      refine AllReadyH.cons rfl (fun K hK => ?_) (AllReadyH.nil)
      ·go_simp
       have cv := CV.out _ (((Below.refl _ wq).alloc (Nat.le_refl _) (.cells #[.int .i64 0, .bool false, .int .i64 0, .string ⟨#[]⟩, .slice none 0 0, .slice none 0 0] 27)).drew)
       refine cv.mono ?_
       rintro e w1 ⟨k1, rfl⟩
       exact ⟨rfl, KBQ.out.trans (Kr.kb ((((Kr.refl R wq).alloc HW.out (.cells #[.int .i64 0, .bool false, .int .i64 0, .string ⟨#[]⟩, .slice none 0 0, .slice none 0 0] 27)).drew).trans k1) (by omega)), rfl⟩
     ·go_simp
      have cv := CV.out _ (((Below.refl _ wq).alloc (Nat.le_refl _) (.cells #[.int .i64 0, .bool false, .int .i64 0, .string ⟨#[]⟩, .slice none 0 0, .slice none 0 0] 27)).drew)
      refine cv.mono ?_
      rintro e w1 ⟨k1, rfl⟩
      exact ⟨rfl, KBQ.out.trans (Kr.kb ((((Kr.refl R wq).alloc HW.out (.cells #[.int .i64 0, .bool false, .int .i64 0, .string ⟨#[]⟩, .slice none 0 0, .slice none 0 0] 27)).drew).trans k1) (by omega)), rfl⟩
   | ok y =>
    obtain ⟨c, j, b'⟩ := y
    have eK : UU = .ok ((ns ++ [t], acc ++ [c]), j, b') := by rw [← hUe]; rfl
    subst eK
    go_wp2_with fail
    refine wp_region_held_drew (S := (fun w' => w'.cell? ⟨B, 0, none⟩ = some (.pointer (some ⟨R, 0, none⟩)) ∧ w'.cell? ⟨B + 1, 0, none⟩ = some (.int .i64 (d : Nat)))) (by kernel_rfl) ?_ (fun hHeld => ?_)
    ·exact (FA.out _ ((Kr.refl R wq).drew)).1
    refine wpAnyH_take (i := 0) (v := ?_) rfl (by kernel_rfl) (by kernel_rfl) (by kernel_rfl) (fun _ _ _ h => h) (Or.inl ⟨by rfl, ?_⟩) (by assumption) ?_
    rotate_left 1
    ·intro w hSw; (try dsimp only at hSw); go_simp; first | done | with_reducible rfl
    try simp only [Act.put, zA, zB, zD, zE, zF]
    refine wpAnyH_take (i := 2) (v := ?_) rfl (by kernel_rfl) (by kernel_rfl) (by kernel_rfl) (fun _ _ _ h => h) (Or.inl ⟨by rfl, ?_⟩) (by assumption) ?_
    rotate_left 1
    ·intro w hSw; (try dsimp only at hSw); go_simp; first | done | with_reducible rfl
    try simp only [Act.put, zA, zB, zC, zD, zE, zF]
    refine wpAnyH_take (i := 3) (v := ?_) rfl (by kernel_rfl) (by kernel_rfl) (by kernel_rfl) (fun _ _ _ h => h) (Or.inl ⟨by rfl, ?_⟩) (by assumption) ?_
    rotate_left 1
    ·intro w hSw; (try dsimp only at hSw); go_simp; first | done | with_reducible rfl
    try simp only [Act.put, zA, zB, zC, zD, zE, zF]
    refine wpAnyH_take (i := 4) (v := ?_) rfl (by kernel_rfl) (by kernel_rfl) (by kernel_rfl) (fun _ _ _ h => h) (Or.inl ⟨by rfl, ?_⟩) (by assumption) ?_
    rotate_left 1
    ·intro w hSw; (try dsimp only at hSw); go_simp; first | done | with_reducible rfl
    try simp only [Act.put, zA, zB, zC, zD, zE, zF]
    refine wpAnyH_ready (rs := [1, 5, 7]) (by kernel_rfl) (by simp) ?_
    refine AllReadyH.cons rfl (fun K hK => ?_) (AllReadyH.cons rfl (fun K hK => ?_) (AllReadyH.cons rfl (fun K hK => ?_) (AllReadyH.nil)))
    ·have hl5 := (FA.out _ ((Kr.refl R wq).drew)).2
     go_simp
     refine hK.out _ _ ?_ (fun hHeld => ?_)
     ·exact (FA.out _ ((Kr.refl R wq).drew)).1
     clear hK K hl5
     try simp only [Act.put, zA, zB, zC, zD, zE, zF]
     refine wpAnyH_take (i := 6) (v := ?_) rfl (by kernel_rfl) (by kernel_rfl) (by kernel_rfl) (fun _ _ _ h => h) (Or.inl ⟨by rfl, ?_⟩) (by assumption) ?_
     rotate_left 1
     ·intro wq hSw; (try dsimp only at hSw); go_simp; first | done | with_reducible rfl
     try simp only [Act.put, zA, zB, zC, zD, zE, zF]
     refine wpAnyH_ready (rs := [5, 7]) (by kernel_rfl) (by simp) ?_
     refine AllReadyH.cons rfl (fun K hK => ?_) (AllReadyH.cons rfl (fun K hK => ?_) (AllReadyH.nil))
     ·go_simp
      have cv := CV.out _ ((Below.refl _ wq).drew)
      refine cv.mono ?_
      rintro e w1 ⟨k1, ⟨u, rfl, hu⟩, h1⟩
      obtain ⟨x0, x1, x2, x3, x4, x5, rfl, hone⟩ := hu.in.six
      obtain ⟨p1, y1, r1, p2, y2, r2, rfl, rfl, rfl, rfl, rfl, rfl⟩ := hu.in.kinds
      have kk := ((Kr.refl R wq).drew).trans k1
      go_wp2_with fail
      refine hK.out _ _ ?_ (fun hHeld => ?_)
      ·exact (FA.out _ kk).1
      clear hK K cv
      try simp only [Act.put, zA, zB, zC, zD, zE, zF]
      refine wpAnyH_ready (rs := [7]) (by kernel_rfl) (by simp) ?_
      refine AllReadyH.cons rfl (fun K hK => ?_) (AllReadyH.nil)
      ·go_simp
       refine hK.out _ _ ?_ (fun hHeld => ?_)
       ·exact (FA.out _ (kk.alloc (by have := HW.out; have := kk.below.size; omega) (.cells #[.int .i64 0, .bool false, .int .i64 0, .string ⟨#[]⟩, .slice none 0 0, .slice none 0 0] 27))).1
       clear hK K
       try simp only [Act.put, zA, zB, zC, zD, zE, zF]
       have hs1 := k1.below.size
       have hsw : wq.heap.size ≤ w1.heap.size := hs1
       have kz : Kr R wq (w1.alloc (.cells #[.int .i64 0, .bool false, .int .i64 0, .string ⟨#[]⟩, .slice none 0 0, .slice none 0 0] 27)) := kk.alloc (by have := HW.out; omega) _
       have hzc := new_cells w1 [.int .i64 0, .bool false, .int .i64 0, .string ⟨#[]⟩, .slice none 0 0, .slice none 0 0] 27
       have hown2 := Byts.own_kr HELS.out.own.1 kz (by omega : R < B + 6)
       obtain ⟨lv', w3, hrun, hown3, hgrow, -, hat⟩ := run_append_own_at (P := Tryz.prog) (w1.alloc (.cells #[.int .i64 0, .bool false, .int .i64 0, .string ⟨#[]⟩, .slice none 0 0, .slice none 0 0] 27)) (B + 6) 25 25 27 i0 (.agg #[.int .i64 0, .bool false, .int .i64 0, .string ⟨#[]⟩, .slice none 0 0, .slice none 0 0]) 6 88 Tryz.underlying25 hi0 hz0 hz1 hz2 rfl (by decide) _ _ _ hown2 ⟨w1.heap.size, 0, none⟩ 1 1 [.int .i64 0, .bool false, .int .i64 0, .string ⟨#[]⟩, .slice none 0 0, .slice none 0 0] rfl hzc (by decide) (by unfold maxLen; omega) (by omega) (by have := kz.below.size; omega)
       obtain ⟨g3, cap3, rfl⟩ : ∃ g3 cap3, lv' = .slice (some ⟨g3, 0, none⟩) (us.length + 1) cap3 := by
        rcases hown3.2 with ⟨_, e⟩ | ⟨g, cap, cur, e, _⟩
        ·omega
        ·exact ⟨g, cap, e⟩
       have OV3 : Hid (OwnV w3 (B + 6) (.slice (some ⟨g3, 0, none⟩) (us.length + 1) cap3) (us ++ [.agg #[.int .i64 0, .bool false, .int .i64 0, .string ⟨#[]⟩, .slice none 0 0, .slice none 0 0]])) := by
        refine ⟨?_, sixes_snoc HELS.out.own.2 ⟨_, _, _, _, _, _, rfl, by decide⟩⟩
        rw [flat_append, List.length_append]
        exact hown3
       have hg3 := World.ownsRow.lt hown3 g3 rfl
       have hkc : cap3 ≤ 9223372036854775807 ∧ us.length + 1 ≤ cap3 := by have := ownV_cap OV3.out; unfold maxLen at this; omega
       obtain ⟨hkc1, hkc2⟩ := hkc
       have hG : Hid (∀ k, k < wq.heap.size → k ≠ R → (Value.slice a5 us.length cap5).ownBlock ≠ some k → w3.heap[k]? = wq.heap[k]?) := fun k hk hkR hne => (hgrow.block k (by have := kz.below.size; omega) (fun e => hne e.symm)).trans (kz.other k hkR hk)
       have hsz3 : Hid ((w1.alloc (.cells #[.int .i64 0, .bool false, .int .i64 0, .string ⟨#[]⟩, .slice none 0 0, .slice none 0 0] 27)).heap.size ≤ w3.heap.size) := hgrow.size
       have hRd3 : Hid (Rd w3 R v s j b') := Byts.rd_grown (B := B + 6) (h1.below ((Below.refl _ w1).alloc (Nat.le_refl _) _)) (by omega) hgrow (fun k hk => (World.ownsRow.lt hown2 k hk).1)
       have hBel3 : Hid (Below R wq w3) := kz.below.grown hgrow (by have := HW.out; have := kz.below.size; omega) (fun k hk => by have := (World.ownsRow.lt hown2 k hk).1; omega)
       have hAt : Hid ((Value.slice (some ⟨g3, 0, none⟩) (us.length + 1) cap3).ownBlock = (Value.slice a5 us.length cap5).ownBlock ∨ (Value.slice (some ⟨g3, 0, none⟩) (us.length + 1) cap3).ownBlock = some (w1.alloc (.cells #[.int .i64 0, .bool false, .int .i64 0, .string ⟨#[]⟩, .slice none 0 0, .slice none 0 0] 27)).heap.size) := hat
       have hK1 : Hid (Keep (Rg wq.drew.heap.size w1.heap.size) w1 w3) := fun k hk hlt => by
        have hk1 := hk.1
        have e0 : wq.drew.heap.size = wq.heap.size := rfl
        rw [hgrow.block k (by have := hk.2; simp; omega) (fun e => by have := (World.ownsRow.lt HELS.out.own.1 k e.symm).2; omega)]
        exact Below.heap_alloc _ _ _ hlt
       have hS3 : (fun w' => w'.cell? ⟨B, 0, none⟩ = some (.pointer (some ⟨R, 0, none⟩)) ∧ w'.cell? ⟨B + 1, 0, none⟩ = some (.int .i64 (d : Nat))) w3 := by
        have e1 := hG.out B (by omega) (by omega) (fun e => by have := (World.ownsRow.lt HELS.out.own.1 B e).1; omega)
        have e2 := hG.out (B + 1) (by omega) (by omega) (fun e => by have := (World.ownsRow.lt HELS.out.own.1 (B + 1) e).1; omega)
        have s0 := (FA.out wq (Kr.refl R wq)).1
        exact ⟨(World.cell?_of_block (w := wq) e1).trans s0.1, (World.cell?_of_block (w := wq) e2).trans s0.2⟩
       have hbx3 : w3.heap[B + 3]? = some (.cells #[.int .i64 6, .bool false, .int .i64 0, .string ⟨#[]⟩, nv, .slice a5 us.length cap5] 27 (0, 0)) := (hG.out (B + 3) (by omega) (by omega) (fun e => by have := (World.ownsRow.lt HELS.out.own.1 (B + 3) e).1; omega)).trans HBOX.out
       have HBX3 : Hid (w3.heap[B + 3]? = some (.cells #[.int .i64 6, .bool false, .int .i64 0, .string ⟨#[]⟩, nv, .slice a5 us.length cap5] 27 (0, 0))) := hbx3
       clear hown2 hzc hgrow hat hown3 hHeld
       refine wpAnyH_ready (rs := [8]) (by kernel_rfl) (by simp) ?_
       refine AllReadyH.cons rfl (fun K hK => ?_) AllReadyH.nil
       refine op_append rfl (Operand.tmp 17) (Operand.tmp 23) 25 rfl rfl rfl hrun ?_
       refine hK.out _ _ hS3 (fun hHeld => ?_)
       clear hK K hrun
       try simp only [Act.put, zA, zB, zC, zD, zE, zF]
       have n1 : (0 : Int) ≤ (us.length : Int) := by omega
       have n2 : (us.length : Int) < (us.length : Int) + 1 := by omega
       refine wpAnyH_take (i := 9) (v := ?_) rfl (by kernel_rfl) (by kernel_rfl) (by kernel_rfl) (fun _ _ _ h => h) (Or.inl ⟨by rfl, ?_⟩) (by assumption) ?_
       rotate_left 1
       ·intro wq hSw; (try dsimp only at hSw); go_simp; first | done | with_reducible rfl
       try simp only [Act.put, zA, zB, zC, zD, zE, zF]
       refine wpAnyH_take (i := 11) (v := ?_) rfl (by kernel_rfl) (by kernel_rfl) (by kernel_rfl) (fun _ _ _ h => h) (Or.inl ⟨by rfl, ?_⟩) (by assumption) ?_
       rotate_left 1
       ·intro wq hSw; (try dsimp only at hSw); go_simp; first | done | with_reducible rfl
       try simp only [Act.put, zA, zB, zC, zD, zE, zF]
       obtain ⟨q0, q1, q2, q3, q4, q5, eq, c0, c1, c2, c3, c4, c5⟩ := ownV_six OV3.out us.length (by simp)
       have fz := fun j => Copied.frozen_own OV3.out.1 j
       rw [Nat.zero_add] at c0 c1 c2 c3 c4 c5
       obtain ⟨m0, m1, m2, m3, m4, m5⟩ := six_box hbx3
       have mf := frozen_box hbx3 5
       have f0 := fz (us.length * 6)
       have f1 := fz (us.length * 6 + 1)
       have f2 := fz (us.length * 6 + 2)
       have f3 := fz (us.length * 6 + 3)
       have f4 := fz (us.length * 6 + 4)
       have f5 := fz (us.length * 6 + 5)
       clear fz eq hbx3
       have gB : ¬ B + 3 = g3 := by omega
       have gB' : ¬ g3 = B + 3 := by omega
       have hgB : ∀ g, (Value.slice (some ⟨g3, 0, none⟩) (us.length + 1) cap3).ownBlock = some g → g ≠ B + 3 := fun g hg e => by
        have e3 : g3 = g := by simpa [Value.ownBlock] using hg
        omega
       refine wpAnyH_ready (rs := [10, 12]) (by kernel_rfl) (by simp) ?_
       refine AllReadyH.cons rfl (fun K hK => ?_) (AllReadyH.cons rfl (fun K hK => ?_) AllReadyH.nil)
       ·go_simp
        obtain ⟨w4, hw4⟩ : ∃ w4, ((((((w3.setCell ⟨g3, us.length * 6, none⟩ (.int .i64 c.k)).setCell ⟨g3, us.length * 6 + 1, none⟩ (.bool c.b)).setCell ⟨g3, us.length * 6 + 2, none⟩ (.int .i64 c.i)).setCell ⟨g3, us.length * 6 + 3, none⟩ (.string c.s)).setCell ⟨g3, us.length * 6 + 4, none⟩ (.slice p1 y1 r1)).setCell ⟨g3, us.length * 6 + 5, none⟩ (.slice p2 y2 r2)) = w4 := ⟨_, rfl⟩
        rw [hw4]
        obtain ⟨OV4, ot4, sz4, bel4⟩ := set_last OV3.out hone hw4
        have ot4' : ∀ k, k ≠ g3 → k ≠ B + 3 → w4.heap[k]? = w3.heap[k]? := fun k hk _ => ot4 k hk
        clear c0 c1 c2 c3 c4 c5 f0 f1 f2 f3 f4 f5 m0 m1 m2 m3 m4 m5 mf hw4
        have hbx4 := (ot4 (B + 3) gB).trans HBX3.out
        obtain ⟨m0, m1, m2, m3, m4, m5⟩ := six_box hbx4
        have mf := frozen_box hbx4 5
        have Sw4 : (fun w' => w'.cell? ⟨B, 0, none⟩ = some (.pointer (some ⟨R, 0, none⟩)) ∧ w'.cell? ⟨B + 1, 0, none⟩ = some (.int .i64 (d : Nat))) w4 := ⟨(World.cell?_of_block (w := w3) (ot4' B (by omega) (by omega))).trans hS3.1, (World.cell?_of_block (w := w3) (ot4' (B + 1) (by omega) (by omega))).trans hS3.2⟩
        refine hK.out _ _ Sw4 (fun hHeld => ?_)
        clear hK K
        try simp only [Act.put, zA, zB, zC, zD, zE, zF]
        refine wpAnyH_ready (rs := [12]) (by kernel_rfl) (by simp) ?_
        refine AllReadyH.cons rfl (fun K hK => ?_) AllReadyH.nil
        go_simp
        obtain ⟨w5, hw5⟩ : ∃ w5, w4.setCell ⟨B + 3, 5, none⟩ (.slice (some ⟨g3, 0, none⟩) (us.length + 1) cap3) = w5 := ⟨_, rfl⟩
        rw [hw5]
        have ot5 : ∀ k, k ≠ g3 → k ≠ B + 3 → w5.heap[k]? = w3.heap[k]? := fun k hk hk2 => by rw [← hw5, Below.heap_setCell _ _ _ _ hk2]; exact ot4 k hk
        have hBox5 : w5.heap[B + 3]? = some (.cells #[.int .i64 6, .bool false, .int .i64 0, .string ⟨#[]⟩, nv, (.slice (some ⟨g3, 0, none⟩) (us.length + 1) cap3)] 27 (0, 0)) := by rw [← hw5, bset hbx4]; rfl
        have OV5 : OwnV w5 (B + 6) (.slice (some ⟨g3, 0, none⟩) (us.length + 1) cap3) (us ++ [.agg #[.int .i64 c.k, .bool c.b, .int .i64 c.i, .string c.s, .slice p1 y1 r1, .slice p2 y2 r2]]) := ⟨Fresh.own_keep OV4.1 fun g hg => by rw [← hw5]; exact Below.heap_setCell _ _ _ _ (hgB g hg), OV4.2⟩
        have sz5 : w5.heap.size = w3.heap.size := by rw [← hw5]; simpa [World.setCell] using sz4
        have bel5 : Below R wq w5 := by rw [← hw5]; exact (bel4 wq R (by omega) hBel3.out).setCell (p := ⟨B + 3, 5, none⟩) (by simp; omega) _
        have Sw5 : (fun w' => w'.cell? ⟨B, 0, none⟩ = some (.pointer (some ⟨R, 0, none⟩)) ∧ w'.cell? ⟨B + 1, 0, none⟩ = some (.int .i64 (d : Nat))) w5 := ⟨(World.cell?_of_block (w := w3) (ot5 B (by omega) (by omega))).trans hS3.1, (World.cell?_of_block (w := w3) (ot5 (B + 1) (by omega) (by omega))).trans hS3.2⟩
        refine hK.out _ _ Sw5 (fun hHeld => ?_)
        clear hK K hw5 m0 m1 m2 m3 m4 m5 mf
        try simp only [Act.put, zA, zB, zC, zD, zE, zF]
        refine wpAnyH_done (by kernel_rfl) ?_ _
        go_wp2_with fail
        go_end0
        have hgg : ∀ k, k < wq.heap.size → (Value.slice a5 us.length cap5).ownBlock ≠ some k → k ≠ g3 := fun k hk hne e => by
         rcases hAt.out with h9 | h9
         ·exact hne (h9.symm.trans (by rw [e]; rfl))
         ·have h8 : g3 = (w1.alloc (.cells #[.int .i64 0, .bool false, .int .i64 0, .string ⟨#[]⟩, .slice none 0 0, .slice none 0 0] 27)).heap.size := by simpa [Value.ownBlock] using h9
          have := kz.below.size
          omega
        have hr5 : Rd w5 R v s j b' := hRd3.out.keep fun k hk => ot5 k (by omega) (by omega)
        have hXj := hXI.out c j b' rfl
        have e00 : wq.heap.size ≤ wq.drew.heap.size := Nat.le_refl _
        have hs35 := hsz3.out
        rw [World.size_alloc] at hs35
        obtain ⟨kb5, jl5⟩ := HJ.out.more HNT.out HELS.out HD1.out HD2.out hu e00 (by omega) (by omega) OV5 (fun g hg => by
          rcases hAt.out with h9 | h9
          ·exact .inl (h9.symm.trans hg)
          ·have h8 : g = (w1.alloc (.cells #[.int .i64 0, .bool false, .int .i64 0, .string ⟨#[]⟩, .slice none 0 0, .slice none 0 0] 27)).heap.size := by have := hg.symm.trans h9; simpa using this
           rw [World.size_alloc] at h8
           exact .inr ⟨by omega, by omega⟩
         ) hBox5 (fun k hk hkR hkB hne => (ot5 k (hgg k hk hne) hkB).trans (hG.out k hk hkR hne)) (fun k hk hlt => by
          have hk1 := hk.1
          have hk2 := hk.2
          refine (ot5 k (fun e => ?_) (by omega)).trans (hK1.out k hk hlt)
          rcases hAt.out with h9 | h9
          ·have := (World.ownsRow.lt HELS.out.own.1 g3 (h9.symm.trans rfl)).2
           omega
          ·have h8 : g3 = (w1.alloc (.cells #[.int .i64 0, .bool false, .int .i64 0, .string ⟨#[]⟩, .slice none 0 0, .slice none 0 0] 27)).heap.size := by simpa [Value.ownBlock] using h9
           rw [World.size_alloc] at h8
           omega
         ) hr5 (by omega) bel5
        exact ⟨KBQ.out.trans kb5, rfl, jl5, by simp [HLN.out]⟩
       ·go_simp
        obtain ⟨w4, hw4⟩ : ∃ w4, w3.setCell ⟨B + 3, 5, none⟩ (.slice (some ⟨g3, 0, none⟩) (us.length + 1) cap3) = w4 := ⟨_, rfl⟩
        rw [hw4]
        have ot4 : ∀ k, k ≠ B + 3 → w4.heap[k]? = w3.heap[k]? := fun k hk2 => by rw [← hw4]; exact Below.heap_setCell _ _ _ _ hk2
        have ot4' : ∀ k, k ≠ g3 → k ≠ B + 3 → w4.heap[k]? = w3.heap[k]? := fun k _ hk2 => ot4 k hk2
        have hbx4 : w4.heap[B + 3]? = some (.cells #[.int .i64 6, .bool false, .int .i64 0, .string ⟨#[]⟩, nv, (.slice (some ⟨g3, 0, none⟩) (us.length + 1) cap3)] 27 (0, 0)) := by rw [← hw4, bset HBX3.out]; rfl
        have OV4 : OwnV w4 (B + 6) (.slice (some ⟨g3, 0, none⟩) (us.length + 1) cap3) (us ++ [.agg #[.int .i64 0, .bool false, .int .i64 0, .string ⟨#[]⟩, .slice none 0 0, .slice none 0 0]]) := ⟨Fresh.own_keep OV3.out.1 fun g hg => ot4 g (hgB g hg), OV3.out.2⟩
        have sz4 : w4.heap.size = w3.heap.size := by rw [← hw4]; simp [World.setCell]
        have bel4 : Below R wq w4 := by rw [← hw4]; exact hBel3.out.setCell (p := ⟨B + 3, 5, none⟩) (by simp; omega) _
        clear c0 c1 c2 c3 c4 c5 f0 f1 f2 f3 f4 f5 m0 m1 m2 m3 m4 m5 mf hw4
        obtain ⟨q0', q1', q2', q3', q4', q5', eq, c0, c1, c2, c3, c4, c5⟩ := ownV_six OV4 us.length (by simp)
        have fz := fun j => Copied.frozen_own OV4.1 j
        rw [Nat.zero_add] at c0 c1 c2 c3 c4 c5
        have f0 := fz (us.length * 6)
        have f1 := fz (us.length * 6 + 1)
        have f2 := fz (us.length * 6 + 2)
        have f3 := fz (us.length * 6 + 3)
        have f4 := fz (us.length * 6 + 4)
        have f5 := fz (us.length * 6 + 5)
        clear fz eq
        have Sw4 : (fun w' => w'.cell? ⟨B, 0, none⟩ = some (.pointer (some ⟨R, 0, none⟩)) ∧ w'.cell? ⟨B + 1, 0, none⟩ = some (.int .i64 (d : Nat))) w4 := ⟨(World.cell?_of_block (w := w3) (ot4' B (by omega) (by omega))).trans hS3.1, (World.cell?_of_block (w := w3) (ot4' (B + 1) (by omega) (by omega))).trans hS3.2⟩
        refine hK.out _ _ Sw4 (fun hHeld => ?_)
        clear hK K
        try simp only [Act.put, zA, zB, zC, zD, zE, zF]
        refine wpAnyH_ready (rs := [10]) (by kernel_rfl) (by simp) ?_
        refine AllReadyH.cons rfl (fun K hK => ?_) AllReadyH.nil
        go_simp
        obtain ⟨w5, hw5⟩ : ∃ w5, ((((((w4.setCell ⟨g3, us.length * 6, none⟩ (.int .i64 c.k)).setCell ⟨g3, us.length * 6 + 1, none⟩ (.bool c.b)).setCell ⟨g3, us.length * 6 + 2, none⟩ (.int .i64 c.i)).setCell ⟨g3, us.length * 6 + 3, none⟩ (.string c.s)).setCell ⟨g3, us.length * 6 + 4, none⟩ (.slice p1 y1 r1)).setCell ⟨g3, us.length * 6 + 5, none⟩ (.slice p2 y2 r2)) = w5 := ⟨_, rfl⟩
        rw [hw5]
        obtain ⟨OV5, oth5, sz5', bel5'⟩ := set_last OV4 hone hw5
        have ot5 : ∀ k, k ≠ g3 → k ≠ B + 3 → w5.heap[k]? = w3.heap[k]? := fun k hk hk2 => (oth5 k hk).trans (ot4 k hk2)
        have hBox5 := (oth5 (B + 3) gB).trans hbx4
        have sz5 : w5.heap.size = w3.heap.size := sz5'.trans sz4
        have bel5 : Below R wq w5 := bel5' wq R (by omega) bel4
        have Sw5 : (fun w' => w'.cell? ⟨B, 0, none⟩ = some (.pointer (some ⟨R, 0, none⟩)) ∧ w'.cell? ⟨B + 1, 0, none⟩ = some (.int .i64 (d : Nat))) w5 := ⟨(World.cell?_of_block (w := w3) (ot5 B (by omega) (by omega))).trans hS3.1, (World.cell?_of_block (w := w3) (ot5 (B + 1) (by omega) (by omega))).trans hS3.2⟩
        refine hK.out _ _ Sw5 (fun hHeld => ?_)
        clear hK K hw5 c0 c1 c2 c3 c4 c5 f0 f1 f2 f3 f4 f5
        try simp only [Act.put, zA, zB, zC, zD, zE, zF]
        refine wpAnyH_done (by kernel_rfl) ?_ _
        go_wp2_with fail
        go_end0
        have hgg : ∀ k, k < wq.heap.size → (Value.slice a5 us.length cap5).ownBlock ≠ some k → k ≠ g3 := fun k hk hne e => by
         rcases hAt.out with h9 | h9
         ·exact hne (h9.symm.trans (by rw [e]; rfl))
         ·have h8 : g3 = (w1.alloc (.cells #[.int .i64 0, .bool false, .int .i64 0, .string ⟨#[]⟩, .slice none 0 0, .slice none 0 0] 27)).heap.size := by simpa [Value.ownBlock] using h9
          have := kz.below.size
          omega
        have hr5 : Rd w5 R v s j b' := hRd3.out.keep fun k hk => ot5 k (by omega) (by omega)
        have hXj := hXI.out c j b' rfl
        have e00 : wq.heap.size ≤ wq.drew.heap.size := Nat.le_refl _
        have hs35 := hsz3.out
        rw [World.size_alloc] at hs35
        obtain ⟨kb5, jl5⟩ := HJ.out.more HNT.out HELS.out HD1.out HD2.out hu e00 (by omega) (by omega) OV5 (fun g hg => by
          rcases hAt.out with h9 | h9
          ·exact .inl (h9.symm.trans hg)
          ·have h8 : g = (w1.alloc (.cells #[.int .i64 0, .bool false, .int .i64 0, .string ⟨#[]⟩, .slice none 0 0, .slice none 0 0] 27)).heap.size := by have := hg.symm.trans h9; simpa using this
           rw [World.size_alloc] at h8
           exact .inr ⟨by omega, by omega⟩
         ) hBox5 (fun k hk hkR hkB hne => (ot5 k (hgg k hk hne) hkB).trans (hG.out k hk hkR hne)) (fun k hk hlt => by
          have hk1 := hk.1
          have hk2 := hk.2
          refine (ot5 k (fun e => ?_) (by omega)).trans (hK1.out k hk hlt)
          rcases hAt.out with h9 | h9
          ·have := (World.ownsRow.lt HELS.out.own.1 g3 (h9.symm.trans rfl)).2
           omega
          ·have h8 : g3 = (w1.alloc (.cells #[.int .i64 0, .bool false, .int .i64 0, .string ⟨#[]⟩, .slice none 0 0, .slice none 0 0] 27)).heap.size := by simpa [Value.ownBlock] using h9
           rw [World.size_alloc] at h8
           omega
         ) hr5 (by omega) bel5
        exact ⟨KBQ.out.trans kb5, rfl, jl5, by simp [HLN.out]⟩
     ·go_simp
      refine hK.out _ _ ?_ (fun hHeld => ?_)
      ·exact (FA.out _ (((Kr.refl R wq).alloc HW.out (.cells #[.int .i64 0, .bool false, .int .i64 0, .string ⟨#[]⟩, .slice none 0 0, .slice none 0 0] 27)).drew)).1
      clear hK K
      try simp only [Act.put, zA, zB, zC, zD, zE, zF]
      refine wpAnyH_ready (rs := [5]) (by kernel_rfl) (by simp) ?_
      refine AllReadyH.cons rfl (fun K hK => ?_) (AllReadyH.nil)
      ·go_simp
       have cv := CV.out _ (((Below.refl _ wq).alloc (Nat.le_refl _) (.cells #[.int .i64 0, .bool false, .int .i64 0, .string ⟨#[]⟩, .slice none 0 0, .slice none 0 0] 27)).drew)
       refine cv.mono ?_
       rintro e w1 ⟨k1, ⟨u, rfl, hu⟩, h1⟩
       obtain ⟨x0, x1, x2, x3, x4, x5, rfl, hone⟩ := hu.in.six
       obtain ⟨p1, y1, r1, p2, y2, r2, rfl, rfl, rfl, rfl, rfl, rfl⟩ := hu.in.kinds
       have kk := (((Kr.refl R wq).alloc HW.out (.cells #[.int .i64 0, .bool false, .int .i64 0, .string ⟨#[]⟩, .slice none 0 0, .slice none 0 0] 27)).drew).trans k1
       go_wp2_with fail
       refine hK.out _ _ ?_ (fun hHeld => ?_)
       ·exact (FA.out _ kk).1
       clear hK K cv
       try simp only [Act.put, zA, zB, zC, zD, zE, zF]
       have hs1 := k1.below.size
       have e0w : ((wq.alloc (.cells #[.int .i64 0, .bool false, .int .i64 0, .string ⟨#[]⟩, .slice none 0 0, .slice none 0 0] 27)).drew).heap.size = wq.heap.size + 1 := by simp
       have hsw : wq.heap.size + 1 ≤ w1.heap.size := by omega
       have kz : Kr R wq w1 := kk
       have hz1' : w1.heap[wq.heap.size]? = some (.cells [.int .i64 0, .bool false, .int .i64 0, .string ⟨#[]⟩, .slice none 0 0, .slice none 0 0].toArray 27 (0, 0)) := (k1.other wq.heap.size (by have := HW.out; have := HJ.out.RB; have := HJ.out.sz; omega) (by simp)).trans (heap_alloc_new wq _)
       have hzc := zc_of hz1'
       have hown2 := Byts.own_kr HELS.out.own.1 kz (by omega : R < B + 6)
       obtain ⟨lv', w3, hrun, hown3, hgrow, -, hat⟩ := run_append_own_at (P := Tryz.prog) w1 (B + 6) 25 25 27 i0 (.agg #[.int .i64 0, .bool false, .int .i64 0, .string ⟨#[]⟩, .slice none 0 0, .slice none 0 0]) 6 88 Tryz.underlying25 hi0 hz0 hz1 hz2 rfl (by decide) _ _ _ hown2 ⟨wq.heap.size, 0, none⟩ 1 1 [.int .i64 0, .bool false, .int .i64 0, .string ⟨#[]⟩, .slice none 0 0, .slice none 0 0] rfl hzc (by decide) (by unfold maxLen; omega) (by omega) (by have := kz.below.size; omega)
       obtain ⟨g3, cap3, rfl⟩ : ∃ g3 cap3, lv' = .slice (some ⟨g3, 0, none⟩) (us.length + 1) cap3 := by
        rcases hown3.2 with ⟨_, e⟩ | ⟨g, cap, cur, e, _⟩
        ·omega
        ·exact ⟨g, cap, e⟩
       have OV3 : Hid (OwnV w3 (B + 6) (.slice (some ⟨g3, 0, none⟩) (us.length + 1) cap3) (us ++ [.agg #[.int .i64 0, .bool false, .int .i64 0, .string ⟨#[]⟩, .slice none 0 0, .slice none 0 0]])) := by
        refine ⟨?_, sixes_snoc HELS.out.own.2 ⟨_, _, _, _, _, _, rfl, by decide⟩⟩
        rw [flat_append, List.length_append]
        exact hown3
       have hg3 := World.ownsRow.lt hown3 g3 rfl
       have hkc : cap3 ≤ 9223372036854775807 ∧ us.length + 1 ≤ cap3 := by have := ownV_cap OV3.out; unfold maxLen at this; omega
       obtain ⟨hkc1, hkc2⟩ := hkc
       have hG : Hid (∀ k, k < wq.heap.size → k ≠ R → (Value.slice a5 us.length cap5).ownBlock ≠ some k → w3.heap[k]? = wq.heap[k]?) := fun k hk hkR hne => (hgrow.block k (by have := kz.below.size; omega) (fun e => hne e.symm)).trans (kz.other k hkR hk)
       have hsz3 : Hid (w1.heap.size ≤ w3.heap.size) := hgrow.size
       have hRd3 : Hid (Rd w3 R v s j b') := Byts.rd_grown (B := B + 6) h1 (by omega) hgrow (fun k hk => (World.ownsRow.lt hown2 k hk).1)
       have hBel3 : Hid (Below R wq w3) := kz.below.grown hgrow (by have := HW.out; have := kz.below.size; omega) (fun k hk => by have := (World.ownsRow.lt hown2 k hk).1; omega)
       have hAt : Hid ((Value.slice (some ⟨g3, 0, none⟩) (us.length + 1) cap3).ownBlock = (Value.slice a5 us.length cap5).ownBlock ∨ (Value.slice (some ⟨g3, 0, none⟩) (us.length + 1) cap3).ownBlock = some w1.heap.size) := hat
       have hK1 : Hid (Keep (Rg ((wq.alloc (.cells #[.int .i64 0, .bool false, .int .i64 0, .string ⟨#[]⟩, .slice none 0 0, .slice none 0 0] 27)).drew).heap.size w1.heap.size) w1 w3) := fun k hk hlt => by
        have hk1 := hk.1
        have e0 : ((wq.alloc (.cells #[.int .i64 0, .bool false, .int .i64 0, .string ⟨#[]⟩, .slice none 0 0, .slice none 0 0] 27)).drew).heap.size = wq.heap.size + 1 := by simp
        rw [hgrow.block k (by have := hk.2; omega) (fun e => by have := (World.ownsRow.lt HELS.out.own.1 k e.symm).2; omega)]
       have hS3 : (fun w' => w'.cell? ⟨B, 0, none⟩ = some (.pointer (some ⟨R, 0, none⟩)) ∧ w'.cell? ⟨B + 1, 0, none⟩ = some (.int .i64 (d : Nat))) w3 := by
        have e1 := hG.out B (by omega) (by omega) (fun e => by have := (World.ownsRow.lt HELS.out.own.1 B e).1; omega)
        have e2 := hG.out (B + 1) (by omega) (by omega) (fun e => by have := (World.ownsRow.lt HELS.out.own.1 (B + 1) e).1; omega)
        have s0 := (FA.out wq (Kr.refl R wq)).1
        exact ⟨(World.cell?_of_block (w := wq) e1).trans s0.1, (World.cell?_of_block (w := wq) e2).trans s0.2⟩
       have hbx3 : w3.heap[B + 3]? = some (.cells #[.int .i64 6, .bool false, .int .i64 0, .string ⟨#[]⟩, nv, .slice a5 us.length cap5] 27 (0, 0)) := (hG.out (B + 3) (by omega) (by omega) (fun e => by have := (World.ownsRow.lt HELS.out.own.1 (B + 3) e).1; omega)).trans HBOX.out
       have HBX3 : Hid (w3.heap[B + 3]? = some (.cells #[.int .i64 6, .bool false, .int .i64 0, .string ⟨#[]⟩, nv, .slice a5 us.length cap5] 27 (0, 0))) := hbx3
       clear hown2 hzc hgrow hat hown3 hHeld
       refine wpAnyH_ready (rs := [8]) (by kernel_rfl) (by simp) ?_
       refine AllReadyH.cons rfl (fun K hK => ?_) AllReadyH.nil
       refine op_append rfl (Operand.tmp 17) (Operand.tmp 23) 25 rfl rfl rfl hrun ?_
       refine hK.out _ _ hS3 (fun hHeld => ?_)
       clear hK K hrun
       try simp only [Act.put, zA, zB, zC, zD, zE, zF]
       have n1 : (0 : Int) ≤ (us.length : Int) := by omega
       have n2 : (us.length : Int) < (us.length : Int) + 1 := by omega
       refine wpAnyH_take (i := 9) (v := ?_) rfl (by kernel_rfl) (by kernel_rfl) (by kernel_rfl) (fun _ _ _ h => h) (Or.inl ⟨by rfl, ?_⟩) (by assumption) ?_
       rotate_left 1
       ·intro wq hSw; (try dsimp only at hSw); go_simp; first | done | with_reducible rfl
       try simp only [Act.put, zA, zB, zC, zD, zE, zF]
       refine wpAnyH_take (i := 11) (v := ?_) rfl (by kernel_rfl) (by kernel_rfl) (by kernel_rfl) (fun _ _ _ h => h) (Or.inl ⟨by rfl, ?_⟩) (by assumption) ?_
       rotate_left 1
       ·intro wq hSw; (try dsimp only at hSw); go_simp; first | done | with_reducible rfl
       try simp only [Act.put, zA, zB, zC, zD, zE, zF]
       obtain ⟨q0, q1, q2, q3, q4, q5, eq, c0, c1, c2, c3, c4, c5⟩ := ownV_six OV3.out us.length (by simp)
       have fz := fun j => Copied.frozen_own OV3.out.1 j
       rw [Nat.zero_add] at c0 c1 c2 c3 c4 c5
       obtain ⟨m0, m1, m2, m3, m4, m5⟩ := six_box hbx3
       have mf := frozen_box hbx3 5
       have f0 := fz (us.length * 6)
       have f1 := fz (us.length * 6 + 1)
       have f2 := fz (us.length * 6 + 2)
       have f3 := fz (us.length * 6 + 3)
       have f4 := fz (us.length * 6 + 4)
       have f5 := fz (us.length * 6 + 5)
       clear fz eq hbx3
       have gB : ¬ B + 3 = g3 := by omega
       have gB' : ¬ g3 = B + 3 := by omega
       have hgB : ∀ g, (Value.slice (some ⟨g3, 0, none⟩) (us.length + 1) cap3).ownBlock = some g → g ≠ B + 3 := fun g hg e => by
        have e3 : g3 = g := by simpa [Value.ownBlock] using hg
        omega
       refine wpAnyH_ready (rs := [10, 12]) (by kernel_rfl) (by simp) ?_
       refine AllReadyH.cons rfl (fun K hK => ?_) (AllReadyH.cons rfl (fun K hK => ?_) AllReadyH.nil)
       ·go_simp
        obtain ⟨w4, hw4⟩ : ∃ w4, ((((((w3.setCell ⟨g3, us.length * 6, none⟩ (.int .i64 c.k)).setCell ⟨g3, us.length * 6 + 1, none⟩ (.bool c.b)).setCell ⟨g3, us.length * 6 + 2, none⟩ (.int .i64 c.i)).setCell ⟨g3, us.length * 6 + 3, none⟩ (.string c.s)).setCell ⟨g3, us.length * 6 + 4, none⟩ (.slice p1 y1 r1)).setCell ⟨g3, us.length * 6 + 5, none⟩ (.slice p2 y2 r2)) = w4 := ⟨_, rfl⟩
        rw [hw4]
        obtain ⟨OV4, ot4, sz4, bel4⟩ := set_last OV3.out hone hw4
        have ot4' : ∀ k, k ≠ g3 → k ≠ B + 3 → w4.heap[k]? = w3.heap[k]? := fun k hk _ => ot4 k hk
        clear c0 c1 c2 c3 c4 c5 f0 f1 f2 f3 f4 f5 m0 m1 m2 m3 m4 m5 mf hw4
        have hbx4 := (ot4 (B + 3) gB).trans HBX3.out
        obtain ⟨m0, m1, m2, m3, m4, m5⟩ := six_box hbx4
        have mf := frozen_box hbx4 5
        have Sw4 : (fun w' => w'.cell? ⟨B, 0, none⟩ = some (.pointer (some ⟨R, 0, none⟩)) ∧ w'.cell? ⟨B + 1, 0, none⟩ = some (.int .i64 (d : Nat))) w4 := ⟨(World.cell?_of_block (w := w3) (ot4' B (by omega) (by omega))).trans hS3.1, (World.cell?_of_block (w := w3) (ot4' (B + 1) (by omega) (by omega))).trans hS3.2⟩
        refine hK.out _ _ Sw4 (fun hHeld => ?_)
        clear hK K
        try simp only [Act.put, zA, zB, zC, zD, zE, zF]
        refine wpAnyH_ready (rs := [12]) (by kernel_rfl) (by simp) ?_
        refine AllReadyH.cons rfl (fun K hK => ?_) AllReadyH.nil
        go_simp
        obtain ⟨w5, hw5⟩ : ∃ w5, w4.setCell ⟨B + 3, 5, none⟩ (.slice (some ⟨g3, 0, none⟩) (us.length + 1) cap3) = w5 := ⟨_, rfl⟩
        rw [hw5]
        have ot5 : ∀ k, k ≠ g3 → k ≠ B + 3 → w5.heap[k]? = w3.heap[k]? := fun k hk hk2 => by rw [← hw5, Below.heap_setCell _ _ _ _ hk2]; exact ot4 k hk
        have hBox5 : w5.heap[B + 3]? = some (.cells #[.int .i64 6, .bool false, .int .i64 0, .string ⟨#[]⟩, nv, (.slice (some ⟨g3, 0, none⟩) (us.length + 1) cap3)] 27 (0, 0)) := by rw [← hw5, bset hbx4]; rfl
        have OV5 : OwnV w5 (B + 6) (.slice (some ⟨g3, 0, none⟩) (us.length + 1) cap3) (us ++ [.agg #[.int .i64 c.k, .bool c.b, .int .i64 c.i, .string c.s, .slice p1 y1 r1, .slice p2 y2 r2]]) := ⟨Fresh.own_keep OV4.1 fun g hg => by rw [← hw5]; exact Below.heap_setCell _ _ _ _ (hgB g hg), OV4.2⟩
        have sz5 : w5.heap.size = w3.heap.size := by rw [← hw5]; simpa [World.setCell] using sz4
        have bel5 : Below R wq w5 := by rw [← hw5]; exact (bel4 wq R (by omega) hBel3.out).setCell (p := ⟨B + 3, 5, none⟩) (by simp; omega) _
        have Sw5 : (fun w' => w'.cell? ⟨B, 0, none⟩ = some (.pointer (some ⟨R, 0, none⟩)) ∧ w'.cell? ⟨B + 1, 0, none⟩ = some (.int .i64 (d : Nat))) w5 := ⟨(World.cell?_of_block (w := w3) (ot5 B (by omega) (by omega))).trans hS3.1, (World.cell?_of_block (w := w3) (ot5 (B + 1) (by omega) (by omega))).trans hS3.2⟩
        refine hK.out _ _ Sw5 (fun hHeld => ?_)
        clear hK K hw5 m0 m1 m2 m3 m4 m5 mf
        try simp only [Act.put, zA, zB, zC, zD, zE, zF]
        refine wpAnyH_done (by kernel_rfl) ?_ _
        go_wp2_with fail
        go_end0
        have hgg : ∀ k, k < wq.heap.size → (Value.slice a5 us.length cap5).ownBlock ≠ some k → k ≠ g3 := fun k hk hne e => by
         rcases hAt.out with h9 | h9
         ·exact hne (h9.symm.trans (by rw [e]; rfl))
         ·have h8 : g3 = w1.heap.size := by simpa [Value.ownBlock] using h9
          have := kz.below.size
          omega
        have hr5 : Rd w5 R v s j b' := hRd3.out.keep fun k hk => ot5 k (by omega) (by omega)
        have hXj := hXI.out c j b' rfl
        have e00 : wq.heap.size ≤ ((wq.alloc (.cells #[.int .i64 0, .bool false, .int .i64 0, .string ⟨#[]⟩, .slice none 0 0, .slice none 0 0] 27)).drew).heap.size := by simp
        have hs35 := hsz3.out
        obtain ⟨kb5, jl5⟩ := HJ.out.more HNT.out HELS.out HD1.out HD2.out hu e00 (by omega) (by omega) OV5 (fun g hg => by
          rcases hAt.out with h9 | h9
          ·exact .inl (h9.symm.trans hg)
          ·have h8 : g = w1.heap.size := by have := hg.symm.trans h9; simpa using this
           exact .inr ⟨by omega, by omega⟩
         ) hBox5 (fun k hk hkR hkB hne => (ot5 k (hgg k hk hne) hkB).trans (hG.out k hk hkR hne)) (fun k hk hlt => by
          have hk1 := hk.1
          have hk2 := hk.2
          refine (ot5 k (fun e => ?_) (by omega)).trans (hK1.out k hk hlt)
          rcases hAt.out with h9 | h9
          ·have := (World.ownsRow.lt HELS.out.own.1 g3 (h9.symm.trans rfl)).2
           omega
          ·have h8 : g3 = w1.heap.size := by simpa [Value.ownBlock] using h9
           omega
         ) hr5 (by omega) bel5
        exact ⟨KBQ.out.trans kb5, rfl, jl5, by simp [HLN.out]⟩
       ·go_simp
        obtain ⟨w4, hw4⟩ : ∃ w4, w3.setCell ⟨B + 3, 5, none⟩ (.slice (some ⟨g3, 0, none⟩) (us.length + 1) cap3) = w4 := ⟨_, rfl⟩
        rw [hw4]
        have ot4 : ∀ k, k ≠ B + 3 → w4.heap[k]? = w3.heap[k]? := fun k hk2 => by rw [← hw4]; exact Below.heap_setCell _ _ _ _ hk2
        have ot4' : ∀ k, k ≠ g3 → k ≠ B + 3 → w4.heap[k]? = w3.heap[k]? := fun k _ hk2 => ot4 k hk2
        have hbx4 : w4.heap[B + 3]? = some (.cells #[.int .i64 6, .bool false, .int .i64 0, .string ⟨#[]⟩, nv, (.slice (some ⟨g3, 0, none⟩) (us.length + 1) cap3)] 27 (0, 0)) := by rw [← hw4, bset HBX3.out]; rfl
        have OV4 : OwnV w4 (B + 6) (.slice (some ⟨g3, 0, none⟩) (us.length + 1) cap3) (us ++ [.agg #[.int .i64 0, .bool false, .int .i64 0, .string ⟨#[]⟩, .slice none 0 0, .slice none 0 0]]) := ⟨Fresh.own_keep OV3.out.1 fun g hg => ot4 g (hgB g hg), OV3.out.2⟩
        have sz4 : w4.heap.size = w3.heap.size := by rw [← hw4]; simp [World.setCell]
        have bel4 : Below R wq w4 := by rw [← hw4]; exact hBel3.out.setCell (p := ⟨B + 3, 5, none⟩) (by simp; omega) _
        clear c0 c1 c2 c3 c4 c5 f0 f1 f2 f3 f4 f5 m0 m1 m2 m3 m4 m5 mf hw4
        obtain ⟨q0', q1', q2', q3', q4', q5', eq, c0, c1, c2, c3, c4, c5⟩ := ownV_six OV4 us.length (by simp)
        have fz := fun j => Copied.frozen_own OV4.1 j
        rw [Nat.zero_add] at c0 c1 c2 c3 c4 c5
        have f0 := fz (us.length * 6)
        have f1 := fz (us.length * 6 + 1)
        have f2 := fz (us.length * 6 + 2)
        have f3 := fz (us.length * 6 + 3)
        have f4 := fz (us.length * 6 + 4)
        have f5 := fz (us.length * 6 + 5)
        clear fz eq
        have Sw4 : (fun w' => w'.cell? ⟨B, 0, none⟩ = some (.pointer (some ⟨R, 0, none⟩)) ∧ w'.cell? ⟨B + 1, 0, none⟩ = some (.int .i64 (d : Nat))) w4 := ⟨(World.cell?_of_block (w := w3) (ot4' B (by omega) (by omega))).trans hS3.1, (World.cell?_of_block (w := w3) (ot4' (B + 1) (by omega) (by omega))).trans hS3.2⟩
        refine hK.out _ _ Sw4 (fun hHeld => ?_)
        clear hK K
        try simp only [Act.put, zA, zB, zC, zD, zE, zF]
        refine wpAnyH_ready (rs := [10]) (by kernel_rfl) (by simp) ?_
        refine AllReadyH.cons rfl (fun K hK => ?_) AllReadyH.nil
        go_simp
        obtain ⟨w5, hw5⟩ : ∃ w5, ((((((w4.setCell ⟨g3, us.length * 6, none⟩ (.int .i64 c.k)).setCell ⟨g3, us.length * 6 + 1, none⟩ (.bool c.b)).setCell ⟨g3, us.length * 6 + 2, none⟩ (.int .i64 c.i)).setCell ⟨g3, us.length * 6 + 3, none⟩ (.string c.s)).setCell ⟨g3, us.length * 6 + 4, none⟩ (.slice p1 y1 r1)).setCell ⟨g3, us.length * 6 + 5, none⟩ (.slice p2 y2 r2)) = w5 := ⟨_, rfl⟩
        rw [hw5]
        obtain ⟨OV5, oth5, sz5', bel5'⟩ := set_last OV4 hone hw5
        have ot5 : ∀ k, k ≠ g3 → k ≠ B + 3 → w5.heap[k]? = w3.heap[k]? := fun k hk hk2 => (oth5 k hk).trans (ot4 k hk2)
        have hBox5 := (oth5 (B + 3) gB).trans hbx4
        have sz5 : w5.heap.size = w3.heap.size := sz5'.trans sz4
        have bel5 : Below R wq w5 := bel5' wq R (by omega) bel4
        have Sw5 : (fun w' => w'.cell? ⟨B, 0, none⟩ = some (.pointer (some ⟨R, 0, none⟩)) ∧ w'.cell? ⟨B + 1, 0, none⟩ = some (.int .i64 (d : Nat))) w5 := ⟨(World.cell?_of_block (w := w3) (ot5 B (by omega) (by omega))).trans hS3.1, (World.cell?_of_block (w := w3) (ot5 (B + 1) (by omega) (by omega))).trans hS3.2⟩
        refine hK.out _ _ Sw5 (fun hHeld => ?_)
        clear hK K hw5 c0 c1 c2 c3 c4 c5 f0 f1 f2 f3 f4 f5
        try simp only [Act.put, zA, zB, zC, zD, zE, zF]
        refine wpAnyH_done (by kernel_rfl) ?_ _
        go_wp2_with fail
        go_end0
        have hgg : ∀ k, k < wq.heap.size → (Value.slice a5 us.length cap5).ownBlock ≠ some k → k ≠ g3 := fun k hk hne e => by
         rcases hAt.out with h9 | h9
         ·exact hne (h9.symm.trans (by rw [e]; rfl))
         ·have h8 : g3 = w1.heap.size := by simpa [Value.ownBlock] using h9
          have := kz.below.size
          omega
        have hr5 : Rd w5 R v s j b' := hRd3.out.keep fun k hk => ot5 k (by omega) (by omega)
        have hXj := hXI.out c j b' rfl
        have e00 : wq.heap.size ≤ ((wq.alloc (.cells #[.int .i64 0, .bool false, .int .i64 0, .string ⟨#[]⟩, .slice none 0 0, .slice none 0 0] 27)).drew).heap.size := by simp
        have hs35 := hsz3.out
        obtain ⟨kb5, jl5⟩ := HJ.out.more HNT.out HELS.out HD1.out HD2.out hu e00 (by omega) (by omega) OV5 (fun g hg => by
          rcases hAt.out with h9 | h9
          ·exact .inl (h9.symm.trans hg)
          ·have h8 : g = w1.heap.size := by have := hg.symm.trans h9; simpa using this
           exact .inr ⟨by omega, by omega⟩
         ) hBox5 (fun k hk hkR hkB hne => (ot5 k (hgg k hk hne) hkB).trans (hG.out k hk hkR hne)) (fun k hk hlt => by
          have hk1 := hk.1
          have hk2 := hk.2
          refine (ot5 k (fun e => ?_) (by omega)).trans (hK1.out k hk hlt)
          rcases hAt.out with h9 | h9
          ·have := (World.ownsRow.lt HELS.out.own.1 g3 (h9.symm.trans rfl)).2
           omega
          ·have h8 : g3 = w1.heap.size := by simpa [Value.ownBlock] using h9
           omega
         ) hr5 (by omega) bel5
        exact ⟨KBQ.out.trans kb5, rfl, jl5, by simp [HLN.out]⟩
    ·go_simp
     have cv := CV.out _ ((Below.refl _ wq).drew)
     refine cv.mono ?_
     rintro e w1 ⟨k1, ⟨u, rfl, hu⟩, h1⟩
     obtain ⟨x0, x1, x2, x3, x4, x5, rfl, hone⟩ := hu.in.six
     obtain ⟨p1, y1, r1, p2, y2, r2, rfl, rfl, rfl, rfl, rfl, rfl⟩ := hu.in.kinds
     have kk := ((Kr.refl R wq).drew).trans k1
     go_wp2_with fail
     refine hK.out _ _ ?_ (fun hHeld => ?_)
     ·exact (FA.out _ kk).1
     clear hK K cv
     try simp only [Act.put, zA, zB, zC, zD, zE, zF]
     refine wpAnyH_ready (rs := [1, 7]) (by kernel_rfl) (by simp) ?_
     refine AllReadyH.cons rfl (fun K hK => ?_) (AllReadyH.cons rfl (fun K hK => ?_) (AllReadyH.nil))
     ·have hl5 := (FA.out _ kk).2
      go_simp
      refine hK.out _ _ ?_ (fun hHeld => ?_)
      ·exact (FA.out _ kk).1
      clear hK K hl5
      try simp only [Act.put, zA, zB, zC, zD, zE, zF]
      refine wpAnyH_take (i := 6) (v := ?_) rfl (by kernel_rfl) (by kernel_rfl) (by kernel_rfl) (fun _ _ _ h => h) (Or.inl ⟨by rfl, ?_⟩) (by assumption) ?_
      rotate_left 1
      ·intro wq hSw; (try dsimp only at hSw); go_simp; first | done | with_reducible rfl
      try simp only [Act.put, zA, zB, zC, zD, zE, zF]
      refine wpAnyH_ready (rs := [7]) (by kernel_rfl) (by simp) ?_
      refine AllReadyH.cons rfl (fun K hK => ?_) (AllReadyH.nil)
      ·go_simp
       refine hK.out _ _ ?_ (fun hHeld => ?_)
       ·exact (FA.out _ (kk.alloc (by have := HW.out; have := kk.below.size; omega) (.cells #[.int .i64 0, .bool false, .int .i64 0, .string ⟨#[]⟩, .slice none 0 0, .slice none 0 0] 27))).1
       clear hK K
       try simp only [Act.put, zA, zB, zC, zD, zE, zF]
       have hs1 := k1.below.size
       have hsw : wq.heap.size ≤ w1.heap.size := hs1
       have kz : Kr R wq (w1.alloc (.cells #[.int .i64 0, .bool false, .int .i64 0, .string ⟨#[]⟩, .slice none 0 0, .slice none 0 0] 27)) := kk.alloc (by have := HW.out; omega) _
       have hzc := new_cells w1 [.int .i64 0, .bool false, .int .i64 0, .string ⟨#[]⟩, .slice none 0 0, .slice none 0 0] 27
       have hown2 := Byts.own_kr HELS.out.own.1 kz (by omega : R < B + 6)
       obtain ⟨lv', w3, hrun, hown3, hgrow, -, hat⟩ := run_append_own_at (P := Tryz.prog) (w1.alloc (.cells #[.int .i64 0, .bool false, .int .i64 0, .string ⟨#[]⟩, .slice none 0 0, .slice none 0 0] 27)) (B + 6) 25 25 27 i0 (.agg #[.int .i64 0, .bool false, .int .i64 0, .string ⟨#[]⟩, .slice none 0 0, .slice none 0 0]) 6 88 Tryz.underlying25 hi0 hz0 hz1 hz2 rfl (by decide) _ _ _ hown2 ⟨w1.heap.size, 0, none⟩ 1 1 [.int .i64 0, .bool false, .int .i64 0, .string ⟨#[]⟩, .slice none 0 0, .slice none 0 0] rfl hzc (by decide) (by unfold maxLen; omega) (by omega) (by have := kz.below.size; omega)
       obtain ⟨g3, cap3, rfl⟩ : ∃ g3 cap3, lv' = .slice (some ⟨g3, 0, none⟩) (us.length + 1) cap3 := by
        rcases hown3.2 with ⟨_, e⟩ | ⟨g, cap, cur, e, _⟩
        ·omega
        ·exact ⟨g, cap, e⟩
       have OV3 : Hid (OwnV w3 (B + 6) (.slice (some ⟨g3, 0, none⟩) (us.length + 1) cap3) (us ++ [.agg #[.int .i64 0, .bool false, .int .i64 0, .string ⟨#[]⟩, .slice none 0 0, .slice none 0 0]])) := by
        refine ⟨?_, sixes_snoc HELS.out.own.2 ⟨_, _, _, _, _, _, rfl, by decide⟩⟩
        rw [flat_append, List.length_append]
        exact hown3
       have hg3 := World.ownsRow.lt hown3 g3 rfl
       have hkc : cap3 ≤ 9223372036854775807 ∧ us.length + 1 ≤ cap3 := by have := ownV_cap OV3.out; unfold maxLen at this; omega
       obtain ⟨hkc1, hkc2⟩ := hkc
       have hG : Hid (∀ k, k < wq.heap.size → k ≠ R → (Value.slice a5 us.length cap5).ownBlock ≠ some k → w3.heap[k]? = wq.heap[k]?) := fun k hk hkR hne => (hgrow.block k (by have := kz.below.size; omega) (fun e => hne e.symm)).trans (kz.other k hkR hk)
       have hsz3 : Hid ((w1.alloc (.cells #[.int .i64 0, .bool false, .int .i64 0, .string ⟨#[]⟩, .slice none 0 0, .slice none 0 0] 27)).heap.size ≤ w3.heap.size) := hgrow.size
       have hRd3 : Hid (Rd w3 R v s j b') := Byts.rd_grown (B := B + 6) (h1.below ((Below.refl _ w1).alloc (Nat.le_refl _) _)) (by omega) hgrow (fun k hk => (World.ownsRow.lt hown2 k hk).1)
       have hBel3 : Hid (Below R wq w3) := kz.below.grown hgrow (by have := HW.out; have := kz.below.size; omega) (fun k hk => by have := (World.ownsRow.lt hown2 k hk).1; omega)
       have hAt : Hid ((Value.slice (some ⟨g3, 0, none⟩) (us.length + 1) cap3).ownBlock = (Value.slice a5 us.length cap5).ownBlock ∨ (Value.slice (some ⟨g3, 0, none⟩) (us.length + 1) cap3).ownBlock = some (w1.alloc (.cells #[.int .i64 0, .bool false, .int .i64 0, .string ⟨#[]⟩, .slice none 0 0, .slice none 0 0] 27)).heap.size) := hat
       have hK1 : Hid (Keep (Rg wq.drew.heap.size w1.heap.size) w1 w3) := fun k hk hlt => by
        have hk1 := hk.1
        have e0 : wq.drew.heap.size = wq.heap.size := rfl
        rw [hgrow.block k (by have := hk.2; simp; omega) (fun e => by have := (World.ownsRow.lt HELS.out.own.1 k e.symm).2; omega)]
        exact Below.heap_alloc _ _ _ hlt
       have hS3 : (fun w' => w'.cell? ⟨B, 0, none⟩ = some (.pointer (some ⟨R, 0, none⟩)) ∧ w'.cell? ⟨B + 1, 0, none⟩ = some (.int .i64 (d : Nat))) w3 := by
        have e1 := hG.out B (by omega) (by omega) (fun e => by have := (World.ownsRow.lt HELS.out.own.1 B e).1; omega)
        have e2 := hG.out (B + 1) (by omega) (by omega) (fun e => by have := (World.ownsRow.lt HELS.out.own.1 (B + 1) e).1; omega)
        have s0 := (FA.out wq (Kr.refl R wq)).1
        exact ⟨(World.cell?_of_block (w := wq) e1).trans s0.1, (World.cell?_of_block (w := wq) e2).trans s0.2⟩
       have hbx3 : w3.heap[B + 3]? = some (.cells #[.int .i64 6, .bool false, .int .i64 0, .string ⟨#[]⟩, nv, .slice a5 us.length cap5] 27 (0, 0)) := (hG.out (B + 3) (by omega) (by omega) (fun e => by have := (World.ownsRow.lt HELS.out.own.1 (B + 3) e).1; omega)).trans HBOX.out
       have HBX3 : Hid (w3.heap[B + 3]? = some (.cells #[.int .i64 6, .bool false, .int .i64 0, .string ⟨#[]⟩, nv, .slice a5 us.length cap5] 27 (0, 0))) := hbx3
       clear hown2 hzc hgrow hat hown3 hHeld
       refine wpAnyH_ready (rs := [8]) (by kernel_rfl) (by simp) ?_
       refine AllReadyH.cons rfl (fun K hK => ?_) AllReadyH.nil
       refine op_append rfl (Operand.tmp 17) (Operand.tmp 23) 25 rfl rfl rfl hrun ?_
       refine hK.out _ _ hS3 (fun hHeld => ?_)
       clear hK K hrun
       try simp only [Act.put, zA, zB, zC, zD, zE, zF]
       have n1 : (0 : Int) ≤ (us.length : Int) := by omega
       have n2 : (us.length : Int) < (us.length : Int) + 1 := by omega
       refine wpAnyH_take (i := 9) (v := ?_) rfl (by kernel_rfl) (by kernel_rfl) (by kernel_rfl) (fun _ _ _ h => h) (Or.inl ⟨by rfl, ?_⟩) (by assumption) ?_
       rotate_left 1
       ·intro wq hSw; (try dsimp only at hSw); go_simp; first | done | with_reducible rfl
       try simp only [Act.put, zA, zB, zC, zD, zE, zF]
       refine wpAnyH_take (i := 11) (v := ?_) rfl (by kernel_rfl) (by kernel_rfl) (by kernel_rfl) (fun _ _ _ h => h) (Or.inl ⟨by rfl, ?_⟩) (by assumption) ?_
       rotate_left 1
       ·intro wq hSw; (try dsimp only at hSw); go_simp; first | done | with_reducible rfl
       try simp only [Act.put, zA, zB, zC, zD, zE, zF]
       obtain ⟨q0, q1, q2, q3, q4, q5, eq, c0, c1, c2, c3, c4, c5⟩ := ownV_six OV3.out us.length (by simp)
       have fz := fun j => Copied.frozen_own OV3.out.1 j
       rw [Nat.zero_add] at c0 c1 c2 c3 c4 c5
       obtain ⟨m0, m1, m2, m3, m4, m5⟩ := six_box hbx3
       have mf := frozen_box hbx3 5
       have f0 := fz (us.length * 6)
       have f1 := fz (us.length * 6 + 1)
       have f2 := fz (us.length * 6 + 2)
       have f3 := fz (us.length * 6 + 3)
       have f4 := fz (us.length * 6 + 4)
       have f5 := fz (us.length * 6 + 5)
       clear fz eq hbx3
       have gB : ¬ B + 3 = g3 := by omega
       have gB' : ¬ g3 = B + 3 := by omega
       have hgB : ∀ g, (Value.slice (some ⟨g3, 0, none⟩) (us.length + 1) cap3).ownBlock = some g → g ≠ B + 3 := fun g hg e => by
        have e3 : g3 = g := by simpa [Value.ownBlock] using hg
        omega
       refine wpAnyH_ready (rs := [10, 12]) (by kernel_rfl) (by simp) ?_
       refine AllReadyH.cons rfl (fun K hK => ?_) (AllReadyH.cons rfl (fun K hK => ?_) AllReadyH.nil)
       ·go_simp
        obtain ⟨w4, hw4⟩ : ∃ w4, ((((((w3.setCell ⟨g3, us.length * 6, none⟩ (.int .i64 c.k)).setCell ⟨g3, us.length * 6 + 1, none⟩ (.bool c.b)).setCell ⟨g3, us.length * 6 + 2, none⟩ (.int .i64 c.i)).setCell ⟨g3, us.length * 6 + 3, none⟩ (.string c.s)).setCell ⟨g3, us.length * 6 + 4, none⟩ (.slice p1 y1 r1)).setCell ⟨g3, us.length * 6 + 5, none⟩ (.slice p2 y2 r2)) = w4 := ⟨_, rfl⟩
        rw [hw4]
        obtain ⟨OV4, ot4, sz4, bel4⟩ := set_last OV3.out hone hw4
        have ot4' : ∀ k, k ≠ g3 → k ≠ B + 3 → w4.heap[k]? = w3.heap[k]? := fun k hk _ => ot4 k hk
        clear c0 c1 c2 c3 c4 c5 f0 f1 f2 f3 f4 f5 m0 m1 m2 m3 m4 m5 mf hw4
        have hbx4 := (ot4 (B + 3) gB).trans HBX3.out
        obtain ⟨m0, m1, m2, m3, m4, m5⟩ := six_box hbx4
        have mf := frozen_box hbx4 5
        have Sw4 : (fun w' => w'.cell? ⟨B, 0, none⟩ = some (.pointer (some ⟨R, 0, none⟩)) ∧ w'.cell? ⟨B + 1, 0, none⟩ = some (.int .i64 (d : Nat))) w4 := ⟨(World.cell?_of_block (w := w3) (ot4' B (by omega) (by omega))).trans hS3.1, (World.cell?_of_block (w := w3) (ot4' (B + 1) (by omega) (by omega))).trans hS3.2⟩
        refine hK.out _ _ Sw4 (fun hHeld => ?_)
        clear hK K
        try simp only [Act.put, zA, zB, zC, zD, zE, zF]
        refine wpAnyH_ready (rs := [12]) (by kernel_rfl) (by simp) ?_
        refine AllReadyH.cons rfl (fun K hK => ?_) AllReadyH.nil
        go_simp
        obtain ⟨w5, hw5⟩ : ∃ w5, w4.setCell ⟨B + 3, 5, none⟩ (.slice (some ⟨g3, 0, none⟩) (us.length + 1) cap3) = w5 := ⟨_, rfl⟩
        rw [hw5]
        have ot5 : ∀ k, k ≠ g3 → k ≠ B + 3 → w5.heap[k]? = w3.heap[k]? := fun k hk hk2 => by rw [← hw5, Below.heap_setCell _ _ _ _ hk2]; exact ot4 k hk
        have hBox5 : w5.heap[B + 3]? = some (.cells #[.int .i64 6, .bool false, .int .i64 0, .string ⟨#[]⟩, nv, (.slice (some ⟨g3, 0, none⟩) (us.length + 1) cap3)] 27 (0, 0)) := by rw [← hw5, bset hbx4]; rfl
        have OV5 : OwnV w5 (B + 6) (.slice (some ⟨g3, 0, none⟩) (us.length + 1) cap3) (us ++ [.agg #[.int .i64 c.k, .bool c.b, .int .i64 c.i, .string c.s, .slice p1 y1 r1, .slice p2 y2 r2]]) := ⟨Fresh.own_keep OV4.1 fun g hg => by rw [← hw5]; exact Below.heap_setCell _ _ _ _ (hgB g hg), OV4.2⟩
        have sz5 : w5.heap.size = w3.heap.size := by rw [← hw5]; simpa [World.setCell] using sz4
        have bel5 : Below R wq w5 := by rw [← hw5]; exact (bel4 wq R (by omega) hBel3.out).setCell (p := ⟨B + 3, 5, none⟩) (by simp; omega) _
        have Sw5 : (fun w' => w'.cell? ⟨B, 0, none⟩ = some (.pointer (some ⟨R, 0, none⟩)) ∧ w'.cell? ⟨B + 1, 0, none⟩ = some (.int .i64 (d : Nat))) w5 := ⟨(World.cell?_of_block (w := w3) (ot5 B (by omega) (by omega))).trans hS3.1, (World.cell?_of_block (w := w3) (ot5 (B + 1) (by omega) (by omega))).trans hS3.2⟩
        refine hK.out _ _ Sw5 (fun hHeld => ?_)
        clear hK K hw5 m0 m1 m2 m3 m4 m5 mf
        try simp only [Act.put, zA, zB, zC, zD, zE, zF]
        refine wpAnyH_done (by kernel_rfl) ?_ _
        go_wp2_with fail
        go_end0
        have hgg : ∀ k, k < wq.heap.size → (Value.slice a5 us.length cap5).ownBlock ≠ some k → k ≠ g3 := fun k hk hne e => by
         rcases hAt.out with h9 | h9
         ·exact hne (h9.symm.trans (by rw [e]; rfl))
         ·have h8 : g3 = (w1.alloc (.cells #[.int .i64 0, .bool false, .int .i64 0, .string ⟨#[]⟩, .slice none 0 0, .slice none 0 0] 27)).heap.size := by simpa [Value.ownBlock] using h9
          have := kz.below.size
          omega
        have hr5 : Rd w5 R v s j b' := hRd3.out.keep fun k hk => ot5 k (by omega) (by omega)
        have hXj := hXI.out c j b' rfl
        have e00 : wq.heap.size ≤ wq.drew.heap.size := Nat.le_refl _
        have hs35 := hsz3.out
        rw [World.size_alloc] at hs35
        obtain ⟨kb5, jl5⟩ := HJ.out.more HNT.out HELS.out HD1.out HD2.out hu e00 (by omega) (by omega) OV5 (fun g hg => by
          rcases hAt.out with h9 | h9
          ·exact .inl (h9.symm.trans hg)
          ·have h8 : g = (w1.alloc (.cells #[.int .i64 0, .bool false, .int .i64 0, .string ⟨#[]⟩, .slice none 0 0, .slice none 0 0] 27)).heap.size := by have := hg.symm.trans h9; simpa using this
           rw [World.size_alloc] at h8
           exact .inr ⟨by omega, by omega⟩
         ) hBox5 (fun k hk hkR hkB hne => (ot5 k (hgg k hk hne) hkB).trans (hG.out k hk hkR hne)) (fun k hk hlt => by
          have hk1 := hk.1
          have hk2 := hk.2
          refine (ot5 k (fun e => ?_) (by omega)).trans (hK1.out k hk hlt)
          rcases hAt.out with h9 | h9
          ·have := (World.ownsRow.lt HELS.out.own.1 g3 (h9.symm.trans rfl)).2
           omega
          ·have h8 : g3 = (w1.alloc (.cells #[.int .i64 0, .bool false, .int .i64 0, .string ⟨#[]⟩, .slice none 0 0, .slice none 0 0] 27)).heap.size := by simpa [Value.ownBlock] using h9
           rw [World.size_alloc] at h8
           omega
         ) hr5 (by omega) bel5
        exact ⟨KBQ.out.trans kb5, rfl, jl5, by simp [HLN.out]⟩
       ·go_simp
        obtain ⟨w4, hw4⟩ : ∃ w4, w3.setCell ⟨B + 3, 5, none⟩ (.slice (some ⟨g3, 0, none⟩) (us.length + 1) cap3) = w4 := ⟨_, rfl⟩
        rw [hw4]
        have ot4 : ∀ k, k ≠ B + 3 → w4.heap[k]? = w3.heap[k]? := fun k hk2 => by rw [← hw4]; exact Below.heap_setCell _ _ _ _ hk2
        have ot4' : ∀ k, k ≠ g3 → k ≠ B + 3 → w4.heap[k]? = w3.heap[k]? := fun k _ hk2 => ot4 k hk2
        have hbx4 : w4.heap[B + 3]? = some (.cells #[.int .i64 6, .bool false, .int .i64 0, .string ⟨#[]⟩, nv, (.slice (some ⟨g3, 0, none⟩) (us.length + 1) cap3)] 27 (0, 0)) := by rw [← hw4, bset HBX3.out]; rfl
        have OV4 : OwnV w4 (B + 6) (.slice (some ⟨g3, 0, none⟩) (us.length + 1) cap3) (us ++ [.agg #[.int .i64 0, .bool false, .int .i64 0, .string ⟨#[]⟩, .slice none 0 0, .slice none 0 0]]) := ⟨Fresh.own_keep OV3.out.1 fun g hg => ot4 g (hgB g hg), OV3.out.2⟩
        have sz4 : w4.heap.size = w3.heap.size := by rw [← hw4]; simp [World.setCell]
        have bel4 : Below R wq w4 := by rw [← hw4]; exact hBel3.out.setCell (p := ⟨B + 3, 5, none⟩) (by simp; omega) _
        clear c0 c1 c2 c3 c4 c5 f0 f1 f2 f3 f4 f5 m0 m1 m2 m3 m4 m5 mf hw4
        obtain ⟨q0', q1', q2', q3', q4', q5', eq, c0, c1, c2, c3, c4, c5⟩ := ownV_six OV4 us.length (by simp)
        have fz := fun j => Copied.frozen_own OV4.1 j
        rw [Nat.zero_add] at c0 c1 c2 c3 c4 c5
        have f0 := fz (us.length * 6)
        have f1 := fz (us.length * 6 + 1)
        have f2 := fz (us.length * 6 + 2)
        have f3 := fz (us.length * 6 + 3)
        have f4 := fz (us.length * 6 + 4)
        have f5 := fz (us.length * 6 + 5)
        clear fz eq
        have Sw4 : (fun w' => w'.cell? ⟨B, 0, none⟩ = some (.pointer (some ⟨R, 0, none⟩)) ∧ w'.cell? ⟨B + 1, 0, none⟩ = some (.int .i64 (d : Nat))) w4 := ⟨(World.cell?_of_block (w := w3) (ot4' B (by omega) (by omega))).trans hS3.1, (World.cell?_of_block (w := w3) (ot4' (B + 1) (by omega) (by omega))).trans hS3.2⟩
        refine hK.out _ _ Sw4 (fun hHeld => ?_)
        clear hK K
        try simp only [Act.put, zA, zB, zC, zD, zE, zF]
        refine wpAnyH_ready (rs := [10]) (by kernel_rfl) (by simp) ?_
        refine AllReadyH.cons rfl (fun K hK => ?_) AllReadyH.nil
        go_simp
        obtain ⟨w5, hw5⟩ : ∃ w5, ((((((w4.setCell ⟨g3, us.length * 6, none⟩ (.int .i64 c.k)).setCell ⟨g3, us.length * 6 + 1, none⟩ (.bool c.b)).setCell ⟨g3, us.length * 6 + 2, none⟩ (.int .i64 c.i)).setCell ⟨g3, us.length * 6 + 3, none⟩ (.string c.s)).setCell ⟨g3, us.length * 6 + 4, none⟩ (.slice p1 y1 r1)).setCell ⟨g3, us.length * 6 + 5, none⟩ (.slice p2 y2 r2)) = w5 := ⟨_, rfl⟩
        rw [hw5]
        obtain ⟨OV5, oth5, sz5', bel5'⟩ := set_last OV4 hone hw5
        have ot5 : ∀ k, k ≠ g3 → k ≠ B + 3 → w5.heap[k]? = w3.heap[k]? := fun k hk hk2 => (oth5 k hk).trans (ot4 k hk2)
        have hBox5 := (oth5 (B + 3) gB).trans hbx4
        have sz5 : w5.heap.size = w3.heap.size := sz5'.trans sz4
        have bel5 : Below R wq w5 := bel5' wq R (by omega) bel4
        have Sw5 : (fun w' => w'.cell? ⟨B, 0, none⟩ = some (.pointer (some ⟨R, 0, none⟩)) ∧ w'.cell? ⟨B + 1, 0, none⟩ = some (.int .i64 (d : Nat))) w5 := ⟨(World.cell?_of_block (w := w3) (ot5 B (by omega) (by omega))).trans hS3.1, (World.cell?_of_block (w := w3) (ot5 (B + 1) (by omega) (by omega))).trans hS3.2⟩
        refine hK.out _ _ Sw5 (fun hHeld => ?_)
        clear hK K hw5 c0 c1 c2 c3 c4 c5 f0 f1 f2 f3 f4 f5
        try simp only [Act.put, zA, zB, zC, zD, zE, zF]
        refine wpAnyH_done (by kernel_rfl) ?_ _
        go_wp2_with fail
        go_end0
        have hgg : ∀ k, k < wq.heap.size → (Value.slice a5 us.length cap5).ownBlock ≠ some k → k ≠ g3 := fun k hk hne e => by
         rcases hAt.out with h9 | h9
         ·exact hne (h9.symm.trans (by rw [e]; rfl))
         ·have h8 : g3 = (w1.alloc (.cells #[.int .i64 0, .bool false, .int .i64 0, .string ⟨#[]⟩, .slice none 0 0, .slice none 0 0] 27)).heap.size := by simpa [Value.ownBlock] using h9
          have := kz.below.size
          omega
        have hr5 : Rd w5 R v s j b' := hRd3.out.keep fun k hk => ot5 k (by omega) (by omega)
        have hXj := hXI.out c j b' rfl
        have e00 : wq.heap.size ≤ wq.drew.heap.size := Nat.le_refl _
        have hs35 := hsz3.out
        rw [World.size_alloc] at hs35
        obtain ⟨kb5, jl5⟩ := HJ.out.more HNT.out HELS.out HD1.out HD2.out hu e00 (by omega) (by omega) OV5 (fun g hg => by
          rcases hAt.out with h9 | h9
          ·exact .inl (h9.symm.trans hg)
          ·have h8 : g = (w1.alloc (.cells #[.int .i64 0, .bool false, .int .i64 0, .string ⟨#[]⟩, .slice none 0 0, .slice none 0 0] 27)).heap.size := by have := hg.symm.trans h9; simpa using this
           rw [World.size_alloc] at h8
           exact .inr ⟨by omega, by omega⟩
         ) hBox5 (fun k hk hkR hkB hne => (ot5 k (hgg k hk hne) hkB).trans (hG.out k hk hkR hne)) (fun k hk hlt => by
          have hk1 := hk.1
          have hk2 := hk.2
          refine (ot5 k (fun e => ?_) (by omega)).trans (hK1.out k hk hlt)
          rcases hAt.out with h9 | h9
          ·have := (World.ownsRow.lt HELS.out.own.1 g3 (h9.symm.trans rfl)).2
           omega
          ·have h8 : g3 = (w1.alloc (.cells #[.int .i64 0, .bool false, .int .i64 0, .string ⟨#[]⟩, .slice none 0 0, .slice none 0 0] 27)).heap.size := by simpa [Value.ownBlock] using h9
           rw [World.size_alloc] at h8
           omega
         ) hr5 (by omega) bel5
        exact ⟨KBQ.out.trans kb5, rfl, jl5, by simp [HLN.out]⟩
     ·go_simp
      refine hK.out _ _ ?_ (fun hHeld => ?_)
      ·exact (FA.out _ (kk.alloc (by have := HW.out; have := kk.below.size; omega) (.cells #[.int .i64 0, .bool false, .int .i64 0, .string ⟨#[]⟩, .slice none 0 0, .slice none 0 0] 27))).1
      clear hK K
      try simp only [Act.put, zA, zB, zC, zD, zE, zF]
      refine wpAnyH_ready (rs := [1]) (by kernel_rfl) (by simp) ?_
      refine AllReadyH.cons rfl (fun K hK => ?_) (AllReadyH.nil)
      ·have hl5 := (FA.out _ (kk.alloc (by have := HW.out; have := kk.below.size; omega) (.cells #[.int .i64 0, .bool false, .int .i64 0, .string ⟨#[]⟩, .slice none 0 0, .slice none 0 0] 27))).2
       go_simp
       refine hK.out _ _ ?_ (fun hHeld => ?_)
       ·exact (FA.out _ (kk.alloc (by have := HW.out; have := kk.below.size; omega) (.cells #[.int .i64 0, .bool false, .int .i64 0, .string ⟨#[]⟩, .slice none 0 0, .slice none 0 0] 27))).1
       clear hK K hl5
       try simp only [Act.put, zA, zB, zC, zD, zE, zF]
       refine wpAnyH_take (i := 6) (v := ?_) rfl (by kernel_rfl) (by kernel_rfl) (by kernel_rfl) (fun _ _ _ h => h) (Or.inl ⟨by rfl, ?_⟩) (by assumption) ?_
       rotate_left 1
       ·intro wq hSw; (try dsimp only at hSw); go_simp; first | done | with_reducible rfl
       try simp only [Act.put, zA, zB, zC, zD, zE, zF]
       have hs1 := k1.below.size
       have hsw : wq.heap.size ≤ w1.heap.size := hs1
       have kz : Kr R wq (w1.alloc (.cells #[.int .i64 0, .bool false, .int .i64 0, .string ⟨#[]⟩, .slice none 0 0, .slice none 0 0] 27)) := kk.alloc (by have := HW.out; omega) _
       have hzc := new_cells w1 [.int .i64 0, .bool false, .int .i64 0, .string ⟨#[]⟩, .slice none 0 0, .slice none 0 0] 27
       have hown2 := Byts.own_kr HELS.out.own.1 kz (by omega : R < B + 6)
       obtain ⟨lv', w3, hrun, hown3, hgrow, -, hat⟩ := run_append_own_at (P := Tryz.prog) (w1.alloc (.cells #[.int .i64 0, .bool false, .int .i64 0, .string ⟨#[]⟩, .slice none 0 0, .slice none 0 0] 27)) (B + 6) 25 25 27 i0 (.agg #[.int .i64 0, .bool false, .int .i64 0, .string ⟨#[]⟩, .slice none 0 0, .slice none 0 0]) 6 88 Tryz.underlying25 hi0 hz0 hz1 hz2 rfl (by decide) _ _ _ hown2 ⟨w1.heap.size, 0, none⟩ 1 1 [.int .i64 0, .bool false, .int .i64 0, .string ⟨#[]⟩, .slice none 0 0, .slice none 0 0] rfl hzc (by decide) (by unfold maxLen; omega) (by omega) (by have := kz.below.size; omega)
       obtain ⟨g3, cap3, rfl⟩ : ∃ g3 cap3, lv' = .slice (some ⟨g3, 0, none⟩) (us.length + 1) cap3 := by
        rcases hown3.2 with ⟨_, e⟩ | ⟨g, cap, cur, e, _⟩
        ·omega
        ·exact ⟨g, cap, e⟩
       have OV3 : Hid (OwnV w3 (B + 6) (.slice (some ⟨g3, 0, none⟩) (us.length + 1) cap3) (us ++ [.agg #[.int .i64 0, .bool false, .int .i64 0, .string ⟨#[]⟩, .slice none 0 0, .slice none 0 0]])) := by
        refine ⟨?_, sixes_snoc HELS.out.own.2 ⟨_, _, _, _, _, _, rfl, by decide⟩⟩
        rw [flat_append, List.length_append]
        exact hown3
       have hg3 := World.ownsRow.lt hown3 g3 rfl
       have hkc : cap3 ≤ 9223372036854775807 ∧ us.length + 1 ≤ cap3 := by have := ownV_cap OV3.out; unfold maxLen at this; omega
       obtain ⟨hkc1, hkc2⟩ := hkc
       have hG : Hid (∀ k, k < wq.heap.size → k ≠ R → (Value.slice a5 us.length cap5).ownBlock ≠ some k → w3.heap[k]? = wq.heap[k]?) := fun k hk hkR hne => (hgrow.block k (by have := kz.below.size; omega) (fun e => hne e.symm)).trans (kz.other k hkR hk)
       have hsz3 : Hid ((w1.alloc (.cells #[.int .i64 0, .bool false, .int .i64 0, .string ⟨#[]⟩, .slice none 0 0, .slice none 0 0] 27)).heap.size ≤ w3.heap.size) := hgrow.size
       have hRd3 : Hid (Rd w3 R v s j b') := Byts.rd_grown (B := B + 6) (h1.below ((Below.refl _ w1).alloc (Nat.le_refl _) _)) (by omega) hgrow (fun k hk => (World.ownsRow.lt hown2 k hk).1)
       have hBel3 : Hid (Below R wq w3) := kz.below.grown hgrow (by have := HW.out; have := kz.below.size; omega) (fun k hk => by have := (World.ownsRow.lt hown2 k hk).1; omega)
       have hAt : Hid ((Value.slice (some ⟨g3, 0, none⟩) (us.length + 1) cap3).ownBlock = (Value.slice a5 us.length cap5).ownBlock ∨ (Value.slice (some ⟨g3, 0, none⟩) (us.length + 1) cap3).ownBlock = some (w1.alloc (.cells #[.int .i64 0, .bool false, .int .i64 0, .string ⟨#[]⟩, .slice none 0 0, .slice none 0 0] 27)).heap.size) := hat
       have hK1 : Hid (Keep (Rg wq.drew.heap.size w1.heap.size) w1 w3) := fun k hk hlt => by
        have hk1 := hk.1
        have e0 : wq.drew.heap.size = wq.heap.size := rfl
        rw [hgrow.block k (by have := hk.2; simp; omega) (fun e => by have := (World.ownsRow.lt HELS.out.own.1 k e.symm).2; omega)]
        exact Below.heap_alloc _ _ _ hlt
       have hS3 : (fun w' => w'.cell? ⟨B, 0, none⟩ = some (.pointer (some ⟨R, 0, none⟩)) ∧ w'.cell? ⟨B + 1, 0, none⟩ = some (.int .i64 (d : Nat))) w3 := by
        have e1 := hG.out B (by omega) (by omega) (fun e => by have := (World.ownsRow.lt HELS.out.own.1 B e).1; omega)
        have e2 := hG.out (B + 1) (by omega) (by omega) (fun e => by have := (World.ownsRow.lt HELS.out.own.1 (B + 1) e).1; omega)
        have s0 := (FA.out wq (Kr.refl R wq)).1
        exact ⟨(World.cell?_of_block (w := wq) e1).trans s0.1, (World.cell?_of_block (w := wq) e2).trans s0.2⟩
       have hbx3 : w3.heap[B + 3]? = some (.cells #[.int .i64 6, .bool false, .int .i64 0, .string ⟨#[]⟩, nv, .slice a5 us.length cap5] 27 (0, 0)) := (hG.out (B + 3) (by omega) (by omega) (fun e => by have := (World.ownsRow.lt HELS.out.own.1 (B + 3) e).1; omega)).trans HBOX.out
       have HBX3 : Hid (w3.heap[B + 3]? = some (.cells #[.int .i64 6, .bool false, .int .i64 0, .string ⟨#[]⟩, nv, .slice a5 us.length cap5] 27 (0, 0))) := hbx3
       clear hown2 hzc hgrow hat hown3 hHeld
       refine wpAnyH_ready (rs := [8]) (by kernel_rfl) (by simp) ?_
       refine AllReadyH.cons rfl (fun K hK => ?_) AllReadyH.nil
       refine op_append rfl (Operand.tmp 17) (Operand.tmp 23) 25 rfl rfl rfl hrun ?_
       refine hK.out _ _ hS3 (fun hHeld => ?_)
       clear hK K hrun
       try simp only [Act.put, zA, zB, zC, zD, zE, zF]
       have n1 : (0 : Int) ≤ (us.length : Int) := by omega
       have n2 : (us.length : Int) < (us.length : Int) + 1 := by omega
       refine wpAnyH_take (i := 9) (v := ?_) rfl (by kernel_rfl) (by kernel_rfl) (by kernel_rfl) (fun _ _ _ h => h) (Or.inl ⟨by rfl, ?_⟩) (by assumption) ?_
       rotate_left 1
       ·intro wq hSw; (try dsimp only at hSw); go_simp; first | done | with_reducible rfl
       try simp only [Act.put, zA, zB, zC, zD, zE, zF]
       refine wpAnyH_take (i := 11) (v := ?_) rfl (by kernel_rfl) (by kernel_rfl) (by kernel_rfl) (fun _ _ _ h => h) (Or.inl ⟨by rfl, ?_⟩) (by assumption) ?_
       rotate_left 1
       ·intro wq hSw; (try dsimp only at hSw); go_simp; first | done | with_reducible rfl
       try simp only [Act.put, zA, zB, zC, zD, zE, zF]
       obtain ⟨q0, q1, q2, q3, q4, q5, eq, c0, c1, c2, c3, c4, c5⟩ := ownV_six OV3.out us.length (by simp)
       have fz := fun j => Copied.frozen_own OV3.out.1 j
       rw [Nat.zero_add] at c0 c1 c2 c3 c4 c5
       obtain ⟨m0, m1, m2, m3, m4, m5⟩ := six_box hbx3
       have mf := frozen_box hbx3 5
       have f0 := fz (us.length * 6)
       have f1 := fz (us.length * 6 + 1)
       have f2 := fz (us.length * 6 + 2)
       have f3 := fz (us.length * 6 + 3)
       have f4 := fz (us.length * 6 + 4)
       have f5 := fz (us.length * 6 + 5)
       clear fz eq hbx3
       have gB : ¬ B + 3 = g3 := by omega
       have gB' : ¬ g3 = B + 3 := by omega
       have hgB : ∀ g, (Value.slice (some ⟨g3, 0, none⟩) (us.length + 1) cap3).ownBlock = some g → g ≠ B + 3 := fun g hg e => by
        have e3 : g3 = g := by simpa [Value.ownBlock] using hg
        omega
       refine wpAnyH_ready (rs := [10, 12]) (by kernel_rfl) (by simp) ?_
       refine AllReadyH.cons rfl (fun K hK => ?_) (AllReadyH.cons rfl (fun K hK => ?_) AllReadyH.nil)
       ·go_simp
        obtain ⟨w4, hw4⟩ : ∃ w4, ((((((w3.setCell ⟨g3, us.length * 6, none⟩ (.int .i64 c.k)).setCell ⟨g3, us.length * 6 + 1, none⟩ (.bool c.b)).setCell ⟨g3, us.length * 6 + 2, none⟩ (.int .i64 c.i)).setCell ⟨g3, us.length * 6 + 3, none⟩ (.string c.s)).setCell ⟨g3, us.length * 6 + 4, none⟩ (.slice p1 y1 r1)).setCell ⟨g3, us.length * 6 + 5, none⟩ (.slice p2 y2 r2)) = w4 := ⟨_, rfl⟩
        rw [hw4]
        obtain ⟨OV4, ot4, sz4, bel4⟩ := set_last OV3.out hone hw4
        have ot4' : ∀ k, k ≠ g3 → k ≠ B + 3 → w4.heap[k]? = w3.heap[k]? := fun k hk _ => ot4 k hk
        clear c0 c1 c2 c3 c4 c5 f0 f1 f2 f3 f4 f5 m0 m1 m2 m3 m4 m5 mf hw4
        have hbx4 := (ot4 (B + 3) gB).trans HBX3.out
        obtain ⟨m0, m1, m2, m3, m4, m5⟩ := six_box hbx4
        have mf := frozen_box hbx4 5
        have Sw4 : (fun w' => w'.cell? ⟨B, 0, none⟩ = some (.pointer (some ⟨R, 0, none⟩)) ∧ w'.cell? ⟨B + 1, 0, none⟩ = some (.int .i64 (d : Nat))) w4 := ⟨(World.cell?_of_block (w := w3) (ot4' B (by omega) (by omega))).trans hS3.1, (World.cell?_of_block (w := w3) (ot4' (B + 1) (by omega) (by omega))).trans hS3.2⟩
        refine hK.out _ _ Sw4 (fun hHeld => ?_)
        clear hK K
        try simp only [Act.put, zA, zB, zC, zD, zE, zF]
        refine wpAnyH_ready (rs := [12]) (by kernel_rfl) (by simp) ?_
        refine AllReadyH.cons rfl (fun K hK => ?_) AllReadyH.nil
        go_simp
        obtain ⟨w5, hw5⟩ : ∃ w5, w4.setCell ⟨B + 3, 5, none⟩ (.slice (some ⟨g3, 0, none⟩) (us.length + 1) cap3) = w5 := ⟨_, rfl⟩
        rw [hw5]
        have ot5 : ∀ k, k ≠ g3 → k ≠ B + 3 → w5.heap[k]? = w3.heap[k]? := fun k hk hk2 => by rw [← hw5, Below.heap_setCell _ _ _ _ hk2]; exact ot4 k hk
        have hBox5 : w5.heap[B + 3]? = some (.cells #[.int .i64 6, .bool false, .int .i64 0, .string ⟨#[]⟩, nv, (.slice (some ⟨g3, 0, none⟩) (us.length + 1) cap3)] 27 (0, 0)) := by rw [← hw5, bset hbx4]; rfl
        have OV5 : OwnV w5 (B + 6) (.slice (some ⟨g3, 0, none⟩) (us.length + 1) cap3) (us ++ [.agg #[.int .i64 c.k, .bool c.b, .int .i64 c.i, .string c.s, .slice p1 y1 r1, .slice p2 y2 r2]]) := ⟨Fresh.own_keep OV4.1 fun g hg => by rw [← hw5]; exact Below.heap_setCell _ _ _ _ (hgB g hg), OV4.2⟩
        have sz5 : w5.heap.size = w3.heap.size := by rw [← hw5]; simpa [World.setCell] using sz4
        have bel5 : Below R wq w5 := by rw [← hw5]; exact (bel4 wq R (by omega) hBel3.out).setCell (p := ⟨B + 3, 5, none⟩) (by simp; omega) _
        have Sw5 : (fun w' => w'.cell? ⟨B, 0, none⟩ = some (.pointer (some ⟨R, 0, none⟩)) ∧ w'.cell? ⟨B + 1, 0, none⟩ = some (.int .i64 (d : Nat))) w5 := ⟨(World.cell?_of_block (w := w3) (ot5 B (by omega) (by omega))).trans hS3.1, (World.cell?_of_block (w := w3) (ot5 (B + 1) (by omega) (by omega))).trans hS3.2⟩
        refine hK.out _ _ Sw5 (fun hHeld => ?_)
        clear hK K hw5 m0 m1 m2 m3 m4 m5 mf
        try simp only [Act.put, zA, zB, zC, zD, zE, zF]
        refine wpAnyH_done (by kernel_rfl) ?_ _
        go_wp2_with fail
        go_end0
        have hgg : ∀ k, k < wq.heap.size → (Value.slice a5 us.length cap5).ownBlock ≠ some k → k ≠ g3 := fun k hk hne e => by
         rcases hAt.out with h9 | h9
         ·exact hne (h9.symm.trans (by rw [e]; rfl))
         ·have h8 : g3 = (w1.alloc (.cells #[.int .i64 0, .bool false, .int .i64 0, .string ⟨#[]⟩, .slice none 0 0, .slice none 0 0] 27)).heap.size := by simpa [Value.ownBlock] using h9
          have := kz.below.size
          omega
        have hr5 : Rd w5 R v s j b' := hRd3.out.keep fun k hk => ot5 k (by omega) (by omega)
        have hXj := hXI.out c j b' rfl
        have e00 : wq.heap.size ≤ wq.drew.heap.size := Nat.le_refl _
        have hs35 := hsz3.out
        rw [World.size_alloc] at hs35
        obtain ⟨kb5, jl5⟩ := HJ.out.more HNT.out HELS.out HD1.out HD2.out hu e00 (by omega) (by omega) OV5 (fun g hg => by
          rcases hAt.out with h9 | h9
          ·exact .inl (h9.symm.trans hg)
          ·have h8 : g = (w1.alloc (.cells #[.int .i64 0, .bool false, .int .i64 0, .string ⟨#[]⟩, .slice none 0 0, .slice none 0 0] 27)).heap.size := by have := hg.symm.trans h9; simpa using this
           rw [World.size_alloc] at h8
           exact .inr ⟨by omega, by omega⟩
         ) hBox5 (fun k hk hkR hkB hne => (ot5 k (hgg k hk hne) hkB).trans (hG.out k hk hkR hne)) (fun k hk hlt => by
          have hk1 := hk.1
          have hk2 := hk.2
          refine (ot5 k (fun e => ?_) (by omega)).trans (hK1.out k hk hlt)
          rcases hAt.out with h9 | h9
          ·have := (World.ownsRow.lt HELS.out.own.1 g3 (h9.symm.trans rfl)).2
           omega
          ·have h8 : g3 = (w1.alloc (.cells #[.int .i64 0, .bool false, .int .i64 0, .string ⟨#[]⟩, .slice none 0 0, .slice none 0 0] 27)).heap.size := by simpa [Value.ownBlock] using h9
           rw [World.size_alloc] at h8
           omega
         ) hr5 (by omega) bel5
        exact ⟨KBQ.out.trans kb5, rfl, jl5, by simp [HLN.out]⟩
       ·go_simp
        obtain ⟨w4, hw4⟩ : ∃ w4, w3.setCell ⟨B + 3, 5, none⟩ (.slice (some ⟨g3, 0, none⟩) (us.length + 1) cap3) = w4 := ⟨_, rfl⟩
        rw [hw4]
        have ot4 : ∀ k, k ≠ B + 3 → w4.heap[k]? = w3.heap[k]? := fun k hk2 => by rw [← hw4]; exact Below.heap_setCell _ _ _ _ hk2
        have ot4' : ∀ k, k ≠ g3 → k ≠ B + 3 → w4.heap[k]? = w3.heap[k]? := fun k _ hk2 => ot4 k hk2
        have hbx4 : w4.heap[B + 3]? = some (.cells #[.int .i64 6, .bool false, .int .i64 0, .string ⟨#[]⟩, nv, (.slice (some ⟨g3, 0, none⟩) (us.length + 1) cap3)] 27 (0, 0)) := by rw [← hw4, bset HBX3.out]; rfl
        have OV4 : OwnV w4 (B + 6) (.slice (some ⟨g3, 0, none⟩) (us.length + 1) cap3) (us ++ [.agg #[.int .i64 0, .bool false, .int .i64 0, .string ⟨#[]⟩, .slice none 0 0, .slice none 0 0]]) := ⟨Fresh.own_keep OV3.out.1 fun g hg => ot4 g (hgB g hg), OV3.out.2⟩
        have sz4 : w4.heap.size = w3.heap.size := by rw [← hw4]; simp [World.setCell]
        have bel4 : Below R wq w4 := by rw [← hw4]; exact hBel3.out.setCell (p := ⟨B + 3, 5, none⟩) (by simp; omega) _
        clear c0 c1 c2 c3 c4 c5 f0 f1 f2 f3 f4 f5 m0 m1 m2 m3 m4 m5 mf hw4
        obtain ⟨q0', q1', q2', q3', q4', q5', eq, c0, c1, c2, c3, c4, c5⟩ := ownV_six OV4 us.length (by simp)
        have fz := fun j => Copied.frozen_own OV4.1 j
        rw [Nat.zero_add] at c0 c1 c2 c3 c4 c5
        have f0 := fz (us.length * 6)
        have f1 := fz (us.length * 6 + 1)
        have f2 := fz (us.length * 6 + 2)
        have f3 := fz (us.length * 6 + 3)
        have f4 := fz (us.length * 6 + 4)
        have f5 := fz (us.length * 6 + 5)
        clear fz eq
        have Sw4 : (fun w' => w'.cell? ⟨B, 0, none⟩ = some (.pointer (some ⟨R, 0, none⟩)) ∧ w'.cell? ⟨B + 1, 0, none⟩ = some (.int .i64 (d : Nat))) w4 := ⟨(World.cell?_of_block (w := w3) (ot4' B (by omega) (by omega))).trans hS3.1, (World.cell?_of_block (w := w3) (ot4' (B + 1) (by omega) (by omega))).trans hS3.2⟩
        refine hK.out _ _ Sw4 (fun hHeld => ?_)
        clear hK K
        try simp only [Act.put, zA, zB, zC, zD, zE, zF]
        refine wpAnyH_ready (rs := [10]) (by kernel_rfl) (by simp) ?_
        refine AllReadyH.cons rfl (fun K hK => ?_) AllReadyH.nil
        go_simp
        obtain ⟨w5, hw5⟩ : ∃ w5, ((((((w4.setCell ⟨g3, us.length * 6, none⟩ (.int .i64 c.k)).setCell ⟨g3, us.length * 6 + 1, none⟩ (.bool c.b)).setCell ⟨g3, us.length * 6 + 2, none⟩ (.int .i64 c.i)).setCell ⟨g3, us.length * 6 + 3, none⟩ (.string c.s)).setCell ⟨g3, us.length * 6 + 4, none⟩ (.slice p1 y1 r1)).setCell ⟨g3, us.length * 6 + 5, none⟩ (.slice p2 y2 r2)) = w5 := ⟨_, rfl⟩
        rw [hw5]
        obtain ⟨OV5, oth5, sz5', bel5'⟩ := set_last OV4 hone hw5
        have ot5 : ∀ k, k ≠ g3 → k ≠ B + 3 → w5.heap[k]? = w3.heap[k]? := fun k hk hk2 => (oth5 k hk).trans (ot4 k hk2)
        have hBox5 := (oth5 (B + 3) gB).trans hbx4
        have sz5 : w5.heap.size = w3.heap.size := sz5'.trans sz4
        have bel5 : Below R wq w5 := bel5' wq R (by omega) bel4
        have Sw5 : (fun w' => w'.cell? ⟨B, 0, none⟩ = some (.pointer (some ⟨R, 0, none⟩)) ∧ w'.cell? ⟨B + 1, 0, none⟩ = some (.int .i64 (d : Nat))) w5 := ⟨(World.cell?_of_block (w := w3) (ot5 B (by omega) (by omega))).trans hS3.1, (World.cell?_of_block (w := w3) (ot5 (B + 1) (by omega) (by omega))).trans hS3.2⟩
        refine hK.out _ _ Sw5 (fun hHeld => ?_)
        clear hK K hw5 c0 c1 c2 c3 c4 c5 f0 f1 f2 f3 f4 f5
        try simp only [Act.put, zA, zB, zC, zD, zE, zF]
        refine wpAnyH_done (by kernel_rfl) ?_ _
        go_wp2_with fail
        go_end0
        have hgg : ∀ k, k < wq.heap.size → (Value.slice a5 us.length cap5).ownBlock ≠ some k → k ≠ g3 := fun k hk hne e => by
         rcases hAt.out with h9 | h9
         ·exact hne (h9.symm.trans (by rw [e]; rfl))
         ·have h8 : g3 = (w1.alloc (.cells #[.int .i64 0, .bool false, .int .i64 0, .string ⟨#[]⟩, .slice none 0 0, .slice none 0 0] 27)).heap.size := by simpa [Value.ownBlock] using h9
          have := kz.below.size
          omega
        have hr5 : Rd w5 R v s j b' := hRd3.out.keep fun k hk => ot5 k (by omega) (by omega)
        have hXj := hXI.out c j b' rfl
        have e00 : wq.heap.size ≤ wq.drew.heap.size := Nat.le_refl _
        have hs35 := hsz3.out
        rw [World.size_alloc] at hs35
        obtain ⟨kb5, jl5⟩ := HJ.out.more HNT.out HELS.out HD1.out HD2.out hu e00 (by omega) (by omega) OV5 (fun g hg => by
          rcases hAt.out with h9 | h9
          ·exact .inl (h9.symm.trans hg)
          ·have h8 : g = (w1.alloc (.cells #[.int .i64 0, .bool false, .int .i64 0, .string ⟨#[]⟩, .slice none 0 0, .slice none 0 0] 27)).heap.size := by have := hg.symm.trans h9; simpa using this
           rw [World.size_alloc] at h8
           exact .inr ⟨by omega, by omega⟩
         ) hBox5 (fun k hk hkR hkB hne => (ot5 k (hgg k hk hne) hkB).trans (hG.out k hk hkR hne)) (fun k hk hlt => by
          have hk1 := hk.1
          have hk2 := hk.2
          refine (ot5 k (fun e => ?_) (by omega)).trans (hK1.out k hk hlt)
          rcases hAt.out with h9 | h9
          ·have := (World.ownsRow.lt HELS.out.own.1 g3 (h9.symm.trans rfl)).2
           omega
          ·have h8 : g3 = (w1.alloc (.cells #[.int .i64 0, .bool false, .int .i64 0, .string ⟨#[]⟩, .slice none 0 0, .slice none 0 0] 27)).heap.size := by simpa [Value.ownBlock] using h9
           rw [World.size_alloc] at h8
           omega
         ) hr5 (by omega) bel5
        exact ⟨KBQ.out.trans kb5, rfl, jl5, by simp [HLN.out]⟩
    ·go_simp
     refine hK.out _ _ ?_ (fun hHeld => ?_)
     ·exact (FA.out _ (((Kr.refl R wq).alloc HW.out (.cells #[.int .i64 0, .bool false, .int .i64 0, .string ⟨#[]⟩, .slice none 0 0, .slice none 0 0] 27)).drew)).1
     clear hK K
     try simp only [Act.put, zA, zB, zC, zD, zE, zF]
     refine wpAnyH_ready (rs := [1, 5]) (by kernel_rfl) (by simp) ?_
     refine AllReadyH.cons rfl (fun K hK => ?_) (AllReadyH.cons rfl (fun K hK => ?_) (AllReadyH.nil))
     ·have hl5 := (FA.out _ (((Kr.refl R wq).alloc HW.out (.cells #[.int .i64 0, .bool false, .int .i64 0, .string ⟨#[]⟩, .slice none 0 0, .slice none 0 0] 27)).drew)).2
      go_simp
      refine hK.out _ _ ?_ (fun hHeld => ?_)
      ·exact (FA.out _ (((Kr.refl R wq).alloc HW.out (.cells #[.int .i64 0, .bool false, .int .i64 0, .string ⟨#[]⟩, .slice none 0 0, .slice none 0 0] 27)).drew)).1
      clear hK K hl5
      try simp only [Act.put, zA, zB, zC, zD, zE, zF]
      refine wpAnyH_take (i := 6) (v := ?_) rfl (by kernel_rfl) (by kernel_rfl) (by kernel_rfl) (fun _ _ _ h => h) (Or.inl ⟨by rfl, ?_⟩) (by assumption) ?_
      rotate_left 1
      ·intro wq hSw; (try dsimp only at hSw); go_simp; first | done | with_reducible rfl
      try simp only [Act.put, zA, zB, zC, zD, zE, zF]
      refine wpAnyH_ready (rs := [5]) (by kernel_rfl) (by simp) ?_
      refine AllReadyH.cons rfl (fun K hK => ?_) (AllReadyH.nil)
      ·go_simp
       have cv := CV.out _ (((Below.refl _ wq).alloc (Nat.le_refl _) (.cells #[.int .i64 0, .bool false, .int .i64 0, .string ⟨#[]⟩, .slice none 0 0, .slice none 0 0] 27)).drew)
       refine cv.mono ?_
       rintro e w1 ⟨k1, ⟨u, rfl, hu⟩, h1⟩
       obtain ⟨x0, x1, x2, x3, x4, x5, rfl, hone⟩ := hu.in.six
       obtain ⟨p1, y1, r1, p2, y2, r2, rfl, rfl, rfl, rfl, rfl, rfl⟩ := hu.in.kinds
       have kk := (((Kr.refl R wq).alloc HW.out (.cells #[.int .i64 0, .bool false, .int .i64 0, .string ⟨#[]⟩, .slice none 0 0, .slice none 0 0] 27)).drew).trans k1
       go_wp2_with fail
       refine hK.out _ _ ?_ (fun hHeld => ?_)
       ·exact (FA.out _ kk).1
       clear hK K cv
       try simp only [Act.put, zA, zB, zC, zD, zE, zF]
       have hs1 := k1.below.size
       have e0w : ((wq.alloc (.cells #[.int .i64 0, .bool false, .int .i64 0, .string ⟨#[]⟩, .slice none 0 0, .slice none 0 0] 27)).drew).heap.size = wq.heap.size + 1 := by simp
       have hsw : wq.heap.size + 1 ≤ w1.heap.size := by omega
       have kz : Kr R wq w1 := kk
       have hz1' : w1.heap[wq.heap.size]? = some (.cells [.int .i64 0, .bool false, .int .i64 0, .string ⟨#[]⟩, .slice none 0 0, .slice none 0 0].toArray 27 (0, 0)) := (k1.other wq.heap.size (by have := HW.out; have := HJ.out.RB; have := HJ.out.sz; omega) (by simp)).trans (heap_alloc_new wq _)
       have hzc := zc_of hz1'
       have hown2 := Byts.own_kr HELS.out.own.1 kz (by omega : R < B + 6)
       obtain ⟨lv', w3, hrun, hown3, hgrow, -, hat⟩ := run_append_own_at (P := Tryz.prog) w1 (B + 6) 25 25 27 i0 (.agg #[.int .i64 0, .bool false, .int .i64 0, .string ⟨#[]⟩, .slice none 0 0, .slice none 0 0]) 6 88 Tryz.underlying25 hi0 hz0 hz1 hz2 rfl (by decide) _ _ _ hown2 ⟨wq.heap.size, 0, none⟩ 1 1 [.int .i64 0, .bool false, .int .i64 0, .string ⟨#[]⟩, .slice none 0 0, .slice none 0 0] rfl hzc (by decide) (by unfold maxLen; omega) (by omega) (by have := kz.below.size; omega)
       obtain ⟨g3, cap3, rfl⟩ : ∃ g3 cap3, lv' = .slice (some ⟨g3, 0, none⟩) (us.length + 1) cap3 := by
        rcases hown3.2 with ⟨_, e⟩ | ⟨g, cap, cur, e, _⟩
        ·omega
        ·exact ⟨g, cap, e⟩
       have OV3 : Hid (OwnV w3 (B + 6) (.slice (some ⟨g3, 0, none⟩) (us.length + 1) cap3) (us ++ [.agg #[.int .i64 0, .bool false, .int .i64 0, .string ⟨#[]⟩, .slice none 0 0, .slice none 0 0]])) := by
        refine ⟨?_, sixes_snoc HELS.out.own.2 ⟨_, _, _, _, _, _, rfl, by decide⟩⟩
        rw [flat_append, List.length_append]
        exact hown3
       have hg3 := World.ownsRow.lt hown3 g3 rfl
       have hkc : cap3 ≤ 9223372036854775807 ∧ us.length + 1 ≤ cap3 := by have := ownV_cap OV3.out; unfold maxLen at this; omega
       obtain ⟨hkc1, hkc2⟩ := hkc
       have hG : Hid (∀ k, k < wq.heap.size → k ≠ R → (Value.slice a5 us.length cap5).ownBlock ≠ some k → w3.heap[k]? = wq.heap[k]?) := fun k hk hkR hne => (hgrow.block k (by have := kz.below.size; omega) (fun e => hne e.symm)).trans (kz.other k hkR hk)
       have hsz3 : Hid (w1.heap.size ≤ w3.heap.size) := hgrow.size
       have hRd3 : Hid (Rd w3 R v s j b') := Byts.rd_grown (B := B + 6) h1 (by omega) hgrow (fun k hk => (World.ownsRow.lt hown2 k hk).1)
       have hBel3 : Hid (Below R wq w3) := kz.below.grown hgrow (by have := HW.out; have := kz.below.size; omega) (fun k hk => by have := (World.ownsRow.lt hown2 k hk).1; omega)
       have hAt : Hid ((Value.slice (some ⟨g3, 0, none⟩) (us.length + 1) cap3).ownBlock = (Value.slice a5 us.length cap5).ownBlock ∨ (Value.slice (some ⟨g3, 0, none⟩) (us.length + 1) cap3).ownBlock = some w1.heap.size) := hat
       have hK1 : Hid (Keep (Rg ((wq.alloc (.cells #[.int .i64 0, .bool false, .int .i64 0, .string ⟨#[]⟩, .slice none 0 0, .slice none 0 0] 27)).drew).heap.size w1.heap.size) w1 w3) := fun k hk hlt => by
        have hk1 := hk.1
        have e0 : ((wq.alloc (.cells #[.int .i64 0, .bool false, .int .i64 0, .string ⟨#[]⟩, .slice none 0 0, .slice none 0 0] 27)).drew).heap.size = wq.heap.size + 1 := by simp
        rw [hgrow.block k (by have := hk.2; omega) (fun e => by have := (World.ownsRow.lt HELS.out.own.1 k e.symm).2; omega)]
       have hS3 : (fun w' => w'.cell? ⟨B, 0, none⟩ = some (.pointer (some ⟨R, 0, none⟩)) ∧ w'.cell? ⟨B + 1, 0, none⟩ = some (.int .i64 (d : Nat))) w3 := by
        have e1 := hG.out B (by omega) (by omega) (fun e => by have := (World.ownsRow.lt HELS.out.own.1 B e).1; omega)
        have e2 := hG.out (B + 1) (by omega) (by omega) (fun e => by have := (World.ownsRow.lt HELS.out.own.1 (B + 1) e).1; omega)
        have s0 := (FA.out wq (Kr.refl R wq)).1
        exact ⟨(World.cell?_of_block (w := wq) e1).trans s0.1, (World.cell?_of_block (w := wq) e2).trans s0.2⟩
       have hbx3 : w3.heap[B + 3]? = some (.cells #[.int .i64 6, .bool false, .int .i64 0, .string ⟨#[]⟩, nv, .slice a5 us.length cap5] 27 (0, 0)) := (hG.out (B + 3) (by omega) (by omega) (fun e => by have := (World.ownsRow.lt HELS.out.own.1 (B + 3) e).1; omega)).trans HBOX.out
       have HBX3 : Hid (w3.heap[B + 3]? = some (.cells #[.int .i64 6, .bool false, .int .i64 0, .string ⟨#[]⟩, nv, .slice a5 us.length cap5] 27 (0, 0))) := hbx3
       clear hown2 hzc hgrow hat hown3 hHeld
       refine wpAnyH_ready (rs := [8]) (by kernel_rfl) (by simp) ?_
       refine AllReadyH.cons rfl (fun K hK => ?_) AllReadyH.nil
       refine op_append rfl (Operand.tmp 17) (Operand.tmp 23) 25 rfl rfl rfl hrun ?_
       refine hK.out _ _ hS3 (fun hHeld => ?_)
       clear hK K hrun
       try simp only [Act.put, zA, zB, zC, zD, zE, zF]
       have n1 : (0 : Int) ≤ (us.length : Int) := by omega
       have n2 : (us.length : Int) < (us.length : Int) + 1 := by omega
       refine wpAnyH_take (i := 9) (v := ?_) rfl (by kernel_rfl) (by kernel_rfl) (by kernel_rfl) (fun _ _ _ h => h) (Or.inl ⟨by rfl, ?_⟩) (by assumption) ?_
       rotate_left 1
       ·intro wq hSw; (try dsimp only at hSw); go_simp; first | done | with_reducible rfl
       try simp only [Act.put, zA, zB, zC, zD, zE, zF]
       refine wpAnyH_take (i := 11) (v := ?_) rfl (by kernel_rfl) (by kernel_rfl) (by kernel_rfl) (fun _ _ _ h => h) (Or.inl ⟨by rfl, ?_⟩) (by assumption) ?_
       rotate_left 1
       ·intro wq hSw; (try dsimp only at hSw); go_simp; first | done | with_reducible rfl
       try simp only [Act.put, zA, zB, zC, zD, zE, zF]
       obtain ⟨q0, q1, q2, q3, q4, q5, eq, c0, c1, c2, c3, c4, c5⟩ := ownV_six OV3.out us.length (by simp)
       have fz := fun j => Copied.frozen_own OV3.out.1 j
       rw [Nat.zero_add] at c0 c1 c2 c3 c4 c5
       obtain ⟨m0, m1, m2, m3, m4, m5⟩ := six_box hbx3
       have mf := frozen_box hbx3 5
       have f0 := fz (us.length * 6)
       have f1 := fz (us.length * 6 + 1)
       have f2 := fz (us.length * 6 + 2)
       have f3 := fz (us.length * 6 + 3)
       have f4 := fz (us.length * 6 + 4)
       have f5 := fz (us.length * 6 + 5)
       clear fz eq hbx3
       have gB : ¬ B + 3 = g3 := by omega
       have gB' : ¬ g3 = B + 3 := by omega
       have hgB : ∀ g, (Value.slice (some ⟨g3, 0, none⟩) (us.length + 1) cap3).ownBlock = some g → g ≠ B + 3 := fun g hg e => by
        have e3 : g3 = g := by simpa [Value.ownBlock] using hg
        omega
       refine wpAnyH_ready (rs := [10, 12]) (by kernel_rfl) (by simp) ?_
       refine AllReadyH.cons rfl (fun K hK => ?_) (AllReadyH.cons rfl (fun K hK => ?_) AllReadyH.nil)
       ·go_simp
        obtain ⟨w4, hw4⟩ : ∃ w4, ((((((w3.setCell ⟨g3, us.length * 6, none⟩ (.int .i64 c.k)).setCell ⟨g3, us.length * 6 + 1, none⟩ (.bool c.b)).setCell ⟨g3, us.length * 6 + 2, none⟩ (.int .i64 c.i)).setCell ⟨g3, us.length * 6 + 3, none⟩ (.string c.s)).setCell ⟨g3, us.length * 6 + 4, none⟩ (.slice p1 y1 r1)).setCell ⟨g3, us.length * 6 + 5, none⟩ (.slice p2 y2 r2)) = w4 := ⟨_, rfl⟩
        rw [hw4]
        obtain ⟨OV4, ot4, sz4, bel4⟩ := set_last OV3.out hone hw4
        have ot4' : ∀ k, k ≠ g3 → k ≠ B + 3 → w4.heap[k]? = w3.heap[k]? := fun k hk _ => ot4 k hk
        clear c0 c1 c2 c3 c4 c5 f0 f1 f2 f3 f4 f5 m0 m1 m2 m3 m4 m5 mf hw4
        have hbx4 := (ot4 (B + 3) gB).trans HBX3.out
        obtain ⟨m0, m1, m2, m3, m4, m5⟩ := six_box hbx4
        have mf := frozen_box hbx4 5
        have Sw4 : (fun w' => w'.cell? ⟨B, 0, none⟩ = some (.pointer (some ⟨R, 0, none⟩)) ∧ w'.cell? ⟨B + 1, 0, none⟩ = some (.int .i64 (d : Nat))) w4 := ⟨(World.cell?_of_block (w := w3) (ot4' B (by omega) (by omega))).trans hS3.1, (World.cell?_of_block (w := w3) (ot4' (B + 1) (by omega) (by omega))).trans hS3.2⟩
        refine hK.out _ _ Sw4 (fun hHeld => ?_)
        clear hK K
        try simp only [Act.put, zA, zB, zC, zD, zE, zF]
        refine wpAnyH_ready (rs := [12]) (by kernel_rfl) (by simp) ?_
        refine AllReadyH.cons rfl (fun K hK => ?_) AllReadyH.nil
        go_simp
        obtain ⟨w5, hw5⟩ : ∃ w5, w4.setCell ⟨B + 3, 5, none⟩ (.slice (some ⟨g3, 0, none⟩) (us.length + 1) cap3) = w5 := ⟨_, rfl⟩
        rw [hw5]
        have ot5 : ∀ k, k ≠ g3 → k ≠ B + 3 → w5.heap[k]? = w3.heap[k]? := fun k hk hk2 => by rw [← hw5, Below.heap_setCell _ _ _ _ hk2]; exact ot4 k hk
        have hBox5 : w5.heap[B + 3]? = some (.cells #[.int .i64 6, .bool false, .int .i64 0, .string ⟨#[]⟩, nv, (.slice (some ⟨g3, 0, none⟩) (us.length + 1) cap3)] 27 (0, 0)) := by rw [← hw5, bset hbx4]; rfl
        have OV5 : OwnV w5 (B + 6) (.slice (some ⟨g3, 0, none⟩) (us.length + 1) cap3) (us ++ [.agg #[.int .i64 c.k, .bool c.b, .int .i64 c.i, .string c.s, .slice p1 y1 r1, .slice p2 y2 r2]]) := ⟨Fresh.own_keep OV4.1 fun g hg => by rw [← hw5]; exact Below.heap_setCell _ _ _ _ (hgB g hg), OV4.2⟩
        have sz5 : w5.heap.size = w3.heap.size := by rw [← hw5]; simpa [World.setCell] using sz4
        have bel5 : Below R wq w5 := by rw [← hw5]; exact (bel4 wq R (by omega) hBel3.out).setCell (p := ⟨B + 3, 5, none⟩) (by simp; omega) _
        have Sw5 : (fun w' => w'.cell? ⟨B, 0, none⟩ = some (.pointer (some ⟨R, 0, none⟩)) ∧ w'.cell? ⟨B + 1, 0, none⟩ = some (.int .i64 (d : Nat))) w5 := ⟨(World.cell?_of_block (w := w3) (ot5 B (by omega) (by omega))).trans hS3.1, (World.cell?_of_block (w := w3) (ot5 (B + 1) (by omega) (by omega))).trans hS3.2⟩
        refine hK.out _ _ Sw5 (fun hHeld => ?_)
        clear hK K hw5 m0 m1 m2 m3 m4 m5 mf
        try simp only [Act.put, zA, zB, zC, zD, zE, zF]
        refine wpAnyH_done (by kernel_rfl) ?_ _
        go_wp2_with fail
        go_end0
        have hgg : ∀ k, k < wq.heap.size → (Value.slice a5 us.length cap5).ownBlock ≠ some k → k ≠ g3 := fun k hk hne e => by
         rcases hAt.out with h9 | h9
         ·exact hne (h9.symm.trans (by rw [e]; rfl))
         ·have h8 : g3 = w1.heap.size := by simpa [Value.ownBlock] using h9
          have := kz.below.size
          omega
        have hr5 : Rd w5 R v s j b' := hRd3.out.keep fun k hk => ot5 k (by omega) (by omega)
        have hXj := hXI.out c j b' rfl
        have e00 : wq.heap.size ≤ ((wq.alloc (.cells #[.int .i64 0, .bool false, .int .i64 0, .string ⟨#[]⟩, .slice none 0 0, .slice none 0 0] 27)).drew).heap.size := by simp
        have hs35 := hsz3.out
        obtain ⟨kb5, jl5⟩ := HJ.out.more HNT.out HELS.out HD1.out HD2.out hu e00 (by omega) (by omega) OV5 (fun g hg => by
          rcases hAt.out with h9 | h9
          ·exact .inl (h9.symm.trans hg)
          ·have h8 : g = w1.heap.size := by have := hg.symm.trans h9; simpa using this
           exact .inr ⟨by omega, by omega⟩
         ) hBox5 (fun k hk hkR hkB hne => (ot5 k (hgg k hk hne) hkB).trans (hG.out k hk hkR hne)) (fun k hk hlt => by
          have hk1 := hk.1
          have hk2 := hk.2
          refine (ot5 k (fun e => ?_) (by omega)).trans (hK1.out k hk hlt)
          rcases hAt.out with h9 | h9
          ·have := (World.ownsRow.lt HELS.out.own.1 g3 (h9.symm.trans rfl)).2
           omega
          ·have h8 : g3 = w1.heap.size := by simpa [Value.ownBlock] using h9
           omega
         ) hr5 (by omega) bel5
        exact ⟨KBQ.out.trans kb5, rfl, jl5, by simp [HLN.out]⟩
       ·go_simp
        obtain ⟨w4, hw4⟩ : ∃ w4, w3.setCell ⟨B + 3, 5, none⟩ (.slice (some ⟨g3, 0, none⟩) (us.length + 1) cap3) = w4 := ⟨_, rfl⟩
        rw [hw4]
        have ot4 : ∀ k, k ≠ B + 3 → w4.heap[k]? = w3.heap[k]? := fun k hk2 => by rw [← hw4]; exact Below.heap_setCell _ _ _ _ hk2
        have ot4' : ∀ k, k ≠ g3 → k ≠ B + 3 → w4.heap[k]? = w3.heap[k]? := fun k _ hk2 => ot4 k hk2
        have hbx4 : w4.heap[B + 3]? = some (.cells #[.int .i64 6, .bool false, .int .i64 0, .string ⟨#[]⟩, nv, (.slice (some ⟨g3, 0, none⟩) (us.length + 1) cap3)] 27 (0, 0)) := by rw [← hw4, bset HBX3.out]; rfl
        have OV4 : OwnV w4 (B + 6) (.slice (some ⟨g3, 0, none⟩) (us.length + 1) cap3) (us ++ [.agg #[.int .i64 0, .bool false, .int .i64 0, .string ⟨#[]⟩, .slice none 0 0, .slice none 0 0]]) := ⟨Fresh.own_keep OV3.out.1 fun g hg => ot4 g (hgB g hg), OV3.out.2⟩
        have sz4 : w4.heap.size = w3.heap.size := by rw [← hw4]; simp [World.setCell]
        have bel4 : Below R wq w4 := by rw [← hw4]; exact hBel3.out.setCell (p := ⟨B + 3, 5, none⟩) (by simp; omega) _
        clear c0 c1 c2 c3 c4 c5 f0 f1 f2 f3 f4 f5 m0 m1 m2 m3 m4 m5 mf hw4
        obtain ⟨q0', q1', q2', q3', q4', q5', eq, c0, c1, c2, c3, c4, c5⟩ := ownV_six OV4 us.length (by simp)
        have fz := fun j => Copied.frozen_own OV4.1 j
        rw [Nat.zero_add] at c0 c1 c2 c3 c4 c5
        have f0 := fz (us.length * 6)
        have f1 := fz (us.length * 6 + 1)
        have f2 := fz (us.length * 6 + 2)
        have f3 := fz (us.length * 6 + 3)
        have f4 := fz (us.length * 6 + 4)
        have f5 := fz (us.length * 6 + 5)
        clear fz eq
        have Sw4 : (fun w' => w'.cell? ⟨B, 0, none⟩ = some (.pointer (some ⟨R, 0, none⟩)) ∧ w'.cell? ⟨B + 1, 0, none⟩ = some (.int .i64 (d : Nat))) w4 := ⟨(World.cell?_of_block (w := w3) (ot4' B (by omega) (by omega))).trans hS3.1, (World.cell?_of_block (w := w3) (ot4' (B + 1) (by omega) (by omega))).trans hS3.2⟩
        refine hK.out _ _ Sw4 (fun hHeld => ?_)
        clear hK K
        try simp only [Act.put, zA, zB, zC, zD, zE, zF]
        refine wpAnyH_ready (rs := [10]) (by kernel_rfl) (by simp) ?_
        refine AllReadyH.cons rfl (fun K hK => ?_) AllReadyH.nil
        go_simp
        obtain ⟨w5, hw5⟩ : ∃ w5, ((((((w4.setCell ⟨g3, us.length * 6, none⟩ (.int .i64 c.k)).setCell ⟨g3, us.length * 6 + 1, none⟩ (.bool c.b)).setCell ⟨g3, us.length * 6 + 2, none⟩ (.int .i64 c.i)).setCell ⟨g3, us.length * 6 + 3, none⟩ (.string c.s)).setCell ⟨g3, us.length * 6 + 4, none⟩ (.slice p1 y1 r1)).setCell ⟨g3, us.length * 6 + 5, none⟩ (.slice p2 y2 r2)) = w5 := ⟨_, rfl⟩
        rw [hw5]
        obtain ⟨OV5, oth5, sz5', bel5'⟩ := set_last OV4 hone hw5
        have ot5 : ∀ k, k ≠ g3 → k ≠ B + 3 → w5.heap[k]? = w3.heap[k]? := fun k hk hk2 => (oth5 k hk).trans (ot4 k hk2)
        have hBox5 := (oth5 (B + 3) gB).trans hbx4
        have sz5 : w5.heap.size = w3.heap.size := sz5'.trans sz4
        have bel5 : Below R wq w5 := bel5' wq R (by omega) bel4
        have Sw5 : (fun w' => w'.cell? ⟨B, 0, none⟩ = some (.pointer (some ⟨R, 0, none⟩)) ∧ w'.cell? ⟨B + 1, 0, none⟩ = some (.int .i64 (d : Nat))) w5 := ⟨(World.cell?_of_block (w := w3) (ot5 B (by omega) (by omega))).trans hS3.1, (World.cell?_of_block (w := w3) (ot5 (B + 1) (by omega) (by omega))).trans hS3.2⟩
        refine hK.out _ _ Sw5 (fun hHeld => ?_)
        clear hK K hw5 c0 c1 c2 c3 c4 c5 f0 f1 f2 f3 f4 f5
        try simp only [Act.put, zA, zB, zC, zD, zE, zF]
        refine wpAnyH_done (by kernel_rfl) ?_ _
        go_wp2_with fail
        go_end0
        have hgg : ∀ k, k < wq.heap.size → (Value.slice a5 us.length cap5).ownBlock ≠ some k → k ≠ g3 := fun k hk hne e => by
         rcases hAt.out with h9 | h9
         ·exact hne (h9.symm.trans (by rw [e]; rfl))
         ·have h8 : g3 = w1.heap.size := by simpa [Value.ownBlock] using h9
          have := kz.below.size
          omega
        have hr5 : Rd w5 R v s j b' := hRd3.out.keep fun k hk => ot5 k (by omega) (by omega)
        have hXj := hXI.out c j b' rfl
        have e00 : wq.heap.size ≤ ((wq.alloc (.cells #[.int .i64 0, .bool false, .int .i64 0, .string ⟨#[]⟩, .slice none 0 0, .slice none 0 0] 27)).drew).heap.size := by simp
        have hs35 := hsz3.out
        obtain ⟨kb5, jl5⟩ := HJ.out.more HNT.out HELS.out HD1.out HD2.out hu e00 (by omega) (by omega) OV5 (fun g hg => by
          rcases hAt.out with h9 | h9
          ·exact .inl (h9.symm.trans hg)
          ·have h8 : g = w1.heap.size := by have := hg.symm.trans h9; simpa using this
           exact .inr ⟨by omega, by omega⟩
         ) hBox5 (fun k hk hkR hkB hne => (ot5 k (hgg k hk hne) hkB).trans (hG.out k hk hkR hne)) (fun k hk hlt => by
          have hk1 := hk.1
          have hk2 := hk.2
          refine (ot5 k (fun e => ?_) (by omega)).trans (hK1.out k hk hlt)
          rcases hAt.out with h9 | h9
          ·have := (World.ownsRow.lt HELS.out.own.1 g3 (h9.symm.trans rfl)).2
           omega
          ·have h8 : g3 = w1.heap.size := by simpa [Value.ownBlock] using h9
           omega
         ) hr5 (by omega) bel5
        exact ⟨KBQ.out.trans kb5, rfl, jl5, by simp [HLN.out]⟩
     ·go_simp
      have cv := CV.out _ (((Below.refl _ wq).alloc (Nat.le_refl _) (.cells #[.int .i64 0, .bool false, .int .i64 0, .string ⟨#[]⟩, .slice none 0 0, .slice none 0 0] 27)).drew)
      refine cv.mono ?_
      rintro e w1 ⟨k1, ⟨u, rfl, hu⟩, h1⟩
      obtain ⟨x0, x1, x2, x3, x4, x5, rfl, hone⟩ := hu.in.six
      obtain ⟨p1, y1, r1, p2, y2, r2, rfl, rfl, rfl, rfl, rfl, rfl⟩ := hu.in.kinds
      have kk := (((Kr.refl R wq).alloc HW.out (.cells #[.int .i64 0, .bool false, .int .i64 0, .string ⟨#[]⟩, .slice none 0 0, .slice none 0 0] 27)).drew).trans k1
      go_wp2_with fail
      refine hK.out _ _ ?_ (fun hHeld => ?_)
      ·exact (FA.out _ kk).1
      clear hK K cv
      try simp only [Act.put, zA, zB, zC, zD, zE, zF]
      refine wpAnyH_ready (rs := [1]) (by kernel_rfl) (by simp) ?_
      refine AllReadyH.cons rfl (fun K hK => ?_) (AllReadyH.nil)
      ·have hl5 := (FA.out _ kk).2
       go_simp
       refine hK.out _ _ ?_ (fun hHeld => ?_)
       ·exact (FA.out _ kk).1
       clear hK K hl5
       try simp only [Act.put, zA, zB, zC, zD, zE, zF]
       refine wpAnyH_take (i := 6) (v := ?_) rfl (by kernel_rfl) (by kernel_rfl) (by kernel_rfl) (fun _ _ _ h => h) (Or.inl ⟨by rfl, ?_⟩) (by assumption) ?_
       rotate_left 1
       ·intro wq hSw; (try dsimp only at hSw); go_simp; first | done | with_reducible rfl
       try simp only [Act.put, zA, zB, zC, zD, zE, zF]
       have hs1 := k1.below.size
       have e0w : ((wq.alloc (.cells #[.int .i64 0, .bool false, .int .i64 0, .string ⟨#[]⟩, .slice none 0 0, .slice none 0 0] 27)).drew).heap.size = wq.heap.size + 1 := by simp
       have hsw : wq.heap.size + 1 ≤ w1.heap.size := by omega
       have kz : Kr R wq w1 := kk
       have hz1' : w1.heap[wq.heap.size]? = some (.cells [.int .i64 0, .bool false, .int .i64 0, .string ⟨#[]⟩, .slice none 0 0, .slice none 0 0].toArray 27 (0, 0)) := (k1.other wq.heap.size (by have := HW.out; have := HJ.out.RB; have := HJ.out.sz; omega) (by simp)).trans (heap_alloc_new wq _)
       have hzc := zc_of hz1'
       have hown2 := Byts.own_kr HELS.out.own.1 kz (by omega : R < B + 6)
       obtain ⟨lv', w3, hrun, hown3, hgrow, -, hat⟩ := run_append_own_at (P := Tryz.prog) w1 (B + 6) 25 25 27 i0 (.agg #[.int .i64 0, .bool false, .int .i64 0, .string ⟨#[]⟩, .slice none 0 0, .slice none 0 0]) 6 88 Tryz.underlying25 hi0 hz0 hz1 hz2 rfl (by decide) _ _ _ hown2 ⟨wq.heap.size, 0, none⟩ 1 1 [.int .i64 0, .bool false, .int .i64 0, .string ⟨#[]⟩, .slice none 0 0, .slice none 0 0] rfl hzc (by decide) (by unfold maxLen; omega) (by omega) (by have := kz.below.size; omega)
       obtain ⟨g3, cap3, rfl⟩ : ∃ g3 cap3, lv' = .slice (some ⟨g3, 0, none⟩) (us.length + 1) cap3 := by
        rcases hown3.2 with ⟨_, e⟩ | ⟨g, cap, cur, e, _⟩
        ·omega
        ·exact ⟨g, cap, e⟩
       have OV3 : Hid (OwnV w3 (B + 6) (.slice (some ⟨g3, 0, none⟩) (us.length + 1) cap3) (us ++ [.agg #[.int .i64 0, .bool false, .int .i64 0, .string ⟨#[]⟩, .slice none 0 0, .slice none 0 0]])) := by
        refine ⟨?_, sixes_snoc HELS.out.own.2 ⟨_, _, _, _, _, _, rfl, by decide⟩⟩
        rw [flat_append, List.length_append]
        exact hown3
       have hg3 := World.ownsRow.lt hown3 g3 rfl
       have hkc : cap3 ≤ 9223372036854775807 ∧ us.length + 1 ≤ cap3 := by have := ownV_cap OV3.out; unfold maxLen at this; omega
       obtain ⟨hkc1, hkc2⟩ := hkc
       have hG : Hid (∀ k, k < wq.heap.size → k ≠ R → (Value.slice a5 us.length cap5).ownBlock ≠ some k → w3.heap[k]? = wq.heap[k]?) := fun k hk hkR hne => (hgrow.block k (by have := kz.below.size; omega) (fun e => hne e.symm)).trans (kz.other k hkR hk)
       have hsz3 : Hid (w1.heap.size ≤ w3.heap.size) := hgrow.size
       have hRd3 : Hid (Rd w3 R v s j b') := Byts.rd_grown (B := B + 6) h1 (by omega) hgrow (fun k hk => (World.ownsRow.lt hown2 k hk).1)
       have hBel3 : Hid (Below R wq w3) := kz.below.grown hgrow (by have := HW.out; have := kz.below.size; omega) (fun k hk => by have := (World.ownsRow.lt hown2 k hk).1; omega)
       have hAt : Hid ((Value.slice (some ⟨g3, 0, none⟩) (us.length + 1) cap3).ownBlock = (Value.slice a5 us.length cap5).ownBlock ∨ (Value.slice (some ⟨g3, 0, none⟩) (us.length + 1) cap3).ownBlock = some w1.heap.size) := hat
       have hK1 : Hid (Keep (Rg ((wq.alloc (.cells #[.int .i64 0, .bool false, .int .i64 0, .string ⟨#[]⟩, .slice none 0 0, .slice none 0 0] 27)).drew).heap.size w1.heap.size) w1 w3) := fun k hk hlt => by
        have hk1 := hk.1
        have e0 : ((wq.alloc (.cells #[.int .i64 0, .bool false, .int .i64 0, .string ⟨#[]⟩, .slice none 0 0, .slice none 0 0] 27)).drew).heap.size = wq.heap.size + 1 := by simp
        rw [hgrow.block k (by have := hk.2; omega) (fun e => by have := (World.ownsRow.lt HELS.out.own.1 k e.symm).2; omega)]
       have hS3 : (fun w' => w'.cell? ⟨B, 0, none⟩ = some (.pointer (some ⟨R, 0, none⟩)) ∧ w'.cell? ⟨B + 1, 0, none⟩ = some (.int .i64 (d : Nat))) w3 := by
        have e1 := hG.out B (by omega) (by omega) (fun e => by have := (World.ownsRow.lt HELS.out.own.1 B e).1; omega)
        have e2 := hG.out (B + 1) (by omega) (by omega) (fun e => by have := (World.ownsRow.lt HELS.out.own.1 (B + 1) e).1; omega)
        have s0 := (FA.out wq (Kr.refl R wq)).1
        exact ⟨(World.cell?_of_block (w := wq) e1).trans s0.1, (World.cell?_of_block (w := wq) e2).trans s0.2⟩
       have hbx3 : w3.heap[B + 3]? = some (.cells #[.int .i64 6, .bool false, .int .i64 0, .string ⟨#[]⟩, nv, .slice a5 us.length cap5] 27 (0, 0)) := (hG.out (B + 3) (by omega) (by omega) (fun e => by have := (World.ownsRow.lt HELS.out.own.1 (B + 3) e).1; omega)).trans HBOX.out
       have HBX3 : Hid (w3.heap[B + 3]? = some (.cells #[.int .i64 6, .bool false, .int .i64 0, .string ⟨#[]⟩, nv, .slice a5 us.length cap5] 27 (0, 0))) := hbx3
       clear hown2 hzc hgrow hat hown3 hHeld
       refine wpAnyH_ready (rs := [8]) (by kernel_rfl) (by simp) ?_
       refine AllReadyH.cons rfl (fun K hK => ?_) AllReadyH.nil
       refine op_append rfl (Operand.tmp 17) (Operand.tmp 23) 25 rfl rfl rfl hrun ?_
       refine hK.out _ _ hS3 (fun hHeld => ?_)
       clear hK K hrun
       try simp only [Act.put, zA, zB, zC, zD, zE, zF]
       have n1 : (0 : Int) ≤ (us.length : Int) := by omega
       have n2 : (us.length : Int) < (us.length : Int) + 1 := by omega
       refine wpAnyH_take (i := 9) (v := ?_) rfl (by kernel_rfl) (by kernel_rfl) (by kernel_rfl) (fun _ _ _ h => h) (Or.inl ⟨by rfl, ?_⟩) (by assumption) ?_
       rotate_left 1
       ·intro wq hSw; (try dsimp only at hSw); go_simp; first | done | with_reducible rfl
       try simp only [Act.put, zA, zB, zC, zD, zE, zF]
       refine wpAnyH_take (i := 11) (v := ?_) rfl (by kernel_rfl) (by kernel_rfl) (by kernel_rfl) (fun _ _ _ h => h) (Or.inl ⟨by rfl, ?_⟩) (by assumption) ?_
       rotate_left 1
       ·intro wq hSw; (try dsimp only at hSw); go_simp; first | done | with_reducible rfl
       try simp only [Act.put, zA, zB, zC, zD, zE, zF]
       obtain ⟨q0, q1, q2, q3, q4, q5, eq, c0, c1, c2, c3, c4, c5⟩ := ownV_six OV3.out us.length (by simp)
       have fz := fun j => Copied.frozen_own OV3.out.1 j
       rw [Nat.zero_add] at c0 c1 c2 c3 c4 c5
       obtain ⟨m0, m1, m2, m3, m4, m5⟩ := six_box hbx3
       have mf := frozen_box hbx3 5
       have f0 := fz (us.length * 6)
       have f1 := fz (us.length * 6 + 1)
       have f2 := fz (us.length * 6 + 2)
       have f3 := fz (us.length * 6 + 3)
       have f4 := fz (us.length * 6 + 4)
       have f5 := fz (us.length * 6 + 5)
       clear fz eq hbx3
       have gB : ¬ B + 3 = g3 := by omega
       have gB' : ¬ g3 = B + 3 := by omega
       have hgB : ∀ g, (Value.slice (some ⟨g3, 0, none⟩) (us.length + 1) cap3).ownBlock = some g → g ≠ B + 3 := fun g hg e => by
        have e3 : g3 = g := by simpa [Value.ownBlock] using hg
        omega
       refine wpAnyH_ready (rs := [10, 12]) (by kernel_rfl) (by simp) ?_
       refine AllReadyH.cons rfl (fun K hK => ?_) (AllReadyH.cons rfl (fun K hK => ?_) AllReadyH.nil)
       ·go_simp
        obtain ⟨w4, hw4⟩ : ∃ w4, ((((((w3.setCell ⟨g3, us.length * 6, none⟩ (.int .i64 c.k)).setCell ⟨g3, us.length * 6 + 1, none⟩ (.bool c.b)).setCell ⟨g3, us.length * 6 + 2, none⟩ (.int .i64 c.i)).setCell ⟨g3, us.length * 6 + 3, none⟩ (.string c.s)).setCell ⟨g3, us.length * 6 + 4, none⟩ (.slice p1 y1 r1)).setCell ⟨g3, us.length * 6 + 5, none⟩ (.slice p2 y2 r2)) = w4 := ⟨_, rfl⟩
        rw [hw4]
        obtain ⟨OV4, ot4, sz4, bel4⟩ := set_last OV3.out hone hw4
        have ot4' : ∀ k, k ≠ g3 → k ≠ B + 3 → w4.heap[k]? = w3.heap[k]? := fun k hk _ => ot4 k hk
        clear c0 c1 c2 c3 c4 c5 f0 f1 f2 f3 f4 f5 m0 m1 m2 m3 m4 m5 mf hw4
        have hbx4 := (ot4 (B + 3) gB).trans HBX3.out
        obtain ⟨m0, m1, m2, m3, m4, m5⟩ := six_box hbx4
        have mf := frozen_box hbx4 5
        have Sw4 : (fun w' => w'.cell? ⟨B, 0, none⟩ = some (.pointer (some ⟨R, 0, none⟩)) ∧ w'.cell? ⟨B + 1, 0, none⟩ = some (.int .i64 (d : Nat))) w4 := ⟨(World.cell?_of_block (w := w3) (ot4' B (by omega) (by omega))).trans hS3.1, (World.cell?_of_block (w := w3) (ot4' (B + 1) (by omega) (by omega))).trans hS3.2⟩
        refine hK.out _ _ Sw4 (fun hHeld => ?_)
        clear hK K
        try simp only [Act.put, zA, zB, zC, zD, zE, zF]
        refine wpAnyH_ready (rs := [12]) (by kernel_rfl) (by simp) ?_
        refine AllReadyH.cons rfl (fun K hK => ?_) AllReadyH.nil
        go_simp
        obtain ⟨w5, hw5⟩ : ∃ w5, w4.setCell ⟨B + 3, 5, none⟩ (.slice (some ⟨g3, 0, none⟩) (us.length + 1) cap3) = w5 := ⟨_, rfl⟩
        rw [hw5]
        have ot5 : ∀ k, k ≠ g3 → k ≠ B + 3 → w5.heap[k]? = w3.heap[k]? := fun k hk hk2 => by rw [← hw5, Below.heap_setCell _ _ _ _ hk2]; exact ot4 k hk
        have hBox5 : w5.heap[B + 3]? = some (.cells #[.int .i64 6, .bool false, .int .i64 0, .string ⟨#[]⟩, nv, (.slice (some ⟨g3, 0, none⟩) (us.length + 1) cap3)] 27 (0, 0)) := by rw [← hw5, bset hbx4]; rfl
        have OV5 : OwnV w5 (B + 6) (.slice (some ⟨g3, 0, none⟩) (us.length + 1) cap3) (us ++ [.agg #[.int .i64 c.k, .bool c.b, .int .i64 c.i, .string c.s, .slice p1 y1 r1, .slice p2 y2 r2]]) := ⟨Fresh.own_keep OV4.1 fun g hg => by rw [← hw5]; exact Below.heap_setCell _ _ _ _ (hgB g hg), OV4.2⟩
        have sz5 : w5.heap.size = w3.heap.size := by rw [← hw5]; simpa [World.setCell] using sz4
        have bel5 : Below R wq w5 := by rw [← hw5]; exact (bel4 wq R (by omega) hBel3.out).setCell (p := ⟨B + 3, 5, none⟩) (by simp; omega) _
        have Sw5 : (fun w' => w'.cell? ⟨B, 0, none⟩ = some (.pointer (some ⟨R, 0, none⟩)) ∧ w'.cell? ⟨B + 1, 0, none⟩ = some (.int .i64 (d : Nat))) w5 := ⟨(World.cell?_of_block (w := w3) (ot5 B (by omega) (by omega))).trans hS3.1, (World.cell?_of_block (w := w3) (ot5 (B + 1) (by omega) (by omega))).trans hS3.2⟩
        refine hK.out _ _ Sw5 (fun hHeld => ?_)
        clear hK K hw5 m0 m1 m2 m3 m4 m5 mf
        try simp only [Act.put, zA, zB, zC, zD, zE, zF]
        refine wpAnyH_done (by kernel_rfl) ?_ _
        go_wp2_with fail
        go_end0
        have hgg : ∀ k, k < wq.heap.size → (Value.slice a5 us.length cap5).ownBlock ≠ some k → k ≠ g3 := fun k hk hne e => by
         rcases hAt.out with h9 | h9
         ·exact hne (h9.symm.trans (by rw [e]; rfl))
         ·have h8 : g3 = w1.heap.size := by simpa [Value.ownBlock] using h9
          have := kz.below.size
          omega
        have hr5 : Rd w5 R v s j b' := hRd3.out.keep fun k hk => ot5 k (by omega) (by omega)
        have hXj := hXI.out c j b' rfl
        have e00 : wq.heap.size ≤ ((wq.alloc (.cells #[.int .i64 0, .bool false, .int .i64 0, .string ⟨#[]⟩, .slice none 0 0, .slice none 0 0] 27)).drew).heap.size := by simp
        have hs35 := hsz3.out
        obtain ⟨kb5, jl5⟩ := HJ.out.more HNT.out HELS.out HD1.out HD2.out hu e00 (by omega) (by omega) OV5 (fun g hg => by
          rcases hAt.out with h9 | h9
          ·exact .inl (h9.symm.trans hg)
          ·have h8 : g = w1.heap.size := by have := hg.symm.trans h9; simpa using this
           exact .inr ⟨by omega, by omega⟩
         ) hBox5 (fun k hk hkR hkB hne => (ot5 k (hgg k hk hne) hkB).trans (hG.out k hk hkR hne)) (fun k hk hlt => by
          have hk1 := hk.1
          have hk2 := hk.2
          refine (ot5 k (fun e => ?_) (by omega)).trans (hK1.out k hk hlt)
          rcases hAt.out with h9 | h9
          ·have := (World.ownsRow.lt HELS.out.own.1 g3 (h9.symm.trans rfl)).2
           omega
          ·have h8 : g3 = w1.heap.size := by simpa [Value.ownBlock] using h9
           omega
         ) hr5 (by omega) bel5
        exact ⟨KBQ.out.trans kb5, rfl, jl5, by simp [HLN.out]⟩
       ·go_simp
        obtain ⟨w4, hw4⟩ : ∃ w4, w3.setCell ⟨B + 3, 5, none⟩ (.slice (some ⟨g3, 0, none⟩) (us.length + 1) cap3) = w4 := ⟨_, rfl⟩
        rw [hw4]
        have ot4 : ∀ k, k ≠ B + 3 → w4.heap[k]? = w3.heap[k]? := fun k hk2 => by rw [← hw4]; exact Below.heap_setCell _ _ _ _ hk2
        have ot4' : ∀ k, k ≠ g3 → k ≠ B + 3 → w4.heap[k]? = w3.heap[k]? := fun k _ hk2 => ot4 k hk2
        have hbx4 : w4.heap[B + 3]? = some (.cells #[.int .i64 6, .bool false, .int .i64 0, .string ⟨#[]⟩, nv, (.slice (some ⟨g3, 0, none⟩) (us.length + 1) cap3)] 27 (0, 0)) := by rw [← hw4, bset HBX3.out]; rfl
        have OV4 : OwnV w4 (B + 6) (.slice (some ⟨g3, 0, none⟩) (us.length + 1) cap3) (us ++ [.agg #[.int .i64 0, .bool false, .int .i64 0, .string ⟨#[]⟩, .slice none 0 0, .slice none 0 0]]) := ⟨Fresh.own_keep OV3.out.1 fun g hg => ot4 g (hgB g hg), OV3.out.2⟩
        have sz4 : w4.heap.size = w3.heap.size := by rw [← hw4]; simp [World.setCell]
        have bel4 : Below R wq w4 := by rw [← hw4]; exact hBel3.out.setCell (p := ⟨B + 3, 5, none⟩) (by simp; omega) _
        clear c0 c1 c2 c3 c4 c5 f0 f1 f2 f3 f4 f5 m0 m1 m2 m3 m4 m5 mf hw4
        obtain ⟨q0', q1', q2', q3', q4', q5', eq, c0, c1, c2, c3, c4, c5⟩ := ownV_six OV4 us.length (by simp)
        have fz := fun j => Copied.frozen_own OV4.1 j
        rw [Nat.zero_add] at c0 c1 c2 c3 c4 c5
        have f0 := fz (us.length * 6)
        have f1 := fz (us.length * 6 + 1)
        have f2 := fz (us.length * 6 + 2)
        have f3 := fz (us.length * 6 + 3)
        have f4 := fz (us.length * 6 + 4)
        have f5 := fz (us.length * 6 + 5)
        clear fz eq
        have Sw4 : (fun w' => w'.cell? ⟨B, 0, none⟩ = some (.pointer (some ⟨R, 0, none⟩)) ∧ w'.cell? ⟨B + 1, 0, none⟩ = some (.int .i64 (d : Nat))) w4 := ⟨(World.cell?_of_block (w := w3) (ot4' B (by omega) (by omega))).trans hS3.1, (World.cell?_of_block (w := w3) (ot4' (B + 1) (by omega) (by omega))).trans hS3.2⟩
        refine hK.out _ _ Sw4 (fun hHeld => ?_)
        clear hK K
        try simp only [Act.put, zA, zB, zC, zD, zE, zF]
        refine wpAnyH_ready (rs := [10]) (by kernel_rfl) (by simp) ?_
        refine AllReadyH.cons rfl (fun K hK => ?_) AllReadyH.nil
        go_simp
        obtain ⟨w5, hw5⟩ : ∃ w5, ((((((w4.setCell ⟨g3, us.length * 6, none⟩ (.int .i64 c.k)).setCell ⟨g3, us.length * 6 + 1, none⟩ (.bool c.b)).setCell ⟨g3, us.length * 6 + 2, none⟩ (.int .i64 c.i)).setCell ⟨g3, us.length * 6 + 3, none⟩ (.string c.s)).setCell ⟨g3, us.length * 6 + 4, none⟩ (.slice p1 y1 r1)).setCell ⟨g3, us.length * 6 + 5, none⟩ (.slice p2 y2 r2)) = w5 := ⟨_, rfl⟩
        rw [hw5]
        obtain ⟨OV5, oth5, sz5', bel5'⟩ := set_last OV4 hone hw5
        have ot5 : ∀ k, k ≠ g3 → k ≠ B + 3 → w5.heap[k]? = w3.heap[k]? := fun k hk hk2 => (oth5 k hk).trans (ot4 k hk2)
        have hBox5 := (oth5 (B + 3) gB).trans hbx4
        have sz5 : w5.heap.size = w3.heap.size := sz5'.trans sz4
        have bel5 : Below R wq w5 := bel5' wq R (by omega) bel4
        have Sw5 : (fun w' => w'.cell? ⟨B, 0, none⟩ = some (.pointer (some ⟨R, 0, none⟩)) ∧ w'.cell? ⟨B + 1, 0, none⟩ = some (.int .i64 (d : Nat))) w5 := ⟨(World.cell?_of_block (w := w3) (ot5 B (by omega) (by omega))).trans hS3.1, (World.cell?_of_block (w := w3) (ot5 (B + 1) (by omega) (by omega))).trans hS3.2⟩
        refine hK.out _ _ Sw5 (fun hHeld => ?_)
        clear hK K hw5 c0 c1 c2 c3 c4 c5 f0 f1 f2 f3 f4 f5
        try simp only [Act.put, zA, zB, zC, zD, zE, zF]
        refine wpAnyH_done (by kernel_rfl) ?_ _
        go_wp2_with fail
        go_end0
        have hgg : ∀ k, k < wq.heap.size → (Value.slice a5 us.length cap5).ownBlock ≠ some k → k ≠ g3 := fun k hk hne e => by
         rcases hAt.out with h9 | h9
         ·exact hne (h9.symm.trans (by rw [e]; rfl))
         ·have h8 : g3 = w1.heap.size := by simpa [Value.ownBlock] using h9
          have := kz.below.size
          omega
        have hr5 : Rd w5 R v s j b' := hRd3.out.keep fun k hk => ot5 k (by omega) (by omega)
        have hXj := hXI.out c j b' rfl
        have e00 : wq.heap.size ≤ ((wq.alloc (.cells #[.int .i64 0, .bool false, .int .i64 0, .string ⟨#[]⟩, .slice none 0 0, .slice none 0 0] 27)).drew).heap.size := by simp
        have hs35 := hsz3.out
        obtain ⟨kb5, jl5⟩ := HJ.out.more HNT.out HELS.out HD1.out HD2.out hu e00 (by omega) (by omega) OV5 (fun g hg => by
          rcases hAt.out with h9 | h9
          ·exact .inl (h9.symm.trans hg)
          ·have h8 : g = w1.heap.size := by have := hg.symm.trans h9; simpa using this
           exact .inr ⟨by omega, by omega⟩
         ) hBox5 (fun k hk hkR hkB hne => (ot5 k (hgg k hk hne) hkB).trans (hG.out k hk hkR hne)) (fun k hk hlt => by
          have hk1 := hk.1
          have hk2 := hk.2
          refine (ot5 k (fun e => ?_) (by omega)).trans (hK1.out k hk hlt)
          rcases hAt.out with h9 | h9
          ·have := (World.ownsRow.lt HELS.out.own.1 g3 (h9.symm.trans rfl)).2
           omega
          ·have h8 : g3 = w1.heap.size := by simpa [Value.ownBlock] using h9
           omega
         ) hr5 (by omega) bel5
        exact ⟨KBQ.out.trans kb5, rfl, jl5, by simp [HLN.out]⟩
  clear hK1
  refine wp_region_held_drew (S := (fun w' => w'.cell? ⟨B, 0, none⟩ = some (.pointer (some ⟨R, 0, none⟩)) ∧ w'.cell? ⟨B + 5, 0, none⟩ = some (.map (some (B + 4))))) (by kernel_rfl) ?_ (fun hHeld => ?_)
  ·exact (F0.out _ (fun _ _ _ _ => rfl)).1
  refine wpAnyH_take (i := 0) (v := ?_) rfl (by kernel_rfl) (by kernel_rfl) (by kernel_rfl) (fun _ _ _ h => h) (Or.inl ⟨by rfl, ?_⟩) (by assumption) ?_
  rotate_left 1
  ·intro w hSw; (try dsimp only at hSw); go_simp; first | done | with_reducible rfl
  try simp only [Act.put, zA, zB, zD, zE, zF]
  refine wpAnyH_take (i := 2) (v := ?_) rfl (by kernel_rfl) (by kernel_rfl) (by kernel_rfl) (fun _ _ _ h => h) (Or.inl ⟨by rfl, ?_⟩) (by assumption) ?_
  rotate_left 1
  ·intro w hSw; (try dsimp only at hSw); go_simp; first | done | with_reducible rfl
  try simp only [Act.put, zA, zB, zC, zD, zE, zF]
  refine wpAnyH_take (i := 3) (v := ?_) rfl (by kernel_rfl) (by kernel_rfl) (by kernel_rfl) (fun _ _ _ h => h) (Or.inl ⟨by rfl, ?_⟩) (by assumption) ?_
  rotate_left 1
  ·intro w hSw; (try dsimp only at hSw); go_simp; first | done | with_reducible rfl
  try simp only [Act.put, zA, zB, zC, zD, zE, zF]
  refine wpAnyH_ready (rs := [1, 4]) (by kernel_rfl) (by simp) ?_
  refine AllReadyH.cons rfl (fun K hK => ?_) (AllReadyH.cons rfl (fun K hK => ?_) AllReadyH.nil)
  ·have hl4 := (F0.out w.drew (fun _ _ _ _ => rfl)).2
   go_simp
   refine hK.out _ _ ?_ (fun hHeld => ?_)
   ·exact (F0.out _ (fun _ _ _ _ => rfl)).1
   clear hK K hl4
   try simp only [Act.put, zA, zB, zC, zD, zE, zF]
   refine wpAnyH_ready (rs := [4]) (by kernel_rfl) (by simp) ?_
   refine AllReadyH.cons rfl (fun K hK => ?_) AllReadyH.nil
   go_simp
   refine cN.mono ?_
   rintro e w1 ⟨k1, rfl, h1, hm1⟩
   have kk : ∀ k, k ≠ R → k ≠ B + 4 → k < w.heap.size → w1.heap[k]? = w.heap[k]? := fun k h1' h2' h3' => k1.other k h1' h2' h3'
   go_wp2_with fail
   refine hK.out _ _ ?_ (fun hHeld => ?_)
   ·exact (F0.out _ kk).1
   clear hK K
   try simp only [Act.put, zA, zB, zC, zD, zE, zF]
   have hsw : w.heap.size ≤ w1.heap.size := k1.below.size
   have hzc : ∀ j u, [Value.string t][j]? = some u → (w1.alloc (.cells #[.string t] 9)).cell? ((⟨w1.heap.size, 0, none⟩ : Addr).add j) = some u := new_cells w1 [.string t] 9
   have hown1 : (w1.alloc (.cells #[.string t] 9)).ownsRow (B + 6) 9 1 (.slice an ns.length capn) ns.length (ns.map Value.string) := World.ownsRow.alloc (Fresh.own_keep HN0.out fun g hg => by (have := World.ownsRow.lt HN0.out g hg; exact kk g (by omega) (by omega) (by omega))) _
   obtain ⟨nv2, w3, hrun, hown3, hgrow, -, hat⟩ := run_append_own_at (P := Tryz.prog) (w1.alloc (.cells #[.string t] 9)) (B + 6) 24 24 9 i9 (.string ⟨#[]⟩) 1 16 Tryz.underlying24 hi9 hz90 hz91 hz92 rfl (by decide) _ _ _ hown1 ⟨w1.heap.size, 0, none⟩ 1 1 [.string t] rfl hzc (by intro u hu; simp at hu; subst hu; rfl) (by unfold maxLen; omega) (by omega) (by simp; omega)
   obtain ⟨g3, cap3, rfl⟩ : ∃ g3 cap3, nv2 = .slice (some ⟨g3, 0, none⟩) (ns.length + 1) cap3 := by
    rcases hown3.2 with ⟨_, e⟩ | ⟨g, cap, cur, e, _⟩
    ·omega
    ·exact ⟨g, cap, e⟩
   have OT3 : Hid (OwnT w3 (B + 6) (.slice (some ⟨g3, 0, none⟩) (ns.length + 1) cap3) (ns ++ [t])) := by
    show World.ownsRow _ _ _ _ _ _ _
    rw [List.map_append, List.length_append]
    exact hown3
   have hg3 := World.ownsRow.lt hown3 g3 rfl
   have hG : Hid (∀ k, k < w.heap.size → k ≠ R → k ≠ B + 4 → (Value.slice an ns.length capn).ownBlock ≠ some k → w3.heap[k]? = w.heap[k]?) := fun k hk hkR hk4 hne => (hgrow.block k (by simp; omega) (fun e => hne e.symm)).trans ((Below.heap_alloc _ _ _ (by omega)).trans (kk k hkR hk4 hk))
   have hsz3 : Hid (w1.heap.size + 1 ≤ w3.heap.size) := by have := hgrow.size; rw [World.size_alloc] at this; exact this
   have hlt1 := World.ownsRow.lt hown1
   have hRd3 : Hid (Rd w3 R v s e1 b) := Byts.rd_grown (B := B + 6) (h1.below ((Below.refl _ w1).alloc (Nat.le_refl _) _)) (by omega) hgrow (fun k hk => (hlt1 k hk).1)
   have hBel3 : Hid (Below R w w3) := ((((Below.refl _ w).drew.trans k1.below).alloc (by have := HW.out; omega) _).grown hgrow (by have := HW.out; simp; omega) (fun k hk => by have := (hlt1 k hk).1; omega) : Below R w w3)
   have hMet3 : Hid (Met w3 (B + 4) (ns ++ [t])) := by
    obtain ⟨D, ⟨es, ck, q1, q2⟩, q3⟩ := hm1
    exact ⟨D, ⟨es, ck, (hgrow.block (B + 4) (by simp; omega) (fun e => by have := (hlt1 _ e.symm).1; omega)).trans ((Below.heap_alloc _ _ _ (by omega)).trans q1), q2⟩, q3⟩
   have hAt : Hid ((Value.slice (some ⟨g3, 0, none⟩) (ns.length + 1) cap3).ownBlock = (Value.slice an ns.length capn).ownBlock ∨ (Value.slice (some ⟨g3, 0, none⟩) (ns.length + 1) cap3).ownBlock = some (w1.heap.size + 1)) := by have := hat; rw [World.size_alloc] at this; exact this
   have hS3 : (fun w' => w'.cell? ⟨B, 0, none⟩ = some (.pointer (some ⟨R, 0, none⟩)) ∧ w'.cell? ⟨B + 5, 0, none⟩ = some (.map (some (B + 4)))) w3 := by
    have e2 := hG.out B (by omega) (by omega) (by omega) (fun e => by have := (World.ownsRow.lt HN0.out B e).1; omega)
    have e3 := hG.out (B + 5) (by omega) (by omega) (by omega) (fun e => by have := (World.ownsRow.lt HN0.out (B + 5) e).1; omega)
    have s0 := (F0.out w (fun _ _ _ _ => rfl)).1
    exact ⟨(World.cell?_of_block (w := w) e2).trans s0.1, (World.cell?_of_block (w := w) e3).trans s0.2⟩
   have hbx3 := (hG.out (B + 3) (by omega) (by omega) (by omega) (fun e => by have := (World.ownsRow.lt HN0.out (B + 3) e).1; omega)).trans HB0.out
   have HBX3 : Hid (w3.heap[B + 3]? = some (.cells #[.int .i64 6, .bool false, .int .i64 0, .string ⟨#[]⟩, .slice an ns.length capn, lv] 27 (0, 0))) := hbx3
   have k1x := kk
   clear hown1 hzc hgrow hat hown3 hHeld
   refine wpAnyH_ready (rs := [5]) (by kernel_rfl) (by simp) ?_
   refine AllReadyH.cons rfl (fun K hK => ?_) AllReadyH.nil
   go_simp
   refine hK.out _ _ ?_ (fun hHeld => ?_)
   ·exact (F0.out _ (fun k q1 q2 q3 => (Below.heap_alloc _ _ _ (by omega)).trans (kk k q1 q2 q3))).1
   clear hK K
   try simp only [Act.put, zA, zB, zC, zD, zE, zF]
   refine wpAnyH_ready (rs := [6]) (by kernel_rfl) (by simp) ?_
   refine AllReadyH.cons rfl (fun K hK => ?_) AllReadyH.nil
   refine op_append rfl (Operand.tmp 5) (Operand.tmp 9) 24 rfl rfl rfl hrun ?_
   refine hK.out _ _ hS3 (fun hHeld => ?_)
   clear hK K hrun
   try simp only [Act.put, zA, zB, zC, zD, zE, zF]
   refine wpAnyH_take (i := 7) (v := ?_) rfl (by kernel_rfl) (by kernel_rfl) (by kernel_rfl) (fun _ _ _ h => h) (Or.inl ⟨by rfl, ?_⟩) (by assumption) ?_
   rotate_left 1
   ·intro w hSw; (try dsimp only at hSw); go_simp; first | done | with_reducible rfl
   try simp only [Act.put, zA, zB, zC, zD, zE, zF]
   obtain ⟨x0, x1, x2, x3, x4, x5⟩ := six_box hbx3
   have mf := frozen_box hbx3 4
   refine wpAnyH_ready (rs := [8]) (by kernel_rfl) (by simp) ?_
   refine AllReadyH.cons rfl (fun K hK => ?_) AllReadyH.nil
   go_simp
   obtain ⟨w4, hw4⟩ : ∃ w4, w3.setCell ⟨B + 3, 4, none⟩ (.slice (some ⟨g3, 0, none⟩) (ns.length + 1) cap3) = w4 := ⟨_, rfl⟩
   rw [hw4]
   have ot4 : ∀ k, k ≠ B + 3 → w4.heap[k]? = w3.heap[k]? := fun k hk2 => by rw [← hw4]; exact Below.heap_setCell _ _ _ _ hk2
   have hbx4 : w4.heap[B + 3]? = some (.cells #[.int .i64 6, .bool false, .int .i64 0, .string ⟨#[]⟩, .slice (some ⟨g3, 0, none⟩) (ns.length + 1) cap3, lv] 27 (0, 0)) := by rw [← hw4, bset HBX3.out]; rfl
   have sz4 : w4.heap.size = w3.heap.size := by rw [← hw4]; simp [World.setCell]
   have bel4 : Below R w w4 := by rw [← hw4]; exact hBel3.out.setCell (p := ⟨B + 3, 4, none⟩) (by simp; omega) _
   have S4 : (fun w' => w'.cell? ⟨B, 0, none⟩ = some (.pointer (some ⟨R, 0, none⟩)) ∧ w'.cell? ⟨B + 5, 0, none⟩ = some (.map (some (B + 4)))) w4 := ⟨(World.cell?_of_block (w := w3) (ot4 B (by omega))).trans hS3.1, (World.cell?_of_block (w := w3) (ot4 (B + 5) (by omega))).trans hS3.2⟩
   refine hK.out _ _ S4 (fun hHeld => ?_)
   clear hK K hw4 x0 x1 x2 x3 x4 x5 mf
   try simp only [Act.put, zA, zB, zC, zD, zE, zF]
   have hgB : ∀ g, (Value.slice (some ⟨g3, 0, none⟩) (ns.length + 1) cap3).ownBlock = some g → g ≠ B + 3 := fun g hg e => by
    have e3 : g3 = g := by simpa [Value.ownBlock] using hg
    omega
   have hs3 := hsz3.out
   obtain ⟨KB4, J4⟩ := JM.name (t := t) HJ0.out HN0.out HE0.out HX0.out HY0.out (by omega) (show OwnT w4 (B + 6) _ (ns ++ [t]) from Fresh.own_keep OT3.out fun g hg => ot4 g (hgB g hg)) (fun g hg => by
     rcases hAt.out with h9 | h9
     ·exact .inl (h9.symm.trans hg)
     ·have h8 : g = w1.heap.size + 1 := by have := hg.symm.trans h9; simpa using this
      exact .inr (by omega)) hbx4 (fun k hk hkR hk3 hk4 hne => (ot4 k hk3).trans (hG.out k hk hkR hk4 hne)) (hRd3.out.keep fun k hk => ot4 k (by omega)) (by
     obtain ⟨D, ⟨es, ck, q1, q2⟩, q3⟩ := hMet3.out
     exact ⟨D, ⟨es, ck, (ot4 (B + 4) (by omega)).trans q1, q2⟩, q3⟩) hie htz bel4
   refine wpAnyH_done (by kernel_rfl) ?_ _
   exact KEY w1 w4 g3 cap3 KB4 J4
  ·go_simp
   refine cN.mono ?_
   rintro e w1 ⟨k1, rfl, h1, hm1⟩
   have kk : ∀ k, k ≠ R → k ≠ B + 4 → k < w.heap.size → w1.heap[k]? = w.heap[k]? := fun k h1' h2' h3' => k1.other k h1' h2' h3'
   go_wp2_with fail
   refine hK.out _ _ ?_ (fun hHeld => ?_)
   ·exact (F0.out _ kk).1
   clear hK K
   try simp only [Act.put, zA, zB, zC, zD, zE, zF]
   have hsw : w.heap.size ≤ w1.heap.size := k1.below.size
   have hzc : ∀ j u, [Value.string t][j]? = some u → (w1.alloc (.cells #[.string t] 9)).cell? ((⟨w1.heap.size, 0, none⟩ : Addr).add j) = some u := new_cells w1 [.string t] 9
   have hown1 : (w1.alloc (.cells #[.string t] 9)).ownsRow (B + 6) 9 1 (.slice an ns.length capn) ns.length (ns.map Value.string) := World.ownsRow.alloc (Fresh.own_keep HN0.out fun g hg => by (have := World.ownsRow.lt HN0.out g hg; exact kk g (by omega) (by omega) (by omega))) _
   obtain ⟨nv2, w3, hrun, hown3, hgrow, -, hat⟩ := run_append_own_at (P := Tryz.prog) (w1.alloc (.cells #[.string t] 9)) (B + 6) 24 24 9 i9 (.string ⟨#[]⟩) 1 16 Tryz.underlying24 hi9 hz90 hz91 hz92 rfl (by decide) _ _ _ hown1 ⟨w1.heap.size, 0, none⟩ 1 1 [.string t] rfl hzc (by intro u hu; simp at hu; subst hu; rfl) (by unfold maxLen; omega) (by omega) (by simp; omega)
   obtain ⟨g3, cap3, rfl⟩ : ∃ g3 cap3, nv2 = .slice (some ⟨g3, 0, none⟩) (ns.length + 1) cap3 := by
    rcases hown3.2 with ⟨_, e⟩ | ⟨g, cap, cur, e, _⟩
    ·omega
    ·exact ⟨g, cap, e⟩
   have OT3 : Hid (OwnT w3 (B + 6) (.slice (some ⟨g3, 0, none⟩) (ns.length + 1) cap3) (ns ++ [t])) := by
    show World.ownsRow _ _ _ _ _ _ _
    rw [List.map_append, List.length_append]
    exact hown3
   have hg3 := World.ownsRow.lt hown3 g3 rfl
   have hG : Hid (∀ k, k < w.heap.size → k ≠ R → k ≠ B + 4 → (Value.slice an ns.length capn).ownBlock ≠ some k → w3.heap[k]? = w.heap[k]?) := fun k hk hkR hk4 hne => (hgrow.block k (by simp; omega) (fun e => hne e.symm)).trans ((Below.heap_alloc _ _ _ (by omega)).trans (kk k hkR hk4 hk))
   have hsz3 : Hid (w1.heap.size + 1 ≤ w3.heap.size) := by have := hgrow.size; rw [World.size_alloc] at this; exact this
   have hlt1 := World.ownsRow.lt hown1
   have hRd3 : Hid (Rd w3 R v s e1 b) := Byts.rd_grown (B := B + 6) (h1.below ((Below.refl _ w1).alloc (Nat.le_refl _) _)) (by omega) hgrow (fun k hk => (hlt1 k hk).1)
   have hBel3 : Hid (Below R w w3) := ((((Below.refl _ w).drew.trans k1.below).alloc (by have := HW.out; omega) _).grown hgrow (by have := HW.out; simp; omega) (fun k hk => by have := (hlt1 k hk).1; omega) : Below R w w3)
   have hMet3 : Hid (Met w3 (B + 4) (ns ++ [t])) := by
    obtain ⟨D, ⟨es, ck, q1, q2⟩, q3⟩ := hm1
    exact ⟨D, ⟨es, ck, (hgrow.block (B + 4) (by simp; omega) (fun e => by have := (hlt1 _ e.symm).1; omega)).trans ((Below.heap_alloc _ _ _ (by omega)).trans q1), q2⟩, q3⟩
   have hAt : Hid ((Value.slice (some ⟨g3, 0, none⟩) (ns.length + 1) cap3).ownBlock = (Value.slice an ns.length capn).ownBlock ∨ (Value.slice (some ⟨g3, 0, none⟩) (ns.length + 1) cap3).ownBlock = some (w1.heap.size + 1)) := by have := hat; rw [World.size_alloc] at this; exact this
   have hS3 : (fun w' => w'.cell? ⟨B, 0, none⟩ = some (.pointer (some ⟨R, 0, none⟩)) ∧ w'.cell? ⟨B + 5, 0, none⟩ = some (.map (some (B + 4)))) w3 := by
    have e2 := hG.out B (by omega) (by omega) (by omega) (fun e => by have := (World.ownsRow.lt HN0.out B e).1; omega)
    have e3 := hG.out (B + 5) (by omega) (by omega) (by omega) (fun e => by have := (World.ownsRow.lt HN0.out (B + 5) e).1; omega)
    have s0 := (F0.out w (fun _ _ _ _ => rfl)).1
    exact ⟨(World.cell?_of_block (w := w) e2).trans s0.1, (World.cell?_of_block (w := w) e3).trans s0.2⟩
   have hbx3 := (hG.out (B + 3) (by omega) (by omega) (by omega) (fun e => by have := (World.ownsRow.lt HN0.out (B + 3) e).1; omega)).trans HB0.out
   have HBX3 : Hid (w3.heap[B + 3]? = some (.cells #[.int .i64 6, .bool false, .int .i64 0, .string ⟨#[]⟩, .slice an ns.length capn, lv] 27 (0, 0))) := hbx3
   have k1x := kk
   clear hown1 hzc hgrow hat hown3 hHeld
   refine wpAnyH_ready (rs := [1, 5]) (by kernel_rfl) (by simp) ?_
   refine AllReadyH.cons rfl (fun K hK => ?_) (AllReadyH.cons rfl (fun K hK => ?_) AllReadyH.nil)
   ·have hl4 := (F0.out _ kk).2
    go_simp
    refine hK.out _ _ ?_ (fun hHeld => ?_)
    ·exact (F0.out _ kk).1
    clear hK K hl4
    try simp only [Act.put, zA, zB, zC, zD, zE, zF]
    refine wpAnyH_ready (rs := [5]) (by kernel_rfl) (by simp) ?_
    refine AllReadyH.cons rfl (fun K hK => ?_) AllReadyH.nil
    go_simp
    refine hK.out _ _ ?_ (fun hHeld => ?_)
    ·exact (F0.out _ (fun k q1 q2 q3 => (Below.heap_alloc _ _ _ (by omega)).trans (kk k q1 q2 q3))).1
    clear hK K
    try simp only [Act.put, zA, zB, zC, zD, zE, zF]
    refine wpAnyH_ready (rs := [6]) (by kernel_rfl) (by simp) ?_
    refine AllReadyH.cons rfl (fun K hK => ?_) AllReadyH.nil
    refine op_append rfl (Operand.tmp 5) (Operand.tmp 9) 24 rfl rfl rfl hrun ?_
    refine hK.out _ _ hS3 (fun hHeld => ?_)
    clear hK K hrun
    try simp only [Act.put, zA, zB, zC, zD, zE, zF]
    refine wpAnyH_take (i := 7) (v := ?_) rfl (by kernel_rfl) (by kernel_rfl) (by kernel_rfl) (fun _ _ _ h => h) (Or.inl ⟨by rfl, ?_⟩) (by assumption) ?_
    rotate_left 1
    ·intro w hSw; (try dsimp only at hSw); go_simp; first | done | with_reducible rfl
    try simp only [Act.put, zA, zB, zC, zD, zE, zF]
    obtain ⟨x0, x1, x2, x3, x4, x5⟩ := six_box hbx3
    have mf := frozen_box hbx3 4
    refine wpAnyH_ready (rs := [8]) (by kernel_rfl) (by simp) ?_
    refine AllReadyH.cons rfl (fun K hK => ?_) AllReadyH.nil
    go_simp
    obtain ⟨w4, hw4⟩ : ∃ w4, w3.setCell ⟨B + 3, 4, none⟩ (.slice (some ⟨g3, 0, none⟩) (ns.length + 1) cap3) = w4 := ⟨_, rfl⟩
    rw [hw4]
    have ot4 : ∀ k, k ≠ B + 3 → w4.heap[k]? = w3.heap[k]? := fun k hk2 => by rw [← hw4]; exact Below.heap_setCell _ _ _ _ hk2
    have hbx4 : w4.heap[B + 3]? = some (.cells #[.int .i64 6, .bool false, .int .i64 0, .string ⟨#[]⟩, .slice (some ⟨g3, 0, none⟩) (ns.length + 1) cap3, lv] 27 (0, 0)) := by rw [← hw4, bset HBX3.out]; rfl
    have sz4 : w4.heap.size = w3.heap.size := by rw [← hw4]; simp [World.setCell]
    have bel4 : Below R w w4 := by rw [← hw4]; exact hBel3.out.setCell (p := ⟨B + 3, 4, none⟩) (by simp; omega) _
    have S4 : (fun w' => w'.cell? ⟨B, 0, none⟩ = some (.pointer (some ⟨R, 0, none⟩)) ∧ w'.cell? ⟨B + 5, 0, none⟩ = some (.map (some (B + 4)))) w4 := ⟨(World.cell?_of_block (w := w3) (ot4 B (by omega))).trans hS3.1, (World.cell?_of_block (w := w3) (ot4 (B + 5) (by omega))).trans hS3.2⟩
    refine hK.out _ _ S4 (fun hHeld => ?_)
    clear hK K hw4 x0 x1 x2 x3 x4 x5 mf
    try simp only [Act.put, zA, zB, zC, zD, zE, zF]
    have hgB : ∀ g, (Value.slice (some ⟨g3, 0, none⟩) (ns.length + 1) cap3).ownBlock = some g → g ≠ B + 3 := fun g hg e => by
     have e3 : g3 = g := by simpa [Value.ownBlock] using hg
     omega
    have hs3 := hsz3.out
    obtain ⟨KB4, J4⟩ := JM.name (t := t) HJ0.out HN0.out HE0.out HX0.out HY0.out (by omega) (show OwnT w4 (B + 6) _ (ns ++ [t]) from Fresh.own_keep OT3.out fun g hg => ot4 g (hgB g hg)) (fun g hg => by
      rcases hAt.out with h9 | h9
      ·exact .inl (h9.symm.trans hg)
      ·have h8 : g = w1.heap.size + 1 := by have := hg.symm.trans h9; simpa using this
       exact .inr (by omega)) hbx4 (fun k hk hkR hk3 hk4 hne => (ot4 k hk3).trans (hG.out k hk hkR hk4 hne)) (hRd3.out.keep fun k hk => ot4 k (by omega)) (by
      obtain ⟨D, ⟨es, ck, q1, q2⟩, q3⟩ := hMet3.out
      exact ⟨D, ⟨es, ck, (ot4 (B + 4) (by omega)).trans q1, q2⟩, q3⟩) hie htz bel4
    refine wpAnyH_done (by kernel_rfl) ?_ _
    exact KEY w1 w4 g3 cap3 KB4 J4
   ·go_simp
    refine hK.out _ _ ?_ (fun hHeld => ?_)
    ·exact (F0.out _ (fun k q1 q2 q3 => (Below.heap_alloc _ _ _ (by omega)).trans (kk k q1 q2 q3))).1
    clear hK K
    try simp only [Act.put, zA, zB, zC, zD, zE, zF]
    have hl4 := (F0.out (w1.alloc (.cells #[.string t] 9)) (fun k q1 q2 q3 => (Below.heap_alloc _ _ _ (by omega)).trans (kk k q1 q2 q3))).2
    refine wpAnyH_ready (rs := [1]) (by kernel_rfl) (by simp) ?_
    refine AllReadyH.cons rfl (fun K hK => ?_) AllReadyH.nil
    go_simp
    refine hK.out _ _ ?_ (fun hHeld => ?_)
    ·exact (F0.out _ (fun k q1 q2 q3 => (Below.heap_alloc _ _ _ (by omega)).trans (kk k q1 q2 q3))).1
    clear hK K hl4
    try simp only [Act.put, zA, zB, zC, zD, zE, zF]
    refine wpAnyH_ready (rs := [6]) (by kernel_rfl) (by simp) ?_
    refine AllReadyH.cons rfl (fun K hK => ?_) AllReadyH.nil
    refine op_append rfl (Operand.tmp 5) (Operand.tmp 9) 24 rfl rfl rfl hrun ?_
    refine hK.out _ _ hS3 (fun hHeld => ?_)
    clear hK K hrun
    try simp only [Act.put, zA, zB, zC, zD, zE, zF]
    refine wpAnyH_take (i := 7) (v := ?_) rfl (by kernel_rfl) (by kernel_rfl) (by kernel_rfl) (fun _ _ _ h => h) (Or.inl ⟨by rfl, ?_⟩) (by assumption) ?_
    rotate_left 1
    ·intro w hSw; (try dsimp only at hSw); go_simp; first | done | with_reducible rfl
    try simp only [Act.put, zA, zB, zC, zD, zE, zF]
    obtain ⟨x0, x1, x2, x3, x4, x5⟩ := six_box hbx3
    have mf := frozen_box hbx3 4
    refine wpAnyH_ready (rs := [8]) (by kernel_rfl) (by simp) ?_
    refine AllReadyH.cons rfl (fun K hK => ?_) AllReadyH.nil
    go_simp
    obtain ⟨w4, hw4⟩ : ∃ w4, w3.setCell ⟨B + 3, 4, none⟩ (.slice (some ⟨g3, 0, none⟩) (ns.length + 1) cap3) = w4 := ⟨_, rfl⟩
    rw [hw4]
    have ot4 : ∀ k, k ≠ B + 3 → w4.heap[k]? = w3.heap[k]? := fun k hk2 => by rw [← hw4]; exact Below.heap_setCell _ _ _ _ hk2
    have hbx4 : w4.heap[B + 3]? = some (.cells #[.int .i64 6, .bool false, .int .i64 0, .string ⟨#[]⟩, .slice (some ⟨g3, 0, none⟩) (ns.length + 1) cap3, lv] 27 (0, 0)) := by rw [← hw4, bset HBX3.out]; rfl
    have sz4 : w4.heap.size = w3.heap.size := by rw [← hw4]; simp [World.setCell]
    have bel4 : Below R w w4 := by rw [← hw4]; exact hBel3.out.setCell (p := ⟨B + 3, 4, none⟩) (by simp; omega) _
    have S4 : (fun w' => w'.cell? ⟨B, 0, none⟩ = some (.pointer (some ⟨R, 0, none⟩)) ∧ w'.cell? ⟨B + 5, 0, none⟩ = some (.map (some (B + 4)))) w4 := ⟨(World.cell?_of_block (w := w3) (ot4 B (by omega))).trans hS3.1, (World.cell?_of_block (w := w3) (ot4 (B + 5) (by omega))).trans hS3.2⟩
    refine hK.out _ _ S4 (fun hHeld => ?_)
    clear hK K hw4 x0 x1 x2 x3 x4 x5 mf
    try simp only [Act.put, zA, zB, zC, zD, zE, zF]
    have hgB : ∀ g, (Value.slice (some ⟨g3, 0, none⟩) (ns.length + 1) cap3).ownBlock = some g → g ≠ B + 3 := fun g hg e => by
     have e3 : g3 = g := by simpa [Value.ownBlock] using hg
     omega
    have hs3 := hsz3.out
    obtain ⟨KB4, J4⟩ := JM.name (t := t) HJ0.out HN0.out HE0.out HX0.out HY0.out (by omega) (show OwnT w4 (B + 6) _ (ns ++ [t]) from Fresh.own_keep OT3.out fun g hg => ot4 g (hgB g hg)) (fun g hg => by
      rcases hAt.out with h9 | h9
      ·exact .inl (h9.symm.trans hg)
      ·have h8 : g = w1.heap.size + 1 := by have := hg.symm.trans h9; simpa using this
       exact .inr (by omega)) hbx4 (fun k hk hkR hk3 hk4 hne => (ot4 k hk3).trans (hG.out k hk hkR hk4 hne)) (hRd3.out.keep fun k hk => ot4 k (by omega)) (by
      obtain ⟨D, ⟨es, ck, q1, q2⟩, q3⟩ := hMet3.out
      exact ⟨D, ⟨es, ck, (ot4 (B + 4) (by omega)).trans q1, q2⟩, q3⟩) hie htz bel4
    refine wpAnyH_done (by kernel_rfl) ?_ _
    exact KEY w1 w4 g3 cap3 KB4 J4
end Go.Proofs.YthkpbhgbmagaeaaGreatDoor.ROne
