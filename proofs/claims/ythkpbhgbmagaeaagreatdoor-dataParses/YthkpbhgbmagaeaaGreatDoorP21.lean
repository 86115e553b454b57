import Derived.Deep.RegionHeld3
import Derived.Test.YthkpbhgbmagaeaaGreatDoorP05
import Derived.Test.YthkpbhgbmagaeaaGreatDoorP09
import Derived.Test.YthkpbhgbmagaeaaGreatDoorP20
namespace Go.Proofs.YthkpbhgbmagaeaaGreatDoor.LOne
open Go.RowKit Go.Proofs.YthkpbhgbmagaeaaGreatDoor.Base Go.Proofs.YthkpbhgbmagaeaaGreatDoor.UBase Go.Proofs.YthkpbhgbmagaeaaGreatDoor.Spec Go.Proofs.YthkpbhgbmagaeaaGreatDoor.Rdr Go.Proofs.YthkpbhgbmagaeaaGreatDoor.RowR Go.Proofs.YthkpbhgbmagaeaaGreatDoor.Own Go.Proofs.YthkpbhgbmagaeaaGreatDoor.LState Go.Proofs.YthkpbhgbmagaeaaGreatDoor.Copied
set_option linter.unusedVariables false
theorem box1 {w : World} {B : Nat} {v0 : Value} {t : TypeId} (h : w.heap[B]? = some (.cells #[v0] t (0, 0))) : w.cell? ⟨B, 0, none⟩ = some v0 := by
 unfold World.cell?
 rw [h]
 rfl
theorem wrap_small {x : Int} (h0 : 0 ≤ x) (h1 : x ≤ 1000000) : IntKind.i64.wrap x = x := by
 have e : x % 2 ^ 64 = x := Int.emod_eq_of_lt (by omega) (by omega); have f : (2 : Int) ^ (64 - 1) = 9223372036854775808 := (by decide); simp only [IntKind.wrap, IntKind.signed, IntKind.bits, Bool.true_and, decide_eq_true_eq, e, f]; split <;> omega
set_option maxRecDepth 20000 in
set_option maxHeartbeats 6400000 in
theorem one_c {n d m R B : Nat} {v : Value} {s : ByteArray} (hv : VIs n (d + 1) m) (hd : d ≤ 24) :
  OneIs 57 #[.pointer (some ⟨B + 3, 0, none⟩), .pointer (some ⟨B, 0, none⟩), .pointer (some ⟨B + 1, 0, none⟩)] R B v s (stL s n) (JL R B d m v s) := by
 intro w i b acc h
 obtain ⟨i0, hi0, hz0, hz1, hz2⟩ := info_parts info25
 have hR := h.rd
 have hRB := h.RB
 have hsz := h.sz
 have hle := h.le
 have hbd := h.rd.sz
 have hil := h.rd.le
 obtain ⟨lv, us, T, hbox, hels⟩ := h.box
 have r0 := box1 h.rb
 have d0 := box1 h.db
 obtain ⟨b0, b1, b2, b3, b4, b5⟩ := six_box hbox
 have hRb := h.rb
 have hDb := h.db
 have hRes := h.res
 -- the call, in a world that is as this one but for new blocks
 have CV : Hid (∀ W, Below w.heap.size w W → Calls Tryz.prog 24 #[.pointer (some ⟨R, 0, none⟩), .int .i64 ((d : Int) + 1)] W fun e w' => Kr R W w' ∧ match vl s n i b with
  | .ok (c, j, b') => (∃ u, e = .returned u ∧ Fs w' m (Rg W.heap.size w'.heap.size) u c) ∧ Rd w' R v s j b'
  | .error x => e = .panicked (pk x)) := fun W hW => hv W R v s i b (hR.below hW)
 obtain ⟨X, hX⟩ : ∃ X, vl s n i b = X := ⟨_, rfl⟩
 have hst : stL s n i b acc = stK acc X := by unfold stL; rw [hX]
 rw [hX] at CV
 have hin : ∀ c j b', X = .ok (c, j, b') → i ≤ j ∧ j ≤ s.size ∧ i < j := fun c j b' e => by rw [← hX] at e; have := SpecIn.vl_in s n i b c j b' hil e; exact ⟨by omega, by omega, by omega⟩
 have hXI : Hid (∀ c j b', X = .ok (c, j, b') → i ≤ j ∧ j ≤ s.size ∧ i < j) := hin

 have FA : Hid (∀ W, Kr R w W → (W.cell? ⟨B, 0, none⟩ = some (.pointer (some ⟨R, 0, none⟩)) ∧ W.cell? ⟨B + 1, 0, none⟩ = some (.int .i64 (d : Nat))) ∧ W.cell? ⟨B + 3, 5, none⟩ = some lv) := fun W hk => by
  have e1 := hk.other B (by omega) (by omega)
  have e2 := hk.other (B + 1) (by omega) (by omega)
  have e3 := hk.other (B + 3) (by omega) (by omega)
  exact ⟨⟨(World.cell?_of_block (w := w) e1).trans r0, (World.cell?_of_block (w := w) e2).trans d0⟩, (World.cell?_of_block (w := w) e3).trans b5⟩
 have hwr : IntKind.i64.wrap ((d : Int) + 1) = (d : Int) + 1 := wrap_small (by omega) (by omega)
 have HW : Hid (R ≤ w.heap.size) := by have := hR.lt; show R ≤ _; omega
 obtain ⟨a5, cap5, elv⟩ : ∃ a5 cap5, lv = .slice a5 us.length cap5 := by
  rcases hels.own.1.2 with ⟨e, e0⟩ | ⟨g, cap, cur, e, _⟩
  ·exact ⟨none, 0, by rw [e, e0]⟩
  ·exact ⟨_, cap, e⟩
 subst elv
 have hul : us.length ≤ 65536 := by have := hels.len; omega
 have HELS : Hid (Els w m (B + 4) (.slice a5 us.length cap5) us acc T) := hels
 have HBOX : Hid (w.heap[B + 3]? = some (.cells #[.int .i64 5, .bool false, .int .i64 0, .string ⟨#[]⟩, .slice none 0 0, .slice a5 us.length cap5] 27 (0, 0))) := hbox
 have HJ : Hid (JL R B d m v s w i b acc) := h
 rw [hst]
 clear hst hbox hels h hR hX hin b0 b1 b2 b3 b4 b5 r0 d0 hRb hDb hRes hv

 cases X with
 | error x =>
  have eK : stK acc (.error x) = .error x := rfl
  rw [eK]
  go_enter Tryz.func57, Tryz.ntmps57
  go_wp2_with fail
  refine wp_region_held_drew (S := (fun w' => w'.cell? ⟨B, 0, none⟩ = some (.pointer (some ⟨R, 0, none⟩)) ∧ w'.cell? ⟨B + 1, 0, none⟩ = some (.int .i64 (d : Nat)))) (by kernel_rfl) ?_ (fun hHeld => ?_)
  ·exact (FA.out _ ((Kr.refl R w).drew)).1
  refine wpAnyH_take (i := 0) (v := ?_) rfl (by kernel_rfl) (by kernel_rfl) (by kernel_rfl) (fun _ _ _ h => h) (Or.inl ⟨by rfl, ?_⟩) (by assumption) ?_
  rotate_left 1
  ·intro w hSw; (try dsimp only at hSw); go_simp; first | done | with_reducible rfl
  try simp only [Act.put, zA, zB, zD, zE, zF]
  refine wpAnyH_take (i := 2) (v := ?_) rfl (by kernel_rfl) (by kernel_rfl) (by kernel_rfl) (fun _ _ _ h => h) (Or.inl ⟨by rfl, ?_⟩) (by assumption) ?_
  rotate_left 1
  ·intro w hSw; (try dsimp only at hSw); go_simp; first | done | with_reducible rfl
  try simp only [Act.put, zA, zB, zC, zD, zE, zF]
  refine wpAnyH_take (i := 3) (v := ?_) rfl (by kernel_rfl) (by kernel_rfl) (by kernel_rfl) (fun _ _ _ h => h) (Or.inl ⟨by rfl, ?_⟩) (by assumption) ?_
  rotate_left 1
  ·intro w hSw; (try dsimp only at hSw); go_simp; first | done | with_reducible rfl
  try simp only [Act.put, zA, zB, zC, zD, zE, zF]
  refine wpAnyH_take (i := 4) (v := ?_) rfl (by kernel_rfl) (by kernel_rfl) (by kernel_rfl) (fun _ _ _ h => h) (Or.inl ⟨by rfl, ?_⟩) (by assumption) ?_
  rotate_left 1
  ·intro w hSw; (try dsimp only at hSw); go_simp; first | done | with_reducible rfl
  try simp only [Act.put, zA, zB, zC, zD, zE, zF]
  refine wpAnyH_ready (rs := [1, 5, 7]) (by kernel_rfl) (by simp) ?_
  refine AllReadyH.cons rfl (fun K hK => ?_) (AllReadyH.cons rfl (fun K hK => ?_) (AllReadyH.cons rfl (fun K hK => ?_) (AllReadyH.nil)))
  ·have hl5 := (FA.out _ ((Kr.refl R w).drew)).2
   go_simp
   refine hK.out _ _ ?_ (fun hHeld => ?_)
   ·exact (FA.out _ ((Kr.refl R w).drew)).1
   clear hK K hl5
   try simp only [Act.put, zA, zB, zC, zD, zE, zF]
   refine wpAnyH_take (i := 6) (v := ?_) rfl (by kernel_rfl) (by kernel_rfl) (by kernel_rfl) (fun _ _ _ h => h) (Or.inl ⟨by rfl, ?_⟩) (by assumption) ?_
   rotate_left 1
   ·intro w hSw; (try dsimp only at hSw); go_simp; first | done | with_reducible rfl
   try simp only [Act.put, zA, zB, zC, zD, zE, zF]
   refine wpAnyH_ready (rs := [5, 7]) (by kernel_rfl) (by simp) ?_
   refine AllReadyH.cons rfl (fun K hK => ?_) (AllReadyH.cons rfl (fun K hK => ?_) (AllReadyH.nil))
   ·go_simp
    have cv := CV.out _ ((Below.refl _ w).drew)
    refine cv.mono ?_
    rintro e w1 ⟨k1, rfl⟩
    exact ⟨rfl, Kr.kb (((Kr.refl R w).drew).trans k1) (by omega), rfl⟩
   ·go_simp
    refine hK.out _ _ ?_ (fun hHeld => ?_)
    ·exact (FA.out _ (((Kr.refl R w).alloc HW.out (.cells #[.int .i64 0, .bool false, .int .i64 0, .string ⟨#[]⟩, .slice none 0 0, .slice none 0 0] 27)).drew)).1
    clear hK K
    try simp only [Act.put, zA, zB, zC, zD, zE, zF]
    refine wpAnyH_ready (rs := [5]) (by kernel_rfl) (by simp) ?_
    refine AllReadyH.cons rfl (fun K hK => ?_) (AllReadyH.nil)
    ·go_simp
     have cv := CV.out _ (((Below.refl _ w).alloc (Nat.le_refl _) (.cells #[.int .i64 0, .bool false, .int .i64 0, .string ⟨#[]⟩, .slice none 0 0, .slice none 0 0] 27)).drew)
     refine cv.mono ?_
     rintro e w1 ⟨k1, rfl⟩
     exact ⟨rfl, Kr.kb ((((Kr.refl R w).alloc HW.out (.cells #[.int .i64 0, .bool false, .int .i64 0, .string ⟨#[]⟩, .slice none 0 0, .slice none 0 0] 27)).drew).trans k1) (by omega), rfl⟩
  ·go_simp
   have cv := CV.out _ ((Below.refl _ w).drew)
   refine cv.mono ?_
   rintro e w1 ⟨k1, rfl⟩
   exact ⟨rfl, Kr.kb (((Kr.refl R w).drew).trans k1) (by omega), rfl⟩
  ·go_simp
   refine hK.out _ _ ?_ (fun hHeld => ?_)
   ·exact (FA.out _ (((Kr.refl R w).alloc HW.out (.cells #[.int .i64 0, .bool false, .int .i64 0, .string ⟨#[]⟩, .slice none 0 0, .slice none 0 0] 27)).drew)).1
   clear hK K
   try simp only [Act.put, zA, zB, zC, zD, zE, zF]
   refine wpAnyH_ready (rs := [1, 5]) (by kernel_rfl) (by simp) ?_
   refine AllReadyH.cons rfl (fun K hK => ?_) (AllReadyH.cons rfl (fun K hK => ?_) (AllReadyH.nil))
   ·have hl5 := (FA.out _ (((Kr.refl R w).alloc HW.out (.cells #[.int .i64 0, .bool false, .int .i64 0, .string ⟨#[]⟩, .slice none 0 0, .slice none 0 0] 27)).drew)).2
    go_simp
    refine hK.out _ _ ?_ (fun hHeld => ?_)
    ·exact (FA.out _ (((Kr.refl R w).alloc HW.out (.cells #[.int .i64 0, .bool false, .int .i64 0, .string ⟨#[]⟩, .slice none 0 0, .slice none 0 0] 27)).drew)).1
    clear hK K hl5
    try simp only [Act.put, zA, zB, zC, zD, zE, zF]
    refine wpAnyH_take (i := 6) (v := ?_) rfl (by kernel_rfl) (by kernel_rfl) (by kernel_rfl) (fun _ _ _ h => h) (Or.inl ⟨by rfl, ?_⟩) (by assumption) ?_
    rotate_left 1
    ·intro w hSw; (try dsimp only at hSw); go_simp; first | done | with_reducible rfl
    try simp only [Act.put, zA, zB, zC, zD, zE, zF]
    refine wpAnyH_ready (rs := [5]) (by kernel_rfl) (by simp) ?_
    refine AllReadyH.cons rfl (fun K hK => ?_) (AllReadyH.nil)
    ·go_simp
     have cv := CV.out _ (((Below.refl _ w).alloc (Nat.le_refl _) (.cells #[.int .i64 0, .bool false, .int .i64 0, .string ⟨#[]⟩, .slice none 0 0, .slice none 0 0] 27)).drew)
     refine cv.mono ?_
     rintro e w1 ⟨k1, rfl⟩
     exact ⟨rfl, Kr.kb ((((Kr.refl R w).alloc HW.out (.cells #[.int .i64 0, .bool false, .int .i64 0, .string ⟨#[]⟩, .slice none 0 0, .slice none 0 0] 27)).drew).trans k1) (by omega), rfl⟩
   ·go_simp
    have cv := CV.out _ (((Below.refl _ w).alloc (Nat.le_refl _) (.cells #[.int .i64 0, .bool false, .int .i64 0, .string ⟨#[]⟩, .slice none 0 0, .slice none 0 0] 27)).drew)
    refine cv.mono ?_
    rintro e w1 ⟨k1, rfl⟩
    exact ⟨rfl, Kr.kb ((((Kr.refl R w).alloc HW.out (.cells #[.int .i64 0, .bool false, .int .i64 0, .string ⟨#[]⟩, .slice none 0 0, .slice none 0 0] 27)).drew).trans k1) (by omega), rfl⟩
 | ok y =>
  obtain ⟨c, j, b'⟩ := y
  have eK : stK acc (.ok (c, j, b')) = .ok (acc ++ [c], j, b') := rfl
  rw [eK]
  go_enter Tryz.func57, Tryz.ntmps57
  go_wp2_with fail
  refine wp_region_held_drew (S := (fun w' => w'.cell? ⟨B, 0, none⟩ = some (.pointer (some ⟨R, 0, none⟩)) ∧ w'.cell? ⟨B + 1, 0, none⟩ = some (.int .i64 (d : Nat)))) (by kernel_rfl) ?_ (fun hHeld => ?_)
  ·exact (FA.out _ ((Kr.refl R w).drew)).1
  refine wpAnyH_take (i := 0) (v := ?_) rfl (by kernel_rfl) (by kernel_rfl) (by kernel_rfl) (fun _ _ _ h => h) (Or.inl ⟨by rfl, ?_⟩) (by assumption) ?_
  rotate_left 1
  ·intro w hSw; (try dsimp only at hSw); go_simp; first | done | with_reducible rfl
  try simp only [Act.put, zA, zB, zD, zE, zF]
  refine wpAnyH_take (i := 2) (v := ?_) rfl (by kernel_rfl) (by kernel_rfl) (by kernel_rfl) (fun _ _ _ h => h) (Or.inl ⟨by rfl, ?_⟩) (by assumption) ?_
  rotate_left 1
  ·intro w hSw; (try dsimp only at hSw); go_simp; first | done | with_reducible rfl
  try simp only [Act.put, zA, zB, zC, zD, zE, zF]
  refine wpAnyH_take (i := 3) (v := ?_) rfl (by kernel_rfl) (by kernel_rfl) (by kernel_rfl) (fun _ _ _ h => h) (Or.inl ⟨by rfl, ?_⟩) (by assumption) ?_
  rotate_left 1
  ·intro w hSw; (try dsimp only at hSw); go_simp; first | done | with_reducible rfl
  try simp only [Act.put, zA, zB, zC, zD, zE, zF]
  refine wpAnyH_take (i := 4) (v := ?_) rfl (by kernel_rfl) (by kernel_rfl) (by kernel_rfl) (fun _ _ _ h => h) (Or.inl ⟨by rfl, ?_⟩) (by assumption) ?_
  rotate_left 1
  ·intro w hSw; (try dsimp only at hSw); go_simp; first | done | with_reducible rfl
  try simp only [Act.put, zA, zB, zC, zD, zE, zF]
  refine wpAnyH_ready (rs := [1, 5, 7]) (by kernel_rfl) (by simp) ?_
  refine AllReadyH.cons rfl (fun K hK => ?_) (AllReadyH.cons rfl (fun K hK => ?_) (AllReadyH.cons rfl (fun K hK => ?_) (AllReadyH.nil)))
  ·have hl5 := (FA.out _ ((Kr.refl R w).drew)).2
   go_simp
   refine hK.out _ _ ?_ (fun hHeld => ?_)
   ·exact (FA.out _ ((Kr.refl R w).drew)).1
   clear hK K hl5
   try simp only [Act.put, zA, zB, zC, zD, zE, zF]
   refine wpAnyH_take (i := 6) (v := ?_) rfl (by kernel_rfl) (by kernel_rfl) (by kernel_rfl) (fun _ _ _ h => h) (Or.inl ⟨by rfl, ?_⟩) (by assumption) ?_
   rotate_left 1
   ·intro w hSw; (try dsimp only at hSw); go_simp; first | done | with_reducible rfl
   try simp only [Act.put, zA, zB, zC, zD, zE, zF]
   refine wpAnyH_ready (rs := [5, 7]) (by kernel_rfl) (by simp) ?_
   refine AllReadyH.cons rfl (fun K hK => ?_) (AllReadyH.cons rfl (fun K hK => ?_) (AllReadyH.nil))
   ·go_simp
    have cv := CV.out _ ((Below.refl _ w).drew)
    refine cv.mono ?_
    rintro e w1 ⟨k1, ⟨u, rfl, hu⟩, h1⟩
    obtain ⟨x0, x1, x2, x3, x4, x5, rfl, hone⟩ := hu.in.six
    obtain ⟨p1, y1, r1, p2, y2, r2, rfl, rfl, rfl, rfl, rfl, rfl⟩ := hu.in.kinds
    have kk := ((Kr.refl R w).drew).trans k1
    go_wp2_with fail
    refine hK.out _ _ ?_ (fun hHeld => ?_)
    ·exact (FA.out _ kk).1
    clear hK K cv
    try simp only [Act.put, zA, zB, zC, zD, zE, zF]
    refine wpAnyH_ready (rs := [7]) (by kernel_rfl) (by simp) ?_
    refine AllReadyH.cons rfl (fun K hK => ?_) (AllReadyH.nil)
    ·go_simp
     refine hK.out _ _ ?_ (fun hHeld => ?_)
     ·exact (FA.out _ (kk.alloc (by have := HW.out; have := kk.below.size; omega) (.cells #[.int .i64 0, .bool false, .int .i64 0, .string ⟨#[]⟩, .slice none 0 0, .slice none 0 0] 27))).1
     clear hK K
     try simp only [Act.put, zA, zB, zC, zD, zE, zF]
     have hs1 := k1.below.size
     have hsw : w.heap.size ≤ w1.heap.size := hs1
     have kz : Kr R w (w1.alloc (.cells #[.int .i64 0, .bool false, .int .i64 0, .string ⟨#[]⟩, .slice none 0 0, .slice none 0 0] 27)) := kk.alloc (by have := HW.out; omega) _
     have hzc := new_cells w1 [.int .i64 0, .bool false, .int .i64 0, .string ⟨#[]⟩, .slice none 0 0, .slice none 0 0] 27
     have hown2 := Byts.own_kr HELS.out.own.1 kz (by omega : R < B + 4)
     obtain ⟨lv', w3, hrun, hown3, hgrow, -, hat⟩ := run_append_own_at (P := Tryz.prog) (w1.alloc (.cells #[.int .i64 0, .bool false, .int .i64 0, .string ⟨#[]⟩, .slice none 0 0, .slice none 0 0] 27)) (B + 4) 25 25 27 i0 (.agg #[.int .i64 0, .bool false, .int .i64 0, .string ⟨#[]⟩, .slice none 0 0, .slice none 0 0]) 6 88 Tryz.underlying25 hi0 hz0 hz1 hz2 rfl (by decide) _ _ _ hown2 ⟨w1.heap.size, 0, none⟩ 1 1 [.int .i64 0, .bool false, .int .i64 0, .string ⟨#[]⟩, .slice none 0 0, .slice none 0 0] rfl hzc (by decide) (by unfold maxLen; omega) (by omega) (by have := kz.below.size; omega)
     obtain ⟨g3, cap3, rfl⟩ : ∃ g3 cap3, lv' = .slice (some ⟨g3, 0, none⟩) (us.length + 1) cap3 := by
      rcases hown3.2 with ⟨_, e⟩ | ⟨g, cap, cur, e, _⟩
      ·omega
      ·exact ⟨g, cap, e⟩
     have OV3 : Hid (OwnV w3 (B + 4) (.slice (some ⟨g3, 0, none⟩) (us.length + 1) cap3) (us ++ [.agg #[.int .i64 0, .bool false, .int .i64 0, .string ⟨#[]⟩, .slice none 0 0, .slice none 0 0]])) := by
      refine ⟨?_, sixes_snoc HELS.out.own.2 ⟨_, _, _, _, _, _, rfl, by decide⟩⟩
      rw [flat_append, List.length_append]
      exact hown3
     have hg3 := World.ownsRow.lt hown3 g3 rfl
     have hkc : cap3 ≤ 9223372036854775807 ∧ us.length + 1 ≤ cap3 := by have := ownV_cap OV3.out; unfold maxLen at this; omega
     obtain ⟨hkc1, hkc2⟩ := hkc
     have hG : Hid (∀ k, k < w.heap.size → k ≠ R → (Value.slice a5 us.length cap5).ownBlock ≠ some k → w3.heap[k]? = w.heap[k]?) := fun k hk hkR hne => (hgrow.block k (by have := kz.below.size; omega) (fun e => hne e.symm)).trans (kz.other k hkR hk)
     have hsz3 : Hid ((w1.alloc (.cells #[.int .i64 0, .bool false, .int .i64 0, .string ⟨#[]⟩, .slice none 0 0, .slice none 0 0] 27)).heap.size ≤ w3.heap.size) := hgrow.size
     have hRd3 : Hid (Rd w3 R v s j b') := Byts.rd_grown (B := B + 4) (h1.below ((Below.refl _ w1).alloc (Nat.le_refl _) _)) (by omega) hgrow (fun k hk => (World.ownsRow.lt hown2 k hk).1)
     have hBel3 : Hid (Below R w w3) := kz.below.grown hgrow (by have := HW.out; have := kz.below.size; omega) (fun k hk => by have := (World.ownsRow.lt hown2 k hk).1; omega)
     have hAt : Hid ((Value.slice (some ⟨g3, 0, none⟩) (us.length + 1) cap3).ownBlock = (Value.slice a5 us.length cap5).ownBlock ∨ (Value.slice (some ⟨g3, 0, none⟩) (us.length + 1) cap3).ownBlock = some (w1.alloc (.cells #[.int .i64 0, .bool false, .int .i64 0, .string ⟨#[]⟩, .slice none 0 0, .slice none 0 0] 27)).heap.size) := hat
     have hK1 : Hid (Keep (Rg w.drew.heap.size w1.heap.size) w1 w3) := fun k hk hlt => by
      have hk1 := hk.1
      have e0 : w.drew.heap.size = w.heap.size := rfl
      rw [hgrow.block k (by have := hk.2; simp; omega) (fun e => by have := (World.ownsRow.lt HELS.out.own.1 k e.symm).2; omega)]
      exact Below.heap_alloc _ _ _ hlt
     have hS3 : (fun w' => w'.cell? ⟨B, 0, none⟩ = some (.pointer (some ⟨R, 0, none⟩)) ∧ w'.cell? ⟨B + 1, 0, none⟩ = some (.int .i64 (d : Nat))) w3 := by
      have e1 := hG.out B (by omega) (by omega) (fun e => by have := (World.ownsRow.lt HELS.out.own.1 B e).1; omega)
      have e2 := hG.out (B + 1) (by omega) (by omega) (fun e => by have := (World.ownsRow.lt HELS.out.own.1 (B + 1) e).1; omega)
      have s0 := (FA.out w (Kr.refl R w)).1
      exact ⟨(World.cell?_of_block (w := w) e1).trans s0.1, (World.cell?_of_block (w := w) e2).trans s0.2⟩
     have hbx3 : w3.heap[B + 3]? = some (.cells #[.int .i64 5, .bool false, .int .i64 0, .string ⟨#[]⟩, .slice none 0 0, .slice a5 us.length cap5] 27 (0, 0)) := (hG.out (B + 3) (by omega) (by omega) (fun e => by have := (World.ownsRow.lt HELS.out.own.1 (B + 3) e).1; omega)).trans HBOX.out
     have HBX3 : Hid (w3.heap[B + 3]? = some (.cells #[.int .i64 5, .bool false, .int .i64 0, .string ⟨#[]⟩, .slice none 0 0, .slice a5 us.length cap5] 27 (0, 0))) := hbx3
     clear hown2 hzc hgrow hat hown3 hHeld
     refine wpAnyH_ready (rs := [8]) (by kernel_rfl) (by simp) ?_
     refine AllReadyH.cons rfl (fun K hK => ?_) AllReadyH.nil
     refine op_append rfl (Operand.tmp 4) (Operand.tmp 10) 25 rfl rfl rfl hrun ?_
     refine hK.out _ _ hS3 (fun hHeld => ?_)
     clear hK K hrun
     try simp only [Act.put, zA, zB, zC, zD, zE, zF]
     have n1 : (0 : Int) ≤ (us.length : Int) := by omega
     have n2 : (us.length : Int) < (us.length : Int) + 1 := by omega
     refine wpAnyH_take (i := 9) (v := ?_) rfl (by kernel_rfl) (by kernel_rfl) (by kernel_rfl) (fun _ _ _ h => h) (Or.inl ⟨by rfl, ?_⟩) (by assumption) ?_
     rotate_left 1
     ·intro w hSw; (try dsimp only at hSw); go_simp; first | done | with_reducible rfl
     try simp only [Act.put, zA, zB, zC, zD, zE, zF]
     refine wpAnyH_take (i := 11) (v := ?_) rfl (by kernel_rfl) (by kernel_rfl) (by kernel_rfl) (fun _ _ _ h => h) (Or.inl ⟨by rfl, ?_⟩) (by assumption) ?_
     rotate_left 1
     ·intro w hSw; (try dsimp only at hSw); go_simp; first | done | with_reducible rfl
     try simp only [Act.put, zA, zB, zC, zD, zE, zF]
     obtain ⟨q0, q1, q2, q3, q4, q5, eq, c0, c1, c2, c3, c4, c5⟩ := ownV_six OV3.out us.length (by simp)
     have fz := fun j => Copied.frozen_own OV3.out.1 j
     rw [Nat.zero_add] at c0 c1 c2 c3 c4 c5
     obtain ⟨m0, m1, m2, m3, m4, m5⟩ := six_box hbx3
     have mf := frozen_box hbx3 5
     have f0 := fz (us.length * 6)
     have f1 := fz (us.length * 6 + 1)
     have f2 := fz (us.length * 6 + 2)
     have f3 := fz (us.length * 6 + 3)
     have f4 := fz (us.length * 6 + 4)
     have f5 := fz (us.length * 6 + 5)
     clear fz eq hbx3
     have gB : ¬ B + 3 = g3 := by omega
     have gB' : ¬ g3 = B + 3 := by omega
     have hgB : ∀ g, (Value.slice (some ⟨g3, 0, none⟩) (us.length + 1) cap3).ownBlock = some g → g ≠ B + 3 := fun g hg e => by
      have e3 : g3 = g := by simpa [Value.ownBlock] using hg
      omega
     refine wpAnyH_ready (rs := [10, 12]) (by kernel_rfl) (by simp) ?_
     refine AllReadyH.cons rfl (fun K hK => ?_) (AllReadyH.cons rfl (fun K hK => ?_) AllReadyH.nil)
     ·go_simp
      obtain ⟨w4, hw4⟩ : ∃ w4, ((((((w3.setCell ⟨g3, us.length * 6, none⟩ (.int .i64 c.k)).setCell ⟨g3, us.length * 6 + 1, none⟩ (.bool c.b)).setCell ⟨g3, us.length * 6 + 2, none⟩ (.int .i64 c.i)).setCell ⟨g3, us.length * 6 + 3, none⟩ (.string c.s)).setCell ⟨g3, us.length * 6 + 4, none⟩ (.slice p1 y1 r1)).setCell ⟨g3, us.length * 6 + 5, none⟩ (.slice p2 y2 r2)) = w4 := ⟨_, rfl⟩
      rw [hw4]
      obtain ⟨OV4, ot4, sz4, bel4⟩ := set_last OV3.out hone hw4
      have ot4' : ∀ k, k ≠ g3 → k ≠ B + 3 → w4.heap[k]? = w3.heap[k]? := fun k hk _ => ot4 k hk
      clear c0 c1 c2 c3 c4 c5 f0 f1 f2 f3 f4 f5 m0 m1 m2 m3 m4 m5 mf hw4
      have hbx4 := (ot4 (B + 3) gB).trans HBX3.out
      obtain ⟨m0, m1, m2, m3, m4, m5⟩ := six_box hbx4
      have mf := frozen_box hbx4 5
      have Sw4 : (fun w' => w'.cell? ⟨B, 0, none⟩ = some (.pointer (some ⟨R, 0, none⟩)) ∧ w'.cell? ⟨B + 1, 0, none⟩ = some (.int .i64 (d : Nat))) w4 := ⟨(World.cell?_of_block (w := w3) (ot4' B (by omega) (by omega))).trans hS3.1, (World.cell?_of_block (w := w3) (ot4' (B + 1) (by omega) (by omega))).trans hS3.2⟩
      refine hK.out _ _ Sw4 (fun hHeld => ?_)
      clear hK K
      try simp only [Act.put, zA, zB, zC, zD, zE, zF]
      refine wpAnyH_ready (rs := [12]) (by kernel_rfl) (by simp) ?_
      refine AllReadyH.cons rfl (fun K hK => ?_) AllReadyH.nil
      go_simp
      obtain ⟨w5, hw5⟩ : ∃ w5, w4.setCell ⟨B + 3, 5, none⟩ (.slice (some ⟨g3, 0, none⟩) (us.length + 1) cap3) = w5 := ⟨_, rfl⟩
      rw [hw5]
      have ot5 : ∀ k, k ≠ g3 → k ≠ B + 3 → w5.heap[k]? = w3.heap[k]? := fun k hk hk2 => by rw [← hw5, Below.heap_setCell _ _ _ _ hk2]; exact ot4 k hk
      have hBox5 : w5.heap[B + 3]? = some (.cells #[.int .i64 5, .bool false, .int .i64 0, .string ⟨#[]⟩, .slice none 0 0, (.slice (some ⟨g3, 0, none⟩) (us.length + 1) cap3)] 27 (0, 0)) := by rw [← hw5, bset hbx4]; rfl
      have OV5 : OwnV w5 (B + 4) (.slice (some ⟨g3, 0, none⟩) (us.length + 1) cap3) (us ++ [.agg #[.int .i64 c.k, .bool c.b, .int .i64 c.i, .string c.s, .slice p1 y1 r1, .slice p2 y2 r2]]) := ⟨Fresh.own_keep OV4.1 fun g hg => by rw [← hw5]; exact Below.heap_setCell _ _ _ _ (hgB g hg), OV4.2⟩
      have sz5 : w5.heap.size = w3.heap.size := by rw [← hw5]; simpa [World.setCell] using sz4
      have bel5 : Below R w w5 := by rw [← hw5]; exact (bel4 w R (by omega) hBel3.out).setCell (p := ⟨B + 3, 5, none⟩) (by simp; omega) _
      have Sw5 : (fun w' => w'.cell? ⟨B, 0, none⟩ = some (.pointer (some ⟨R, 0, none⟩)) ∧ w'.cell? ⟨B + 1, 0, none⟩ = some (.int .i64 (d : Nat))) w5 := ⟨(World.cell?_of_block (w := w3) (ot5 B (by omega) (by omega))).trans hS3.1, (World.cell?_of_block (w := w3) (ot5 (B + 1) (by omega) (by omega))).trans hS3.2⟩
      refine hK.out _ _ Sw5 (fun hHeld => ?_)
      clear hK K hw5 m0 m1 m2 m3 m4 m5 mf
      try simp only [Act.put, zA, zB, zC, zD, zE, zF]
      refine wpAnyH_done (by kernel_rfl) ?_ _
      go_wp2_with fail
      go_end0
      have hgg : ∀ k, k < w.heap.size → (Value.slice a5 us.length cap5).ownBlock ≠ some k → k ≠ g3 := fun k hk hne e => by
       rcases hAt.out with h9 | h9
       ·exact hne (h9.symm.trans (by rw [e]; rfl))
       ·have h8 : g3 = (w1.alloc (.cells #[.int .i64 0, .bool false, .int .i64 0, .string ⟨#[]⟩, .slice none 0 0, .slice none 0 0] 27)).heap.size := by simpa [Value.ownBlock] using h9
        have := kz.below.size
        omega
      have hr5 : Rd w5 R v s j b' := hRd3.out.keep fun k hk => ot5 k (by omega) (by omega)
      have hXj := hXI.out c j b' rfl
      have e00 : w.heap.size ≤ w.drew.heap.size := Nat.le_refl _
      have hs35 := hsz3.out
      rw [World.size_alloc] at hs35
      obtain ⟨kb5, jl5⟩ := HJ.out.more HELS.out hu e00 (by omega) (by omega) OV5 (fun g hg => by
        rcases hAt.out with h9 | h9
        ·exact .inl (h9.symm.trans hg)
        ·have h8 : g = (w1.alloc (.cells #[.int .i64 0, .bool false, .int .i64 0, .string ⟨#[]⟩, .slice none 0 0, .slice none 0 0] 27)).heap.size := by have := hg.symm.trans h9; simpa using this
         rw [World.size_alloc] at h8
         exact .inr ⟨by omega, by omega⟩
       ) hBox5 (fun k hk hkR hkB hne => (ot5 k (hgg k hk hne) hkB).trans (hG.out k hk hkR hne)) (fun k hk hlt => by
        have hk1 := hk.1
        have hk2 := hk.2
        refine (ot5 k (fun e => ?_) (by omega)).trans (hK1.out k hk hlt)
        rcases hAt.out with h9 | h9
        ·have := (World.ownsRow.lt HELS.out.own.1 g3 (h9.symm.trans rfl)).2
         omega
        ·have h8 : g3 = (w1.alloc (.cells #[.int .i64 0, .bool false, .int .i64 0, .string ⟨#[]⟩, .slice none 0 0, .slice none 0 0] 27)).heap.size := by simpa [Value.ownBlock] using h9
         rw [World.size_alloc] at h8
         omega
       ) hr5 (by omega) bel5
      exact ⟨kb5, rfl, jl5⟩
     ·go_simp
      obtain ⟨w4, hw4⟩ : ∃ w4, w3.setCell ⟨B + 3, 5, none⟩ (.slice (some ⟨g3, 0, none⟩) (us.length + 1) cap3) = w4 := ⟨_, rfl⟩
      rw [hw4]
      have ot4 : ∀ k, k ≠ B + 3 → w4.heap[k]? = w3.heap[k]? := fun k hk2 => by rw [← hw4]; exact Below.heap_setCell _ _ _ _ hk2
      have ot4' : ∀ k, k ≠ g3 → k ≠ B + 3 → w4.heap[k]? = w3.heap[k]? := fun k _ hk2 => ot4 k hk2
      have hbx4 : w4.heap[B + 3]? = some (.cells #[.int .i64 5, .bool false, .int .i64 0, .string ⟨#[]⟩, .slice none 0 0, (.slice (some ⟨g3, 0, none⟩) (us.length + 1) cap3)] 27 (0, 0)) := by rw [← hw4, bset HBX3.out]; rfl
      have OV4 : OwnV w4 (B + 4) (.slice (some ⟨g3, 0, none⟩) (us.length + 1) cap3) (us ++ [.agg #[.int .i64 0, .bool false, .int .i64 0, .string ⟨#[]⟩, .slice none 0 0, .slice none 0 0]]) := ⟨Fresh.own_keep OV3.out.1 fun g hg => ot4 g (hgB g hg), OV3.out.2⟩
      have sz4 : w4.heap.size = w3.heap.size := by rw [← hw4]; simp [World.setCell]
      have bel4 : Below R w w4 := by rw [← hw4]; exact hBel3.out.setCell (p := ⟨B + 3, 5, none⟩) (by simp; omega) _
      clear c0 c1 c2 c3 c4 c5 f0 f1 f2 f3 f4 f5 m0 m1 m2 m3 m4 m5 mf hw4
      obtain ⟨q0', q1', q2', q3', q4', q5', eq, c0, c1, c2, c3, c4, c5⟩ := ownV_six OV4 us.length (by simp)
      have fz := fun j => Copied.frozen_own OV4.1 j
      rw [Nat.zero_add] at c0 c1 c2 c3 c4 c5
      have f0 := fz (us.length * 6)
      have f1 := fz (us.length * 6 + 1)
      have f2 := fz (us.length * 6 + 2)
      have f3 := fz (us.length * 6 + 3)
      have f4 := fz (us.length * 6 + 4)
      have f5 := fz (us.length * 6 + 5)
      clear fz eq
      have Sw4 : (fun w' => w'.cell? ⟨B, 0, none⟩ = some (.pointer (some ⟨R, 0, none⟩)) ∧ w'.cell? ⟨B + 1, 0, none⟩ = some (.int .i64 (d : Nat))) w4 := ⟨(World.cell?_of_block (w := w3) (ot4' B (by omega) (by omega))).trans hS3.1, (World.cell?_of_block (w := w3) (ot4' (B + 1) (by omega) (by omega))).trans hS3.2⟩
      refine hK.out _ _ Sw4 (fun hHeld => ?_)
      clear hK K
      try simp only [Act.put, zA, zB, zC, zD, zE, zF]
      refine wpAnyH_ready (rs := [10]) (by kernel_rfl) (by simp) ?_
      refine AllReadyH.cons rfl (fun K hK => ?_) AllReadyH.nil
      go_simp
      obtain ⟨w5, hw5⟩ : ∃ w5, ((((((w4.setCell ⟨g3, us.length * 6, none⟩ (.int .i64 c.k)).setCell ⟨g3, us.length * 6 + 1, none⟩ (.bool c.b)).setCell ⟨g3, us.length * 6 + 2, none⟩ (.int .i64 c.i)).setCell ⟨g3, us.length * 6 + 3, none⟩ (.string c.s)).setCell ⟨g3, us.length * 6 + 4, none⟩ (.slice p1 y1 r1)).setCell ⟨g3, us.length * 6 + 5, none⟩ (.slice p2 y2 r2)) = w5 := ⟨_, rfl⟩
      rw [hw5]
      obtain ⟨OV5, oth5, sz5', bel5'⟩ := set_last OV4 hone hw5
      have ot5 : ∀ k, k ≠ g3 → k ≠ B + 3 → w5.heap[k]? = w3.heap[k]? := fun k hk hk2 => (oth5 k hk).trans (ot4 k hk2)
      have hBox5 := (oth5 (B + 3) gB).trans hbx4
      have sz5 : w5.heap.size = w3.heap.size := sz5'.trans sz4
      have bel5 : Below R w w5 := bel5' w R (by omega) bel4
      have Sw5 : (fun w' => w'.cell? ⟨B, 0, none⟩ = some (.pointer (some ⟨R, 0, none⟩)) ∧ w'.cell? ⟨B + 1, 0, none⟩ = some (.int .i64 (d : Nat))) w5 := ⟨(World.cell?_of_block (w := w3) (ot5 B (by omega) (by omega))).trans hS3.1, (World.cell?_of_block (w := w3) (ot5 (B + 1) (by omega) (by omega))).trans hS3.2⟩
      refine hK.out _ _ Sw5 (fun hHeld => ?_)
      clear hK K hw5 c0 c1 c2 c3 c4 c5 f0 f1 f2 f3 f4 f5
      try simp only [Act.put, zA, zB, zC, zD, zE, zF]
      refine wpAnyH_done (by kernel_rfl) ?_ _
      go_wp2_with fail
      go_end0
      have hgg : ∀ k, k < w.heap.size → (Value.slice a5 us.length cap5).ownBlock ≠ some k → k ≠ g3 := fun k hk hne e => by
       rcases hAt.out with h9 | h9
       ·exact hne (h9.symm.trans (by rw [e]; rfl))
       ·have h8 : g3 = (w1.alloc (.cells #[.int .i64 0, .bool false, .int .i64 0, .string ⟨#[]⟩, .slice none 0 0, .slice none 0 0] 27)).heap.size := by simpa [Value.ownBlock] using h9
        have := kz.below.size
        omega
      have hr5 : Rd w5 R v s j b' := hRd3.out.keep fun k hk => ot5 k (by omega) (by omega)
      have hXj := hXI.out c j b' rfl
      have e00 : w.heap.size ≤ w.drew.heap.size := Nat.le_refl _
      have hs35 := hsz3.out
      rw [World.size_alloc] at hs35
      obtain ⟨kb5, jl5⟩ := HJ.out.more HELS.out hu e00 (by omega) (by omega) OV5 (fun g hg => by
        rcases hAt.out with h9 | h9
        ·exact .inl (h9.symm.trans hg)
        ·have h8 : g = (w1.alloc (.cells #[.int .i64 0, .bool false, .int .i64 0, .string ⟨#[]⟩, .slice none 0 0, .slice none 0 0] 27)).heap.size := by have := hg.symm.trans h9; simpa using this
         rw [World.size_alloc] at h8
         exact .inr ⟨by omega, by omega⟩
       ) hBox5 (fun k hk hkR hkB hne => (ot5 k (hgg k hk hne) hkB).trans (hG.out k hk hkR hne)) (fun k hk hlt => by
        have hk1 := hk.1
        have hk2 := hk.2
        refine (ot5 k (fun e => ?_) (by omega)).trans (hK1.out k hk hlt)
        rcases hAt.out with h9 | h9
        ·have := (World.ownsRow.lt HELS.out.own.1 g3 (h9.symm.trans rfl)).2
         omega
        ·have h8 : g3 = (w1.alloc (.cells #[.int .i64 0, .bool false, .int .i64 0, .string ⟨#[]⟩, .slice none 0 0, .slice none 0 0] 27)).heap.size := by simpa [Value.ownBlock] using h9
         rw [World.size_alloc] at h8
         omega
       ) hr5 (by omega) bel5
      exact ⟨kb5, rfl, jl5⟩
   ·go_simp
    refine hK.out _ _ ?_ (fun hHeld => ?_)
    ·exact (FA.out _ (((Kr.refl R w).alloc HW.out (.cells #[.int .i64 0, .bool false, .int .i64 0, .string ⟨#[]⟩, .slice none 0 0, .slice none 0 0] 27)).drew)).1
    clear hK K
    try simp only [Act.put, zA, zB, zC, zD, zE, zF]
    refine wpAnyH_ready (rs := [5]) (by kernel_rfl) (by simp) ?_
    refine AllReadyH.cons rfl (fun K hK => ?_) (AllReadyH.nil)
    ·go_simp
     have cv := CV.out _ (((Below.refl _ w).alloc (Nat.le_refl _) (.cells #[.int .i64 0, .bool false, .int .i64 0, .string ⟨#[]⟩, .slice none 0 0, .slice none 0 0] 27)).drew)
     refine cv.mono ?_
     rintro e w1 ⟨k1, ⟨u, rfl, hu⟩, h1⟩
     obtain ⟨x0, x1, x2, x3, x4, x5, rfl, hone⟩ := hu.in.six
     obtain ⟨p1, y1, r1, p2, y2, r2, rfl, rfl, rfl, rfl, rfl, rfl⟩ := hu.in.kinds
     have kk := (((Kr.refl R w).alloc HW.out (.cells #[.int .i64 0, .bool false, .int .i64 0, .string ⟨#[]⟩, .slice none 0 0, .slice none 0 0] 27)).drew).trans k1
     go_wp2_with fail
     refine hK.out _ _ ?_ (fun hHeld => ?_)
     ·exact (FA.out _ kk).1
     clear hK K cv
     try simp only [Act.put, zA, zB, zC, zD, zE, zF]
     have hs1 := k1.below.size
     have e0w : ((w.alloc (.cells #[.int .i64 0, .bool false, .int .i64 0, .string ⟨#[]⟩, .slice none 0 0, .slice none 0 0] 27)).drew).heap.size = w.heap.size + 1 := by simp
     have hsw : w.heap.size + 1 ≤ w1.heap.size := by omega
     have kz : Kr R w w1 := kk
     have hz1' : w1.heap[w.heap.size]? = some (.cells [.int .i64 0, .bool false, .int .i64 0, .string ⟨#[]⟩, .slice none 0 0, .slice none 0 0].toArray 27 (0, 0)) := (k1.other w.heap.size (by have := HW.out; have := HJ.out.RB; have := HJ.out.sz; omega) (by simp)).trans (heap_alloc_new w _)
     have hzc := zc_of hz1'
     have hown2 := Byts.own_kr HELS.out.own.1 kz (by omega : R < B + 4)
     obtain ⟨lv', w3, hrun, hown3, hgrow, -, hat⟩ := run_append_own_at (P := Tryz.prog) w1 (B + 4) 25 25 27 i0 (.agg #[.int .i64 0, .bool false, .int .i64 0, .string ⟨#[]⟩, .slice none 0 0, .slice none 0 0]) 6 88 Tryz.underlying25 hi0 hz0 hz1 hz2 rfl (by decide) _ _ _ hown2 ⟨w.heap.size, 0, none⟩ 1 1 [.int .i64 0, .bool false, .int .i64 0, .string ⟨#[]⟩, .slice none 0 0, .slice none 0 0] rfl hzc (by decide) (by unfold maxLen; omega) (by omega) (by have := kz.below.size; omega)
     obtain ⟨g3, cap3, rfl⟩ : ∃ g3 cap3, lv' = .slice (some ⟨g3, 0, none⟩) (us.length + 1) cap3 := by
      rcases hown3.2 with ⟨_, e⟩ | ⟨g, cap, cur, e, _⟩
      ·omega
      ·exact ⟨g, cap, e⟩
     have OV3 : Hid (OwnV w3 (B + 4) (.slice (some ⟨g3, 0, none⟩) (us.length + 1) cap3) (us ++ [.agg #[.int .i64 0, .bool false, .int .i64 0, .string ⟨#[]⟩, .slice none 0 0, .slice none 0 0]])) := by
      refine ⟨?_, sixes_snoc HELS.out.own.2 ⟨_, _, _, _, _, _, rfl, by decide⟩⟩
      rw [flat_append, List.length_append]
      exact hown3
     have hg3 := World.ownsRow.lt hown3 g3 rfl
     have hkc : cap3 ≤ 9223372036854775807 ∧ us.length + 1 ≤ cap3 := by have := ownV_cap OV3.out; unfold maxLen at this; omega
     obtain ⟨hkc1, hkc2⟩ := hkc
     have hG : Hid (∀ k, k < w.heap.size → k ≠ R → (Value.slice a5 us.length cap5).ownBlock ≠ some k → w3.heap[k]? = w.heap[k]?) := fun k hk hkR hne => (hgrow.block k (by have := kz.below.size; omega) (fun e => hne e.symm)).trans (kz.other k hkR hk)
     have hsz3 : Hid (w1.heap.size ≤ w3.heap.size) := hgrow.size
     have hRd3 : Hid (Rd w3 R v s j b') := Byts.rd_grown (B := B + 4) h1 (by omega) hgrow (fun k hk => (World.ownsRow.lt hown2 k hk).1)
     have hBel3 : Hid (Below R w w3) := kz.below.grown hgrow (by have := HW.out; have := kz.below.size; omega) (fun k hk => by have := (World.ownsRow.lt hown2 k hk).1; omega)
     have hAt : Hid ((Value.slice (some ⟨g3, 0, none⟩) (us.length + 1) cap3).ownBlock = (Value.slice a5 us.length cap5).ownBlock ∨ (Value.slice (some ⟨g3, 0, none⟩) (us.length + 1) cap3).ownBlock = some w1.heap.size) := hat
     have hK1 : Hid (Keep (Rg ((w.alloc (.cells #[.int .i64 0, .bool false, .int .i64 0, .string ⟨#[]⟩, .slice none 0 0, .slice none 0 0] 27)).drew).heap.size w1.heap.size) w1 w3) := fun k hk hlt => by
      have hk1 := hk.1
      have e0 : ((w.alloc (.cells #[.int .i64 0, .bool false, .int .i64 0, .string ⟨#[]⟩, .slice none 0 0, .slice none 0 0] 27)).drew).heap.size = w.heap.size + 1 := by simp
      rw [hgrow.block k (by have := hk.2; omega) (fun e => by have := (World.ownsRow.lt HELS.out.own.1 k e.symm).2; omega)]
     have hS3 : (fun w' => w'.cell? ⟨B, 0, none⟩ = some (.pointer (some ⟨R, 0, none⟩)) ∧ w'.cell? ⟨B + 1, 0, none⟩ = some (.int .i64 (d : Nat))) w3 := by
      have e1 := hG.out B (by omega) (by omega) (fun e => by have := (World.ownsRow.lt HELS.out.own.1 B e).1; omega)
      have e2 := hG.out (B + 1) (by omega) (by omega) (fun e => by have := (World.ownsRow.lt HELS.out.own.1 (B + 1) e).1; omega)
      have s0 := (FA.out w (Kr.refl R w)).1
      exact ⟨(World.cell?_of_block (w := w) e1).trans s0.1, (World.cell?_of_block (w := w) e2).trans s0.2⟩
     have hbx3 : w3.heap[B + 3]? = some (.cells #[.int .i64 5, .bool false, .int .i64 0, .string ⟨#[]⟩, .slice none 0 0, .slice a5 us.length cap5] 27 (0, 0)) := (hG.out (B + 3) (by omega) (by omega) (fun e => by have := (World.ownsRow.lt HELS.out.own.1 (B + 3) e).1; omega)).trans HBOX.out
     have HBX3 : Hid (w3.heap[B + 3]? = some (.cells #[.int .i64 5, .bool false, .int .i64 0, .string ⟨#[]⟩, .slice none 0 0, .slice a5 us.length cap5] 27 (0, 0))) := hbx3
     clear hown2 hzc hgrow hat hown3 hHeld
     refine wpAnyH_ready (rs := [8]) (by kernel_rfl) (by simp) ?_
     refine AllReadyH.cons rfl (fun K hK => ?_) AllReadyH.nil
     refine op_append rfl (Operand.tmp 4) (Operand.tmp 10) 25 rfl rfl rfl hrun ?_
     refine hK.out _ _ hS3 (fun hHeld => ?_)
     clear hK K hrun
     try simp only [Act.put, zA, zB, zC, zD, zE, zF]
     have n1 : (0 : Int) ≤ (us.length : Int) := by omega
     have n2 : (us.length : Int) < (us.length : Int) + 1 := by omega
     refine wpAnyH_take (i := 9) (v := ?_) rfl (by kernel_rfl) (by kernel_rfl) (by kernel_rfl) (fun _ _ _ h => h) (Or.inl ⟨by rfl, ?_⟩) (by assumption) ?_
     rotate_left 1
     ·intro w hSw; (try dsimp only at hSw); go_simp; first | done | with_reducible rfl
     try simp only [Act.put, zA, zB, zC, zD, zE, zF]
     refine wpAnyH_take (i := 11) (v := ?_) rfl (by kernel_rfl) (by kernel_rfl) (by kernel_rfl) (fun _ _ _ h => h) (Or.inl ⟨by rfl, ?_⟩) (by assumption) ?_
     rotate_left 1
     ·intro w hSw; (try dsimp only at hSw); go_simp; first | done | with_reducible rfl
     try simp only [Act.put, zA, zB, zC, zD, zE, zF]
     obtain ⟨q0, q1, q2, q3, q4, q5, eq, c0, c1, c2, c3, c4, c5⟩ := ownV_six OV3.out us.length (by simp)
     have fz := fun j => Copied.frozen_own OV3.out.1 j
     rw [Nat.zero_add] at c0 c1 c2 c3 c4 c5
     obtain ⟨m0, m1, m2, m3, m4, m5⟩ := six_box hbx3
     have mf := frozen_box hbx3 5
     have f0 := fz (us.length * 6)
     have f1 := fz (us.length * 6 + 1)
     have f2 := fz (us.length * 6 + 2)
     have f3 := fz (us.length * 6 + 3)
     have f4 := fz (us.length * 6 + 4)
     have f5 := fz (us.length * 6 + 5)
     clear fz eq hbx3
     have gB : ¬ B + 3 = g3 := by omega
     have gB' : ¬ g3 = B + 3 := by omega
     have hgB : ∀ g, (Value.slice (some ⟨g3, 0, none⟩) (us.length + 1) cap3).ownBlock = some g → g ≠ B + 3 := fun g hg e => by
      have e3 : g3 = g := by simpa [Value.ownBlock] using hg
      omega
     refine wpAnyH_ready (rs := [10, 12]) (by kernel_rfl) (by simp) ?_
     refine AllReadyH.cons rfl (fun K hK => ?_) (AllReadyH.cons rfl (fun K hK => ?_) AllReadyH.nil)
     ·go_simp
      obtain ⟨w4, hw4⟩ : ∃ w4, ((((((w3.setCell ⟨g3, us.length * 6, none⟩ (.int .i64 c.k)).setCell ⟨g3, us.length * 6 + 1, none⟩ (.bool c.b)).setCell ⟨g3, us.length * 6 + 2, none⟩ (.int .i64 c.i)).setCell ⟨g3, us.length * 6 + 3, none⟩ (.string c.s)).setCell ⟨g3, us.length * 6 + 4, none⟩ (.slice p1 y1 r1)).setCell ⟨g3, us.length * 6 + 5, none⟩ (.slice p2 y2 r2)) = w4 := ⟨_, rfl⟩
      rw [hw4]
      obtain ⟨OV4, ot4, sz4, bel4⟩ := set_last OV3.out hone hw4
      have ot4' : ∀ k, k ≠ g3 → k ≠ B + 3 → w4.heap[k]? = w3.heap[k]? := fun k hk _ => ot4 k hk
      clear c0 c1 c2 c3 c4 c5 f0 f1 f2 f3 f4 f5 m0 m1 m2 m3 m4 m5 mf hw4
      have hbx4 := (ot4 (B + 3) gB).trans HBX3.out
      obtain ⟨m0, m1, m2, m3, m4, m5⟩ := six_box hbx4
      have mf := frozen_box hbx4 5
      have Sw4 : (fun w' => w'.cell? ⟨B, 0, none⟩ = some (.pointer (some ⟨R, 0, none⟩)) ∧ w'.cell? ⟨B + 1, 0, none⟩ = some (.int .i64 (d : Nat))) w4 := ⟨(World.cell?_of_block (w := w3) (ot4' B (by omega) (by omega))).trans hS3.1, (World.cell?_of_block (w := w3) (ot4' (B + 1) (by omega) (by omega))).trans hS3.2⟩
      refine hK.out _ _ Sw4 (fun hHeld => ?_)
      clear hK K
      try simp only [Act.put, zA, zB, zC, zD, zE, zF]
      refine wpAnyH_ready (rs := [12]) (by kernel_rfl) (by simp) ?_
      refine AllReadyH.cons rfl (fun K hK => ?_) AllReadyH.nil
      go_simp
      obtain ⟨w5, hw5⟩ : ∃ w5, w4.setCell ⟨B + 3, 5, none⟩ (.slice (some ⟨g3, 0, none⟩) (us.length + 1) cap3) = w5 := ⟨_, rfl⟩
      rw [hw5]
      have ot5 : ∀ k, k ≠ g3 → k ≠ B + 3 → w5.heap[k]? = w3.heap[k]? := fun k hk hk2 => by rw [← hw5, Below.heap_setCell _ _ _ _ hk2]; exact ot4 k hk
      have hBox5 : w5.heap[B + 3]? = some (.cells #[.int .i64 5, .bool false, .int .i64 0, .string ⟨#[]⟩, .slice none 0 0, (.slice (some ⟨g3, 0, none⟩) (us.length + 1) cap3)] 27 (0, 0)) := by rw [← hw5, bset hbx4]; rfl
      have OV5 : OwnV w5 (B + 4) (.slice (some ⟨g3, 0, none⟩) (us.length + 1) cap3) (us ++ [.agg #[.int .i64 c.k, .bool c.b, .int .i64 c.i, .string c.s, .slice p1 y1 r1, .slice p2 y2 r2]]) := ⟨Fresh.own_keep OV4.1 fun g hg => by rw [← hw5]; exact Below.heap_setCell _ _ _ _ (hgB g hg), OV4.2⟩
      have sz5 : w5.heap.size = w3.heap.size := by rw [← hw5]; simpa [World.setCell] using sz4
      have bel5 : Below R w w5 := by rw [← hw5]; exact (bel4 w R (by omega) hBel3.out).setCell (p := ⟨B + 3, 5, none⟩) (by simp; omega) _
      have Sw5 : (fun w' => w'.cell? ⟨B, 0, none⟩ = some (.pointer (some ⟨R, 0, none⟩)) ∧ w'.cell? ⟨B + 1, 0, none⟩ = some (.int .i64 (d : Nat))) w5 := ⟨(World.cell?_of_block (w := w3) (ot5 B (by omega) (by omega))).trans hS3.1, (World.cell?_of_block (w := w3) (ot5 (B + 1) (by omega) (by omega))).trans hS3.2⟩
      refine hK.out _ _ Sw5 (fun hHeld => ?_)
      clear hK K hw5 m0 m1 m2 m3 m4 m5 mf
      try simp only [Act.put, zA, zB, zC, zD, zE, zF]
      refine wpAnyH_done (by kernel_rfl) ?_ _
      go_wp2_with fail
      go_end0
      have hgg : ∀ k, k < w.heap.size → (Value.slice a5 us.length cap5).ownBlock ≠ some k → k ≠ g3 := fun k hk hne e => by
       rcases hAt.out with h9 | h9
       ·exact hne (h9.symm.trans (by rw [e]; rfl))
       ·have h8 : g3 = w1.heap.size := by simpa [Value.ownBlock] using h9
        have := kz.below.size
        omega
      have hr5 : Rd w5 R v s j b' := hRd3.out.keep fun k hk => ot5 k (by omega) (by omega)
      have hXj := hXI.out c j b' rfl
      have e00 : w.heap.size ≤ ((w.alloc (.cells #[.int .i64 0, .bool false, .int .i64 0, .string ⟨#[]⟩, .slice none 0 0, .slice none 0 0] 27)).drew).heap.size := by simp
      have hs35 := hsz3.out
      obtain ⟨kb5, jl5⟩ := HJ.out.more HELS.out hu e00 (by omega) (by omega) OV5 (fun g hg => by
        rcases hAt.out with h9 | h9
        ·exact .inl (h9.symm.trans hg)
        ·have h8 : g = w1.heap.size := by have := hg.symm.trans h9; simpa using this
         exact .inr ⟨by omega, by omega⟩
       ) hBox5 (fun k hk hkR hkB hne => (ot5 k (hgg k hk hne) hkB).trans (hG.out k hk hkR hne)) (fun k hk hlt => by
        have hk1 := hk.1
        have hk2 := hk.2
        refine (ot5 k (fun e => ?_) (by omega)).trans (hK1.out k hk hlt)
        rcases hAt.out with h9 | h9
        ·have := (World.ownsRow.lt HELS.out.own.1 g3 (h9.symm.trans rfl)).2
         omega
        ·have h8 : g3 = w1.heap.size := by simpa [Value.ownBlock] using h9
         omega
       ) hr5 (by omega) bel5
      exact ⟨kb5, rfl, jl5⟩
     ·go_simp
      obtain ⟨w4, hw4⟩ : ∃ w4, w3.setCell ⟨B + 3, 5, none⟩ (.slice (some ⟨g3, 0, none⟩) (us.length + 1) cap3) = w4 := ⟨_, rfl⟩
      rw [hw4]
      have ot4 : ∀ k, k ≠ B + 3 → w4.heap[k]? = w3.heap[k]? := fun k hk2 => by rw [← hw4]; exact Below.heap_setCell _ _ _ _ hk2
      have ot4' : ∀ k, k ≠ g3 → k ≠ B + 3 → w4.heap[k]? = w3.heap[k]? := fun k _ hk2 => ot4 k hk2
      have hbx4 : w4.heap[B + 3]? = some (.cells #[.int .i64 5, .bool false, .int .i64 0, .string ⟨#[]⟩, .slice none 0 0, (.slice (some ⟨g3, 0, none⟩) (us.length + 1) cap3)] 27 (0, 0)) := by rw [← hw4, bset HBX3.out]; rfl
      have OV4 : OwnV w4 (B + 4) (.slice (some ⟨g3, 0, none⟩) (us.length + 1) cap3) (us ++ [.agg #[.int .i64 0, .bool false, .int .i64 0, .string ⟨#[]⟩, .slice none 0 0, .slice none 0 0]]) := ⟨Fresh.own_keep OV3.out.1 fun g hg => ot4 g (hgB g hg), OV3.out.2⟩
      have sz4 : w4.heap.size = w3.heap.size := by rw [← hw4]; simp [World.setCell]
      have bel4 : Below R w w4 := by rw [← hw4]; exact hBel3.out.setCell (p := ⟨B + 3, 5, none⟩) (by simp; omega) _
      clear c0 c1 c2 c3 c4 c5 f0 f1 f2 f3 f4 f5 m0 m1 m2 m3 m4 m5 mf hw4
      obtain ⟨q0', q1', q2', q3', q4', q5', eq, c0, c1, c2, c3, c4, c5⟩ := ownV_six OV4 us.length (by simp)
      have fz := fun j => Copied.frozen_own OV4.1 j
      rw [Nat.zero_add] at c0 c1 c2 c3 c4 c5
      have f0 := fz (us.length * 6)
      have f1 := fz (us.length * 6 + 1)
      have f2 := fz (us.length * 6 + 2)
      have f3 := fz (us.length * 6 + 3)
      have f4 := fz (us.length * 6 + 4)
      have f5 := fz (us.length * 6 + 5)
      clear fz eq
      have Sw4 : (fun w' => w'.cell? ⟨B, 0, none⟩ = some (.pointer (some ⟨R, 0, none⟩)) ∧ w'.cell? ⟨B + 1, 0, none⟩ = some (.int .i64 (d : Nat))) w4 := ⟨(World.cell?_of_block (w := w3) (ot4' B (by omega) (by omega))).trans hS3.1, (World.cell?_of_block (w := w3) (ot4' (B + 1) (by omega) (by omega))).trans hS3.2⟩
      refine hK.out _ _ Sw4 (fun hHeld => ?_)
      clear hK K
      try simp only [Act.put, zA, zB, zC, zD, zE, zF]
      refine wpAnyH_ready (rs := [10]) (by kernel_rfl) (by simp) ?_
      refine AllReadyH.cons rfl (fun K hK => ?_) AllReadyH.nil
      go_simp
      obtain ⟨w5, hw5⟩ : ∃ w5, ((((((w4.setCell ⟨g3, us.length * 6, none⟩ (.int .i64 c.k)).setCell ⟨g3, us.length * 6 + 1, none⟩ (.bool c.b)).setCell ⟨g3, us.length * 6 + 2, none⟩ (.int .i64 c.i)).setCell ⟨g3, us.length * 6 + 3, none⟩ (.string c.s)).setCell ⟨g3, us.length * 6 + 4, none⟩ (.slice p1 y1 r1)).setCell ⟨g3, us.length * 6 + 5, none⟩ (.slice p2 y2 r2)) = w5 := ⟨_, rfl⟩
      rw [hw5]
      obtain ⟨OV5, oth5, sz5', bel5'⟩ := set_last OV4 hone hw5
      have ot5 : ∀ k, k ≠ g3 → k ≠ B + 3 → w5.heap[k]? = w3.heap[k]? := fun k hk hk2 => (oth5 k hk).trans (ot4 k hk2)
      have hBox5 := (oth5 (B + 3) gB).trans hbx4
      have sz5 : w5.heap.size = w3.heap.size := sz5'.trans sz4
      have bel5 : Below R w w5 := bel5' w R (by omega) bel4
      have Sw5 : (fun w' => w'.cell? ⟨B, 0, none⟩ = some (.pointer (some ⟨R, 0, none⟩)) ∧ w'.cell? ⟨B + 1, 0, none⟩ = some (.int .i64 (d : Nat))) w5 := ⟨(World.cell?_of_block (w := w3) (ot5 B (by omega) (by omega))).trans hS3.1, (World.cell?_of_block (w := w3) (ot5 (B + 1) (by omega) (by omega))).trans hS3.2⟩
      refine hK.out _ _ Sw5 (fun hHeld => ?_)
      clear hK K hw5 c0 c1 c2 c3 c4 c5 f0 f1 f2 f3 f4 f5
      try simp only [Act.put, zA, zB, zC, zD, zE, zF]
      refine wpAnyH_done (by kernel_rfl) ?_ _
      go_wp2_with fail
      go_end0
      have hgg : ∀ k, k < w.heap.size → (Value.slice a5 us.length cap5).ownBlock ≠ some k → k ≠ g3 := fun k hk hne e => by
       rcases hAt.out with h9 | h9
       ·exact hne (h9.symm.trans (by rw [e]; rfl))
       ·have h8 : g3 = w1.heap.size := by simpa [Value.ownBlock] using h9
        have := kz.below.size
        omega
      have hr5 : Rd w5 R v s j b' := hRd3.out.keep fun k hk => ot5 k (by omega) (by omega)
      have hXj := hXI.out c j b' rfl
      have e00 : w.heap.size ≤ ((w.alloc (.cells #[.int .i64 0, .bool false, .int .i64 0, .string ⟨#[]⟩, .slice none 0 0, .slice none 0 0] 27)).drew).heap.size := by simp
      have hs35 := hsz3.out
      obtain ⟨kb5, jl5⟩ := HJ.out.more HELS.out hu e00 (by omega) (by omega) OV5 (fun g hg => by
        rcases hAt.out with h9 | h9
        ·exact .inl (h9.symm.trans hg)
        ·have h8 : g = w1.heap.size := by have := hg.symm.trans h9; simpa using this
         exact .inr ⟨by omega, by omega⟩
       ) hBox5 (fun k hk hkR hkB hne => (ot5 k (hgg k hk hne) hkB).trans (hG.out k hk hkR hne)) (fun k hk hlt => by
        have hk1 := hk.1
        have hk2 := hk.2
        refine (ot5 k (fun e => ?_) (by omega)).trans (hK1.out k hk hlt)
        rcases hAt.out with h9 | h9
        ·have := (World.ownsRow.lt HELS.out.own.1 g3 (h9.symm.trans rfl)).2
         omega
        ·have h8 : g3 = w1.heap.size := by simpa [Value.ownBlock] using h9
         omega
       ) hr5 (by omega) bel5
      exact ⟨kb5, rfl, jl5⟩
  ·go_simp
   have cv := CV.out _ ((Below.refl _ w).drew)
   refine cv.mono ?_
   rintro e w1 ⟨k1, ⟨u, rfl, hu⟩, h1⟩
   obtain ⟨x0, x1, x2, x3, x4, x5, rfl, hone⟩ := hu.in.six
   obtain ⟨p1, y1, r1, p2, y2, r2, rfl, rfl, rfl, rfl, rfl, rfl⟩ := hu.in.kinds
   have kk := ((Kr.refl R w).drew).trans k1
   go_wp2_with fail
   refine hK.out _ _ ?_ (fun hHeld => ?_)
   ·exact (FA.out _ kk).1
   clear hK K cv
   try simp only [Act.put, zA, zB, zC, zD, zE, zF]
   refine wpAnyH_ready (rs := [1, 7]) (by kernel_rfl) (by simp) ?_
   refine AllReadyH.cons rfl (fun K hK => ?_) (AllReadyH.cons rfl (fun K hK => ?_) (AllReadyH.nil))
   ·have hl5 := (FA.out _ kk).2
    go_simp
    refine hK.out _ _ ?_ (fun hHeld => ?_)
    ·exact (FA.out _ kk).1
    clear hK K hl5
    try simp only [Act.put, zA, zB, zC, zD, zE, zF]
    refine wpAnyH_take (i := 6) (v := ?_) rfl (by kernel_rfl) (by kernel_rfl) (by kernel_rfl) (fun _ _ _ h => h) (Or.inl ⟨by rfl, ?_⟩) (by assumption) ?_
    rotate_left 1
    ·intro w hSw; (try dsimp only at hSw); go_simp; first | done | with_reducible rfl
    try simp only [Act.put, zA, zB, zC, zD, zE, zF]
    refine wpAnyH_ready (rs := [7]) (by kernel_rfl) (by simp) ?_
    refine AllReadyH.cons rfl (fun K hK => ?_) (AllReadyH.nil)
    ·go_simp
     refine hK.out _ _ ?_ (fun hHeld => ?_)
     ·exact (FA.out _ (kk.alloc (by have := HW.out; have := kk.below.size; omega) (.cells #[.int .i64 0, .bool false, .int .i64 0, .string ⟨#[]⟩, .slice none 0 0, .slice none 0 0] 27))).1
     clear hK K
     try simp only [Act.put, zA, zB, zC, zD, zE, zF]
     have hs1 := k1.below.size
     have hsw : w.heap.size ≤ w1.heap.size := hs1
     have kz : Kr R w (w1.alloc (.cells #[.int .i64 0, .bool false, .int .i64 0, .string ⟨#[]⟩, .slice none 0 0, .slice none 0 0] 27)) := kk.alloc (by have := HW.out; omega) _
     have hzc := new_cells w1 [.int .i64 0, .bool false, .int .i64 0, .string ⟨#[]⟩, .slice none 0 0, .slice none 0 0] 27
     have hown2 := Byts.own_kr HELS.out.own.1 kz (by omega : R < B + 4)
     obtain ⟨lv', w3, hrun, hown3, hgrow, -, hat⟩ := run_append_own_at (P := Tryz.prog) (w1.alloc (.cells #[.int .i64 0, .bool false, .int .i64 0, .string ⟨#[]⟩, .slice none 0 0, .slice none 0 0] 27)) (B + 4) 25 25 27 i0 (.agg #[.int .i64 0, .bool false, .int .i64 0, .string ⟨#[]⟩, .slice none 0 0, .slice none 0 0]) 6 88 Tryz.underlying25 hi0 hz0 hz1 hz2 rfl (by decide) _ _ _ hown2 ⟨w1.heap.size, 0, none⟩ 1 1 [.int .i64 0, .bool false, .int .i64 0, .string ⟨#[]⟩, .slice none 0 0, .slice none 0 0] rfl hzc (by decide) (by unfold maxLen; omega) (by omega) (by have := kz.below.size; omega)
     obtain ⟨g3, cap3, rfl⟩ : ∃ g3 cap3, lv' = .slice (some ⟨g3, 0, none⟩) (us.length + 1) cap3 := by
      rcases hown3.2 with ⟨_, e⟩ | ⟨g, cap, cur, e, _⟩
      ·omega
      ·exact ⟨g, cap, e⟩
     have OV3 : Hid (OwnV w3 (B + 4) (.slice (some ⟨g3, 0, none⟩) (us.length + 1) cap3) (us ++ [.agg #[.int .i64 0, .bool false, .int .i64 0, .string ⟨#[]⟩, .slice none 0 0, .slice none 0 0]])) := by
      refine ⟨?_, sixes_snoc HELS.out.own.2 ⟨_, _, _, _, _, _, rfl, by decide⟩⟩
      rw [flat_append, List.length_append]
      exact hown3
     have hg3 := World.ownsRow.lt hown3 g3 rfl
     have hkc : cap3 ≤ 9223372036854775807 ∧ us.length + 1 ≤ cap3 := by have := ownV_cap OV3.out; unfold maxLen at this; omega
     obtain ⟨hkc1, hkc2⟩ := hkc
     have hG : Hid (∀ k, k < w.heap.size → k ≠ R → (Value.slice a5 us.length cap5).ownBlock ≠ some k → w3.heap[k]? = w.heap[k]?) := fun k hk hkR hne => (hgrow.block k (by have := kz.below.size; omega) (fun e => hne e.symm)).trans (kz.other k hkR hk)
     have hsz3 : Hid ((w1.alloc (.cells #[.int .i64 0, .bool false, .int .i64 0, .string ⟨#[]⟩, .slice none 0 0, .slice none 0 0] 27)).heap.size ≤ w3.heap.size) := hgrow.size
     have hRd3 : Hid (Rd w3 R v s j b') := Byts.rd_grown (B := B + 4) (h1.below ((Below.refl _ w1).alloc (Nat.le_refl _) _)) (by omega) hgrow (fun k hk => (World.ownsRow.lt hown2 k hk).1)
     have hBel3 : Hid (Below R w w3) := kz.below.grown hgrow (by have := HW.out; have := kz.below.size; omega) (fun k hk => by have := (World.ownsRow.lt hown2 k hk).1; omega)
     have hAt : Hid ((Value.slice (some ⟨g3, 0, none⟩) (us.length + 1) cap3).ownBlock = (Value.slice a5 us.length cap5).ownBlock ∨ (Value.slice (some ⟨g3, 0, none⟩) (us.length + 1) cap3).ownBlock = some (w1.alloc (.cells #[.int .i64 0, .bool false, .int .i64 0, .string ⟨#[]⟩, .slice none 0 0, .slice none 0 0] 27)).heap.size) := hat
     have hK1 : Hid (Keep (Rg w.drew.heap.size w1.heap.size) w1 w3) := fun k hk hlt => by
      have hk1 := hk.1
      have e0 : w.drew.heap.size = w.heap.size := rfl
      rw [hgrow.block k (by have := hk.2; simp; omega) (fun e => by have := (World.ownsRow.lt HELS.out.own.1 k e.symm).2; omega)]
      exact Below.heap_alloc _ _ _ hlt
     have hS3 : (fun w' => w'.cell? ⟨B, 0, none⟩ = some (.pointer (some ⟨R, 0, none⟩)) ∧ w'.cell? ⟨B + 1, 0, none⟩ = some (.int .i64 (d : Nat))) w3 := by
      have e1 := hG.out B (by omega) (by omega) (fun e => by have := (World.ownsRow.lt HELS.out.own.1 B e).1; omega)
      have e2 := hG.out (B + 1) (by omega) (by omega) (fun e => by have := (World.ownsRow.lt HELS.out.own.1 (B + 1) e).1; omega)
      have s0 := (FA.out w (Kr.refl R w)).1
      exact ⟨(World.cell?_of_block (w := w) e1).trans s0.1, (World.cell?_of_block (w := w) e2).trans s0.2⟩
     have hbx3 : w3.heap[B + 3]? = some (.cells #[.int .i64 5, .bool false, .int .i64 0, .string ⟨#[]⟩, .slice none 0 0, .slice a5 us.length cap5] 27 (0, 0)) := (hG.out (B + 3) (by omega) (by omega) (fun e => by have := (World.ownsRow.lt HELS.out.own.1 (B + 3) e).1; omega)).trans HBOX.out
     have HBX3 : Hid (w3.heap[B + 3]? = some (.cells #[.int .i64 5, .bool false, .int .i64 0, .string ⟨#[]⟩, .slice none 0 0, .slice a5 us.length cap5] 27 (0, 0))) := hbx3
     clear hown2 hzc hgrow hat hown3 hHeld
     refine wpAnyH_ready (rs := [8]) (by kernel_rfl) (by simp) ?_
     refine AllReadyH.cons rfl (fun K hK => ?_) AllReadyH.nil
     refine op_append rfl (Operand.tmp 4) (Operand.tmp 10) 25 rfl rfl rfl hrun ?_
     refine hK.out _ _ hS3 (fun hHeld => ?_)
     clear hK K hrun
     try simp only [Act.put, zA, zB, zC, zD, zE, zF]
     have n1 : (0 : Int) ≤ (us.length : Int) := by omega
     have n2 : (us.length : Int) < (us.length : Int) + 1 := by omega
     refine wpAnyH_take (i := 9) (v := ?_) rfl (by kernel_rfl) (by kernel_rfl) (by kernel_rfl) (fun _ _ _ h => h) (Or.inl ⟨by rfl, ?_⟩) (by assumption) ?_
     rotate_left 1
     ·intro w hSw; (try dsimp only at hSw); go_simp; first | done | with_reducible rfl
     try simp only [Act.put, zA, zB, zC, zD, zE, zF]
     refine wpAnyH_take (i := 11) (v := ?_) rfl (by kernel_rfl) (by kernel_rfl) (by kernel_rfl) (fun _ _ _ h => h) (Or.inl ⟨by rfl, ?_⟩) (by assumption) ?_
     rotate_left 1
     ·intro w hSw; (try dsimp only at hSw); go_simp; first | done | with_reducible rfl
     try simp only [Act.put, zA, zB, zC, zD, zE, zF]
     obtain ⟨q0, q1, q2, q3, q4, q5, eq, c0, c1, c2, c3, c4, c5⟩ := ownV_six OV3.out us.length (by simp)
     have fz := fun j => Copied.frozen_own OV3.out.1 j
     rw [Nat.zero_add] at c0 c1 c2 c3 c4 c5
     obtain ⟨m0, m1, m2, m3, m4, m5⟩ := six_box hbx3
     have mf := frozen_box hbx3 5
     have f0 := fz (us.length * 6)
     have f1 := fz (us.length * 6 + 1)
     have f2 := fz (us.length * 6 + 2)
     have f3 := fz (us.length * 6 + 3)
     have f4 := fz (us.length * 6 + 4)
     have f5 := fz (us.length * 6 + 5)
     clear fz eq hbx3
     have gB : ¬ B + 3 = g3 := by omega
     have gB' : ¬ g3 = B + 3 := by omega
     have hgB : ∀ g, (Value.slice (some ⟨g3, 0, none⟩) (us.length + 1) cap3).ownBlock = some g → g ≠ B + 3 := fun g hg e => by
      have e3 : g3 = g := by simpa [Value.ownBlock] using hg
      omega
     refine wpAnyH_ready (rs := [10, 12]) (by kernel_rfl) (by simp) ?_
     refine AllReadyH.cons rfl (fun K hK => ?_) (AllReadyH.cons rfl (fun K hK => ?_) AllReadyH.nil)
     ·go_simp
      obtain ⟨w4, hw4⟩ : ∃ w4, ((((((w3.setCell ⟨g3, us.length * 6, none⟩ (.int .i64 c.k)).setCell ⟨g3, us.length * 6 + 1, none⟩ (.bool c.b)).setCell ⟨g3, us.length * 6 + 2, none⟩ (.int .i64 c.i)).setCell ⟨g3, us.length * 6 + 3, none⟩ (.string c.s)).setCell ⟨g3, us.length * 6 + 4, none⟩ (.slice p1 y1 r1)).setCell ⟨g3, us.length * 6 + 5, none⟩ (.slice p2 y2 r2)) = w4 := ⟨_, rfl⟩
      rw [hw4]
      obtain ⟨OV4, ot4, sz4, bel4⟩ := set_last OV3.out hone hw4
      have ot4' : ∀ k, k ≠ g3 → k ≠ B + 3 → w4.heap[k]? = w3.heap[k]? := fun k hk _ => ot4 k hk
      clear c0 c1 c2 c3 c4 c5 f0 f1 f2 f3 f4 f5 m0 m1 m2 m3 m4 m5 mf hw4
      have hbx4 := (ot4 (B + 3) gB).trans HBX3.out
      obtain ⟨m0, m1, m2, m3, m4, m5⟩ := six_box hbx4
      have mf := frozen_box hbx4 5
      have Sw4 : (fun w' => w'.cell? ⟨B, 0, none⟩ = some (.pointer (some ⟨R, 0, none⟩)) ∧ w'.cell? ⟨B + 1, 0, none⟩ = some (.int .i64 (d : Nat))) w4 := ⟨(World.cell?_of_block (w := w3) (ot4' B (by omega) (by omega))).trans hS3.1, (World.cell?_of_block (w := w3) (ot4' (B + 1) (by omega) (by omega))).trans hS3.2⟩
      refine hK.out _ _ Sw4 (fun hHeld => ?_)
      clear hK K
      try simp only [Act.put, zA, zB, zC, zD, zE, zF]
      refine wpAnyH_ready (rs := [12]) (by kernel_rfl) (by simp) ?_
      refine AllReadyH.cons rfl (fun K hK => ?_) AllReadyH.nil
      go_simp
      obtain ⟨w5, hw5⟩ : ∃ w5, w4.setCell ⟨B + 3, 5, none⟩ (.slice (some ⟨g3, 0, none⟩) (us.length + 1) cap3) = w5 := ⟨_, rfl⟩
      rw [hw5]
      have ot5 : ∀ k, k ≠ g3 → k ≠ B + 3 → w5.heap[k]? = w3.heap[k]? := fun k hk hk2 => by rw [← hw5, Below.heap_setCell _ _ _ _ hk2]; exact ot4 k hk
      have hBox5 : w5.heap[B + 3]? = some (.cells #[.int .i64 5, .bool false, .int .i64 0, .string ⟨#[]⟩, .slice none 0 0, (.slice (some ⟨g3, 0, none⟩) (us.length + 1) cap3)] 27 (0, 0)) := by rw [← hw5, bset hbx4]; rfl
      have OV5 : OwnV w5 (B + 4) (.slice (some ⟨g3, 0, none⟩) (us.length + 1) cap3) (us ++ [.agg #[.int .i64 c.k, .bool c.b, .int .i64 c.i, .string c.s, .slice p1 y1 r1, .slice p2 y2 r2]]) := ⟨Fresh.own_keep OV4.1 fun g hg => by rw [← hw5]; exact Below.heap_setCell _ _ _ _ (hgB g hg), OV4.2⟩
      have sz5 : w5.heap.size = w3.heap.size := by rw [← hw5]; simpa [World.setCell] using sz4
      have bel5 : Below R w w5 := by rw [← hw5]; exact (bel4 w R (by omega) hBel3.out).setCell (p := ⟨B + 3, 5, none⟩) (by simp; omega) _
      have Sw5 : (fun w' => w'.cell? ⟨B, 0, none⟩ = some (.pointer (some ⟨R, 0, none⟩)) ∧ w'.cell? ⟨B + 1, 0, none⟩ = some (.int .i64 (d : Nat))) w5 := ⟨(World.cell?_of_block (w := w3) (ot5 B (by omega) (by omega))).trans hS3.1, (World.cell?_of_block (w := w3) (ot5 (B + 1) (by omega) (by omega))).trans hS3.2⟩
      refine hK.out _ _ Sw5 (fun hHeld => ?_)
      clear hK K hw5 m0 m1 m2 m3 m4 m5 mf
      try simp only [Act.put, zA, zB, zC, zD, zE, zF]
      refine wpAnyH_done (by kernel_rfl) ?_ _
      go_wp2_with fail
      go_end0
      have hgg : ∀ k, k < w.heap.size → (Value.slice a5 us.length cap5).ownBlock ≠ some k → k ≠ g3 := fun k hk hne e => by
       rcases hAt.out with h9 | h9
       ·exact hne (h9.symm.trans (by rw [e]; rfl))
       ·have h8 : g3 = (w1.alloc (.cells #[.int .i64 0, .bool false, .int .i64 0, .string ⟨#[]⟩, .slice none 0 0, .slice none 0 0] 27)).heap.size := by simpa [Value.ownBlock] using h9
        have := kz.below.size
        omega
      have hr5 : Rd w5 R v s j b' := hRd3.out.keep fun k hk => ot5 k (by omega) (by omega)
      have hXj := hXI.out c j b' rfl
      have e00 : w.heap.size ≤ w.drew.heap.size := Nat.le_refl _
      have hs35 := hsz3.out
      rw [World.size_alloc] at hs35
      obtain ⟨kb5, jl5⟩ := HJ.out.more HELS.out hu e00 (by omega) (by omega) OV5 (fun g hg => by
        rcases hAt.out with h9 | h9
        ·exact .inl (h9.symm.trans hg)
        ·have h8 : g = (w1.alloc (.cells #[.int .i64 0, .bool false, .int .i64 0, .string ⟨#[]⟩, .slice none 0 0, .slice none 0 0] 27)).heap.size := by have := hg.symm.trans h9; simpa using this
         rw [World.size_alloc] at h8
         exact .inr ⟨by omega, by omega⟩
       ) hBox5 (fun k hk hkR hkB hne => (ot5 k (hgg k hk hne) hkB).trans (hG.out k hk hkR hne)) (fun k hk hlt => by
        have hk1 := hk.1
        have hk2 := hk.2
        refine (ot5 k (fun e => ?_) (by omega)).trans (hK1.out k hk hlt)
        rcases hAt.out with h9 | h9
        ·have := (World.ownsRow.lt HELS.out.own.1 g3 (h9.symm.trans rfl)).2
         omega
        ·have h8 : g3 = (w1.alloc (.cells #[.int .i64 0, .bool false, .int .i64 0, .string ⟨#[]⟩, .slice none 0 0, .slice none 0 0] 27)).heap.size := by simpa [Value.ownBlock] using h9
         rw [World.size_alloc] at h8
         omega
       ) hr5 (by omega) bel5
      exact ⟨kb5, rfl, jl5⟩
     ·go_simp
      obtain ⟨w4, hw4⟩ : ∃ w4, w3.setCell ⟨B + 3, 5, none⟩ (.slice (some ⟨g3, 0, none⟩) (us.length + 1) cap3) = w4 := ⟨_, rfl⟩
      rw [hw4]
      have ot4 : ∀ k, k ≠ B + 3 → w4.heap[k]? = w3.heap[k]? := fun k hk2 => by rw [← hw4]; exact Below.heap_setCell _ _ _ _ hk2
      have ot4' : ∀ k, k ≠ g3 → k ≠ B + 3 → w4.heap[k]? = w3.heap[k]? := fun k _ hk2 => ot4 k hk2
      have hbx4 : w4.heap[B + 3]? = some (.cells #[.int .i64 5, .bool false, .int .i64 0, .string ⟨#[]⟩, .slice none 0 0, (.slice (some ⟨g3, 0, none⟩) (us.length + 1) cap3)] 27 (0, 0)) := by rw [← hw4, bset HBX3.out]; rfl
      have OV4 : OwnV w4 (B + 4) (.slice (some ⟨g3, 0, none⟩) (us.length + 1) cap3) (us ++ [.agg #[.int .i64 0, .bool false, .int .i64 0, .string ⟨#[]⟩, .slice none 0 0, .slice none 0 0]]) := ⟨Fresh.own_keep OV3.out.1 fun g hg => ot4 g (hgB g hg), OV3.out.2⟩
      have sz4 : w4.heap.size = w3.heap.size := by rw [← hw4]; simp [World.setCell]
      have bel4 : Below R w w4 := by rw [← hw4]; exact hBel3.out.setCell (p := ⟨B + 3, 5, none⟩) (by simp; omega) _
      clear c0 c1 c2 c3 c4 c5 f0 f1 f2 f3 f4 f5 m0 m1 m2 m3 m4 m5 mf hw4
      obtain ⟨q0', q1', q2', q3', q4', q5', eq, c0, c1, c2, c3, c4, c5⟩ := ownV_six OV4 us.length (by simp)
      have fz := fun j => Copied.frozen_own OV4.1 j
      rw [Nat.zero_add] at c0 c1 c2 c3 c4 c5
      have f0 := fz (us.length * 6)
      have f1 := fz (us.length * 6 + 1)
      have f2 := fz (us.length * 6 + 2)
      have f3 := fz (us.length * 6 + 3)
      have f4 := fz (us.length * 6 + 4)
      have f5 := fz (us.length * 6 + 5)
      clear fz eq
      have Sw4 : (fun w' => w'.cell? ⟨B, 0, none⟩ = some (.pointer (some ⟨R, 0, none⟩)) ∧ w'.cell? ⟨B + 1, 0, none⟩ = some (.int .i64 (d : Nat))) w4 := ⟨(World.cell?_of_block (w := w3) (ot4' B (by omega) (by omega))).trans hS3.1, (World.cell?_of_block (w := w3) (ot4' (B + 1) (by omega) (by omega))).trans hS3.2⟩
      refine hK.out _ _ Sw4 (fun hHeld => ?_)
      clear hK K
      try simp only [Act.put, zA, zB, zC, zD, zE, zF]
      refine wpAnyH_ready (rs := [10]) (by kernel_rfl) (by simp) ?_
      refine AllReadyH.cons rfl (fun K hK => ?_) AllReadyH.nil
      go_simp
      obtain ⟨w5, hw5⟩ : ∃ w5, ((((((w4.setCell ⟨g3, us.length * 6, none⟩ (.int .i64 c.k)).setCell ⟨g3, us.length * 6 + 1, none⟩ (.bool c.b)).setCell ⟨g3, us.length * 6 + 2, none⟩ (.int .i64 c.i)).setCell ⟨g3, us.length * 6 + 3, none⟩ (.string c.s)).setCell ⟨g3, us.length * 6 + 4, none⟩ (.slice p1 y1 r1)).setCell ⟨g3, us.length * 6 + 5, none⟩ (.slice p2 y2 r2)) = w5 := ⟨_, rfl⟩
      rw [hw5]
      obtain ⟨OV5, oth5, sz5', bel5'⟩ := set_last OV4 hone hw5
      have ot5 : ∀ k, k ≠ g3 → k ≠ B + 3 → w5.heap[k]? = w3.heap[k]? := fun k hk hk2 => (oth5 k hk).trans (ot4 k hk2)
      have hBox5 := (oth5 (B + 3) gB).trans hbx4
      have sz5 : w5.heap.size = w3.heap.size := sz5'.trans sz4
      have bel5 : Below R w w5 := bel5' w R (by omega) bel4
      have Sw5 : (fun w' => w'.cell? ⟨B, 0, none⟩ = some (.pointer (some ⟨R, 0, none⟩)) ∧ w'.cell? ⟨B + 1, 0, none⟩ = some (.int .i64 (d : Nat))) w5 := ⟨(World.cell?_of_block (w := w3) (ot5 B (by omega) (by omega))).trans hS3.1, (World.cell?_of_block (w := w3) (ot5 (B + 1) (by omega) (by omega))).trans hS3.2⟩
      refine hK.out _ _ Sw5 (fun hHeld => ?_)
      clear hK K hw5 c0 c1 c2 c3 c4 c5 f0 f1 f2 f3 f4 f5
      try simp only [Act.put, zA, zB, zC, zD, zE, zF]
      refine wpAnyH_done (by kernel_rfl) ?_ _
      go_wp2_with fail
      go_end0
      have hgg : ∀ k, k < w.heap.size → (Value.slice a5 us.length cap5).ownBlock ≠ some k → k ≠ g3 := fun k hk hne e => by
       rcases hAt.out with h9 | h9
       ·exact hne (h9.symm.trans (by rw [e]; rfl))
       ·have h8 : g3 = (w1.alloc (.cells #[.int .i64 0, .bool false, .int .i64 0, .string ⟨#[]⟩, .slice none 0 0, .slice none 0 0] 27)).heap.size := by simpa [Value.ownBlock] using h9
        have := kz.below.size
        omega
      have hr5 : Rd w5 R v s j b' := hRd3.out.keep fun k hk => ot5 k (by omega) (by omega)
      have hXj := hXI.out c j b' rfl
      have e00 : w.heap.size ≤ w.drew.heap.size := Nat.le_refl _
      have hs35 := hsz3.out
      rw [World.size_alloc] at hs35
      obtain ⟨kb5, jl5⟩ := HJ.out.more HELS.out hu e00 (by omega) (by omega) OV5 (fun g hg => by
        rcases hAt.out with h9 | h9
        ·exact .inl (h9.symm.trans hg)
        ·have h8 : g = (w1.alloc (.cells #[.int .i64 0, .bool false, .int .i64 0, .string ⟨#[]⟩, .slice none 0 0, .slice none 0 0] 27)).heap.size := by have := hg.symm.trans h9; simpa using this
         rw [World.size_alloc] at h8
         exact .inr ⟨by omega, by omega⟩
       ) hBox5 (fun k hk hkR hkB hne => (ot5 k (hgg k hk hne) hkB).trans (hG.out k hk hkR hne)) (fun k hk hlt => by
        have hk1 := hk.1
        have hk2 := hk.2
        refine (ot5 k (fun e => ?_) (by omega)).trans (hK1.out k hk hlt)
        rcases hAt.out with h9 | h9
        ·have := (World.ownsRow.lt HELS.out.own.1 g3 (h9.symm.trans rfl)).2
         omega
        ·have h8 : g3 = (w1.alloc (.cells #[.int .i64 0, .bool false, .int .i64 0, .string ⟨#[]⟩, .slice none 0 0, .slice none 0 0] 27)).heap.size := by simpa [Value.ownBlock] using h9
         rw [World.size_alloc] at h8
         omega
       ) hr5 (by omega) bel5
      exact ⟨kb5, rfl, jl5⟩
   ·go_simp
    refine hK.out _ _ ?_ (fun hHeld => ?_)
    ·exact (FA.out _ (kk.alloc (by have := HW.out; have := kk.below.size; omega) (.cells #[.int .i64 0, .bool false, .int .i64 0, .string ⟨#[]⟩, .slice none 0 0, .slice none 0 0] 27))).1
    clear hK K
    try simp only [Act.put, zA, zB, zC, zD, zE, zF]
    refine wpAnyH_ready (rs := [1]) (by kernel_rfl) (by simp) ?_
    refine AllReadyH.cons rfl (fun K hK => ?_) (AllReadyH.nil)
    ·have hl5 := (FA.out _ (kk.alloc (by have := HW.out; have := kk.below.size; omega) (.cells #[.int .i64 0, .bool false, .int .i64 0, .string ⟨#[]⟩, .slice none 0 0, .slice none 0 0] 27))).2
     go_simp
     refine hK.out _ _ ?_ (fun hHeld => ?_)
     ·exact (FA.out _ (kk.alloc (by have := HW.out; have := kk.below.size; omega) (.cells #[.int .i64 0, .bool false, .int .i64 0, .string ⟨#[]⟩, .slice none 0 0, .slice none 0 0] 27))).1
     clear hK K hl5
     try simp only [Act.put, zA, zB, zC, zD, zE, zF]
     refine wpAnyH_take (i := 6) (v := ?_) rfl (by kernel_rfl) (by kernel_rfl) (by kernel_rfl) (fun _ _ _ h => h) (Or.inl ⟨by rfl, ?_⟩) (by assumption) ?_
     rotate_left 1
     ·intro w hSw; (try dsimp only at hSw); go_simp; first | done | with_reducible rfl
     try simp only [Act.put, zA, zB, zC, zD, zE, zF]
     have hs1 := k1.below.size
     have hsw : w.heap.size ≤ w1.heap.size := hs1
     have kz : Kr R w (w1.alloc (.cells #[.int .i64 0, .bool false, .int .i64 0, .string ⟨#[]⟩, .slice none 0 0, .slice none 0 0] 27)) := kk.alloc (by have := HW.out; omega) _
     have hzc := new_cells w1 [.int .i64 0, .bool false, .int .i64 0, .string ⟨#[]⟩, .slice none 0 0, .slice none 0 0] 27
     have hown2 := Byts.own_kr HELS.out.own.1 kz (by omega : R < B + 4)
     obtain ⟨lv', w3, hrun, hown3, hgrow, -, hat⟩ := run_append_own_at (P := Tryz.prog) (w1.alloc (.cells #[.int .i64 0, .bool false, .int .i64 0, .string ⟨#[]⟩, .slice none 0 0, .slice none 0 0] 27)) (B + 4) 25 25 27 i0 (.agg #[.int .i64 0, .bool false, .int .i64 0, .string ⟨#[]⟩, .slice none 0 0, .slice none 0 0]) 6 88 Tryz.underlying25 hi0 hz0 hz1 hz2 rfl (by decide) _ _ _ hown2 ⟨w1.heap.size, 0, none⟩ 1 1 [.int .i64 0, .bool false, .int .i64 0, .string ⟨#[]⟩, .slice none 0 0, .slice none 0 0] rfl hzc (by decide) (by unfold maxLen; omega) (by omega) (by have := kz.below.size; omega)
     obtain ⟨g3, cap3, rfl⟩ : ∃ g3 cap3, lv' = .slice (some ⟨g3, 0, none⟩) (us.length + 1) cap3 := by
      rcases hown3.2 with ⟨_, e⟩ | ⟨g, cap, cur, e, _⟩
      ·omega
      ·exact ⟨g, cap, e⟩
     have OV3 : Hid (OwnV w3 (B + 4) (.slice (some ⟨g3, 0, none⟩) (us.length + 1) cap3) (us ++ [.agg #[.int .i64 0, .bool false, .int .i64 0, .string ⟨#[]⟩, .slice none 0 0, .slice none 0 0]])) := by
      refine ⟨?_, sixes_snoc HELS.out.own.2 ⟨_, _, _, _, _, _, rfl, by decide⟩⟩
      rw [flat_append, List.length_append]
      exact hown3
     have hg3 := World.ownsRow.lt hown3 g3 rfl
     have hkc : cap3 ≤ 9223372036854775807 ∧ us.length + 1 ≤ cap3 := by have := ownV_cap OV3.out; unfold maxLen at this; omega
     obtain ⟨hkc1, hkc2⟩ := hkc
     have hG : Hid (∀ k, k < w.heap.size → k ≠ R → (Value.slice a5 us.length cap5).ownBlock ≠ some k → w3.heap[k]? = w.heap[k]?) := fun k hk hkR hne => (hgrow.block k (by have := kz.below.size; omega) (fun e => hne e.symm)).trans (kz.other k hkR hk)
     have hsz3 : Hid ((w1.alloc (.cells #[.int .i64 0, .bool false, .int .i64 0, .string ⟨#[]⟩, .slice none 0 0, .slice none 0 0] 27)).heap.size ≤ w3.heap.size) := hgrow.size
     have hRd3 : Hid (Rd w3 R v s j b') := Byts.rd_grown (B := B + 4) (h1.below ((Below.refl _ w1).alloc (Nat.le_refl _) _)) (by omega) hgrow (fun k hk => (World.ownsRow.lt hown2 k hk).1)
     have hBel3 : Hid (Below R w w3) := kz.below.grown hgrow (by have := HW.out; have := kz.below.size; omega) (fun k hk => by have := (World.ownsRow.lt hown2 k hk).1; omega)
     have hAt : Hid ((Value.slice (some ⟨g3, 0, none⟩) (us.length + 1) cap3).ownBlock = (Value.slice a5 us.length cap5).ownBlock ∨ (Value.slice (some ⟨g3, 0, none⟩) (us.length + 1) cap3).ownBlock = some (w1.alloc (.cells #[.int .i64 0, .bool false, .int .i64 0, .string ⟨#[]⟩, .slice none 0 0, .slice none 0 0] 27)).heap.size) := hat
     have hK1 : Hid (Keep (Rg w.drew.heap.size w1.heap.size) w1 w3) := fun k hk hlt => by
      have hk1 := hk.1
      have e0 : w.drew.heap.size = w.heap.size := rfl
      rw [hgrow.block k (by have := hk.2; simp; omega) (fun e => by have := (World.ownsRow.lt HELS.out.own.1 k e.symm).2; omega)]
      exact Below.heap_alloc _ _ _ hlt
     have hS3 : (fun w' => w'.cell? ⟨B, 0, none⟩ = some (.pointer (some ⟨R, 0, none⟩)) ∧ w'.cell? ⟨B + 1, 0, none⟩ = some (.int .i64 (d : Nat))) w3 := by
      have e1 := hG.out B (by omega) (by omega) (fun e => by have := (World.ownsRow.lt HELS.out.own.1 B e).1; omega)
      have e2 := hG.out (B + 1) (by omega) (by omega) (fun e => by have := (World.ownsRow.lt HELS.out.own.1 (B + 1) e).1; omega)
      have s0 := (FA.out w (Kr.refl R w)).1
      exact ⟨(World.cell?_of_block (w := w) e1).trans s0.1, (World.cell?_of_block (w := w) e2).trans s0.2⟩
     have hbx3 : w3.heap[B + 3]? = some (.cells #[.int .i64 5, .bool false, .int .i64 0, .string ⟨#[]⟩, .slice none 0 0, .slice a5 us.length cap5] 27 (0, 0)) := (hG.out (B + 3) (by omega) (by omega) (fun e => by have := (World.ownsRow.lt HELS.out.own.1 (B + 3) e).1; omega)).trans HBOX.out
     have HBX3 : Hid (w3.heap[B + 3]? = some (.cells #[.int .i64 5, .bool false, .int .i64 0, .string ⟨#[]⟩, .slice none 0 0, .slice a5 us.length cap5] 27 (0, 0))) := hbx3
     clear hown2 hzc hgrow hat hown3 hHeld
     refine wpAnyH_ready (rs := [8]) (by kernel_rfl) (by simp) ?_
     refine AllReadyH.cons rfl (fun K hK => ?_) AllReadyH.nil
     refine op_append rfl (Operand.tmp 4) (Operand.tmp 10) 25 rfl rfl rfl hrun ?_
     refine hK.out _ _ hS3 (fun hHeld => ?_)
     clear hK K hrun
     try simp only [Act.put, zA, zB, zC, zD, zE, zF]
     have n1 : (0 : Int) ≤ (us.length : Int) := by omega
     have n2 : (us.length : Int) < (us.length : Int) + 1 := by omega
     refine wpAnyH_take (i := 9) (v := ?_) rfl (by kernel_rfl) (by kernel_rfl) (by kernel_rfl) (fun _ _ _ h => h) (Or.inl ⟨by rfl, ?_⟩) (by assumption) ?_
     rotate_left 1
     ·intro w hSw; (try dsimp only at hSw); go_simp; first | done | with_reducible rfl
     try simp only [Act.put, zA, zB, zC, zD, zE, zF]
     refine wpAnyH_take (i := 11) (v := ?_) rfl (by kernel_rfl) (by kernel_rfl) (by kernel_rfl) (fun _ _ _ h => h) (Or.inl ⟨by rfl, ?_⟩) (by assumption) ?_
     rotate_left 1
     ·intro w hSw; (try dsimp only at hSw); go_simp; first | done | with_reducible rfl
     try simp only [Act.put, zA, zB, zC, zD, zE, zF]
     obtain ⟨q0, q1, q2, q3, q4, q5, eq, c0, c1, c2, c3, c4, c5⟩ := ownV_six OV3.out us.length (by simp)
     have fz := fun j => Copied.frozen_own OV3.out.1 j
     rw [Nat.zero_add] at c0 c1 c2 c3 c4 c5
     obtain ⟨m0, m1, m2, m3, m4, m5⟩ := six_box hbx3
     have mf := frozen_box hbx3 5
     have f0 := fz (us.length * 6)
     have f1 := fz (us.length * 6 + 1)
     have f2 := fz (us.length * 6 + 2)
     have f3 := fz (us.length * 6 + 3)
     have f4 := fz (us.length * 6 + 4)
     have f5 := fz (us.length * 6 + 5)
     clear fz eq hbx3
     have gB : ¬ B + 3 = g3 := by omega
     have gB' : ¬ g3 = B + 3 := by omega
     have hgB : ∀ g, (Value.slice (some ⟨g3, 0, none⟩) (us.length + 1) cap3).ownBlock = some g → g ≠ B + 3 := fun g hg e => by
      have e3 : g3 = g := by simpa [Value.ownBlock] using hg
      omega
     refine wpAnyH_ready (rs := [10, 12]) (by kernel_rfl) (by simp) ?_
     refine AllReadyH.cons rfl (fun K hK => ?_) (AllReadyH.cons rfl (fun K hK => ?_) AllReadyH.nil)
     ·go_simp
      obtain ⟨w4, hw4⟩ : ∃ w4, ((((((w3.setCell ⟨g3, us.length * 6, none⟩ (.int .i64 c.k)).setCell ⟨g3, us.length * 6 + 1, none⟩ (.bool c.b)).setCell ⟨g3, us.length * 6 + 2, none⟩ (.int .i64 c.i)).setCell ⟨g3, us.length * 6 + 3, none⟩ (.string c.s)).setCell ⟨g3, us.length * 6 + 4, none⟩ (.slice p1 y1 r1)).setCell ⟨g3, us.length * 6 + 5, none⟩ (.slice p2 y2 r2)) = w4 := ⟨_, rfl⟩
      rw [hw4]
      obtain ⟨OV4, ot4, sz4, bel4⟩ := set_last OV3.out hone hw4
      have ot4' : ∀ k, k ≠ g3 → k ≠ B + 3 → w4.heap[k]? = w3.heap[k]? := fun k hk _ => ot4 k hk
      clear c0 c1 c2 c3 c4 c5 f0 f1 f2 f3 f4 f5 m0 m1 m2 m3 m4 m5 mf hw4
      have hbx4 := (ot4 (B + 3) gB).trans HBX3.out
      obtain ⟨m0, m1, m2, m3, m4, m5⟩ := six_box hbx4
      have mf := frozen_box hbx4 5
      have Sw4 : (fun w' => w'.cell? ⟨B, 0, none⟩ = some (.pointer (some ⟨R, 0, none⟩)) ∧ w'.cell? ⟨B + 1, 0, none⟩ = some (.int .i64 (d : Nat))) w4 := ⟨(World.cell?_of_block (w := w3) (ot4' B (by omega) (by omega))).trans hS3.1, (World.cell?_of_block (w := w3) (ot4' (B + 1) (by omega) (by omega))).trans hS3.2⟩
      refine hK.out _ _ Sw4 (fun hHeld => ?_)
      clear hK K
      try simp only [Act.put, zA, zB, zC, zD, zE, zF]
      refine wpAnyH_ready (rs := [12]) (by kernel_rfl) (by simp) ?_
      refine AllReadyH.cons rfl (fun K hK => ?_) AllReadyH.nil
      go_simp
      obtain ⟨w5, hw5⟩ : ∃ w5, w4.setCell ⟨B + 3, 5, none⟩ (.slice (some ⟨g3, 0, none⟩) (us.length + 1) cap3) = w5 := ⟨_, rfl⟩
      rw [hw5]
      have ot5 : ∀ k, k ≠ g3 → k ≠ B + 3 → w5.heap[k]? = w3.heap[k]? := fun k hk hk2 => by rw [← hw5, Below.heap_setCell _ _ _ _ hk2]; exact ot4 k hk
      have hBox5 : w5.heap[B + 3]? = some (.cells #[.int .i64 5, .bool false, .int .i64 0, .string ⟨#[]⟩, .slice none 0 0, (.slice (some ⟨g3, 0, none⟩) (us.length + 1) cap3)] 27 (0, 0)) := by rw [← hw5, bset hbx4]; rfl
      have OV5 : OwnV w5 (B + 4) (.slice (some ⟨g3, 0, none⟩) (us.length + 1) cap3) (us ++ [.agg #[.int .i64 c.k, .bool c.b, .int .i64 c.i, .string c.s, .slice p1 y1 r1, .slice p2 y2 r2]]) := ⟨Fresh.own_keep OV4.1 fun g hg => by rw [← hw5]; exact Below.heap_setCell _ _ _ _ (hgB g hg), OV4.2⟩
      have sz5 : w5.heap.size = w3.heap.size := by rw [← hw5]; simpa [World.setCell] using sz4
      have bel5 : Below R w w5 := by rw [← hw5]; exact (bel4 w R (by omega) hBel3.out).setCell (p := ⟨B + 3, 5, none⟩) (by simp; omega) _
      have Sw5 : (fun w' => w'.cell? ⟨B, 0, none⟩ = some (.pointer (some ⟨R, 0, none⟩)) ∧ w'.cell? ⟨B + 1, 0, none⟩ = some (.int .i64 (d : Nat))) w5 := ⟨(World.cell?_of_block (w := w3) (ot5 B (by omega) (by omega))).trans hS3.1, (World.cell?_of_block (w := w3) (ot5 (B + 1) (by omega) (by omega))).trans hS3.2⟩
      refine hK.out _ _ Sw5 (fun hHeld => ?_)
      clear hK K hw5 m0 m1 m2 m3 m4 m5 mf
      try simp only [Act.put, zA, zB, zC, zD, zE, zF]
      refine wpAnyH_done (by kernel_rfl) ?_ _
      go_wp2_with fail
      go_end0
      have hgg : ∀ k, k < w.heap.size → (Value.slice a5 us.length cap5).ownBlock ≠ some k → k ≠ g3 := fun k hk hne e => by
       rcases hAt.out with h9 | h9
       ·exact hne (h9.symm.trans (by rw [e]; rfl))
       ·have h8 : g3 = (w1.alloc (.cells #[.int .i64 0, .bool false, .int .i64 0, .string ⟨#[]⟩, .slice none 0 0, .slice none 0 0] 27)).heap.size := by simpa [Value.ownBlock] using h9
        have := kz.below.size
        omega
      have hr5 : Rd w5 R v s j b' := hRd3.out.keep fun k hk => ot5 k (by omega) (by omega)
      have hXj := hXI.out c j b' rfl
      have e00 : w.heap.size ≤ w.drew.heap.size := Nat.le_refl _
      have hs35 := hsz3.out
      rw [World.size_alloc] at hs35
      obtain ⟨kb5, jl5⟩ := HJ.out.more HELS.out hu e00 (by omega) (by omega) OV5 (fun g hg => by
        rcases hAt.out with h9 | h9
        ·exact .inl (h9.symm.trans hg)
        ·have h8 : g = (w1.alloc (.cells #[.int .i64 0, .bool false, .int .i64 0, .string ⟨#[]⟩, .slice none 0 0, .slice none 0 0] 27)).heap.size := by have := hg.symm.trans h9; simpa using this
         rw [World.size_alloc] at h8
         exact .inr ⟨by omega, by omega⟩
       ) hBox5 (fun k hk hkR hkB hne => (ot5 k (hgg k hk hne) hkB).trans (hG.out k hk hkR hne)) (fun k hk hlt => by
        have hk1 := hk.1
        have hk2 := hk.2
        refine (ot5 k (fun e => ?_) (by omega)).trans (hK1.out k hk hlt)
        rcases hAt.out with h9 | h9
        ·have := (World.ownsRow.lt HELS.out.own.1 g3 (h9.symm.trans rfl)).2
         omega
        ·have h8 : g3 = (w1.alloc (.cells #[.int .i64 0, .bool false, .int .i64 0, .string ⟨#[]⟩, .slice none 0 0, .slice none 0 0] 27)).heap.size := by simpa [Value.ownBlock] using h9
         rw [World.size_alloc] at h8
         omega
       ) hr5 (by omega) bel5
      exact ⟨kb5, rfl, jl5⟩
     ·go_simp
      obtain ⟨w4, hw4⟩ : ∃ w4, w3.setCell ⟨B + 3, 5, none⟩ (.slice (some ⟨g3, 0, none⟩) (us.length + 1) cap3) = w4 := ⟨_, rfl⟩
      rw [hw4]
      have ot4 : ∀ k, k ≠ B + 3 → w4.heap[k]? = w3.heap[k]? := fun k hk2 => by rw [← hw4]; exact Below.heap_setCell _ _ _ _ hk2
      have ot4' : ∀ k, k ≠ g3 → k ≠ B + 3 → w4.heap[k]? = w3.heap[k]? := fun k _ hk2 => ot4 k hk2
      have hbx4 : w4.heap[B + 3]? = some (.cells #[.int .i64 5, .bool false, .int .i64 0, .string ⟨#[]⟩, .slice none 0 0, (.slice (some ⟨g3, 0, none⟩) (us.length + 1) cap3)] 27 (0, 0)) := by rw [← hw4, bset HBX3.out]; rfl
      have OV4 : OwnV w4 (B + 4) (.slice (some ⟨g3, 0, none⟩) (us.length + 1) cap3) (us ++ [.agg #[.int .i64 0, .bool false, .int .i64 0, .string ⟨#[]⟩, .slice none 0 0, .slice none 0 0]]) := ⟨Fresh.own_keep OV3.out.1 fun g hg => ot4 g (hgB g hg), OV3.out.2⟩
      have sz4 : w4.heap.size = w3.heap.size := by rw [← hw4]; simp [World.setCell]
      have bel4 : Below R w w4 := by rw [← hw4]; exact hBel3.out.setCell (p := ⟨B + 3, 5, none⟩) (by simp; omega) _
      clear c0 c1 c2 c3 c4 c5 f0 f1 f2 f3 f4 f5 m0 m1 m2 m3 m4 m5 mf hw4
      obtain ⟨q0', q1', q2', q3', q4', q5', eq, c0, c1, c2, c3, c4, c5⟩ := ownV_six OV4 us.length (by simp)
      have fz := fun j => Copied.frozen_own OV4.1 j
      rw [Nat.zero_add] at c0 c1 c2 c3 c4 c5
      have f0 := fz (us.length * 6)
      have f1 := fz (us.length * 6 + 1)
      have f2 := fz (us.length * 6 + 2)
      have f3 := fz (us.length * 6 + 3)
      have f4 := fz (us.length * 6 + 4)
      have f5 := fz (us.length * 6 + 5)
      clear fz eq
      have Sw4 : (fun w' => w'.cell? ⟨B, 0, none⟩ = some (.pointer (some ⟨R, 0, none⟩)) ∧ w'.cell? ⟨B + 1, 0, none⟩ = some (.int .i64 (d : Nat))) w4 := ⟨(World.cell?_of_block (w := w3) (ot4' B (by omega) (by omega))).trans hS3.1, (World.cell?_of_block (w := w3) (ot4' (B + 1) (by omega) (by omega))).trans hS3.2⟩
      refine hK.out _ _ Sw4 (fun hHeld => ?_)
      clear hK K
      try simp only [Act.put, zA, zB, zC, zD, zE, zF]
      refine wpAnyH_ready (rs := [10]) (by kernel_rfl) (by simp) ?_
      refine AllReadyH.cons rfl (fun K hK => ?_) AllReadyH.nil
      go_simp
      obtain ⟨w5, hw5⟩ : ∃ w5, ((((((w4.setCell ⟨g3, us.length * 6, none⟩ (.int .i64 c.k)).setCell ⟨g3, us.length * 6 + 1, none⟩ (.bool c.b)).setCell ⟨g3, us.length * 6 + 2, none⟩ (.int .i64 c.i)).setCell ⟨g3, us.length * 6 + 3, none⟩ (.string c.s)).setCell ⟨g3, us.length * 6 + 4, none⟩ (.slice p1 y1 r1)).setCell ⟨g3, us.length * 6 + 5, none⟩ (.slice p2 y2 r2)) = w5 := ⟨_, rfl⟩
      rw [hw5]
      obtain ⟨OV5, oth5, sz5', bel5'⟩ := set_last OV4 hone hw5
      have ot5 : ∀ k, k ≠ g3 → k ≠ B + 3 → w5.heap[k]? = w3.heap[k]? := fun k hk hk2 => (oth5 k hk).trans (ot4 k hk2)
      have hBox5 := (oth5 (B + 3) gB).trans hbx4
      have sz5 : w5.heap.size = w3.heap.size := sz5'.trans sz4
      have bel5 : Below R w w5 := bel5' w R (by omega) bel4
      have Sw5 : (fun w' => w'.cell? ⟨B, 0, none⟩ = some (.pointer (some ⟨R, 0, none⟩)) ∧ w'.cell? ⟨B + 1, 0, none⟩ = some (.int .i64 (d : Nat))) w5 := ⟨(World.cell?_of_block (w := w3) (ot5 B (by omega) (by omega))).trans hS3.1, (World.cell?_of_block (w := w3) (ot5 (B + 1) (by omega) (by omega))).trans hS3.2⟩
      refine hK.out _ _ Sw5 (fun hHeld => ?_)
      clear hK K hw5 c0 c1 c2 c3 c4 c5 f0 f1 f2 f3 f4 f5
      try simp only [Act.put, zA, zB, zC, zD, zE, zF]
      refine wpAnyH_done (by kernel_rfl) ?_ _
      go_wp2_with fail
      go_end0
      have hgg : ∀ k, k < w.heap.size → (Value.slice a5 us.length cap5).ownBlock ≠ some k → k ≠ g3 := fun k hk hne e => by
       rcases hAt.out with h9 | h9
       ·exact hne (h9.symm.trans (by rw [e]; rfl))
       ·have h8 : g3 = (w1.alloc (.cells #[.int .i64 0, .bool false, .int .i64 0, .string ⟨#[]⟩, .slice none 0 0, .slice none 0 0] 27)).heap.size := by simpa [Value.ownBlock] using h9
        have := kz.below.size
        omega
      have hr5 : Rd w5 R v s j b' := hRd3.out.keep fun k hk => ot5 k (by omega) (by omega)
      have hXj := hXI.out c j b' rfl
      have e00 : w.heap.size ≤ w.drew.heap.size := Nat.le_refl _
      have hs35 := hsz3.out
      rw [World.size_alloc] at hs35
      obtain ⟨kb5, jl5⟩ := HJ.out.more HELS.out hu e00 (by omega) (by omega) OV5 (fun g hg => by
        rcases hAt.out with h9 | h9
        ·exact .inl (h9.symm.trans hg)
        ·have h8 : g = (w1.alloc (.cells #[.int .i64 0, .bool false, .int .i64 0, .string ⟨#[]⟩, .slice none 0 0, .slice none 0 0] 27)).heap.size := by have := hg.symm.trans h9; simpa using this
         rw [World.size_alloc] at h8
         exact .inr ⟨by omega, by omega⟩
       ) hBox5 (fun k hk hkR hkB hne => (ot5 k (hgg k hk hne) hkB).trans (hG.out k hk hkR hne)) (fun k hk hlt => by
        have hk1 := hk.1
        have hk2 := hk.2
        refine (ot5 k (fun e => ?_) (by omega)).trans (hK1.out k hk hlt)
        rcases hAt.out with h9 | h9
        ·have := (World.ownsRow.lt HELS.out.own.1 g3 (h9.symm.trans rfl)).2
         omega
        ·have h8 : g3 = (w1.alloc (.cells #[.int .i64 0, .bool false, .int .i64 0, .string ⟨#[]⟩, .slice none 0 0, .slice none 0 0] 27)).heap.size := by simpa [Value.ownBlock] using h9
         rw [World.size_alloc] at h8
         omega
       ) hr5 (by omega) bel5
      exact ⟨kb5, rfl, jl5⟩
  ·go_simp
   refine hK.out _ _ ?_ (fun hHeld => ?_)
   ·exact (FA.out _ (((Kr.refl R w).alloc HW.out (.cells #[.int .i64 0, .bool false, .int .i64 0, .string ⟨#[]⟩, .slice none 0 0, .slice none 0 0] 27)).drew)).1
   clear hK K
   try simp only [Act.put, zA, zB, zC, zD, zE, zF]
   refine wpAnyH_ready (rs := [1, 5]) (by kernel_rfl) (by simp) ?_
   refine AllReadyH.cons rfl (fun K hK => ?_) (AllReadyH.cons rfl (fun K hK => ?_) (AllReadyH.nil))
   ·have hl5 := (FA.out _ (((Kr.refl R w).alloc HW.out (.cells #[.int .i64 0, .bool false, .int .i64 0, .string ⟨#[]⟩, .slice none 0 0, .slice none 0 0] 27)).drew)).2
    go_simp
    refine hK.out _ _ ?_ (fun hHeld => ?_)
    ·exact (FA.out _ (((Kr.refl R w).alloc HW.out (.cells #[.int .i64 0, .bool false, .int .i64 0, .string ⟨#[]⟩, .slice none 0 0, .slice none 0 0] 27)).drew)).1
    clear hK K hl5
    try simp only [Act.put, zA, zB, zC, zD, zE, zF]
    refine wpAnyH_take (i := 6) (v := ?_) rfl (by kernel_rfl) (by kernel_rfl) (by kernel_rfl) (fun _ _ _ h => h) (Or.inl ⟨by rfl, ?_⟩) (by assumption) ?_
    rotate_left 1
    ·intro w hSw; (try dsimp only at hSw); go_simp; first | done | with_reducible rfl
    try simp only [Act.put, zA, zB, zC, zD, zE, zF]
    refine wpAnyH_ready (rs := [5]) (by kernel_rfl) (by simp) ?_
    refine AllReadyH.cons rfl (fun K hK => ?_) (AllReadyH.nil)
    ·go_simp
     have cv := CV.out _ (((Below.refl _ w).alloc (Nat.le_refl _) (.cells #[.int .i64 0, .bool false, .int .i64 0, .string ⟨#[]⟩, .slice none 0 0, .slice none 0 0] 27)).drew)
     refine cv.mono ?_
     rintro e w1 ⟨k1, ⟨u, rfl, hu⟩, h1⟩
     obtain ⟨x0, x1, x2, x3, x4, x5, rfl, hone⟩ := hu.in.six
     obtain ⟨p1, y1, r1, p2, y2, r2, rfl, rfl, rfl, rfl, rfl, rfl⟩ := hu.in.kinds
     have kk := (((Kr.refl R w).alloc HW.out (.cells #[.int .i64 0, .bool false, .int .i64 0, .string ⟨#[]⟩, .slice none 0 0, .slice none 0 0] 27)).drew).trans k1
     go_wp2_with fail
     refine hK.out _ _ ?_ (fun hHeld => ?_)
     ·exact (FA.out _ kk).1
     clear hK K cv
     try simp only [Act.put, zA, zB, zC, zD, zE, zF]
     have hs1 := k1.below.size
     have e0w : ((w.alloc (.cells #[.int .i64 0, .bool false, .int .i64 0, .string ⟨#[]⟩, .slice none 0 0, .slice none 0 0] 27)).drew).heap.size = w.heap.size + 1 := by simp
     have hsw : w.heap.size + 1 ≤ w1.heap.size := by omega
     have kz : Kr R w w1 := kk
     have hz1' : w1.heap[w.heap.size]? = some (.cells [.int .i64 0, .bool false, .int .i64 0, .string ⟨#[]⟩, .slice none 0 0, .slice none 0 0].toArray 27 (0, 0)) := (k1.other w.heap.size (by have := HW.out; have := HJ.out.RB; have := HJ.out.sz; omega) (by simp)).trans (heap_alloc_new w _)
     have hzc := zc_of hz1'
     have hown2 := Byts.own_kr HELS.out.own.1 kz (by omega : R < B + 4)
     obtain ⟨lv', w3, hrun, hown3, hgrow, -, hat⟩ := run_append_own_at (P := Tryz.prog) w1 (B + 4) 25 25 27 i0 (.agg #[.int .i64 0, .bool false, .int .i64 0, .string ⟨#[]⟩, .slice none 0 0, .slice none 0 0]) 6 88 Tryz.underlying25 hi0 hz0 hz1 hz2 rfl (by decide) _ _ _ hown2 ⟨w.heap.size, 0, none⟩ 1 1 [.int .i64 0, .bool false, .int .i64 0, .string ⟨#[]⟩, .slice none 0 0, .slice none 0 0] rfl hzc (by decide) (by unfold maxLen; omega) (by omega) (by have := kz.below.size; omega)
     obtain ⟨g3, cap3, rfl⟩ : ∃ g3 cap3, lv' = .slice (some ⟨g3, 0, none⟩) (us.length + 1) cap3 := by
      rcases hown3.2 with ⟨_, e⟩ | ⟨g, cap, cur, e, _⟩
      ·omega
      ·exact ⟨g, cap, e⟩
     have OV3 : Hid (OwnV w3 (B + 4) (.slice (some ⟨g3, 0, none⟩) (us.length + 1) cap3) (us ++ [.agg #[.int .i64 0, .bool false, .int .i64 0, .string ⟨#[]⟩, .slice none 0 0, .slice none 0 0]])) := by
      refine ⟨?_, sixes_snoc HELS.out.own.2 ⟨_, _, _, _, _, _, rfl, by decide⟩⟩
      rw [flat_append, List.length_append]
      exact hown3
     have hg3 := World.ownsRow.lt hown3 g3 rfl
     have hkc : cap3 ≤ 9223372036854775807 ∧ us.length + 1 ≤ cap3 := by have := ownV_cap OV3.out; unfold maxLen at this; omega
     obtain ⟨hkc1, hkc2⟩ := hkc
     have hG : Hid (∀ k, k < w.heap.size → k ≠ R → (Value.slice a5 us.length cap5).ownBlock ≠ some k → w3.heap[k]? = w.heap[k]?) := fun k hk hkR hne => (hgrow.block k (by have := kz.below.size; omega) (fun e => hne e.symm)).trans (kz.other k hkR hk)
     have hsz3 : Hid (w1.heap.size ≤ w3.heap.size) := hgrow.size
     have hRd3 : Hid (Rd w3 R v s j b') := Byts.rd_grown (B := B + 4) h1 (by omega) hgrow (fun k hk => (World.ownsRow.lt hown2 k hk).1)
     have hBel3 : Hid (Below R w w3) := kz.below.grown hgrow (by have := HW.out; have := kz.below.size; omega) (fun k hk => by have := (World.ownsRow.lt hown2 k hk).1; omega)
     have hAt : Hid ((Value.slice (some ⟨g3, 0, none⟩) (us.length + 1) cap3).ownBlock = (Value.slice a5 us.length cap5).ownBlock ∨ (Value.slice (some ⟨g3, 0, none⟩) (us.length + 1) cap3).ownBlock = some w1.heap.size) := hat
     have hK1 : Hid (Keep (Rg ((w.alloc (.cells #[.int .i64 0, .bool false, .int .i64 0, .string ⟨#[]⟩, .slice none 0 0, .slice none 0 0] 27)).drew).heap.size w1.heap.size) w1 w3) := fun k hk hlt => by
      have hk1 := hk.1
      have e0 : ((w.alloc (.cells #[.int .i64 0, .bool false, .int .i64 0, .string ⟨#[]⟩, .slice none 0 0, .slice none 0 0] 27)).drew).heap.size = w.heap.size + 1 := by simp
      rw [hgrow.block k (by have := hk.2; omega) (fun e => by have := (World.ownsRow.lt HELS.out.own.1 k e.symm).2; omega)]
     have hS3 : (fun w' => w'.cell? ⟨B, 0, none⟩ = some (.pointer (some ⟨R, 0, none⟩)) ∧ w'.cell? ⟨B + 1, 0, none⟩ = some (.int .i64 (d : Nat))) w3 := by
      have e1 := hG.out B (by omega) (by omega) (fun e => by have := (World.ownsRow.lt HELS.out.own.1 B e).1; omega)
      have e2 := hG.out (B + 1) (by omega) (by omega) (fun e => by have := (World.ownsRow.lt HELS.out.own.1 (B + 1) e).1; omega)
      have s0 := (FA.out w (Kr.refl R w)).1
      exact ⟨(World.cell?_of_block (w := w) e1).trans s0.1, (World.cell?_of_block (w := w) e2).trans s0.2⟩
     have hbx3 : w3.heap[B + 3]? = some (.cells #[.int .i64 5, .bool false, .int .i64 0, .string ⟨#[]⟩, .slice none 0 0, .slice a5 us.length cap5] 27 (0, 0)) := (hG.out (B + 3) (by omega) (by omega) (fun e => by have := (World.ownsRow.lt HELS.out.own.1 (B + 3) e).1; omega)).trans HBOX.out
     have HBX3 : Hid (w3.heap[B + 3]? = some (.cells #[.int .i64 5, .bool false, .int .i64 0, .string ⟨#[]⟩, .slice none 0 0, .slice a5 us.length cap5] 27 (0, 0))) := hbx3
     clear hown2 hzc hgrow hat hown3 hHeld
     refine wpAnyH_ready (rs := [8]) (by kernel_rfl) (by simp) ?_
     refine AllReadyH.cons rfl (fun K hK => ?_) AllReadyH.nil
     refine op_append rfl (Operand.tmp 4) (Operand.tmp 10) 25 rfl rfl rfl hrun ?_
     refine hK.out _ _ hS3 (fun hHeld => ?_)
     clear hK K hrun
     try simp only [Act.put, zA, zB, zC, zD, zE, zF]
     have n1 : (0 : Int) ≤ (us.length : Int) := by omega
     have n2 : (us.length : Int) < (us.length : Int) + 1 := by omega
     refine wpAnyH_take (i := 9) (v := ?_) rfl (by kernel_rfl) (by kernel_rfl) (by kernel_rfl) (fun _ _ _ h => h) (Or.inl ⟨by rfl, ?_⟩) (by assumption) ?_
     rotate_left 1
     ·intro w hSw; (try dsimp only at hSw); go_simp; first | done | with_reducible rfl
     try simp only [Act.put, zA, zB, zC, zD, zE, zF]
     refine wpAnyH_take (i := 11) (v := ?_) rfl (by kernel_rfl) (by kernel_rfl) (by kernel_rfl) (fun _ _ _ h => h) (Or.inl ⟨by rfl, ?_⟩) (by assumption) ?_
     rotate_left 1
     ·intro w hSw; (try dsimp only at hSw); go_simp; first | done | with_reducible rfl
     try simp only [Act.put, zA, zB, zC, zD, zE, zF]
     obtain ⟨q0, q1, q2, q3, q4, q5, eq, c0, c1, c2, c3, c4, c5⟩ := ownV_six OV3.out us.length (by simp)
     have fz := fun j => Copied.frozen_own OV3.out.1 j
     rw [Nat.zero_add] at c0 c1 c2 c3 c4 c5
     obtain ⟨m0, m1, m2, m3, m4, m5⟩ := six_box hbx3
     have mf := frozen_box hbx3 5
     have f0 := fz (us.length * 6)
     have f1 := fz (us.length * 6 + 1)
     have f2 := fz (us.length * 6 + 2)
     have f3 := fz (us.length * 6 + 3)
     have f4 := fz (us.length * 6 + 4)
     have f5 := fz (us.length * 6 + 5)
     clear fz eq hbx3
     have gB : ¬ B + 3 = g3 := by omega
     have gB' : ¬ g3 = B + 3 := by omega
     have hgB : ∀ g, (Value.slice (some ⟨g3, 0, none⟩) (us.length + 1) cap3).ownBlock = some g → g ≠ B + 3 := fun g hg e => by
      have e3 : g3 = g := by simpa [Value.ownBlock] using hg
      omega
     refine wpAnyH_ready (rs := [10, 12]) (by kernel_rfl) (by simp) ?_
     refine AllReadyH.cons rfl (fun K hK => ?_) (AllReadyH.cons rfl (fun K hK => ?_) AllReadyH.nil)
     ·go_simp
      obtain ⟨w4, hw4⟩ : ∃ w4, ((((((w3.setCell ⟨g3, us.length * 6, none⟩ (.int .i64 c.k)).setCell ⟨g3, us.length * 6 + 1, none⟩ (.bool c.b)).setCell ⟨g3, us.length * 6 + 2, none⟩ (.int .i64 c.i)).setCell ⟨g3, us.length * 6 + 3, none⟩ (.string c.s)).setCell ⟨g3, us.length * 6 + 4, none⟩ (.slice p1 y1 r1)).setCell ⟨g3, us.length * 6 + 5, none⟩ (.slice p2 y2 r2)) = w4 := ⟨_, rfl⟩
      rw [hw4]
      obtain ⟨OV4, ot4, sz4, bel4⟩ := set_last OV3.out hone hw4
      have ot4' : ∀ k, k ≠ g3 → k ≠ B + 3 → w4.heap[k]? = w3.heap[k]? := fun k hk _ => ot4 k hk
      clear c0 c1 c2 c3 c4 c5 f0 f1 f2 f3 f4 f5 m0 m1 m2 m3 m4 m5 mf hw4
      have hbx4 := (ot4 (B + 3) gB).trans HBX3.out
      obtain ⟨m0, m1, m2, m3, m4, m5⟩ := six_box hbx4
      have mf := frozen_box hbx4 5
      have Sw4 : (fun w' => w'.cell? ⟨B, 0, none⟩ = some (.pointer (some ⟨R, 0, none⟩)) ∧ w'.cell? ⟨B + 1, 0, none⟩ = some (.int .i64 (d : Nat))) w4 := ⟨(World.cell?_of_block (w := w3) (ot4' B (by omega) (by omega))).trans hS3.1, (World.cell?_of_block (w := w3) (ot4' (B + 1) (by omega) (by omega))).trans hS3.2⟩
      refine hK.out _ _ Sw4 (fun hHeld => ?_)
      clear hK K
      try simp only [Act.put, zA, zB, zC, zD, zE, zF]
      refine wpAnyH_ready (rs := [12]) (by kernel_rfl) (by simp) ?_
      refine AllReadyH.cons rfl (fun K hK => ?_) AllReadyH.nil
      go_simp
      obtain ⟨w5, hw5⟩ : ∃ w5, w4.setCell ⟨B + 3, 5, none⟩ (.slice (some ⟨g3, 0, none⟩) (us.length + 1) cap3) = w5 := ⟨_, rfl⟩
      rw [hw5]
      have ot5 : ∀ k, k ≠ g3 → k ≠ B + 3 → w5.heap[k]? = w3.heap[k]? := fun k hk hk2 => by rw [← hw5, Below.heap_setCell _ _ _ _ hk2]; exact ot4 k hk
      have hBox5 : w5.heap[B + 3]? = some (.cells #[.int .i64 5, .bool false, .int .i64 0, .string ⟨#[]⟩, .slice none 0 0, (.slice (some ⟨g3, 0, none⟩) (us.length + 1) cap3)] 27 (0, 0)) := by rw [← hw5, bset hbx4]; rfl
      have OV5 : OwnV w5 (B + 4) (.slice (some ⟨g3, 0, none⟩) (us.length + 1) cap3) (us ++ [.agg #[.int .i64 c.k, .bool c.b, .int .i64 c.i, .string c.s, .slice p1 y1 r1, .slice p2 y2 r2]]) := ⟨Fresh.own_keep OV4.1 fun g hg => by rw [← hw5]; exact Below.heap_setCell _ _ _ _ (hgB g hg), OV4.2⟩
      have sz5 : w5.heap.size = w3.heap.size := by rw [← hw5]; simpa [World.setCell] using sz4
      have bel5 : Below R w w5 := by rw [← hw5]; exact (bel4 w R (by omega) hBel3.out).setCell (p := ⟨B + 3, 5, none⟩) (by simp; omega) _
      have Sw5 : (fun w' => w'.cell? ⟨B, 0, none⟩ = some (.pointer (some ⟨R, 0, none⟩)) ∧ w'.cell? ⟨B + 1, 0, none⟩ = some (.int .i64 (d : Nat))) w5 := ⟨(World.cell?_of_block (w := w3) (ot5 B (by omega) (by omega))).trans hS3.1, (World.cell?_of_block (w := w3) (ot5 (B + 1) (by omega) (by omega))).trans hS3.2⟩
      refine hK.out _ _ Sw5 (fun hHeld => ?_)
      clear hK K hw5 m0 m1 m2 m3 m4 m5 mf
      try simp only [Act.put, zA, zB, zC, zD, zE, zF]
      refine wpAnyH_done (by kernel_rfl) ?_ _
      go_wp2_with fail
      go_end0
      have hgg : ∀ k, k < w.heap.size → (Value.slice a5 us.length cap5).ownBlock ≠ some k → k ≠ g3 := fun k hk hne e => by
       rcases hAt.out with h9 | h9
       ·exact hne (h9.symm.trans (by rw [e]; rfl))
       ·have h8 : g3 = w1.heap.size := by simpa [Value.ownBlock] using h9
        have := kz.below.size
        omega
      have hr5 : Rd w5 R v s j b' := hRd3.out.keep fun k hk => ot5 k (by omega) (by omega)
      have hXj := hXI.out c j b' rfl
      have e00 : w.heap.size ≤ ((w.alloc (.cells #[.int .i64 0, .bool false, .int .i64 0, .string ⟨#[]⟩, .slice none 0 0, .slice none 0 0] 27)).drew).heap.size := by simp
      have hs35 := hsz3.out
      obtain ⟨kb5, jl5⟩ := HJ.out.more HELS.out hu e00 (by omega) (by omega) OV5 (fun g hg => by
        rcases hAt.out with h9 | h9
        ·exact .inl (h9.symm.trans hg)
        ·have h8 : g = w1.heap.size := by have := hg.symm.trans h9; simpa using this
         exact .inr ⟨by omega, by omega⟩
       ) hBox5 (fun k hk hkR hkB hne => (ot5 k (hgg k hk hne) hkB).trans (hG.out k hk hkR hne)) (fun k hk hlt => by
        have hk1 := hk.1
        have hk2 := hk.2
        refine (ot5 k (fun e => ?_) (by omega)).trans (hK1.out k hk hlt)
        rcases hAt.out with h9 | h9
        ·have := (World.ownsRow.lt HELS.out.own.1 g3 (h9.symm.trans rfl)).2
         omega
        ·have h8 : g3 = w1.heap.size := by simpa [Value.ownBlock] using h9
         omega
       ) hr5 (by omega) bel5
      exact ⟨kb5, rfl, jl5⟩
     ·go_simp
      obtain ⟨w4, hw4⟩ : ∃ w4, w3.setCell ⟨B + 3, 5, none⟩ (.slice (some ⟨g3, 0, none⟩) (us.length + 1) cap3) = w4 := ⟨_, rfl⟩
      rw [hw4]
      have ot4 : ∀ k, k ≠ B + 3 → w4.heap[k]? = w3.heap[k]? := fun k hk2 => by rw [← hw4]; exact Below.heap_setCell _ _ _ _ hk2
      have ot4' : ∀ k, k ≠ g3 → k ≠ B + 3 → w4.heap[k]? = w3.heap[k]? := fun k _ hk2 => ot4 k hk2
      have hbx4 : w4.heap[B + 3]? = some (.cells #[.int .i64 5, .bool false, .int .i64 0, .string ⟨#[]⟩, .slice none 0 0, (.slice (some ⟨g3, 0, none⟩) (us.length + 1) cap3)] 27 (0, 0)) := by rw [← hw4, bset HBX3.out]; rfl
      have OV4 : OwnV w4 (B + 4) (.slice (some ⟨g3, 0, none⟩) (us.length + 1) cap3) (us ++ [.agg #[.int .i64 0, .bool false, .int .i64 0, .string ⟨#[]⟩, .slice none 0 0, .slice none 0 0]]) := ⟨Fresh.own_keep OV3.out.1 fun g hg => ot4 g (hgB g hg), OV3.out.2⟩
      have sz4 : w4.heap.size = w3.heap.size := by rw [← hw4]; simp [World.setCell]
      have bel4 : Below R w w4 := by rw [← hw4]; exact hBel3.out.setCell (p := ⟨B + 3, 5, none⟩) (by simp; omega) _
      clear c0 c1 c2 c3 c4 c5 f0 f1 f2 f3 f4 f5 m0 m1 m2 m3 m4 m5 mf hw4
      obtain ⟨q0', q1', q2', q3', q4', q5', eq, c0, c1, c2, c3, c4, c5⟩ := ownV_six OV4 us.length (by simp)
      have fz := fun j => Copied.frozen_own OV4.1 j
      rw [Nat.zero_add] at c0 c1 c2 c3 c4 c5
      have f0 := fz (us.length * 6)
      have f1 := fz (us.length * 6 + 1)
      have f2 := fz (us.length * 6 + 2)
      have f3 := fz (us.length * 6 + 3)
      have f4 := fz (us.length * 6 + 4)
      have f5 := fz (us.length * 6 + 5)
      clear fz eq
      have Sw4 : (fun w' => w'.cell? ⟨B, 0, none⟩ = some (.pointer (some ⟨R, 0, none⟩)) ∧ w'.cell? ⟨B + 1, 0, none⟩ = some (.int .i64 (d : Nat))) w4 := ⟨(World.cell?_of_block (w := w3) (ot4' B (by omega) (by omega))).trans hS3.1, (World.cell?_of_block (w := w3) (ot4' (B + 1) (by omega) (by omega))).trans hS3.2⟩
      refine hK.out _ _ Sw4 (fun hHeld => ?_)
      clear hK K
      try simp only [Act.put, zA, zB, zC, zD, zE, zF]
      refine wpAnyH_ready (rs := [10]) (by kernel_rfl) (by simp) ?_
      refine AllReadyH.cons rfl (fun K hK => ?_) AllReadyH.nil
      go_simp
      obtain ⟨w5, hw5⟩ : ∃ w5, ((((((w4.setCell ⟨g3, us.length * 6, none⟩ (.int .i64 c.k)).setCell ⟨g3, us.length * 6 + 1, none⟩ (.bool c.b)).setCell ⟨g3, us.length * 6 + 2, none⟩ (.int .i64 c.i)).setCell ⟨g3, us.length * 6 + 3, none⟩ (.string c.s)).setCell ⟨g3, us.length * 6 + 4, none⟩ (.slice p1 y1 r1)).setCell ⟨g3, us.length * 6 + 5, none⟩ (.slice p2 y2 r2)) = w5 := ⟨_, rfl⟩
      rw [hw5]
      obtain ⟨OV5, oth5, sz5', bel5'⟩ := set_last OV4 hone hw5
      have ot5 : ∀ k, k ≠ g3 → k ≠ B + 3 → w5.heap[k]? = w3.heap[k]? := fun k hk hk2 => (oth5 k hk).trans (ot4 k hk2)
      have hBox5 := (oth5 (B + 3) gB).trans hbx4
      have sz5 : w5.heap.size = w3.heap.size := sz5'.trans sz4
      have bel5 : Below R w w5 := bel5' w R (by omega) bel4
      have Sw5 : (fun w' => w'.cell? ⟨B, 0, none⟩ = some (.pointer (some ⟨R, 0, none⟩)) ∧ w'.cell? ⟨B + 1, 0, none⟩ = some (.int .i64 (d : Nat))) w5 := ⟨(World.cell?_of_block (w := w3) (ot5 B (by omega) (by omega))).trans hS3.1, (World.cell?_of_block (w := w3) (ot5 (B + 1) (by omega) (by omega))).trans hS3.2⟩
      refine hK.out _ _ Sw5 (fun hHeld => ?_)
      clear hK K hw5 c0 c1 c2 c3 c4 c5 f0 f1 f2 f3 f4 f5
      try simp only [Act.put, zA, zB, zC, zD, zE, zF]
      refine wpAnyH_done (by kernel_rfl) ?_ _
      go_wp2_with fail
      go_end0
      have hgg : ∀ k, k < w.heap.size → (Value.slice a5 us.length cap5).ownBlock ≠ some k → k ≠ g3 := fun k hk hne e => by
       rcases hAt.out with h9 | h9
       ·exact hne (h9.symm.trans (by rw [e]; rfl))
       ·have h8 : g3 = w1.heap.size := by simpa [Value.ownBlock] using h9
        have := kz.below.size
        omega
      have hr5 : Rd w5 R v s j b' := hRd3.out.keep fun k hk => ot5 k (by omega) (by omega)
      have hXj := hXI.out c j b' rfl
      have e00 : w.heap.size ≤ ((w.alloc (.cells #[.int .i64 0, .bool false, .int .i64 0, .string ⟨#[]⟩, .slice none 0 0, .slice none 0 0] 27)).drew).heap.size := by simp
      have hs35 := hsz3.out
      obtain ⟨kb5, jl5⟩ := HJ.out.more HELS.out hu e00 (by omega) (by omega) OV5 (fun g hg => by
        rcases hAt.out with h9 | h9
        ·exact .inl (h9.symm.trans hg)
        ·have h8 : g = w1.heap.size := by have := hg.symm.trans h9; simpa using this
         exact .inr ⟨by omega, by omega⟩
       ) hBox5 (fun k hk hkR hkB hne => (ot5 k (hgg k hk hne) hkB).trans (hG.out k hk hkR hne)) (fun k hk hlt => by
        have hk1 := hk.1
        have hk2 := hk.2
        refine (ot5 k (fun e => ?_) (by omega)).trans (hK1.out k hk hlt)
        rcases hAt.out with h9 | h9
        ·have := (World.ownsRow.lt HELS.out.own.1 g3 (h9.symm.trans rfl)).2
         omega
        ·have h8 : g3 = w1.heap.size := by simpa [Value.ownBlock] using h9
         omega
       ) hr5 (by omega) bel5
      exact ⟨kb5, rfl, jl5⟩
   ·go_simp
    have cv := CV.out _ (((Below.refl _ w).alloc (Nat.le_refl _) (.cells #[.int .i64 0, .bool false, .int .i64 0, .string ⟨#[]⟩, .slice none 0 0, .slice none 0 0] 27)).drew)
    refine cv.mono ?_
    rintro e w1 ⟨k1, ⟨u, rfl, hu⟩, h1⟩
    obtain ⟨x0, x1, x2, x3, x4, x5, rfl, hone⟩ := hu.in.six
    obtain ⟨p1, y1, r1, p2, y2, r2, rfl, rfl, rfl, rfl, rfl, rfl⟩ := hu.in.kinds
    have kk := (((Kr.refl R w).alloc HW.out (.cells #[.int .i64 0, .bool false, .int .i64 0, .string ⟨#[]⟩, .slice none 0 0, .slice none 0 0] 27)).drew).trans k1
    go_wp2_with fail
    refine hK.out _ _ ?_ (fun hHeld => ?_)
    ·exact (FA.out _ kk).1
    clear hK K cv
    try simp only [Act.put, zA, zB, zC, zD, zE, zF]
    refine wpAnyH_ready (rs := [1]) (by kernel_rfl) (by simp) ?_
    refine AllReadyH.cons rfl (fun K hK => ?_) (AllReadyH.nil)
    ·have hl5 := (FA.out _ kk).2
     go_simp
     refine hK.out _ _ ?_ (fun hHeld => ?_)
     ·exact (FA.out _ kk).1
     clear hK K hl5
     try simp only [Act.put, zA, zB, zC, zD, zE, zF]
     refine wpAnyH_take (i := 6) (v := ?_) rfl (by kernel_rfl) (by kernel_rfl) (by kernel_rfl) (fun _ _ _ h => h) (Or.inl ⟨by rfl, ?_⟩) (by assumption) ?_
     rotate_left 1
     ·intro w hSw; (try dsimp only at hSw); go_simp; first | done | with_reducible rfl
     try simp only [Act.put, zA, zB, zC, zD, zE, zF]
     have hs1 := k1.below.size
     have e0w : ((w.alloc (.cells #[.int .i64 0, .bool false, .int .i64 0, .string ⟨#[]⟩, .slice none 0 0, .slice none 0 0] 27)).drew).heap.size = w.heap.size + 1 := by simp
     have hsw : w.heap.size + 1 ≤ w1.heap.size := by omega
     have kz : Kr R w w1 := kk
     have hz1' : w1.heap[w.heap.size]? = some (.cells [.int .i64 0, .bool false, .int .i64 0, .string ⟨#[]⟩, .slice none 0 0, .slice none 0 0].toArray 27 (0, 0)) := (k1.other w.heap.size (by have := HW.out; have := HJ.out.RB; have := HJ.out.sz; omega) (by simp)).trans (heap_alloc_new w _)
     have hzc := zc_of hz1'
     have hown2 := Byts.own_kr HELS.out.own.1 kz (by omega : R < B + 4)
     obtain ⟨lv', w3, hrun, hown3, hgrow, -, hat⟩ := run_append_own_at (P := Tryz.prog) w1 (B + 4) 25 25 27 i0 (.agg #[.int .i64 0, .bool false, .int .i64 0, .string ⟨#[]⟩, .slice none 0 0, .slice none 0 0]) 6 88 Tryz.underlying25 hi0 hz0 hz1 hz2 rfl (by decide) _ _ _ hown2 ⟨w.heap.size, 0, none⟩ 1 1 [.int .i64 0, .bool false, .int .i64 0, .string ⟨#[]⟩, .slice none 0 0, .slice none 0 0] rfl hzc (by decide) (by unfold maxLen; omega) (by omega) (by have := kz.below.size; omega)
     obtain ⟨g3, cap3, rfl⟩ : ∃ g3 cap3, lv' = .slice (some ⟨g3, 0, none⟩) (us.length + 1) cap3 := by
      rcases hown3.2 with ⟨_, e⟩ | ⟨g, cap, cur, e, _⟩
      ·omega
      ·exact ⟨g, cap, e⟩
     have OV3 : Hid (OwnV w3 (B + 4) (.slice (some ⟨g3, 0, none⟩) (us.length + 1) cap3) (us ++ [.agg #[.int .i64 0, .bool false, .int .i64 0, .string ⟨#[]⟩, .slice none 0 0, .slice none 0 0]])) := by
      refine ⟨?_, sixes_snoc HELS.out.own.2 ⟨_, _, _, _, _, _, rfl, by decide⟩⟩
      rw [flat_append, List.length_append]
      exact hown3
     have hg3 := World.ownsRow.lt hown3 g3 rfl
     have hkc : cap3 ≤ 9223372036854775807 ∧ us.length + 1 ≤ cap3 := by have := ownV_cap OV3.out; unfold maxLen at this; omega
     obtain ⟨hkc1, hkc2⟩ := hkc
     have hG : Hid (∀ k, k < w.heap.size → k ≠ R → (Value.slice a5 us.length cap5).ownBlock ≠ some k → w3.heap[k]? = w.heap[k]?) := fun k hk hkR hne => (hgrow.block k (by have := kz.below.size; omega) (fun e => hne e.symm)).trans (kz.other k hkR hk)
     have hsz3 : Hid (w1.heap.size ≤ w3.heap.size) := hgrow.size
     have hRd3 : Hid (Rd w3 R v s j b') := Byts.rd_grown (B := B + 4) h1 (by omega) hgrow (fun k hk => (World.ownsRow.lt hown2 k hk).1)
     have hBel3 : Hid (Below R w w3) := kz.below.grown hgrow (by have := HW.out; have := kz.below.size; omega) (fun k hk => by have := (World.ownsRow.lt hown2 k hk).1; omega)
     have hAt : Hid ((Value.slice (some ⟨g3, 0, none⟩) (us.length + 1) cap3).ownBlock = (Value.slice a5 us.length cap5).ownBlock ∨ (Value.slice (some ⟨g3, 0, none⟩) (us.length + 1) cap3).ownBlock = some w1.heap.size) := hat
     have hK1 : Hid (Keep (Rg ((w.alloc (.cells #[.int .i64 0, .bool false, .int .i64 0, .string ⟨#[]⟩, .slice none 0 0, .slice none 0 0] 27)).drew).heap.size w1.heap.size) w1 w3) := fun k hk hlt => by
      have hk1 := hk.1
      have e0 : ((w.alloc (.cells #[.int .i64 0, .bool false, .int .i64 0, .string ⟨#[]⟩, .slice none 0 0, .slice none 0 0] 27)).drew).heap.size = w.heap.size + 1 := by simp
      rw [hgrow.block k (by have := hk.2; omega) (fun e => by have := (World.ownsRow.lt HELS.out.own.1 k e.symm).2; omega)]
     have hS3 : (fun w' => w'.cell? ⟨B, 0, none⟩ = some (.pointer (some ⟨R, 0, none⟩)) ∧ w'.cell? ⟨B + 1, 0, none⟩ = some (.int .i64 (d : Nat))) w3 := by
      have e1 := hG.out B (by omega) (by omega) (fun e => by have := (World.ownsRow.lt HELS.out.own.1 B e).1; omega)
      have e2 := hG.out (B + 1) (by omega) (by omega) (fun e => by have := (World.ownsRow.lt HELS.out.own.1 (B + 1) e).1; omega)
      have s0 := (FA.out w (Kr.refl R w)).1
      exact ⟨(World.cell?_of_block (w := w) e1).trans s0.1, (World.cell?_of_block (w := w) e2).trans s0.2⟩
     have hbx3 : w3.heap[B + 3]? = some (.cells #[.int .i64 5, .bool false, .int .i64 0, .string ⟨#[]⟩, .slice none 0 0, .slice a5 us.length cap5] 27 (0, 0)) := (hG.out (B + 3) (by omega) (by omega) (fun e => by have := (World.ownsRow.lt HELS.out.own.1 (B + 3) e).1; omega)).trans HBOX.out
     have HBX3 : Hid (w3.heap[B + 3]? = some (.cells #[.int .i64 5, .bool false, .int .i64 0, .string ⟨#[]⟩, .slice none 0 0, .slice a5 us.length cap5] 27 (0, 0))) := hbx3
     clear hown2 hzc hgrow hat hown3 hHeld
     refine wpAnyH_ready (rs := [8]) (by kernel_rfl) (by simp) ?_
     refine AllReadyH.cons rfl (fun K hK => ?_) AllReadyH.nil
     refine op_append rfl (Operand.tmp 4) (Operand.tmp 10) 25 rfl rfl rfl hrun ?_
     refine hK.out _ _ hS3 (fun hHeld => ?_)
     clear hK K hrun
     try simp only [Act.put, zA, zB, zC, zD, zE, zF]
     have n1 : (0 : Int) ≤ (us.length : Int) := by omega
     have n2 : (us.length : Int) < (us.length : Int) + 1 := by omega
     refine wpAnyH_take (i := 9) (v := ?_) rfl (by kernel_rfl) (by kernel_rfl) (by kernel_rfl) (fun _ _ _ h => h) (Or.inl ⟨by rfl, ?_⟩) (by assumption) ?_
     rotate_left 1
     ·intro w hSw; (try dsimp only at hSw); go_simp; first | done | with_reducible rfl
     try simp only [Act.put, zA, zB, zC, zD, zE, zF]
     refine wpAnyH_take (i := 11) (v := ?_) rfl (by kernel_rfl) (by kernel_rfl) (by kernel_rfl) (fun _ _ _ h => h) (Or.inl ⟨by rfl, ?_⟩) (by assumption) ?_
     rotate_left 1
     ·intro w hSw; (try dsimp only at hSw); go_simp; first | done | with_reducible rfl
     try simp only [Act.put, zA, zB, zC, zD, zE, zF]
     obtain ⟨q0, q1, q2, q3, q4, q5, eq, c0, c1, c2, c3, c4, c5⟩ := ownV_six OV3.out us.length (by simp)
     have fz := fun j => Copied.frozen_own OV3.out.1 j
     rw [Nat.zero_add] at c0 c1 c2 c3 c4 c5
     obtain ⟨m0, m1, m2, m3, m4, m5⟩ := six_box hbx3
     have mf := frozen_box hbx3 5
     have f0 := fz (us.length * 6)
     have f1 := fz (us.length * 6 + 1)
     have f2 := fz (us.length * 6 + 2)
     have f3 := fz (us.length * 6 + 3)
     have f4 := fz (us.length * 6 + 4)
     have f5 := fz (us.length * 6 + 5)
     clear fz eq hbx3
     have gB : ¬ B + 3 = g3 := by omega
     have gB' : ¬ g3 = B + 3 := by omega
     have hgB : ∀ g, (Value.slice (some ⟨g3, 0, none⟩) (us.length + 1) cap3).ownBlock = some g → g ≠ B + 3 := fun g hg e => by
      have e3 : g3 = g := by simpa [Value.ownBlock] using hg
      omega
     refine wpAnyH_ready (rs := [10, 12]) (by kernel_rfl) (by simp) ?_
     refine AllReadyH.cons rfl (fun K hK => ?_) (AllReadyH.cons rfl (fun K hK => ?_) AllReadyH.nil)
     ·go_simp
      obtain ⟨w4, hw4⟩ : ∃ w4, ((((((w3.setCell ⟨g3, us.length * 6, none⟩ (.int .i64 c.k)).setCell ⟨g3, us.length * 6 + 1, none⟩ (.bool c.b)).setCell ⟨g3, us.length * 6 + 2, none⟩ (.int .i64 c.i)).setCell ⟨g3, us.length * 6 + 3, none⟩ (.string c.s)).setCell ⟨g3, us.length * 6 + 4, none⟩ (.slice p1 y1 r1)).setCell ⟨g3, us.length * 6 + 5, none⟩ (.slice p2 y2 r2)) = w4 := ⟨_, rfl⟩
      rw [hw4]
      obtain ⟨OV4, ot4, sz4, bel4⟩ := set_last OV3.out hone hw4
      have ot4' : ∀ k, k ≠ g3 → k ≠ B + 3 → w4.heap[k]? = w3.heap[k]? := fun k hk _ => ot4 k hk
      clear c0 c1 c2 c3 c4 c5 f0 f1 f2 f3 f4 f5 m0 m1 m2 m3 m4 m5 mf hw4
      have hbx4 := (ot4 (B + 3) gB).trans HBX3.out
      obtain ⟨m0, m1, m2, m3, m4, m5⟩ := six_box hbx4
      have mf := frozen_box hbx4 5
      have Sw4 : (fun w' => w'.cell? ⟨B, 0, none⟩ = some (.pointer (some ⟨R, 0, none⟩)) ∧ w'.cell? ⟨B + 1, 0, none⟩ = some (.int .i64 (d : Nat))) w4 := ⟨(World.cell?_of_block (w := w3) (ot4' B (by omega) (by omega))).trans hS3.1, (World.cell?_of_block (w := w3) (ot4' (B + 1) (by omega) (by omega))).trans hS3.2⟩
      refine hK.out _ _ Sw4 (fun hHeld => ?_)
      clear hK K
      try simp only [Act.put, zA, zB, zC, zD, zE, zF]
      refine wpAnyH_ready (rs := [12]) (by kernel_rfl) (by simp) ?_
      refine AllReadyH.cons rfl (fun K hK => ?_) AllReadyH.nil
      go_simp
      obtain ⟨w5, hw5⟩ : ∃ w5, w4.setCell ⟨B + 3, 5, none⟩ (.slice (some ⟨g3, 0, none⟩) (us.length + 1) cap3) = w5 := ⟨_, rfl⟩
      rw [hw5]
      have ot5 : ∀ k, k ≠ g3 → k ≠ B + 3 → w5.heap[k]? = w3.heap[k]? := fun k hk hk2 => by rw [← hw5, Below.heap_setCell _ _ _ _ hk2]; exact ot4 k hk
      have hBox5 : w5.heap[B + 3]? = some (.cells #[.int .i64 5, .bool false, .int .i64 0, .string ⟨#[]⟩, .slice none 0 0, (.slice (some ⟨g3, 0, none⟩) (us.length + 1) cap3)] 27 (0, 0)) := by rw [← hw5, bset hbx4]; rfl
      have OV5 : OwnV w5 (B + 4) (.slice (some ⟨g3, 0, none⟩) (us.length + 1) cap3) (us ++ [.agg #[.int .i64 c.k, .bool c.b, .int .i64 c.i, .string c.s, .slice p1 y1 r1, .slice p2 y2 r2]]) := ⟨Fresh.own_keep OV4.1 fun g hg => by rw [← hw5]; exact Below.heap_setCell _ _ _ _ (hgB g hg), OV4.2⟩
      have sz5 : w5.heap.size = w3.heap.size := by rw [← hw5]; simpa [World.setCell] using sz4
      have bel5 : Below R w w5 := by rw [← hw5]; exact (bel4 w R (by omega) hBel3.out).setCell (p := ⟨B + 3, 5, none⟩) (by simp; omega) _
      have Sw5 : (fun w' => w'.cell? ⟨B, 0, none⟩ = some (.pointer (some ⟨R, 0, none⟩)) ∧ w'.cell? ⟨B + 1, 0, none⟩ = some (.int .i64 (d : Nat))) w5 := ⟨(World.cell?_of_block (w := w3) (ot5 B (by omega) (by omega))).trans hS3.1, (World.cell?_of_block (w := w3) (ot5 (B + 1) (by omega) (by omega))).trans hS3.2⟩
      refine hK.out _ _ Sw5 (fun hHeld => ?_)
      clear hK K hw5 m0 m1 m2 m3 m4 m5 mf
      try simp only [Act.put, zA, zB, zC, zD, zE, zF]
      refine wpAnyH_done (by kernel_rfl) ?_ _
      go_wp2_with fail
      go_end0
      have hgg : ∀ k, k < w.heap.size → (Value.slice a5 us.length cap5).ownBlock ≠ some k → k ≠ g3 := fun k hk hne e => by
       rcases hAt.out with h9 | h9
       ·exact hne (h9.symm.trans (by rw [e]; rfl))
       ·have h8 : g3 = w1.heap.size := by simpa [Value.ownBlock] using h9
        have := kz.below.size
        omega
      have hr5 : Rd w5 R v s j b' := hRd3.out.keep fun k hk => ot5 k (by omega) (by omega)
      have hXj := hXI.out c j b' rfl
      have e00 : w.heap.size ≤ ((w.alloc (.cells #[.int .i64 0, .bool false, .int .i64 0, .string ⟨#[]⟩, .slice none 0 0, .slice none 0 0] 27)).drew).heap.size := by simp
      have hs35 := hsz3.out
      obtain ⟨kb5, jl5⟩ := HJ.out.more HELS.out hu e00 (by omega) (by omega) OV5 (fun g hg => by
        rcases hAt.out with h9 | h9
        ·exact .inl (h9.symm.trans hg)
        ·have h8 : g = w1.heap.size := by have := hg.symm.trans h9; simpa using this
         exact .inr ⟨by omega, by omega⟩
       ) hBox5 (fun k hk hkR hkB hne => (ot5 k (hgg k hk hne) hkB).trans (hG.out k hk hkR hne)) (fun k hk hlt => by
        have hk1 := hk.1
        have hk2 := hk.2
        refine (ot5 k (fun e => ?_) (by omega)).trans (hK1.out k hk hlt)
        rcases hAt.out with h9 | h9
        ·have := (World.ownsRow.lt HELS.out.own.1 g3 (h9.symm.trans rfl)).2
         omega
        ·have h8 : g3 = w1.heap.size := by simpa [Value.ownBlock] using h9
         omega
       ) hr5 (by omega) bel5
      exact ⟨kb5, rfl, jl5⟩
     ·go_simp
      obtain ⟨w4, hw4⟩ : ∃ w4, w3.setCell ⟨B + 3, 5, none⟩ (.slice (some ⟨g3, 0, none⟩) (us.length + 1) cap3) = w4 := ⟨_, rfl⟩
      rw [hw4]
      have ot4 : ∀ k, k ≠ B + 3 → w4.heap[k]? = w3.heap[k]? := fun k hk2 => by rw [← hw4]; exact Below.heap_setCell _ _ _ _ hk2
      have ot4' : ∀ k, k ≠ g3 → k ≠ B + 3 → w4.heap[k]? = w3.heap[k]? := fun k _ hk2 => ot4 k hk2
      have hbx4 : w4.heap[B + 3]? = some (.cells #[.int .i64 5, .bool false, .int .i64 0, .string ⟨#[]⟩, .slice none 0 0, (.slice (some ⟨g3, 0, none⟩) (us.length + 1) cap3)] 27 (0, 0)) := by rw [← hw4, bset HBX3.out]; rfl
      have OV4 : OwnV w4 (B + 4) (.slice (some ⟨g3, 0, none⟩) (us.length + 1) cap3) (us ++ [.agg #[.int .i64 0, .bool false, .int .i64 0, .string ⟨#[]⟩, .slice none 0 0, .slice none 0 0]]) := ⟨Fresh.own_keep OV3.out.1 fun g hg => ot4 g (hgB g hg), OV3.out.2⟩
      have sz4 : w4.heap.size = w3.heap.size := by rw [← hw4]; simp [World.setCell]
      have bel4 : Below R w w4 := by rw [← hw4]; exact hBel3.out.setCell (p := ⟨B + 3, 5, none⟩) (by simp; omega) _
      clear c0 c1 c2 c3 c4 c5 f0 f1 f2 f3 f4 f5 m0 m1 m2 m3 m4 m5 mf hw4
      obtain ⟨q0', q1', q2', q3', q4', q5', eq, c0, c1, c2, c3, c4, c5⟩ := ownV_six OV4 us.length (by simp)
      have fz := fun j => Copied.frozen_own OV4.1 j
      rw [Nat.zero_add] at c0 c1 c2 c3 c4 c5
      have f0 := fz (us.length * 6)
      have f1 := fz (us.length * 6 + 1)
      have f2 := fz (us.length * 6 + 2)
      have f3 := fz (us.length * 6 + 3)
      have f4 := fz (us.length * 6 + 4)
      have f5 := fz (us.length * 6 + 5)
      clear fz eq
      have Sw4 : (fun w' => w'.cell? ⟨B, 0, none⟩ = some (.pointer (some ⟨R, 0, none⟩)) ∧ w'.cell? ⟨B + 1, 0, none⟩ = some (.int .i64 (d : Nat))) w4 := ⟨(World.cell?_of_block (w := w3) (ot4' B (by omega) (by omega))).trans hS3.1, (World.cell?_of_block (w := w3) (ot4' (B + 1) (by omega) (by omega))).trans hS3.2⟩
      refine hK.out _ _ Sw4 (fun hHeld => ?_)
      clear hK K
      try simp only [Act.put, zA, zB, zC, zD, zE, zF]
      refine wpAnyH_ready (rs := [10]) (by kernel_rfl) (by simp) ?_
      refine AllReadyH.cons rfl (fun K hK => ?_) AllReadyH.nil
      go_simp
      obtain ⟨w5, hw5⟩ : ∃ w5, ((((((w4.setCell ⟨g3, us.length * 6, none⟩ (.int .i64 c.k)).setCell ⟨g3, us.length * 6 + 1, none⟩ (.bool c.b)).setCell ⟨g3, us.length * 6 + 2, none⟩ (.int .i64 c.i)).setCell ⟨g3, us.length * 6 + 3, none⟩ (.string c.s)).setCell ⟨g3, us.length * 6 + 4, none⟩ (.slice p1 y1 r1)).setCell ⟨g3, us.length * 6 + 5, none⟩ (.slice p2 y2 r2)) = w5 := ⟨_, rfl⟩
      rw [hw5]
      obtain ⟨OV5, oth5, sz5', bel5'⟩ := set_last OV4 hone hw5
      have ot5 : ∀ k, k ≠ g3 → k ≠ B + 3 → w5.heap[k]? = w3.heap[k]? := fun k hk hk2 => (oth5 k hk).trans (ot4 k hk2)
      have hBox5 := (oth5 (B + 3) gB).trans hbx4
      have sz5 : w5.heap.size = w3.heap.size := sz5'.trans sz4
      have bel5 : Below R w w5 := bel5' w R (by omega) bel4
      have Sw5 : (fun w' => w'.cell? ⟨B, 0, none⟩ = some (.pointer (some ⟨R, 0, none⟩)) ∧ w'.cell? ⟨B + 1, 0, none⟩ = some (.int .i64 (d : Nat))) w5 := ⟨(World.cell?_of_block (w := w3) (ot5 B (by omega) (by omega))).trans hS3.1, (World.cell?_of_block (w := w3) (ot5 (B + 1) (by omega) (by omega))).trans hS3.2⟩
      refine hK.out _ _ Sw5 (fun hHeld => ?_)
      clear hK K hw5 c0 c1 c2 c3 c4 c5 f0 f1 f2 f3 f4 f5
      try simp only [Act.put, zA, zB, zC, zD, zE, zF]
      refine wpAnyH_done (by kernel_rfl) ?_ _
      go_wp2_with fail
      go_end0
      have hgg : ∀ k, k < w.heap.size → (Value.slice a5 us.length cap5).ownBlock ≠ some k → k ≠ g3 := fun k hk hne e => by
       rcases hAt.out with h9 | h9
       ·exact hne (h9.symm.trans (by rw [e]; rfl))
       ·have h8 : g3 = w1.heap.size := by simpa [Value.ownBlock] using h9
        have := kz.below.size
        omega
      have hr5 : Rd w5 R v s j b' := hRd3.out.keep fun k hk => ot5 k (by omega) (by omega)
      have hXj := hXI.out c j b' rfl
      have e00 : w.heap.size ≤ ((w.alloc (.cells #[.int .i64 0, .bool false, .int .i64 0, .string ⟨#[]⟩, .slice none 0 0, .slice none 0 0] 27)).drew).heap.size := by simp
      have hs35 := hsz3.out
      obtain ⟨kb5, jl5⟩ := HJ.out.more HELS.out hu e00 (by omega) (by omega) OV5 (fun g hg => by
        rcases hAt.out with h9 | h9
        ·exact .inl (h9.symm.trans hg)
        ·have h8 : g = w1.heap.size := by have := hg.symm.trans h9; simpa using this
         exact .inr ⟨by omega, by omega⟩
       ) hBox5 (fun k hk hkR hkB hne => (ot5 k (hgg k hk hne) hkB).trans (hG.out k hk hkR hne)) (fun k hk hlt => by
        have hk1 := hk.1
        have hk2 := hk.2
        refine (ot5 k (fun e => ?_) (by omega)).trans (hK1.out k hk hlt)
        rcases hAt.out with h9 | h9
        ·have := (World.ownsRow.lt HELS.out.own.1 g3 (h9.symm.trans rfl)).2
         omega
        ·have h8 : g3 = w1.heap.size := by simpa [Value.ownBlock] using h9
         omega
       ) hr5 (by omega) bel5
      exact ⟨kb5, rfl, jl5⟩
end Go.Proofs.YthkpbhgbmagaeaaGreatDoor.LOne
