import Derived.Test.YthkpbhgbmagaeaaGreatDoorP22
import Derived.Test.YthkpbhgbmagaeaaGreatDoorP25
import Derived.Test.YthkpbhgbmagaeaaGreatDoorP31
namespace Go.Proofs.YthkpbhgbmagaeaaGreatDoor.Val
open Go.RowKit Go.Proofs.YthkpbhgbmagaeaaGreatDoor.Base Go.Proofs.YthkpbhgbmagaeaaGreatDoor.UBase Go.Proofs.YthkpbhgbmagaeaaGreatDoor.Spec Go.Proofs.YthkpbhgbmagaeaaGreatDoor.Rdr Go.Proofs.YthkpbhgbmagaeaaGreatDoor.Take Go.Proofs.YthkpbhgbmagaeaaGreatDoor.Skip Go.Proofs.YthkpbhgbmagaeaaGreatDoor.Text Go.Proofs.YthkpbhgbmagaeaaGreatDoor.NumC Go.Proofs.YthkpbhgbmagaeaaGreatDoor.RowR Go.Proofs.YthkpbhgbmagaeaaGreatDoor.Own Go.Proofs.YthkpbhgbmagaeaaGreatDoor.LState Go.Proofs.YthkpbhgbmagaeaaGreatDoor.List
set_option linter.unusedVariables false
/-- What comes of reading a value. -/
def Out (R m : Nat) (v : Value) (s : ByteArray) (w : World) (X : Except F (C × Nat × Nat)) (e : Ending) (w' : World) : Prop := Kr R w w' ∧ match X with
  | .ok (c, j, b') => (∃ u, e = .returned u ∧ Fs w' m (Rg w.heap.size w'.heap.size) u c) ∧ Rd w' R v s j b'
  | .error x => e = .panicked (pk x)
theorem fs_shape {w : World} {m : Nat} {S : Nat → Prop} {u : Value} {k x : Int} {bo : Bool} {t : ByteArray} {nn : List ByteArray} {l : List C} (h : Fs w m S u (.mk k bo x t nn l)) : ∃ an ln cn al ll cl, u = .agg #[.int .i64 k, .bool bo, .int .i64 x, .string t, .slice an ln cn, .slice al ll cl] := by
 cases m with
 | zero => rw [Fs] at h; exact h.elim
 | succ m =>
  rw [Fs] at h
  obtain ⟨nv, lv, us, T, rfl, -, -, -, -, -, -, hT, -, hV, -⟩ := h
  obtain ⟨a1, l1, c1, rfl⟩ : ∃ a l c, nv = .slice a l c := by
   rcases hT.2 with ⟨e, _⟩ | ⟨g, cap, cur, e, _⟩
   ·exact ⟨_, _, _, e⟩
   ·exact ⟨_, _, _, e⟩
  obtain ⟨a2, l2, c2, rfl⟩ : ∃ a l c, lv = .slice a l c := by
   rcases hV.1.2 with ⟨e, _⟩ | ⟨g, cap, cur, e, _⟩
   ·exact ⟨_, _, _, e⟩
   ·exact ⟨_, _, _, e⟩
  exact ⟨_, _, _, _, _, _, rfl⟩
def wK (k : Int) (bo : Bool) (b : Nat) : Except F Nat → Except F (C × Nat × Nat)
 | .error e => .error e
 | .ok j => .ok (.mk k bo 0 ⟨#[]⟩ [] [], j, b)
def tK (b : Nat) : Except F (ByteArray × Nat) → Except F (C × Nat × Nat)
 | .error e => .error e
 | .ok (t, j) => .ok (.mk 4 false 0 t [] [], j, b)
def nK (b : Nat) : Except F (Int × Nat) → Except F (C × Nat × Nat)
 | .error e => .error e
 | .ok (x, j) => .ok (.mk 3 false x ⟨#[]⟩ [] [], j, b)
set_option maxRecDepth 20000 in
set_option maxHeartbeats 1600000 in
theorem value_err {d R : Nat} {v : Value} {s : ByteArray} {w : World} {i b : Nat} {x : F} (hd : d ≤ 25) (h : Rd w R v s i b) (hx : bgn d (blk s i) b (at' s (blk s i)) = .error x) :
  Calls Tryz.prog 24 #[ptr R, .int .i64 d] w fun e w' => Kr R w w' ∧ e = .panicked (pk x) := by
 obtain ⟨W0, hW0⟩ : ∃ W0, w.alloc (.cells #[.int .i64 0, .bool false, .int .i64 0, .string ⟨#[]⟩, .slice none 0 0, .slice none 0 0] 27) = W0 := ⟨_, rfl⟩
 have hRl := h.lt
 have k0 : Kr R w W0 := by rw [← hW0]; exact (Kr.refl R w).alloc (by omega) _
 have s0 : W0.heap.size = w.heap.size + 1 := by rw [← hW0]; simp
 have hz : W0.heap[w.heap.size]? = some (.cells #[.int .i64 0, .bool false, .int .i64 0, .string ⟨#[]⟩, .slice none 0 0, .slice none 0 0] 27 (0, 0)) := by rw [← hW0]; exact heap_alloc_new w _
 have hr0 : Rd W0 R v s i b := by rw [← hW0]; exact h.below ((Below.refl _ w).alloc (Nat.le_refl _) _)
 have c40 := blanks_c hr0
 rw [← hW0] at c40
 have HW0 : Hid (w.alloc (.cells #[.int .i64 0, .bool false, .int .i64 0, .string ⟨#[]⟩, .slice none 0 0, .slice none 0 0] 27) = W0) := hW0
 have HB : Hid (∀ w', Rd w' R v s (blk s i) b → Calls Tryz.prog 36 #[ptr R, .int .i64 d] w' fun e w'' => Kr R w' w'' ∧ e = .panicked (pk x)) := fun w' h' => by
  have := begin_c d hd h'
  rw [hx] at this
  exact this
 clear hx hr0 hW0 hz
 unfold ptr at c40 HB ⊢
 clear h
 go_enter Tryz.func24, Tryz.ntmps24
 go_wp2_with (go_at_call 25; refine c40.mono ?_; rintro e w1 ⟨⟨r1, rfl⟩, h1, k1⟩; rw [HW0.out] at k1; have cb := HB.out w1 h1)
 go_wp2_with (go_at_call 36; refine cb.mono ?_; rintro e w2 ⟨k2, rfl⟩)
 exact ⟨rfl, (k0.trans k1).trans k2, rfl⟩
set_option maxRecDepth 20000 in
set_option maxHeartbeats 1600000 in
theorem vnull_c {n d R : Nat} {v : Value} {s : ByteArray} {w : World} {i b : Nat} (hd : d ≤ 24) (h : Rd w R v s i b) (hb : bgn d (blk s i) b (at' s (blk s i)) = .ok ()) (hc : at' s (blk s i) = 110) :
  Calls Tryz.prog 24 #[ptr R, .int .i64 d] w (Out R (n + 1) v s w (wK 1 false (b + 1) (wd s [110, 117, 108, 108] (blk s i)))) := by
 have hp : blk s i < s.size := at_in (by omega)
 obtain ⟨W0, hW0⟩ : ∃ W0, w.alloc (.cells #[.int .i64 0, .bool false, .int .i64 0, .string ⟨#[]⟩, .slice none 0 0, .slice none 0 0] 27) = W0 := ⟨_, rfl⟩
 have hRl := h.lt
 have k0 : Kr R w W0 := by rw [← hW0]; exact (Kr.refl R w).alloc (by omega) _
 have s0 : W0.heap.size = w.heap.size + 1 := by rw [← hW0]; simp
 have hz : W0.heap[w.heap.size]? = some (.cells #[.int .i64 0, .bool false, .int .i64 0, .string ⟨#[]⟩, .slice none 0 0, .slice none 0 0] 27 (0, 0)) := by rw [← hW0]; exact heap_alloc_new w _
 have hr0 : Rd W0 R v s i b := by rw [← hW0]; exact h.below ((Below.refl _ w).alloc (Nat.le_refl _) _)
 have c40 := blanks_c hr0
 rw [← hW0] at c40
 have HW0 : Hid (w.alloc (.cells #[.int .i64 0, .bool false, .int .i64 0, .string ⟨#[]⟩, .slice none 0 0, .slice none 0 0] 27) = W0) := hW0
 have HB : Hid (∀ w', Rd w' R v s (blk s i) b → Calls Tryz.prog 36 #[ptr R, .int .i64 d] w' fun e w'' => Kr R w' w'' ∧ (∃ r, e = .returned r) ∧ Rd w'' R v s (blk s i) (b + 1)) := fun w' h' => by
  have := begin_c d (by omega) h'
  rw [hb] at this
  exact this
 have HN : Hid (∀ w', Rd w' R v s (blk s i) (b + 1) → Calls Tryz.prog 37 #[ptr R] w' fun e w'' => e = .returned (.int .u8 110) ∧ w'' = w'.drew.drew) := fun w' h' => by
  have := next_c h' hp
  rw [hc] at this
  exact this
 have HC : Hid (∀ w', Rd w' R v s (blk s i) (b + 1) → Calls Tryz.prog 38 #[ptr R, .string ⟨#[110, 117, 108, 108]⟩] w' fun e w'' => Kr R w' w'' ∧ match wd s [110, 117, 108, 108] (blk s i) with
  | .ok j => (∃ r, e = .returned r) ∧ Rd w'' R v s j (b + 1)
  | .error x => e = .panicked (pk x)) := fun w' h' => by
  have e : wb ⟨#[110, 117, 108, 108]⟩ = [110, 117, 108, 108] := by decide
  have := word_c ⟨#[110, 117, 108, 108]⟩ (by decide) (by decide) h'
  rw [e] at this
  exact this
 unfold ptr at c40 HB HN HC ⊢
 obtain ⟨X, hX⟩ : ∃ X, wd s [110, 117, 108, 108] (blk s i) = X := ⟨_, rfl⟩
 rw [hX] at HC ⊢
 clear hX hW0 hr0 hb hc h hp
 cases X with
 | error x =>
  have eK : (wK 1 false (b + 1) (.error x) : Except F (C × Nat × Nat)) = .error x := rfl
  rw [eK]
  go_enter Tryz.func24, Tryz.ntmps24
  go_wp2_with (go_at_call 25; refine c40.mono ?_; rintro e w1 ⟨⟨r1, rfl⟩, h1, k1⟩; rw [HW0.out] at k1; have cb := HB.out w1 h1)
  go_wp2_with (go_at_call 36; refine cb.mono ?_; rintro e w2 ⟨k2, ⟨r2, rfl⟩, h2⟩; have cn := HN.out w2 h2; have cc := HC.out _ h2.drew.drew; clear cb)
  go_wp2_with (go_at_call 37; refine cn.mono ?_; rintro e w3 ⟨rfl, rfl⟩; clear cn)
  go_wp2_with (
   go_at_call 38
   refine cc.mono ?_
   rintro e w4 ⟨k4, rfl⟩)
  exact ⟨rfl, (((k0.trans k1).trans k2).trans (Kr.refl R w2).drew.drew).trans k4, rfl⟩
 | ok j =>
  have eK : wK 1 false (b + 1) (.ok j) = .ok (.mk 1 false 0 ⟨#[]⟩ [] [], j, b + 1) := rfl
  rw [eK]
  go_enter Tryz.func24, Tryz.ntmps24
  go_wp2_with (go_at_call 25; refine c40.mono ?_; rintro e w1 ⟨⟨r1, rfl⟩, h1, k1⟩; rw [HW0.out] at k1; have cb := HB.out w1 h1)
  go_wp2_with (go_at_call 36; refine cb.mono ?_; rintro e w2 ⟨k2, ⟨r2, rfl⟩, h2⟩; have cn := HN.out w2 h2; have cc := HC.out _ h2.drew.drew; clear cb)
  go_wp2_with (go_at_call 37; refine cn.mono ?_; rintro e w3 ⟨rfl, rfl⟩; clear cn)
  go_wp2_with (
   go_at_call 38
   refine cc.mono ?_
   rintro e w4 ⟨k4, ⟨r4, rfl⟩, h4⟩
   have kk : Kr R W0 w4 := ((k1.trans k2).trans (Kr.refl R w2).drew.drew).trans k4
   have hres : w4.heap[w.heap.size]? = _ := (kk.other w.heap.size (by omega) (by omega)).trans hz
   obtain ⟨d0, d1, d2, d3, d4, d5⟩ := six_box hres
   have f0 := frozen_box hres 0
   have f1 := frozen_box hres 1
   have f2 := frozen_box hres 2
   have f3 := frozen_box hres 3
   have f4 := frozen_box hres 4
   have f5 := frozen_box hres 5
   have HRES : Hid (w4.heap[w.heap.size]? = some (.cells #[.int .i64 0, .bool false, .int .i64 0, .string ⟨#[]⟩, .slice none 0 0, .slice none 0 0] 27 (0, 0))) := hres
   clear hres cc)
  obtain ⟨W6, hW6⟩ : ∃ W6, ((((((w4.setCell ⟨w.heap.size, 0, none⟩ (.int .i64 1)).setCell ⟨w.heap.size, 1, none⟩ (.bool false)).setCell ⟨w.heap.size, 2, none⟩ (.int .i64 0)).setCell ⟨w.heap.size, 3, none⟩ (.string ⟨#[]⟩)).setCell ⟨w.heap.size, 4, none⟩ (.slice none 0 0)).setCell ⟨w.heap.size, 5, none⟩ (.slice none 0 0)) = W6 := ⟨_, rfl⟩
  rw [hW6]
  obtain ⟨q1, q2, q3, q4⟩ := set6 _ _ _ _ _ _ HRES.out hW6
  refine bodyPost_ret (results_cell_row rfl _ W6 w.heap.size 27 _ (0, 0) _ rfl q1 Tryz.underlying27 rfl (by kernel_rfl)) rfl ?_
  have hs4 := kk.below.size
  exact ⟨⟨q4 _ _ (by omega) (k0.trans kk).below, fun k hk hlt => (q2 k (by omega)).trans ((k0.trans kk).other k hk hlt)⟩, ⟨_, rfl, Fs.plain _ _ _ _ _ _ _ (by decide) (by decide) (by decide)⟩, h4.keep fun k hk => q2 k (by omega)⟩
set_option maxRecDepth 20000 in
set_option maxHeartbeats 1600000 in
theorem vtrue_c {n d R : Nat} {v : Value} {s : ByteArray} {w : World} {i b : Nat} (hd : d ≤ 24) (h : Rd w R v s i b) (hb : bgn d (blk s i) b (at' s (blk s i)) = .ok ()) (hc : at' s (blk s i) = 116) :
  Calls Tryz.prog 24 #[ptr R, .int .i64 d] w (Out R (n + 1) v s w (wK 2 true (b + 1) (wd s [116, 114, 117, 101] (blk s i)))) := by
 have hp : blk s i < s.size := at_in (by omega)
 obtain ⟨W0, hW0⟩ : ∃ W0, w.alloc (.cells #[.int .i64 0, .bool false, .int .i64 0, .string ⟨#[]⟩, .slice none 0 0, .slice none 0 0] 27) = W0 := ⟨_, rfl⟩
 have hRl := h.lt
 have k0 : Kr R w W0 := by rw [← hW0]; exact (Kr.refl R w).alloc (by omega) _
 have s0 : W0.heap.size = w.heap.size + 1 := by rw [← hW0]; simp
 have hz : W0.heap[w.heap.size]? = some (.cells #[.int .i64 0, .bool false, .int .i64 0, .string ⟨#[]⟩, .slice none 0 0, .slice none 0 0] 27 (0, 0)) := by rw [← hW0]; exact heap_alloc_new w _
 have hr0 : Rd W0 R v s i b := by rw [← hW0]; exact h.below ((Below.refl _ w).alloc (Nat.le_refl _) _)
 have c40 := blanks_c hr0
 rw [← hW0] at c40
 have HW0 : Hid (w.alloc (.cells #[.int .i64 0, .bool false, .int .i64 0, .string ⟨#[]⟩, .slice none 0 0, .slice none 0 0] 27) = W0) := hW0
 have HB : Hid (∀ w', Rd w' R v s (blk s i) b → Calls Tryz.prog 36 #[ptr R, .int .i64 d] w' fun e w'' => Kr R w' w'' ∧ (∃ r, e = .returned r) ∧ Rd w'' R v s (blk s i) (b + 1)) := fun w' h' => by
  have := begin_c d (by omega) h'
  rw [hb] at this
  exact this
 have HN : Hid (∀ w', Rd w' R v s (blk s i) (b + 1) → Calls Tryz.prog 37 #[ptr R] w' fun e w'' => e = .returned (.int .u8 116) ∧ w'' = w'.drew.drew) := fun w' h' => by
  have := next_c h' hp
  rw [hc] at this
  exact this
 have HC : Hid (∀ w', Rd w' R v s (blk s i) (b + 1) → Calls Tryz.prog 38 #[ptr R, .string ⟨#[116, 114, 117, 101]⟩] w' fun e w'' => Kr R w' w'' ∧ match wd s [116, 114, 117, 101] (blk s i) with
  | .ok j => (∃ r, e = .returned r) ∧ Rd w'' R v s j (b + 1)
  | .error x => e = .panicked (pk x)) := fun w' h' => by
  have e : wb ⟨#[116, 114, 117, 101]⟩ = [116, 114, 117, 101] := by decide
  have := word_c ⟨#[116, 114, 117, 101]⟩ (by decide) (by decide) h'
  rw [e] at this
  exact this
 unfold ptr at c40 HB HN HC ⊢
 obtain ⟨X, hX⟩ : ∃ X, wd s [116, 114, 117, 101] (blk s i) = X := ⟨_, rfl⟩
 rw [hX] at HC ⊢
 clear hX hW0 hr0 hb hc h hp
 cases X with
 | error x =>
  have eK : (wK 2 true (b + 1) (.error x) : Except F (C × Nat × Nat)) = .error x := rfl
  rw [eK]
  go_enter Tryz.func24, Tryz.ntmps24
  go_wp2_with (go_at_call 25; refine c40.mono ?_; rintro e w1 ⟨⟨r1, rfl⟩, h1, k1⟩; rw [HW0.out] at k1; have cb := HB.out w1 h1)
  go_wp2_with (go_at_call 36; refine cb.mono ?_; rintro e w2 ⟨k2, ⟨r2, rfl⟩, h2⟩; have cn := HN.out w2 h2; have cc := HC.out _ h2.drew.drew; clear cb)
  go_wp2_with (go_at_call 37; refine cn.mono ?_; rintro e w3 ⟨rfl, rfl⟩; clear cn)
  go_wp2_with (
   go_at_call 38
   refine cc.mono ?_
   rintro e w4 ⟨k4, rfl⟩)
  exact ⟨rfl, (((k0.trans k1).trans k2).trans (Kr.refl R w2).drew.drew).trans k4, rfl⟩
 | ok j =>
  have eK : wK 2 true (b + 1) (.ok j) = .ok (.mk 2 true 0 ⟨#[]⟩ [] [], j, b + 1) := rfl
  rw [eK]
  go_enter Tryz.func24, Tryz.ntmps24
  go_wp2_with (go_at_call 25; refine c40.mono ?_; rintro e w1 ⟨⟨r1, rfl⟩, h1, k1⟩; rw [HW0.out] at k1; have cb := HB.out w1 h1)
  go_wp2_with (go_at_call 36; refine cb.mono ?_; rintro e w2 ⟨k2, ⟨r2, rfl⟩, h2⟩; have cn := HN.out w2 h2; have cc := HC.out _ h2.drew.drew; clear cb)
  go_wp2_with (go_at_call 37; refine cn.mono ?_; rintro e w3 ⟨rfl, rfl⟩; clear cn)
  go_wp2_with (
   go_at_call 38
   refine cc.mono ?_
   rintro e w4 ⟨k4, ⟨r4, rfl⟩, h4⟩
   have kk : Kr R W0 w4 := ((k1.trans k2).trans (Kr.refl R w2).drew.drew).trans k4
   have hres : w4.heap[w.heap.size]? = _ := (kk.other w.heap.size (by omega) (by omega)).trans hz
   obtain ⟨d0, d1, d2, d3, d4, d5⟩ := six_box hres
   have f0 := frozen_box hres 0
   have f1 := frozen_box hres 1
   have f2 := frozen_box hres 2
   have f3 := frozen_box hres 3
   have f4 := frozen_box hres 4
   have f5 := frozen_box hres 5
   have HRES : Hid (w4.heap[w.heap.size]? = some (.cells #[.int .i64 0, .bool false, .int .i64 0, .string ⟨#[]⟩, .slice none 0 0, .slice none 0 0] 27 (0, 0))) := hres
   clear hres cc)
  obtain ⟨W6, hW6⟩ : ∃ W6, ((((((w4.setCell ⟨w.heap.size, 0, none⟩ (.int .i64 2)).setCell ⟨w.heap.size, 1, none⟩ (.bool true)).setCell ⟨w.heap.size, 2, none⟩ (.int .i64 0)).setCell ⟨w.heap.size, 3, none⟩ (.string ⟨#[]⟩)).setCell ⟨w.heap.size, 4, none⟩ (.slice none 0 0)).setCell ⟨w.heap.size, 5, none⟩ (.slice none 0 0)) = W6 := ⟨_, rfl⟩
  rw [hW6]
  obtain ⟨q1, q2, q3, q4⟩ := set6 _ _ _ _ _ _ HRES.out hW6
  refine bodyPost_ret (results_cell_row rfl _ W6 w.heap.size 27 _ (0, 0) _ rfl q1 Tryz.underlying27 rfl (by kernel_rfl)) rfl ?_
  have hs4 := kk.below.size
  exact ⟨⟨q4 _ _ (by omega) (k0.trans kk).below, fun k hk hlt => (q2 k (by omega)).trans ((k0.trans kk).other k hk hlt)⟩, ⟨_, rfl, Fs.plain _ _ _ _ _ _ _ (by decide) (by decide) (by decide)⟩, h4.keep fun k hk => q2 k (by omega)⟩
set_option maxRecDepth 20000 in
set_option maxHeartbeats 1600000 in
theorem vfalse_c {n d R : Nat} {v : Value} {s : ByteArray} {w : World} {i b : Nat} (hd : d ≤ 24) (h : Rd w R v s i b) (hb : bgn d (blk s i) b (at' s (blk s i)) = .ok ()) (hc : at' s (blk s i) = 102) :
  Calls Tryz.prog 24 #[ptr R, .int .i64 d] w (Out R (n + 1) v s w (wK 2 false (b + 1) (wd s [102, 97, 108, 115, 101] (blk s i)))) := by
 have hp : blk s i < s.size := at_in (by omega)
 obtain ⟨W0, hW0⟩ : ∃ W0, w.alloc (.cells #[.int .i64 0, .bool false, .int .i64 0, .string ⟨#[]⟩, .slice none 0 0, .slice none 0 0] 27) = W0 := ⟨_, rfl⟩
 have hRl := h.lt
 have k0 : Kr R w W0 := by rw [← hW0]; exact (Kr.refl R w).alloc (by omega) _
 have s0 : W0.heap.size = w.heap.size + 1 := by rw [← hW0]; simp
 have hz : W0.heap[w.heap.size]? = some (.cells #[.int .i64 0, .bool false, .int .i64 0, .string ⟨#[]⟩, .slice none 0 0, .slice none 0 0] 27 (0, 0)) := by rw [← hW0]; exact heap_alloc_new w _
 have hr0 : Rd W0 R v s i b := by rw [← hW0]; exact h.below ((Below.refl _ w).alloc (Nat.le_refl _) _)
 have c40 := blanks_c hr0
 rw [← hW0] at c40
 have HW0 : Hid (w.alloc (.cells #[.int .i64 0, .bool false, .int .i64 0, .string ⟨#[]⟩, .slice none 0 0, .slice none 0 0] 27) = W0) := hW0
 have HB : Hid (∀ w', Rd w' R v s (blk s i) b → Calls Tryz.prog 36 #[ptr R, .int .i64 d] w' fun e w'' => Kr R w' w'' ∧ (∃ r, e = .returned r) ∧ Rd w'' R v s (blk s i) (b + 1)) := fun w' h' => by
  have := begin_c d (by omega) h'
  rw [hb] at this
  exact this
 have HN : Hid (∀ w', Rd w' R v s (blk s i) (b + 1) → Calls Tryz.prog 37 #[ptr R] w' fun e w'' => e = .returned (.int .u8 102) ∧ w'' = w'.drew.drew) := fun w' h' => by
  have := next_c h' hp
  rw [hc] at this
  exact this
 have HC : Hid (∀ w', Rd w' R v s (blk s i) (b + 1) → Calls Tryz.prog 38 #[ptr R, .string ⟨#[102, 97, 108, 115, 101]⟩] w' fun e w'' => Kr R w' w'' ∧ match wd s [102, 97, 108, 115, 101] (blk s i) with
  | .ok j => (∃ r, e = .returned r) ∧ Rd w'' R v s j (b + 1)
  | .error x => e = .panicked (pk x)) := fun w' h' => by
  have e : wb ⟨#[102, 97, 108, 115, 101]⟩ = [102, 97, 108, 115, 101] := by decide
  have := word_c ⟨#[102, 97, 108, 115, 101]⟩ (by decide) (by decide) h'
  rw [e] at this
  exact this
 unfold ptr at c40 HB HN HC ⊢
 obtain ⟨X, hX⟩ : ∃ X, wd s [102, 97, 108, 115, 101] (blk s i) = X := ⟨_, rfl⟩
 rw [hX] at HC ⊢
 clear hX hW0 hr0 hb hc h hp
 cases X with
 | error x =>
  have eK : (wK 2 false (b + 1) (.error x) : Except F (C × Nat × Nat)) = .error x := rfl
  rw [eK]
  go_enter Tryz.func24, Tryz.ntmps24
  go_wp2_with (go_at_call 25; refine c40.mono ?_; rintro e w1 ⟨⟨r1, rfl⟩, h1, k1⟩; rw [HW0.out] at k1; have cb := HB.out w1 h1)
  go_wp2_with (go_at_call 36; refine cb.mono ?_; rintro e w2 ⟨k2, ⟨r2, rfl⟩, h2⟩; have cn := HN.out w2 h2; have cc := HC.out _ h2.drew.drew; clear cb)
  go_wp2_with (go_at_call 37; refine cn.mono ?_; rintro e w3 ⟨rfl, rfl⟩; clear cn)
  go_wp2_with (
   go_at_call 38
   refine cc.mono ?_
   rintro e w4 ⟨k4, rfl⟩)
  exact ⟨rfl, (((k0.trans k1).trans k2).trans (Kr.refl R w2).drew.drew).trans k4, rfl⟩
 | ok j =>
  have eK : wK 2 false (b + 1) (.ok j) = .ok (.mk 2 false 0 ⟨#[]⟩ [] [], j, b + 1) := rfl
  rw [eK]
  go_enter Tryz.func24, Tryz.ntmps24
  go_wp2_with (go_at_call 25; refine c40.mono ?_; rintro e w1 ⟨⟨r1, rfl⟩, h1, k1⟩; rw [HW0.out] at k1; have cb := HB.out w1 h1)
  go_wp2_with (go_at_call 36; refine cb.mono ?_; rintro e w2 ⟨k2, ⟨r2, rfl⟩, h2⟩; have cn := HN.out w2 h2; have cc := HC.out _ h2.drew.drew; clear cb)
  go_wp2_with (go_at_call 37; refine cn.mono ?_; rintro e w3 ⟨rfl, rfl⟩; clear cn)
  go_wp2_with (
   go_at_call 38
   refine cc.mono ?_
   rintro e w4 ⟨k4, ⟨r4, rfl⟩, h4⟩
   have kk : Kr R W0 w4 := ((k1.trans k2).trans (Kr.refl R w2).drew.drew).trans k4
   have hres : w4.heap[w.heap.size]? = _ := (kk.other w.heap.size (by omega) (by omega)).trans hz
   obtain ⟨d0, d1, d2, d3, d4, d5⟩ := six_box hres
   have f0 := frozen_box hres 0
   have f1 := frozen_box hres 1
   have f2 := frozen_box hres 2
   have f3 := frozen_box hres 3
   have f4 := frozen_box hres 4
   have f5 := frozen_box hres 5
   have HRES : Hid (w4.heap[w.heap.size]? = some (.cells #[.int .i64 0, .bool false, .int .i64 0, .string ⟨#[]⟩, .slice none 0 0, .slice none 0 0] 27 (0, 0))) := hres
   clear hres cc)
  obtain ⟨W6, hW6⟩ : ∃ W6, ((((((w4.setCell ⟨w.heap.size, 0, none⟩ (.int .i64 2)).setCell ⟨w.heap.size, 1, none⟩ (.bool false)).setCell ⟨w.heap.size, 2, none⟩ (.int .i64 0)).setCell ⟨w.heap.size, 3, none⟩ (.string ⟨#[]⟩)).setCell ⟨w.heap.size, 4, none⟩ (.slice none 0 0)).setCell ⟨w.heap.size, 5, none⟩ (.slice none 0 0)) = W6 := ⟨_, rfl⟩
  rw [hW6]
  obtain ⟨q1, q2, q3, q4⟩ := set6 _ _ _ _ _ _ HRES.out hW6
  refine bodyPost_ret (results_cell_row rfl _ W6 w.heap.size 27 _ (0, 0) _ rfl q1 Tryz.underlying27 rfl (by kernel_rfl)) rfl ?_
  have hs4 := kk.below.size
  exact ⟨⟨q4 _ _ (by omega) (k0.trans kk).below, fun k hk hlt => (q2 k (by omega)).trans ((k0.trans kk).other k hk hlt)⟩, ⟨_, rfl, Fs.plain _ _ _ _ _ _ _ (by decide) (by decide) (by decide)⟩, h4.keep fun k hk => q2 k (by omega)⟩
set_option maxRecDepth 20000 in
set_option maxHeartbeats 1600000 in
theorem vtext_c {n d R : Nat} {v : Value} {s : ByteArray} {w : World} {i b : Nat} (hd : d ≤ 24) (h : Rd w R v s i b) (hb : bgn d (blk s i) b (at' s (blk s i)) = .ok ()) (hc : at' s (blk s i) = 34) :
  Calls Tryz.prog 24 #[ptr R, .int .i64 d] w (Out R (n + 1) v s w (tK (b + 1) (txt s (blk s i)))) := by
 have hp : blk s i < s.size := at_in (by omega)
 obtain ⟨W0, hW0⟩ : ∃ W0, w.alloc (.cells #[.int .i64 0, .bool false, .int .i64 0, .string ⟨#[]⟩, .slice none 0 0, .slice none 0 0] 27) = W0 := ⟨_, rfl⟩
 have hRl := h.lt
 have k0 : Kr R w W0 := by rw [← hW0]; exact (Kr.refl R w).alloc (by omega) _
 have s0 : W0.heap.size = w.heap.size + 1 := by rw [← hW0]; simp
 have hz : W0.heap[w.heap.size]? = some (.cells #[.int .i64 0, .bool false, .int .i64 0, .string ⟨#[]⟩, .slice none 0 0, .slice none 0 0] 27 (0, 0)) := by rw [← hW0]; exact heap_alloc_new w _
 have hr0 : Rd W0 R v s i b := by rw [← hW0]; exact h.below ((Below.refl _ w).alloc (Nat.le_refl _) _)
 have c40 := blanks_c hr0
 rw [← hW0] at c40
 have HW0 : Hid (w.alloc (.cells #[.int .i64 0, .bool false, .int .i64 0, .string ⟨#[]⟩, .slice none 0 0, .slice none 0 0] 27) = W0) := hW0
 have HB : Hid (∀ w', Rd w' R v s (blk s i) b → Calls Tryz.prog 36 #[ptr R, .int .i64 d] w' fun e w'' => Kr R w' w'' ∧ (∃ r, e = .returned r) ∧ Rd w'' R v s (blk s i) (b + 1)) := fun w' h' => by
  have := begin_c d (by omega) h'
  rw [hb] at this
  exact this
 have HN : Hid (∀ w', Rd w' R v s (blk s i) (b + 1) → Calls Tryz.prog 37 #[ptr R] w' fun e w'' => e = .returned (.int .u8 34) ∧ w'' = w'.drew.drew) := fun w' h' => by
  have := next_c h' hp
  rw [hc] at this
  exact this
 have HC : Hid (∀ w', Rd w' R v s (blk s i) (b + 1) → Calls Tryz.prog 39 #[ptr R] w' fun e w'' => Kr R w' w'' ∧ match txt s (blk s i) with
  | .ok (t, j) => e = .returned (.string t) ∧ Rd w'' R v s j (b + 1)
  | .error x => e = .panicked (pk x)) := fun w' h' => by
  have := text_c h'
  exact this
 unfold ptr at c40 HB HN HC ⊢
 obtain ⟨X, hX⟩ : ∃ X, txt s (blk s i) = X := ⟨_, rfl⟩
 rw [hX] at HC ⊢
 have HF : Hid (∀ t j, X = .ok (t, j) → t.size ≤ 4096) := fun t j hX2 => by subst hX2; exact (SpecIn.txt_in hX).2.2.1
 clear hX hW0 hr0 hb hc h hp
 cases X with
 | error x =>
  have eK : (tK (b + 1) (.error x) : Except F (C × Nat × Nat)) = .error x := rfl
  rw [eK]
  go_enter Tryz.func24, Tryz.ntmps24
  go_wp2_with (go_at_call 25; refine c40.mono ?_; rintro e w1 ⟨⟨r1, rfl⟩, h1, k1⟩; rw [HW0.out] at k1; have cb := HB.out w1 h1)
  go_wp2_with (go_at_call 36; refine cb.mono ?_; rintro e w2 ⟨k2, ⟨r2, rfl⟩, h2⟩; have cn := HN.out w2 h2; have cc := HC.out _ h2.drew.drew; clear cb)
  go_wp2_with (go_at_call 37; refine cn.mono ?_; rintro e w3 ⟨rfl, rfl⟩; clear cn)
  go_wp2_with (
   go_at_call 39
   refine cc.mono ?_
   rintro e w4 ⟨k4, rfl⟩)
  exact ⟨rfl, (((k0.trans k1).trans k2).trans (Kr.refl R w2).drew.drew).trans k4, rfl⟩
 | ok y =>
  obtain ⟨t, j⟩ := y
  have hfact : Hid (t.size ≤ 4096) := HF.out t j rfl
  have eK : tK (b + 1) (.ok (t, j)) = .ok (.mk 4 false 0 t [] [], j, b + 1) := rfl
  rw [eK]
  go_enter Tryz.func24, Tryz.ntmps24
  go_wp2_with (go_at_call 25; refine c40.mono ?_; rintro e w1 ⟨⟨r1, rfl⟩, h1, k1⟩; rw [HW0.out] at k1; have cb := HB.out w1 h1)
  go_wp2_with (go_at_call 36; refine cb.mono ?_; rintro e w2 ⟨k2, ⟨r2, rfl⟩, h2⟩; have cn := HN.out w2 h2; have cc := HC.out _ h2.drew.drew; clear cb)
  go_wp2_with (go_at_call 37; refine cn.mono ?_; rintro e w3 ⟨rfl, rfl⟩; clear cn)
  go_wp2_with (
   go_at_call 39
   refine cc.mono ?_
   rintro e w4 ⟨k4, rfl, h4⟩
   have kk : Kr R W0 w4 := ((k1.trans k2).trans (Kr.refl R w2).drew.drew).trans k4
   have hres : w4.heap[w.heap.size]? = _ := (kk.other w.heap.size (by omega) (by omega)).trans hz
   obtain ⟨d0, d1, d2, d3, d4, d5⟩ := six_box hres
   have f0 := frozen_box hres 0
   have f1 := frozen_box hres 1
   have f2 := frozen_box hres 2
   have f3 := frozen_box hres 3
   have f4 := frozen_box hres 4
   have f5 := frozen_box hres 5
   have HRES : Hid (w4.heap[w.heap.size]? = some (.cells #[.int .i64 0, .bool false, .int .i64 0, .string ⟨#[]⟩, .slice none 0 0, .slice none 0 0] 27 (0, 0))) := hres
   clear hres cc)
  obtain ⟨W6, hW6⟩ : ∃ W6, ((((((w4.setCell ⟨w.heap.size, 0, none⟩ (.int .i64 4)).setCell ⟨w.heap.size, 1, none⟩ (.bool false)).setCell ⟨w.heap.size, 2, none⟩ (.int .i64 0)).setCell ⟨w.heap.size, 3, none⟩ (.string t)).setCell ⟨w.heap.size, 4, none⟩ (.slice none 0 0)).setCell ⟨w.heap.size, 5, none⟩ (.slice none 0 0)) = W6 := ⟨_, rfl⟩
  rw [hW6]
  obtain ⟨q1, q2, q3, q4⟩ := set6 _ _ _ _ _ _ HRES.out hW6
  refine bodyPost_ret (results_cell_row rfl _ W6 w.heap.size 27 _ (0, 0) _ rfl q1 Tryz.underlying27 rfl (by kernel_rfl)) rfl ?_
  have hs4 := kk.below.size
  exact ⟨⟨q4 _ _ (by omega) (k0.trans kk).below, fun k hk hlt => (q2 k (by omega)).trans ((k0.trans kk).other k hk hlt)⟩, ⟨_, rfl, Fs.plain _ _ _ _ _ _ _ (by decide) (by decide) (by have := hfact.out; omega)⟩, h4.keep fun k hk => q2 k (by omega)⟩
set_option maxRecDepth 20000 in
set_option maxHeartbeats 1600000 in
theorem vnum_c {n d R : Nat} {v : Value} {s : ByteArray} {w : World} {i b : Nat} (hd : d ≤ 24) (h : Rd w R v s i b) (hb : bgn d (blk s i) b (at' s (blk s i)) = .ok ()) (hc : at' s (blk s i) = 45 ∨ dig (at' s (blk s i)) = true) :
  Calls Tryz.prog 24 #[ptr R, .int .i64 d] w (Out R (n + 1) v s w (nK (b + 1) (nm s (blk s i)))) := by
 have hc0 : at' s (blk s i) ≠ 0 := by
  rcases hc with e | e
  ·omega
  ·simp [dig] at e; omega
 have hp : blk s i < s.size := at_in hc0
 obtain ⟨W0, hW0⟩ : ∃ W0, w.alloc (.cells #[.int .i64 0, .bool false, .int .i64 0, .string ⟨#[]⟩, .slice none 0 0, .slice none 0 0] 27) = W0 := ⟨_, rfl⟩
 have hRl := h.lt
 have k0 : Kr R w W0 := by rw [← hW0]; exact (Kr.refl R w).alloc (by omega) _
 have s0 : W0.heap.size = w.heap.size + 1 := by rw [← hW0]; simp
 have hz : W0.heap[w.heap.size]? = some (.cells #[.int .i64 0, .bool false, .int .i64 0, .string ⟨#[]⟩, .slice none 0 0, .slice none 0 0] 27 (0, 0)) := by rw [← hW0]; exact heap_alloc_new w _
 have hr0 : Rd W0 R v s i b := by rw [← hW0]; exact h.below ((Below.refl _ w).alloc (Nat.le_refl _) _)
 have c40 := blanks_c hr0
 rw [← hW0] at c40
 have HW0 : Hid (w.alloc (.cells #[.int .i64 0, .bool false, .int .i64 0, .string ⟨#[]⟩, .slice none 0 0, .slice none 0 0] 27) = W0) := hW0
 have HB : Hid (∀ w', Rd w' R v s (blk s i) b → Calls Tryz.prog 36 #[ptr R, .int .i64 d] w' fun e w'' => Kr R w' w'' ∧ (∃ r, e = .returned r) ∧ Rd w'' R v s (blk s i) (b + 1)) := fun w' h' => by
  have := begin_c d (by omega) h'
  rw [hb] at this
  exact this
 obtain ⟨c, hcc⟩ : ∃ c : Nat, at' s (blk s i) = c := ⟨_, rfl⟩
 have hcs : c = 45 ∨ (48 ≤ c ∧ c ≤ 57) := by rw [hcc] at hc; simpa [dig] using hc
 have n110 : ¬ ((c : Int) = 110) := by omega
 have n116 : ¬ ((c : Int) = 116) := by omega
 have n102 : ¬ ((c : Int) = 102) := by omega
 have n34 : ¬ ((c : Int) = 34) := by omega
 have n91 : ¬ ((c : Int) = 91) := by omega
 have n123 : ¬ ((c : Int) = 123) := by omega
 have HN : Hid (∀ w', Rd w' R v s (blk s i) (b + 1) → Calls Tryz.prog 37 #[ptr R] w' fun e w'' => e = .returned (.int .u8 (c : Nat)) ∧ w'' = w'.drew.drew) := fun w' h' => by
  have := next_c h' hp
  rw [hcc] at this
  exact this
 have HC : Hid (∀ w', Rd w' R v s (blk s i) (b + 1) → Calls Tryz.prog 42 #[ptr R] w' fun e w'' => Kr R w' w'' ∧ match nm s (blk s i) with
  | .ok (x, j) => e = .returned (.int .i64 x) ∧ Rd w'' R v s j (b + 1)
  | .error x => e = .panicked (pk x)) := fun w' h' => by
  have := num_c h' hc
  exact this
 unfold ptr at c40 HB HN HC ⊢
 obtain ⟨X, hX⟩ : ∃ X, nm s (blk s i) = X := ⟨_, rfl⟩
 rw [hX] at HC ⊢
 have HF : Hid (∀ x j, X = .ok (x, j) → -9223372036854775808 ≤ x ∧ x ≤ 9223372036854775807) := fun x j hX2 => by subst hX2; exact (SpecIn.nm_in hX).2.2
 clear hX hW0 hr0 hb hc h hp hcc hcs
 cases X with
 | error x =>
  have eK : (nK (b + 1) (.error x) : Except F (C × Nat × Nat)) = .error x := rfl
  rw [eK]
  go_enter Tryz.func24, Tryz.ntmps24
  go_wp2_with (go_at_call 25; refine c40.mono ?_; rintro e w1 ⟨⟨r1, rfl⟩, h1, k1⟩; rw [HW0.out] at k1; have cb := HB.out w1 h1)
  go_wp2_with (go_at_call 36; refine cb.mono ?_; rintro e w2 ⟨k2, ⟨r2, rfl⟩, h2⟩; have cn := HN.out w2 h2; have cc := HC.out _ h2.drew.drew; clear cb)
  go_wp2_with (go_at_call 37; refine cn.mono ?_; rintro e w3 ⟨rfl, rfl⟩; clear cn)
  go_wp2_with (
   go_at_call 42
   refine cc.mono ?_
   rintro e w4 ⟨k4, rfl⟩)
  exact ⟨rfl, (((k0.trans k1).trans k2).trans (Kr.refl R w2).drew.drew).trans k4, rfl⟩
 | ok y =>
  obtain ⟨x, j⟩ := y
  have hfact : Hid (-9223372036854775808 ≤ x ∧ x ≤ 9223372036854775807) := HF.out x j rfl
  have eK : nK (b + 1) (.ok (x, j)) = .ok (.mk 3 false x ⟨#[]⟩ [] [], j, b + 1) := rfl
  rw [eK]
  go_enter Tryz.func24, Tryz.ntmps24
  go_wp2_with (go_at_call 25; refine c40.mono ?_; rintro e w1 ⟨⟨r1, rfl⟩, h1, k1⟩; rw [HW0.out] at k1; have cb := HB.out w1 h1)
  go_wp2_with (go_at_call 36; refine cb.mono ?_; rintro e w2 ⟨k2, ⟨r2, rfl⟩, h2⟩; have cn := HN.out w2 h2; have cc := HC.out _ h2.drew.drew; clear cb)
  go_wp2_with (go_at_call 37; refine cn.mono ?_; rintro e w3 ⟨rfl, rfl⟩; clear cn)
  go_wp2_with (
   go_at_call 42
   refine cc.mono ?_
   rintro e w4 ⟨k4, rfl, h4⟩
   have kk : Kr R W0 w4 := ((k1.trans k2).trans (Kr.refl R w2).drew.drew).trans k4
   have hres : w4.heap[w.heap.size]? = _ := (kk.other w.heap.size (by omega) (by omega)).trans hz
   obtain ⟨d0, d1, d2, d3, d4, d5⟩ := six_box hres
   have f0 := frozen_box hres 0
   have f1 := frozen_box hres 1
   have f2 := frozen_box hres 2
   have f3 := frozen_box hres 3
   have f4 := frozen_box hres 4
   have f5 := frozen_box hres 5
   have HRES : Hid (w4.heap[w.heap.size]? = some (.cells #[.int .i64 0, .bool false, .int .i64 0, .string ⟨#[]⟩, .slice none 0 0, .slice none 0 0] 27 (0, 0))) := hres
   clear hres cc)
  obtain ⟨W6, hW6⟩ : ∃ W6, ((((((w4.setCell ⟨w.heap.size, 0, none⟩ (.int .i64 3)).setCell ⟨w.heap.size, 1, none⟩ (.bool false)).setCell ⟨w.heap.size, 2, none⟩ (.int .i64 x)).setCell ⟨w.heap.size, 3, none⟩ (.string ⟨#[]⟩)).setCell ⟨w.heap.size, 4, none⟩ (.slice none 0 0)).setCell ⟨w.heap.size, 5, none⟩ (.slice none 0 0)) = W6 := ⟨_, rfl⟩
  rw [hW6]
  obtain ⟨q1, q2, q3, q4⟩ := set6 _ _ _ _ _ _ HRES.out hW6
  refine bodyPost_ret (results_cell_row rfl _ W6 w.heap.size 27 _ (0, 0) _ rfl q1 Tryz.underlying27 rfl (by kernel_rfl)) rfl ?_
  have hs4 := kk.below.size
  exact ⟨⟨q4 _ _ (by omega) (k0.trans kk).below, fun k hk hlt => (q2 k (by omega)).trans ((k0.trans kk).other k hk hlt)⟩, ⟨_, rfl, Fs.plain _ _ _ _ _ _ _ (by decide) hfact.out (by decide)⟩, h4.keep fun k hk => q2 k (by omega)⟩
set_option maxRecDepth 20000 in
set_option maxHeartbeats 1600000 in
theorem vlist_c {n d R : Nat} {v : Value} {s : ByteArray} {w : World} {i b : Nat} (hd : d ≤ 24) (hv : VIs n (d + 1) n) (h : Rd w R v s i b) (hb : bgn d (blk s i) b (at' s (blk s i)) = .ok ()) (hc : at' s (blk s i) = 91) :
  Calls Tryz.prog 24 #[ptr R, .int .i64 d] w (Out R (n + 1) v s w (lis (vl s n) s (blk s i) (b + 1))) := by
 have hp : blk s i < s.size := at_in (by omega)
 obtain ⟨W0, hW0⟩ : ∃ W0, w.alloc (.cells #[.int .i64 0, .bool false, .int .i64 0, .string ⟨#[]⟩, .slice none 0 0, .slice none 0 0] 27) = W0 := ⟨_, rfl⟩
 have hRl := h.lt
 have k0 : Kr R w W0 := by rw [← hW0]; exact (Kr.refl R w).alloc (by omega) _
 have s0 : W0.heap.size = w.heap.size + 1 := by rw [← hW0]; simp
 have hz : W0.heap[w.heap.size]? = some (.cells #[.int .i64 0, .bool false, .int .i64 0, .string ⟨#[]⟩, .slice none 0 0, .slice none 0 0] 27 (0, 0)) := by rw [← hW0]; exact heap_alloc_new w _
 have hr0 : Rd W0 R v s i b := by rw [← hW0]; exact h.below ((Below.refl _ w).alloc (Nat.le_refl _) _)
 have c40 := blanks_c hr0
 rw [← hW0] at c40
 have HW0 : Hid (w.alloc (.cells #[.int .i64 0, .bool false, .int .i64 0, .string ⟨#[]⟩, .slice none 0 0, .slice none 0 0] 27) = W0) := hW0
 have HB : Hid (∀ w', Rd w' R v s (blk s i) b → Calls Tryz.prog 36 #[ptr R, .int .i64 d] w' fun e w'' => Kr R w' w'' ∧ (∃ r, e = .returned r) ∧ Rd w'' R v s (blk s i) (b + 1)) := fun w' h' => by
  have := begin_c d (by omega) h'
  rw [hb] at this
  exact this
 have HN : Hid (∀ w', Rd w' R v s (blk s i) (b + 1) → Calls Tryz.prog 37 #[ptr R] w' fun e w'' => e = .returned (.int .u8 91) ∧ w'' = w'.drew.drew) := fun w' h' => by
  have := next_c h' hp
  rw [hc] at this
  exact this
 have HC : Hid (∀ w', Rd w' R v s (blk s i) (b + 1) → Calls Tryz.prog 40 #[ptr R, .int .i64 d] w' fun e w'' => Kr R w' w'' ∧ match lis (vl s n) s (blk s i) (b + 1) with
  | .ok (c, j, b') => (∃ u, e = .returned u ∧ Fs w'' (n + 1) (Rg w'.heap.size w''.heap.size) u c) ∧ Rd w'' R v s j b'
  | .error x => e = .panicked (pk x)) := fun w' h' => by
  have := list_c hv hd h' hc
  exact this
 unfold ptr at c40 HB HN HC ⊢
 obtain ⟨X, hX⟩ : ∃ X, lis (vl s n) s (blk s i) (b + 1) = X := ⟨_, rfl⟩
 rw [hX] at HC ⊢
 clear hX hW0 hr0 hb hc h hp hv
 cases X with
 | error x =>
  have eK : (.error x : Except F (C × Nat × Nat)) = .error x := rfl
  clear eK
  go_enter Tryz.func24, Tryz.ntmps24
  go_wp2_with (go_at_call 25; refine c40.mono ?_; rintro e w1 ⟨⟨r1, rfl⟩, h1, k1⟩; rw [HW0.out] at k1; have cb := HB.out w1 h1)
  go_wp2_with (go_at_call 36; refine cb.mono ?_; rintro e w2 ⟨k2, ⟨r2, rfl⟩, h2⟩; have cn := HN.out w2 h2; have cc := HC.out _ h2.drew.drew; clear cb)
  go_wp2_with (go_at_call 37; refine cn.mono ?_; rintro e w3 ⟨rfl, rfl⟩; clear cn)
  go_wp2_with (
   go_at_call 40
   refine cc.mono ?_
   rintro e w4 ⟨k4, rfl⟩)
  exact ⟨rfl, (((k0.trans k1).trans k2).trans (Kr.refl R w2).drew.drew).trans k4, rfl⟩
 | ok y =>
  obtain ⟨⟨k, bo, x, t, nn, l⟩, j, b'⟩ := y
  go_enter Tryz.func24, Tryz.ntmps24
  go_wp2_with (go_at_call 25; refine c40.mono ?_; rintro e w1 ⟨⟨r1, rfl⟩, h1, k1⟩; rw [HW0.out] at k1; have cb := HB.out w1 h1)
  go_wp2_with (go_at_call 36; refine cb.mono ?_; rintro e w2 ⟨k2, ⟨r2, rfl⟩, h2⟩; have cn := HN.out w2 h2; have cc := HC.out _ h2.drew.drew; clear cb)
  go_wp2_with (go_at_call 37; refine cn.mono ?_; rintro e w3 ⟨rfl, rfl⟩; clear cn)
  go_wp2_with (
   go_at_call 40
   refine cc.mono ?_
   rintro e w4 ⟨k4, ⟨u4, rfl, hfs⟩, h4⟩
   have kk : Kr R W0 w4 := ((k1.trans k2).trans (Kr.refl R w2).drew.drew).trans k4
   have hres : w4.heap[w.heap.size]? = _ := (kk.other w.heap.size (by omega) (by omega)).trans hz
   obtain ⟨an, ln, cn, al, ll, cl, rfl⟩ := fs_shape hfs
   obtain ⟨d0, d1, d2, d3, d4, d5⟩ := six_box hres
   have f0 := frozen_box hres 0
   have f1 := frozen_box hres 1
   have f2 := frozen_box hres 2
   have f3 := frozen_box hres 3
   have f4 := frozen_box hres 4
   have f5 := frozen_box hres 5
   have HRES : Hid (w4.heap[w.heap.size]? = some (.cells #[.int .i64 0, .bool false, .int .i64 0, .string ⟨#[]⟩, .slice none 0 0, .slice none 0 0] 27 (0, 0))) := hres
   have HFS : Hid (Fs w4 (n + 1) (Rg w2.heap.size w4.heap.size) (.agg #[.int .i64 k, .bool bo, .int .i64 x, .string t, .slice an ln cn, .slice al ll cl]) (.mk k bo x t nn l)) := hfs
   clear hres cc hfs)
  obtain ⟨W6, hW6⟩ : ∃ W6, ((((((w4.setCell ⟨w.heap.size, 0, none⟩ (.int .i64 k)).setCell ⟨w.heap.size, 1, none⟩ (.bool bo)).setCell ⟨w.heap.size, 2, none⟩ (.int .i64 x)).setCell ⟨w.heap.size, 3, none⟩ (.string t)).setCell ⟨w.heap.size, 4, none⟩ (.slice an ln cn)).setCell ⟨w.heap.size, 5, none⟩ (.slice al ll cl)) = W6 := ⟨_, rfl⟩
  rw [hW6]
  obtain ⟨q1, q2, q3, q4⟩ := set6 _ _ _ _ _ _ HRES.out hW6
  refine bodyPost_ret (results_cell_row rfl _ W6 w.heap.size 27 _ (0, 0) _ rfl q1 Tryz.underlying27 rfl (by kernel_rfl)) rfl ?_
  have hs4 := kk.below.size
  have hs2 := (k1.trans k2).below.size
  exact ⟨⟨q4 _ _ (by omega) (k0.trans kk).below, fun k hk hlt => (q2 k (by omega)).trans ((k0.trans kk).other k hk hlt)⟩, ⟨_, rfl, ((HFS.out.keep fun g hg hlt => q2 g (by have := hg.1; omega)).weak _ (Nat.le_refl _) fun g hg => ⟨by have := hg.1; omega, by have := hg.2; omega⟩)⟩, h4.keep fun k hk => q2 k (by omega)⟩
set_option maxRecDepth 20000 in
set_option maxHeartbeats 1600000 in
theorem vrecord_c {n d R : Nat} {v : Value} {s : ByteArray} {w : World} {i b : Nat} (hd : d ≤ 24) (hv : VIs n (d + 1) n) (h : Rd w R v s i b) (hb : bgn d (blk s i) b (at' s (blk s i)) = .ok ()) (hc : at' s (blk s i) = 123) :
  Calls Tryz.prog 24 #[ptr R, .int .i64 d] w (Out R (n + 1) v s w (rec (vl s n) s (blk s i) (b + 1))) := by
 have hp : blk s i < s.size := at_in (by omega)
 obtain ⟨W0, hW0⟩ : ∃ W0, w.alloc (.cells #[.int .i64 0, .bool false, .int .i64 0, .string ⟨#[]⟩, .slice none 0 0, .slice none 0 0] 27) = W0 := ⟨_, rfl⟩
 have hRl := h.lt
 have k0 : Kr R w W0 := by rw [← hW0]; exact (Kr.refl R w).alloc (by omega) _
 have s0 : W0.heap.size = w.heap.size + 1 := by rw [← hW0]; simp
 have hz : W0.heap[w.heap.size]? = some (.cells #[.int .i64 0, .bool false, .int .i64 0, .string ⟨#[]⟩, .slice none 0 0, .slice none 0 0] 27 (0, 0)) := by rw [← hW0]; exact heap_alloc_new w _
 have hr0 : Rd W0 R v s i b := by rw [← hW0]; exact h.below ((Below.refl _ w).alloc (Nat.le_refl _) _)
 have c40 := blanks_c hr0
 rw [← hW0] at c40
 have HW0 : Hid (w.alloc (.cells #[.int .i64 0, .bool false, .int .i64 0, .string ⟨#[]⟩, .slice none 0 0, .slice none 0 0] 27) = W0) := hW0
 have HB : Hid (∀ w', Rd w' R v s (blk s i) b → Calls Tryz.prog 36 #[ptr R, .int .i64 d] w' fun e w'' => Kr R w' w'' ∧ (∃ r, e = .returned r) ∧ Rd w'' R v s (blk s i) (b + 1)) := fun w' h' => by
  have := begin_c d (by omega) h'
  rw [hb] at this
  exact this
 have HN : Hid (∀ w', Rd w' R v s (blk s i) (b + 1) → Calls Tryz.prog 37 #[ptr R] w' fun e w'' => e = .returned (.int .u8 123) ∧ w'' = w'.drew.drew) := fun w' h' => by
  have := next_c h' hp
  rw [hc] at this
  exact this
 have HC : Hid (∀ w', Rd w' R v s (blk s i) (b + 1) → Calls Tryz.prog 41 #[ptr R, .int .i64 d] w' fun e w'' => Kr R w' w'' ∧ match rec (vl s n) s (blk s i) (b + 1) with
  | .ok (c, j, b') => (∃ u, e = .returned u ∧ Fs w'' (n + 1) (Rg w'.heap.size w''.heap.size) u c) ∧ Rd w'' R v s j b'
  | .error x => e = .panicked (pk x)) := fun w' h' => by
  have := Rec.record_c hv hd h' hc
  exact this
 unfold ptr at c40 HB HN HC ⊢
 obtain ⟨X, hX⟩ : ∃ X, rec (vl s n) s (blk s i) (b + 1) = X := ⟨_, rfl⟩
 rw [hX] at HC ⊢
 clear hX hW0 hr0 hb hc h hp hv
 cases X with
 | error x =>
  have eK : (.error x : Except F (C × Nat × Nat)) = .error x := rfl
  clear eK
  go_enter Tryz.func24, Tryz.ntmps24
  go_wp2_with (go_at_call 25; refine c40.mono ?_; rintro e w1 ⟨⟨r1, rfl⟩, h1, k1⟩; rw [HW0.out] at k1; have cb := HB.out w1 h1)
  go_wp2_with (go_at_call 36; refine cb.mono ?_; rintro e w2 ⟨k2, ⟨r2, rfl⟩, h2⟩; have cn := HN.out w2 h2; have cc := HC.out _ h2.drew.drew; clear cb)
  go_wp2_with (go_at_call 37; refine cn.mono ?_; rintro e w3 ⟨rfl, rfl⟩; clear cn)
  go_wp2_with (
   go_at_call 41
   refine cc.mono ?_
   rintro e w4 ⟨k4, rfl⟩)
  exact ⟨rfl, (((k0.trans k1).trans k2).trans (Kr.refl R w2).drew.drew).trans k4, rfl⟩
 | ok y =>
  obtain ⟨⟨k, bo, x, t, nn, l⟩, j, b'⟩ := y
  go_enter Tryz.func24, Tryz.ntmps24
  go_wp2_with (go_at_call 25; refine c40.mono ?_; rintro e w1 ⟨⟨r1, rfl⟩, h1, k1⟩; rw [HW0.out] at k1; have cb := HB.out w1 h1)
  go_wp2_with (go_at_call 36; refine cb.mono ?_; rintro e w2 ⟨k2, ⟨r2, rfl⟩, h2⟩; have cn := HN.out w2 h2; have cc := HC.out _ h2.drew.drew; clear cb)
  go_wp2_with (go_at_call 37; refine cn.mono ?_; rintro e w3 ⟨rfl, rfl⟩; clear cn)
  go_wp2_with (
   go_at_call 41
   refine cc.mono ?_
   rintro e w4 ⟨k4, ⟨u4, rfl, hfs⟩, h4⟩
   have kk : Kr R W0 w4 := ((k1.trans k2).trans (Kr.refl R w2).drew.drew).trans k4
   have hres : w4.heap[w.heap.size]? = _ := (kk.other w.heap.size (by omega) (by omega)).trans hz
   obtain ⟨an, ln, cn, al, ll, cl, rfl⟩ := fs_shape hfs
   obtain ⟨d0, d1, d2, d3, d4, d5⟩ := six_box hres
   have f0 := frozen_box hres 0
   have f1 := frozen_box hres 1
   have f2 := frozen_box hres 2
   have f3 := frozen_box hres 3
   have f4 := frozen_box hres 4
   have f5 := frozen_box hres 5
   have HRES : Hid (w4.heap[w.heap.size]? = some (.cells #[.int .i64 0, .bool false, .int .i64 0, .string ⟨#[]⟩, .slice none 0 0, .slice none 0 0] 27 (0, 0))) := hres
   have HFS : Hid (Fs w4 (n + 1) (Rg w2.heap.size w4.heap.size) (.agg #[.int .i64 k, .bool bo, .int .i64 x, .string t, .slice an ln cn, .slice al ll cl]) (.mk k bo x t nn l)) := hfs
   clear hres cc hfs)
  obtain ⟨W6, hW6⟩ : ∃ W6, ((((((w4.setCell ⟨w.heap.size, 0, none⟩ (.int .i64 k)).setCell ⟨w.heap.size, 1, none⟩ (.bool bo)).setCell ⟨w.heap.size, 2, none⟩ (.int .i64 x)).setCell ⟨w.heap.size, 3, none⟩ (.string t)).setCell ⟨w.heap.size, 4, none⟩ (.slice an ln cn)).setCell ⟨w.heap.size, 5, none⟩ (.slice al ll cl)) = W6 := ⟨_, rfl⟩
  rw [hW6]
  obtain ⟨q1, q2, q3, q4⟩ := set6 _ _ _ _ _ _ HRES.out hW6
  refine bodyPost_ret (results_cell_row rfl _ W6 w.heap.size 27 _ (0, 0) _ rfl q1 Tryz.underlying27 rfl (by kernel_rfl)) rfl ?_
  have hs4 := kk.below.size
  have hs2 := (k1.trans k2).below.size
  exact ⟨⟨q4 _ _ (by omega) (k0.trans kk).below, fun k hk hlt => (q2 k (by omega)).trans ((k0.trans kk).other k hk hlt)⟩, ⟨_, rfl, ((HFS.out.keep fun g hg hlt => q2 g (by have := hg.1; omega)).weak _ (Nat.le_refl _) fun g hg => ⟨by have := hg.1; omega, by have := hg.2; omega⟩)⟩, h4.keep fun k hk => q2 k (by omega)⟩
end Go.Proofs.YthkpbhgbmagaeaaGreatDoor.Val
