import Derived.Test.YthkpbhgbmagaeaaGreatDoorP21
namespace Go.Proofs.YthkpbhgbmagaeaaGreatDoor.List
open Go.RowKit Go.Proofs.YthkpbhgbmagaeaaGreatDoor.Base Go.Proofs.YthkpbhgbmagaeaaGreatDoor.UBase Go.Proofs.YthkpbhgbmagaeaaGreatDoor.Spec Go.Proofs.YthkpbhgbmagaeaaGreatDoor.Rdr Go.Proofs.YthkpbhgbmagaeaaGreatDoor.RowR Go.Proofs.YthkpbhgbmagaeaaGreatDoor.Own Go.Proofs.YthkpbhgbmagaeaaGreatDoor.LState Go.Proofs.YthkpbhgbmagaeaaGreatDoor.LOne
set_option linter.unusedVariables false
theorem kr_kb {R : Nat} {a b c : World} (h : Kr R a b) (k : Kb R a.heap.size b c) : Kr R a c := ⟨h.below.trans k.below, fun n hn hs => (k.other n hn hs).trans (h.other n hn hs)⟩
theorem lst_gk {s : ByteArray} {n : Nat} : ∀ (f i b : Nat) (acc : List C), i ≤ s.size → s.size < i + f → lst (vl s n) s f i b acc = gk (stL s n) 93 s f (stL s n i b acc)
 | 0, i, b, acc, hi, hf => by omega
 | f + 1, i, b, acc, hi, hf => by
  rw [lst]
  show _ = gk (stL s n) 93 s (f + 1) (stK acc (vl s n i b))
  cases hv : vl s n i b with
  | error e => rfl
  | ok y =>
   obtain ⟨c, j, b'⟩ := y
   have hin := SpecIn.vl_in s n i b c j b' hi hv
   have g1 := blk_ge s j
   show _ = gn (stL s n) 93 s (f + 1) (blk s j) b' (acc ++ [c])
   rw [gn_step]
   dsimp only
   split
   ·rfl
   ·split
    ·next e44 =>
     have g2 := at_in (s := s) (i := blk s j) (by omega)
     have g3 := blk_ge s (blk s j + 1)
     exact lst_gk f _ b' (acc ++ [c]) (blk_in (by omega)) (by omega)
    ·rfl
def liK : Except F (List C × Nat × Nat) → Except F (C × Nat × Nat)
 | .error e => .error e
 | .ok (l, j, b') => .ok (.mk 5 false 0 ⟨#[]⟩ [] l, j, b')
theorem lis_g0 {s : ByteArray} {n i b : Nat} (hi : i < s.size) : lis (vl s n) s i b = liK (g0 (stL s n) 93 s (blk s (i + 1)) b []) := by
 unfold lis g0
 split
 ·rfl
 ·rw [lst_gk _ _ _ _ (blk_in (by omega)) (by have := blk_ge s (i + 1); omega)]
  generalize gk (stL s n) 93 s (s.size + 1) (stL s n (blk s (i + 1)) b []) = X
  cases X <;> rfl
theorem stL_in (s : ByteArray) (n : Nat) : StepIs (stL s n) s := by
 intro i b a a' j b' hi h
 unfold stL at h
 cases hv : vl s n i b with
 | error e => rw [hv] at h; cases h
 | ok y =>
  obtain ⟨c, k, b2⟩ := y
  rw [hv] at h
  have h' := Prod.mk.inj (Prod.mk.inj (Except.ok.inj h)).2
  have := SpecIn.vl_in s n i b c k b2 hi hv
  omega
theorem vl_end (s : ByteArray) (n i b : Nat) (h : ¬ i < s.size) : vl s n i b = .error (600, i) := by
 have e : blk s i = i := blk_end h
 cases n with
 | zero => rw [vl, e, at_out s i h]; rfl
 | succ n => rw [vl, e, at_out s i h]; rfl
theorem stL_end (s : ByteArray) (n : Nat) : ∀ i b a, ¬ i < s.size → stL s n i b a = .error (600, i) := by
 intro i b a h
 unfold stL
 rw [vl_end s n i b h]
 rfl
set_option maxRecDepth 20000 in
set_option maxHeartbeats 1600000 in
theorem list_c {n d m R : Nat} {v : Value} {s : ByteArray} {w : World} {i b : Nat} (hv : VIs n (d + 1) m) (hd : d ≤ 24) (h : Rd w R v s i b) (hat : at' s i = 91) :
  Calls Tryz.prog 40 #[ptr R, .int .i64 d] w fun e w' => Kr R w w' ∧ match lis (vl s n) s i b with
   | .ok (c, j, b') => (∃ u, e = .returned u ∧ Fs w' (m + 1) (Rg w.heap.size w'.heap.size) u c) ∧ Rd w' R v s j b'
   | .error x => e = .panicked (pk x) := by
 have hi : i < s.size := at_in (by omega)
 rw [lis_g0 hi]
 have hRlt := h.lt
 obtain ⟨W, hW⟩ : ∃ W, (((w.alloc (.cells #[ptr R] 65)).alloc (.cells #[.int .i64 d] 3)).alloc (.cells #[.int .i64 0, .bool false, .int .i64 0, .string ⟨#[]⟩, .slice none 0 0, .slice none 0 0] 27)).alloc (.cells #[.int .i64 5, .bool false, .int .i64 0, .string ⟨#[]⟩, .slice none 0 0, .slice none 0 0] 27) = W := ⟨_, rfl⟩
 have bW : Below w.heap.size w W := by rw [← hW]; exact ((((Below.refl _ w).alloc (Nat.le_refl _) _).alloc (by simp) _).alloc (by simp; omega) _).alloc (by simp; omega) _
 have sW : W.heap.size = w.heap.size + 4 := by rw [← hW]; simp
 have j0 : JL R w.heap.size d m v s W i b [] := by
  refine ⟨h.below bW, hRlt, by omega, ?_, ?_, ?_, ⟨_, [], _, ?_, Els.nil _ _ _⟩, by simp⟩
  ·rw [← hW, Below.heap_alloc _ _ _ (by simp; omega), Below.heap_alloc _ _ _ (by simp; omega), Below.heap_alloc _ _ _ (by simp), heap_alloc_new]
  ·rw [← hW, Below.heap_alloc _ _ _ (by simp), Below.heap_alloc _ _ _ (by simp)]
   have := heap_alloc_new (w.alloc (.cells #[ptr R] 65)) (.cells #[.int .i64 d] 3)
   rwa [World.size_alloc] at this
  ·rw [← hW, Below.heap_alloc _ _ _ (by simp)]
   have := heap_alloc_new ((w.alloc (.cells #[ptr R] 65)).alloc (.cells #[.int .i64 d] 3)) (.cells #[.int .i64 0, .bool false, .int .i64 0, .string ⟨#[]⟩, .slice none 0 0, .slice none 0 0] 27)
   rwa [World.size_alloc, World.size_alloc] at this
  ·rw [← hW]
   have := heap_alloc_new (((w.alloc (.cells #[ptr R] 65)).alloc (.cells #[.int .i64 d] 3)).alloc (.cells #[.int .i64 0, .bool false, .int .i64 0, .string ⟨#[]⟩, .slice none 0 0, .slice none 0 0] 27)) (.cells #[.int .i64 5, .bool false, .int .i64 0, .string ⟨#[]⟩, .slice none 0 0, .slice none 0 0] 27)
   rwa [World.size_alloc, World.size_alloc, World.size_alloc] at this
 have cR := row_c 57 #[.pointer (some ⟨w.heap.size + 3, 0, none⟩), .pointer (some ⟨w.heap.size, 0, none⟩), .pointer (some ⟨w.heap.size + 1, 0, none⟩)] (enters_of Tryz.func57 (by kernel_rfl) rfl) 91 93 ⟨by omega, by omega⟩ ⟨by omega, by omega, by omega⟩ (stL s n) (JL R w.heap.size d m v s)
  (stL_in s n) (stL_end s n) (fun w i b a hj => ⟨hj.rd, by have := hj.sz; omega⟩) (fun w w' i j b a hj hr hk hij => hj.kr hr hk hij) (one_c hv hd) [] j0 hat
 obtain ⟨X, hX⟩ : ∃ X, g0 (stL s n) 93 s (blk s (i + 1)) b [] = X := ⟨_, rfl⟩
 rw [hX] at cR ⊢
 have hmf : ∀ (fn : Fn) (first cap : Array Value) (w : World), (Instr.makeFunc fn first cap).run Tryz.prog w = .ok (.func fn first cap) w := fun _ _ _ _ => rfl
 unfold ptr at cR hW ⊢
 rw [← hW] at cR
 have HW : Hid (((((w.alloc (.cells #[.pointer (some ⟨R, 0, none⟩)] 65)).alloc (.cells #[.int .i64 d] 3)).alloc (.cells #[.int .i64 0, .bool false, .int .i64 0, .string ⟨#[]⟩, .slice none 0 0, .slice none 0 0] 27)).alloc (.cells #[.int .i64 5, .bool false, .int .i64 0, .string ⟨#[]⟩, .slice none 0 0, .slice none 0 0] 27)) = W) := hW
 clear h hX hat hW
 have HJ0 : Hid (JL R w.heap.size d m v s W i b []) := j0
 clear j0
 cases X with
 | error x =>
  have e : liK (.error x) = .error x := rfl
  rw [e]
  go_enter Tryz.func40, Tryz.ntmps40
  go_wp2_with (go_at_call 56; refine cR.mono ?_; rintro e w' ⟨k4, rfl⟩; rw [HW.out] at k4)
  exact ⟨rfl, kr_kb (Kr.of_below bW (by omega)) k4, rfl⟩
 | ok y =>
  obtain ⟨l, j, b'⟩ := y
  have e : liK (.ok (l, j, b')) = .ok (.mk 5 false 0 ⟨#[]⟩ [] l, j, b') := rfl
  rw [e]
  go_enter Tryz.func40, Tryz.ntmps40
  go_wp2_with (
   go_at_call 56
   refine cR.mono ?_
   rintro e w5 ⟨k4, rfl, j5⟩
   rw [HW.out] at k4
   clear cR
   obtain ⟨lv, us, T, hbox, hels⟩ := j5.box
   have hres := j5.res
   have hsz5 := j5.sz
   obtain ⟨a5, cap5, elv⟩ : ∃ a5 cap5, lv = .slice a5 us.length cap5 := by
    rcases hels.own.1.2 with ⟨e, e0⟩ | ⟨g, cap, cur, e, _⟩
    ·exact ⟨none, 0, by rw [e, e0]⟩
    ·exact ⟨_, cap, e⟩
   subst elv
   have hbox : w5.heap[w.heap.size + 1 + 1 + 1]? = _ := hbox
   have hres : w5.heap[w.heap.size + 1 + 1]? = _ := hres
   obtain ⟨c0, c1, c2, c3, c4, c5⟩ := six_box hbox
   obtain ⟨d0, d1, d2, d3, d4, d5⟩ := six_box hres
   have f0 := frozen_box hres 0
   have f1 := frozen_box hres 1
   have f2 := frozen_box hres 2
   have f3 := frozen_box hres 3
   have f4 := frozen_box hres 4
   have f5 := frozen_box hres 5
   have HJ5 : Hid (JL R w.heap.size d m v s w5 j b' l) := j5
   have HELS : Hid (Els w5 m (w.heap.size + 4) (.slice a5 us.length cap5) us l T) := hels
   have HRES : Hid (w5.heap[w.heap.size + 1 + 1]? = some (.cells #[.int .i64 0, .bool false, .int .i64 0, .string ⟨#[]⟩, .slice none 0 0, .slice none 0 0] 27 (0, 0))) := hres
   clear j5 hels hres hbox)
  obtain ⟨W6, hW6⟩ : ∃ W6, ((((((w5.setCell ⟨w.heap.size + 1 + 1, 0, none⟩ (.int .i64 5)).setCell ⟨w.heap.size + 1 + 1, 1, none⟩ (.bool false)).setCell ⟨w.heap.size + 1 + 1, 2, none⟩ (.int .i64 0)).setCell ⟨w.heap.size + 1 + 1, 3, none⟩ (.string ⟨#[]⟩)).setCell
   ⟨w.heap.size + 1 + 1, 4, none⟩ (.slice none 0 0)).setCell ⟨w.heap.size + 1 + 1, 5, none⟩ (.slice a5 us.length cap5)) = W6 := ⟨_, rfl⟩
  rw [hW6]
  obtain ⟨q1, q2, q3, q4⟩ := set6 _ _ _ _ _ _ HRES.out hW6
  refine bodyPost_ret (results_cell_row rfl _ W6 (w.heap.size + 1 + 1) 27 _ (0, 0) _ rfl q1 Tryz.underlying27 rfl (by kernel_rfl)) rfl ?_
  have hj := HJ5.out
  have hE := HELS.out
  have hs5 := k4.below.size
  refine ⟨⟨q4 _ _ (by omega) ((bW.mono (by omega)).trans k4.below), fun k hk hlt => ?_⟩, ⟨_, rfl, ?_⟩, hj.rd.keep fun k hk => q2 k (by have := hj.RB; omega)⟩
  ·rw [q2 k (by omega), k4.other k hk hlt]
   exact bW.block k hlt
  ·rw [Fs]
   have hE6 : Els W6 m (w.heap.size + 4) (.slice a5 us.length cap5) us l T := hE.keep (fun g hg hs => q2 g (by omega)) (by omega)
   have hlen := hE.len
   have hle := hj.le
   have hje := hj.rd.le
   have hjz := hj.rd.sz
   refine ⟨_, _, us, T, rfl, by decide, by decide, by decide, by simp, by simp, by omega, World.ownsRow_nil _ _ _ _, (fun g hg => by cases hg), ⟨row0 hE6.own.1, hE6.own.2⟩, fun g hg => ⟨?_, fun h => by cases h⟩, hlen, fun q hq g hg => ?_, hE6.dis, hE6.fs⟩
   ·have := World.ownsRow.lt hE6.own.1 g hg
    exact ⟨by omega, by omega⟩
   ·have := hE6.out q hq g hg
    exact ⟨⟨by omega, by omega⟩, (fun h => by cases h), this.2.2⟩
end Go.Proofs.YthkpbhgbmagaeaaGreatDoor.List
