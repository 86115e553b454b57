import Derived.Laws.ResultCell
import Derived.Test.YthkpbhgbmagaeaaGreatDoorP11
import Derived.Test.YthkpbhgbmagaeaaGreatDoorP22
import Derived.Test.YthkpbhgbmagaeaaGreatDoorP24
namespace Go.Proofs.YthkpbhgbmagaeaaGreatDoor.Rec
open Go.RowKit Go.Proofs.YthkpbhgbmagaeaaGreatDoor.Base Go.Proofs.YthkpbhgbmagaeaaGreatDoor.UBase Go.Proofs.YthkpbhgbmagaeaaGreatDoor.Spec Go.Proofs.YthkpbhgbmagaeaaGreatDoor.Rdr Go.Proofs.YthkpbhgbmagaeaaGreatDoor.RowR Go.Proofs.YthkpbhgbmagaeaaGreatDoor.Own Go.Proofs.YthkpbhgbmagaeaaGreatDoor.LState Go.Proofs.YthkpbhgbmagaeaaGreatDoor.NameR Go.Proofs.YthkpbhgbmagaeaaGreatDoor.RState Go.Proofs.YthkpbhgbmagaeaaGreatDoor.ROne Go.Proofs.YthkpbhgbmagaeaaGreatDoor.List
set_option linter.unusedVariables false
/-- The pairs of a record as the row's letters. -/
def flat : Except F (Pr × Nat × Nat) → Except F (List ByteArray × List C × Nat × Nat)
 | .error e => .error e
 | .ok (a, j, b') => .ok (a.1, a.2, j, b')
theorem stR_in (s : ByteArray) (n : Nat) : ∀ i b a a' j b', i ≤ s.size → stR s n i b a = .ok (a', j, b') → i < j ∧ j ≤ s.size := by
 intro i b a a' j b' hi h
 unfold stR at h
 cases ht : txt s i with
 | error e => rw [ht] at h; cases h
 | ok y =>
  obtain ⟨t, k⟩ := y
  rw [ht] at h
  have hk := SpecIn.txt_in ht
  unfold nmK at h
  dsimp only at h
  by_cases e1 : has t a.1 = true
  ·rw [if_pos e1] at h; cases h
  ·rw [if_neg e1] at h
   unfold stN at h
   dsimp only at h
   by_cases e2 : at' s (blk s k) = 58
   ·rw [if_pos e2] at h
    have g2 := at_in (s := s) (i := blk s k) (by omega)
    have g3 := blk_ge s k
    cases hv : vl s n (blk s k + 1) b with
    | error e => rw [hv] at h; cases h
    | ok z =>
     obtain ⟨c, q, b2⟩ := z
     rw [hv] at h
     have h' := Prod.mk.inj (Prod.mk.inj (Except.ok.inj h)).2
     have := SpecIn.vl_in s n _ b c q b2 (by omega) hv
     omega
   ·rw [if_neg e2] at h; cases h
theorem rcd_gk {s : ByteArray} {n : Nat} : ∀ (f i b : Nat) (a : Pr), i ≤ s.size → s.size < i + f → rcd (vl s n) s f i b a.1 a.2 = flat (gk (stR s n) 125 s f (stR s n i b a))
 | 0, i, b, a, hi, hf => by omega
 | f + 1, i, b, a, hi, hf => by
  have hin := stR_in s n i b a
  rw [rcd]
  have e0 : stR s n i b a = stN s n b a (nmK s i a.1 (txt s i)) := rfl
  rw [e0] at hin ⊢
  cases ht : txt s i with
  | error e => rfl
  | ok y =>
   obtain ⟨t, k⟩ := y
   rw [ht] at hin
   have e1 : nmK s i a.1 (.ok (t, k)) = if has t a.1 = true then .error (602, i) else .ok (t, k) := rfl
   rw [e1] at hin ⊢
   dsimp only
   by_cases h1 : has t a.1 = true
   ·rw [if_pos h1, if_pos h1]; rfl
   ·rw [if_neg h1] at hin
    rw [if_neg h1, if_neg h1]
    have e2 : stN s n b a (.ok (t, k)) = if at' s (blk s k) = 58 then stV a t (vl s n (blk s k + 1) b) else .error (600, blk s k) := rfl
    rw [e2] at hin ⊢
    by_cases h2 : at' s (blk s k) = 58
    ·rw [if_pos h2] at hin
     rw [if_pos h2, if_pos h2]
     cases hv : vl s n (blk s k + 1) b with
     | error e => rfl
     | ok z =>
      obtain ⟨c, q, b'⟩ := z
      rw [hv] at hin
      have hq := hin (a.1 ++ [t], a.2 ++ [c]) q b' hi rfl
      have g1 := blk_ge s q
      show _ = flat (gn (stR s n) 125 s (f + 1) (blk s q) b' (a.1 ++ [t], a.2 ++ [c]))
      rw [gn_step]
      dsimp only
      split
      ·rfl
      ·split
       ·next e44 =>
        have g2 := at_in (s := s) (i := blk s q) (by omega)
        have g3 := blk_ge s (blk s q + 1)
        exact rcd_gk f _ b' (a.1 ++ [t], a.2 ++ [c]) (blk_in (by omega)) (by omega)
       ·rfl
    ·rw [if_neg h2, if_neg h2]; rfl
def reK : Except F (Pr × Nat × Nat) → Except F (C × Nat × Nat)
 | .error e => .error e
 | .ok (a, j, b') => .ok (.mk 6 false 0 ⟨#[]⟩ a.1 a.2, j, b')
theorem rec_g0 {s : ByteArray} {n i b : Nat} (hi : i < s.size) : rec (vl s n) s i b = reK (g0 (stR s n) 125 s (blk s (i + 1)) b ([], [])) := by
 unfold rec g0
 split
 ·rfl
 ·rw [rcd_gk _ _ _ ([], []) (blk_in (by omega)) (by have := blk_ge s (i + 1); omega)]
  generalize gk (stR s n) 125 s (s.size + 1) (stR s n (blk s (i + 1)) b ([], [])) = X
  cases X <;> rfl
theorem stR_end (s : ByteArray) (n : Nat) : ∀ i b a, ¬ i < s.size → stR s n i b a = .error (600, i) := by
 intro i b a h
 unfold stR
 have e : txt s i = .error (600, i) := by rw [txt, at_out s i h]; rfl
 rw [e]
 rfl
theorem makeNone (w : World) : (Instr.makeMap 80 none).run Tryz.prog w = .ok (.map (some w.heap.size)) (w.alloc (.map #[] 0)) := by
 simp [Instr.makeMap]
set_option maxRecDepth 20000 in
set_option maxHeartbeats 1600000 in
theorem record_c {n d m R : Nat} {v : Value} {s : ByteArray} {w : World} {i b : Nat} (hv : VIs n (d + 1) m) (hd : d ≤ 24) (h : Rd w R v s i b) (hat : at' s i = 123) :
  Calls Tryz.prog 41 #[ptr R, .int .i64 d] w fun e w' => Kr R w w' ∧ match rec (vl s n) s i b with
   | .ok (c, j, b') => (∃ u, e = .returned u ∧ Fs w' (m + 1) (Rg w.heap.size w'.heap.size) u c) ∧ Rd w' R v s j b'
   | .error x => e = .panicked (pk x) := by
 have hi : i < s.size := at_in (by omega)
 rw [rec_g0 hi]
 have hRlt := h.lt

 obtain ⟨W, hW⟩ : ∃ W, ((((((w.alloc (.cells #[ptr R] 65)).alloc (.cells #[.int .i64 d] 3)).alloc (.cells #[.int .i64 0, .bool false, .int .i64 0, .string ⟨#[]⟩, .slice none 0 0, .slice none 0 0] 27)).alloc (.cells #[.int .i64 6, .bool false, .int .i64 0, .string ⟨#[]⟩, .slice none 0 0, .slice none 0 0] 27)).alloc (.map #[] 0)).alloc (.cells #[.map (some (w.heap.size + 4))] 80)) = W := ⟨_, rfl⟩
 have bW : Below w.heap.size w W := by rw [← hW]; exact ((((((Below.refl _ w).alloc (Nat.le_refl _) _).alloc (by simp <;> omega) _).alloc (by simp <;> omega) _).alloc (by simp <;> omega) _).alloc (by simp <;> omega) _).alloc (by simp <;> omega) _
 have sW : W.heap.size = w.heap.size + 6 := by rw [← hW]; simp
 have j0 : JR R w.heap.size d m v s W i b ([], []) := by
  have b1 := heap_alloc_new w (.cells #[ptr R] 65)
  have b2 := heap_alloc_new (w.alloc (.cells #[ptr R] 65)) (.cells #[.int .i64 d] 3)
  have b3 := heap_alloc_new ((w.alloc (.cells #[ptr R] 65)).alloc (.cells #[.int .i64 d] 3)) (.cells #[.int .i64 0, .bool false, .int .i64 0, .string ⟨#[]⟩, .slice none 0 0, .slice none 0 0] 27)
  have b4 := heap_alloc_new (((w.alloc (.cells #[ptr R] 65)).alloc (.cells #[.int .i64 d] 3)).alloc (.cells #[.int .i64 0, .bool false, .int .i64 0, .string ⟨#[]⟩, .slice none 0 0, .slice none 0 0] 27)) (.cells #[.int .i64 6, .bool false, .int .i64 0, .string ⟨#[]⟩, .slice none 0 0, .slice none 0 0] 27)
  have b6 := heap_alloc_new (((((w.alloc (.cells #[ptr R] 65)).alloc (.cells #[.int .i64 d] 3)).alloc (.cells #[.int .i64 0, .bool false, .int .i64 0, .string ⟨#[]⟩, .slice none 0 0, .slice none 0 0] 27)).alloc (.cells #[.int .i64 6, .bool false, .int .i64 0, .string ⟨#[]⟩, .slice none 0 0, .slice none 0 0] 27)).alloc (.map #[] 0)) (.cells #[.map (some (w.heap.size + 4))] 80)
  have b5 := World.ownsMap_made (H := Unit) ((((w.alloc (.cells #[ptr R] 65)).alloc (.cells #[.int .i64 d] 3)).alloc (.cells #[.int .i64 0, .bool false, .int .i64 0, .string ⟨#[]⟩, .slice none 0 0, .slice none 0 0] 27)).alloc (.cells #[.int .i64 6, .bool false, .int .i64 0, .string ⟨#[]⟩, .slice none 0 0, .slice none 0 0] 27)) Tryz.prog 9 (plainElem Tryz.prog 3)
  simp only [World.size_alloc] at b2 b3 b4 b5 b6
  have x5 : Below (w.heap.size + 5) (((((w.alloc (.cells #[ptr R] 65)).alloc (.cells #[.int .i64 d] 3)).alloc (.cells #[.int .i64 0, .bool false, .int .i64 0, .string ⟨#[]⟩, .slice none 0 0, .slice none 0 0] 27)).alloc (.cells #[.int .i64 6, .bool false, .int .i64 0, .string ⟨#[]⟩, .slice none 0 0, .slice none 0 0] 27)).alloc (.map #[] 0)) W := by rw [← hW]; exact (Below.refl _ _).alloc (by simp <;> omega) _
  have x4 : Below (w.heap.size + 4) ((((w.alloc (.cells #[ptr R] 65)).alloc (.cells #[.int .i64 d] 3)).alloc (.cells #[.int .i64 0, .bool false, .int .i64 0, .string ⟨#[]⟩, .slice none 0 0, .slice none 0 0] 27)).alloc (.cells #[.int .i64 6, .bool false, .int .i64 0, .string ⟨#[]⟩, .slice none 0 0, .slice none 0 0] 27)) W := by rw [← hW]; exact ((Below.refl _ _).alloc (by simp <;> omega) _).alloc (by simp <;> omega) _
  have x3 : Below (w.heap.size + 3) (((w.alloc (.cells #[ptr R] 65)).alloc (.cells #[.int .i64 d] 3)).alloc (.cells #[.int .i64 0, .bool false, .int .i64 0, .string ⟨#[]⟩, .slice none 0 0, .slice none 0 0] 27)) W := by rw [← hW]; exact (((Below.refl _ _).alloc (by simp <;> omega) _).alloc (by simp <;> omega) _).alloc (by simp <;> omega) _
  have x2 : Below (w.heap.size + 2) ((w.alloc (.cells #[ptr R] 65)).alloc (.cells #[.int .i64 d] 3)) W := by rw [← hW]; exact ((((Below.refl _ _).alloc (by simp <;> omega) _).alloc (by simp <;> omega) _).alloc (by simp <;> omega) _).alloc (by simp <;> omega) _
  have x1 : Below (w.heap.size + 1) (w.alloc (.cells #[ptr R] 65)) W := by rw [← hW]; exact (((((Below.refl _ _).alloc (by simp <;> omega) _).alloc (by simp <;> omega) _).alloc (by simp <;> omega) _).alloc (by simp <;> omega) _).alloc (by simp <;> omega) _
  refine ⟨⟨h.below bW, hRlt, by omega, (x1.block _ (by omega)).trans b1, (x2.block _ (by omega)).trans b2, (x3.block _ (by omega)).trans b3, ?_, ?_, ⟨_, _, [], _, (x4.block _ (by omega)).trans b4, World.ownsRow_nil _ _ _ _, Els.nil _ _ _, (fun g hg => by cases hg), fun j hj => by cases hj⟩, by simp, by simp, by simp⟩, rfl⟩
  ·rw [← hW]; exact b6
  ·obtain ⟨es, ck, e1, e2⟩ := b5
   exact ⟨_, ⟨es, ck, (x5.block _ (by omega)).trans e1, e2⟩, Names.Dat.nil⟩
 have cR := row_c 58 #[.pointer (some ⟨w.heap.size + 3, 0, none⟩), .pointer (some ⟨w.heap.size, 0, none⟩), .pointer (some ⟨w.heap.size + 5, 0, none⟩), .pointer (some ⟨w.heap.size + 1, 0, none⟩)] (enters_of Tryz.func58 (by kernel_rfl) rfl) 123 125 ⟨by omega, by omega⟩ ⟨by omega, by omega, by omega⟩ (stR s n) (JR R w.heap.size d m v s)
  (fun i b a a' j b' hi e => by have := stR_in s n i b a a' j b' hi e; omega) (stR_end s n) (fun w i b a hj => ⟨hj.1.rd, by have := hj.1.sz; omega⟩) (fun w w' i j b a hj hr hk hij => ⟨hj.1.kr hr hk hij, hj.2⟩) (one_c hv hd) ([], []) j0 hat
 obtain ⟨X, hX⟩ : ∃ X, g0 (stR s n) 125 s (blk s (i + 1)) b ([], []) = X := ⟨_, rfl⟩
 rw [hX] at cR ⊢
 have hmf : ∀ (fn : Fn) (first cap : Array Value) (w : World), (Instr.makeFunc fn first cap).run Tryz.prog w = .ok (.func fn first cap) w := fun _ _ _ _ => rfl
 have hmm := makeNone
 unfold ptr at cR hW ⊢
 rw [← hW] at cR
 have HW : Hid (((((((w.alloc (.cells #[.pointer (some ⟨R, 0, none⟩)] 65)).alloc (.cells #[.int .i64 d] 3)).alloc (.cells #[.int .i64 0, .bool false, .int .i64 0, .string ⟨#[]⟩, .slice none 0 0, .slice none 0 0] 27)).alloc (.cells #[.int .i64 6, .bool false, .int .i64 0, .string ⟨#[]⟩, .slice none 0 0, .slice none 0 0] 27)).alloc (.map #[] 0)).alloc (.cells #[.map (some (w.heap.size + 4))] 80)) = W) := hW
 clear h hX hat hW
 have HJ0 : Hid (JR R w.heap.size d m v s W i b ([], [])) := j0
 clear j0
 cases X with
 | error x =>
  have e : reK (.error x) = .error x := rfl
  rw [e]
  go_enter Tryz.func41, Tryz.ntmps41
  go_wp2_with (go_at_call 56; refine cR.mono ?_; rintro e w' ⟨k4, rfl⟩; rw [HW.out] at k4)
  exact ⟨rfl, kr_kb (Kr.of_below bW (by omega)) k4, rfl⟩
 | ok y =>
  obtain ⟨⟨nn, l⟩, j, b'⟩ := y
  have e : reK (.ok ((nn, l), j, b')) = .ok (.mk 6 false 0 ⟨#[]⟩ nn l, j, b') := rfl
  rw [e]
  go_enter Tryz.func41, Tryz.ntmps41
  go_wp2_with (
   go_at_call 56
   refine cR.mono ?_
   rintro e w5 ⟨k4, rfl, j5, hl5⟩
   rw [HW.out] at k4
   clear cR
   dsimp only at j5 hl5
   obtain ⟨nv, lv, us, T, hbox, hnT, hels, hd1, hd2⟩ := j5.box
   have hres := j5.res
   have hsz5 := j5.sz
   obtain ⟨a5, cap5, elv⟩ : ∃ a5 cap5, lv = .slice a5 us.length cap5 := by
    rcases hels.own.1.2 with ⟨e, e0⟩ | ⟨g, cap, cur, e, _⟩
    ·exact ⟨none, 0, by rw [e, e0]⟩
    ·exact ⟨_, cap, e⟩
   obtain ⟨an, capn, env⟩ : ∃ an capn, nv = .slice an nn.length capn := by
    rcases hnT.2 with ⟨e, e0⟩ | ⟨g, cap, cur, e, _⟩
    ·exact ⟨none, 0, by rw [e, e0]⟩
    ·exact ⟨_, cap, e⟩
   subst elv
   subst env
   have hbox : w5.heap[w.heap.size + 1 + 1 + 1]? = _ := hbox
   have hres : w5.heap[w.heap.size + 1 + 1]? = _ := hres
   obtain ⟨c0, c1, c2, c3, c4, c5⟩ := six_box hbox
   obtain ⟨d0, d1, d2, d3, d4, d5⟩ := six_box hres
   have f0 := frozen_box hres 0
   have f1 := frozen_box hres 1
   have f2 := frozen_box hres 2
   have f3 := frozen_box hres 3
   have f4 := frozen_box hres 4
   have f5 := frozen_box hres 5
   have HJ5 : Hid (JM R w.heap.size d m v s w5 j b' nn l) := j5
   have HL5 : Hid (nn.length = l.length) := hl5
   have HNT : Hid (OwnT w5 (w.heap.size + 6) (.slice an nn.length capn) nn) := hnT
   have HD1 : Hid (∀ g, (Value.slice an nn.length capn).ownBlock = some g → (Value.slice a5 us.length cap5).ownBlock ≠ some g) := hd1
   have HD2 : Hid (∀ j, j < l.length → ∀ g, T j g → (Value.slice an nn.length capn).ownBlock ≠ some g) := hd2
   have HELS : Hid (Els w5 m (w.heap.size + 6) (.slice a5 us.length cap5) us l T) := hels
   have HRES : Hid (w5.heap[w.heap.size + 1 + 1]? = some (.cells #[.int .i64 0, .bool false, .int .i64 0, .string ⟨#[]⟩, .slice none 0 0, .slice none 0 0] 27 (0, 0))) := hres
   clear j5 hels hres hbox hnT hd1 hd2 hl5)
  obtain ⟨W6, hW6⟩ : ∃ W6, ((((((w5.setCell ⟨w.heap.size + 1 + 1, 0, none⟩ (.int .i64 6)).setCell ⟨w.heap.size + 1 + 1, 1, none⟩ (.bool false)).setCell ⟨w.heap.size + 1 + 1, 2, none⟩ (.int .i64 0)).setCell ⟨w.heap.size + 1 + 1, 3, none⟩ (.string ⟨#[]⟩)).setCell
   ⟨w.heap.size + 1 + 1, 4, none⟩ (.slice an nn.length capn)).setCell ⟨w.heap.size + 1 + 1, 5, none⟩ (.slice a5 us.length cap5)) = W6 := ⟨_, rfl⟩
  rw [hW6]
  obtain ⟨q1, q2, q3, q4⟩ := set6 _ _ _ _ _ _ HRES.out hW6
  refine bodyPost_ret (results_cell_row rfl _ W6 (w.heap.size + 1 + 1) 27 _ (0, 0) _ rfl q1 Tryz.underlying27 rfl (by kernel_rfl)) rfl ?_
  have hj := HJ5.out
  have hE := HELS.out
  have hs5 := k4.below.size
  refine ⟨⟨q4 _ _ (by omega) ((bW.mono (by omega)).trans k4.below), fun k hk hlt => ?_⟩, ⟨_, rfl, ?_⟩, hj.rd.keep fun k hk => q2 k (by have := hj.RB; omega)⟩
  ·rw [q2 k (by omega), k4.other k hk hlt]
   exact bW.block k hlt
  ·rw [Fs]
   have hE6 : Els W6 m (w.heap.size + 6) (.slice a5 us.length cap5) us l T := hE.keep (fun g hg hs => q2 g (by omega)) (by omega)
   have hnlt := World.ownsRow.lt HNT.out
   have hN6 : OwnT W6 (w.heap.size + 6) (.slice an nn.length capn) nn := Fresh.own_keep HNT.out fun g hg => q2 g (by have := (hnlt g hg).1; omega)
   have hlen := hE.len
   have hle := hj.le
   have hle2 := hj.le2
   have hje := hj.rd.le
   have hjz := hj.rd.sz
   refine ⟨_, _, us, T, rfl, by decide, by decide, by decide, by omega, fun t ht => by have := hj.small t ht; omega, by omega, row0 hN6, fun g hg => ?_, ⟨row0 hE6.own.1, hE6.own.2⟩, fun g hg => ⟨?_, fun h => HD1.out g h hg⟩, hlen, fun q hq g hg => ?_, hE6.dis, hE6.fs⟩
   ·have := hnlt g hg
    exact ⟨by omega, by omega⟩
   ·have := World.ownsRow.lt hE6.own.1 g hg
    exact ⟨by omega, by omega⟩
   ·have := hE6.out q hq g hg
    exact ⟨⟨by omega, by omega⟩, HD2.out q hq g hg, this.2.2⟩
end Go.Proofs.YthkpbhgbmagaeaaGreatDoor.Rec
namespace Go.Proofs.YthkpbhgbmagaeaaGreatDoor.TextKey
open Go.RowKit Go.Proofs.YthkpbhgbmagaeaaGreatDoor.Base Go.Proofs.YthkpbhgbmagaeaaGreatDoor.Digits
set_option linter.unusedVariables false
def tx : C → ByteArray
 | .mk k b i s _ _ => if k = 1 then ⟨#[]⟩ else if k = 2 then (if b = true then ⟨#[116, 114, 117, 101]⟩ else ⟨#[102, 97, 108, 115, 101]⟩) else if k = 3 then ⟨(Lib.itoa i).toArray⟩ else if k = 4 then s else ⟨#[]⟩
def kk : C → Int
 | .mk k _ _ _ _ _ => if k = 3 ∨ k = 4 then k else 0
end Go.Proofs.YthkpbhgbmagaeaaGreatDoor.TextKey
