import Derived.BigQuiet
import Derived.Deep.QuietTactic
import Derived.Laws.BytesArg
import Derived.Lib.AppendStr
import Derived.Lib.RuneBytes
import Derived.Lib.UnsafeStr
import Derived.LoopN
import Derived.LoopTactic
import Derived.Shelf.Unicode.DecodeSlow
import Derived.WalkLawsBesides
import Derived.Test.YthkpbhgbmagaeaaGreatDoorP04
namespace Go.Proofs.YthkpbhgbmagaeaaGreatDoor.Rdr
open Go.RowKit Go.Proofs.YthkpbhgbmagaeaaGreatDoor.Base Go.Proofs.YthkpbhgbmagaeaaGreatDoor.UBase Go.Proofs.YthkpbhgbmagaeaaGreatDoor.Spec
set_option linter.unusedVariables false
theorem bset {w : World} {B j : Nat} {cs : Array Value} {t : TypeId} {fz : Nat × Nat} (h : w.heap[B]? = some (.cells cs t fz)) (u : Value) : (w.setCell ⟨B, j, none⟩ u).heap[B]? = some (.cells (cs.setIfInBounds j u) t fz) := by
 simp [World.setCell, Array.getElem?_modify, h]
/-- The bytes s lie in the slice v, in a block below R. -/
def Byt (w : World) (R : Nat) (v : Value) (s : ByteArray) : Prop :=
 ∃ a cap, v = .slice a s.size cap ∧ s.size ≤ cap ∧ cap ≤ maxLen ∧ (a = none → cap = 0) ∧
  (s.size = 0 ∨ ∃ g o, a = some ⟨g, o, none⟩ ∧ g < R ∧ ∀ j, j < s.size → w.cell? ⟨g, o + j, none⟩ = some (.int .u8 (at' s j : Nat)))
/-- The reader in block R stands at place i, b values have begun. -/
structure Rd (w : World) (R : Nat) (v : Value) (s : ByteArray) (i b : Nat) : Prop where
 box : w.heap[R]? = some (.cells #[v, .int .i64 i, .int .i64 b] 57 (0, 0))
 byt : Byt w R v s
 le : i ≤ s.size
 lb : b ≤ 16384
 sz : s.size ≤ 65536
 tab : Lib.Utf8Tabs 0 1 w
 gR : 0 < R ∧ 1 < R
/-- Only the block R has changed, and new ones have come. -/
structure Kr (R : Nat) (w w' : World) : Prop where
 below : Below R w w'
 other : ∀ k, k ≠ R → k < w.heap.size → w'.heap[k]? = w.heap[k]?
theorem Kr.refl (R : Nat) (w : World) : Kr R w w := ⟨Below.refl _ _, fun _ _ _ => rfl⟩
theorem Kr.trans {R : Nat} {a b c : World} (h : Kr R a b) (k : Kr R b c) : Kr R a c :=
 ⟨h.below.trans k.below, fun n hn hs => (k.other n hn (by have := h.below.size; omega)).trans (h.other n hn hs)⟩
theorem Kr.of_below {R : Nat} {w w' : World} (h : Below w.heap.size w w') (hR : R ≤ w.heap.size) : Kr R w w' := ⟨h.mono hR, fun k _ hk => h.block k hk⟩
theorem Kr.drew {R : Nat} {w w' : World} (h : Kr R w w') : Kr R w w'.drew := ⟨h.below.drew, h.other⟩
theorem Kr.alloc {R : Nat} {w w' : World} (h : Kr R w w') (hR : R ≤ w'.heap.size) (o : Obj) : Kr R w (w'.alloc o) :=
 ⟨h.below.alloc hR o, fun k hk hs => (Below.heap_alloc _ _ _ (by have := h.below.size; omega)).trans (h.other k hk hs)⟩
theorem Kr.set {R : Nat} {w w' : World} (h : Kr R w w') (j : Nat) (u : Value) : Kr R w (w'.setCell ⟨R, j, none⟩ u) :=
 ⟨h.below.setCell (p := ⟨R, j, none⟩) (Nat.le_refl _) u, fun k hk hs => (Below.heap_setCell _ _ _ _ hk).trans (h.other k hk hs)⟩
theorem Rd.lt {w : World} {R : Nat} {v : Value} {s : ByteArray} {i b : Nat} (h : Rd w R v s i b) : R < w.heap.size := (Array.getElem?_eq_some_iff.1 h.box).1
theorem Byt.keep {w w' : World} {R : Nat} {v : Value} {s : ByteArray} (h : Byt w R v s) (hk : ∀ k, k < R → w'.heap[k]? = w.heap[k]?) : Byt w' R v s := by
 obtain ⟨a, cap, h1, h2, h3, h4, h5⟩ := h
 refine ⟨a, cap, h1, h2, h3, h4, ?_⟩
 rcases h5 with h5 | ⟨g, o, ha, hg, hc⟩
 ·exact .inl h5
 ·exact .inr ⟨g, o, ha, hg, fun j hj => (World.cell?_of_block (w := w) (hk g hg)).trans (hc j hj)⟩
theorem tab_keep {w w' : World} {g h : Nat} (t : Lib.Utf8Tabs g h w) (hg : w'.heap[g]? = w.heap[g]?) (hh : w'.heap[h]? = w.heap[h]?) : Lib.Utf8Tabs g h w' :=
 ⟨fun c hc => (World.cell?_of_block (w := w) hg).trans (t.1 c hc), fun i hi => ⟨(World.cell?_of_block (w := w) hh).trans (t.2 i hi).1, (World.cell?_of_block (w := w) hh).trans (t.2 i hi).2⟩⟩
/-- Memory turned elsewhere leaves the reader. -/
theorem Rd.keep {w w' : World} {R : Nat} {v : Value} {s : ByteArray} {i b : Nat} (h : Rd w R v s i b) (hk : ∀ k, k ≤ R → w'.heap[k]? = w.heap[k]?) : Rd w' R v s i b :=
 ⟨(hk R (Nat.le_refl _)).trans h.box, h.byt.keep fun k hk' => hk k (by omega), h.le, h.lb, h.sz, tab_keep h.tab (hk _ (by have := h.gR; omega)) (hk _ (by have := h.gR; omega)), h.gR⟩
theorem Rd.below {w w' : World} {R : Nat} {v : Value} {s : ByteArray} {i b : Nat} (h : Rd w R v s i b) (hk : Below w.heap.size w w') : Rd w' R v s i b :=
 h.keep fun k hk' => hk.block k (by have := h.lt; omega)
theorem Rd.drew {w : World} {R : Nat} {v : Value} {s : ByteArray} {i b : Nat} (h : Rd w R v s i b) : Rd w.drew R v s i b := h.keep fun _ _ => rfl
theorem Rd.drewN {w : World} {R : Nat} {v : Value} {s : ByteArray} {i b : Nat} (h : Rd w R v s i b) (n : Nat) : Rd (w.drewN n) R v s i b := h.keep fun _ _ => by simp
theorem Kr.drewN {R : Nat} {w w' : World} (h : Kr R w w') (n : Nat) : Kr R w (w'.drewN n) :=
 h.trans ⟨⟨rfl, rfl, rfl, by simp, fun _ _ => by simp⟩, fun _ _ _ => by simp⟩
/-- The place is turned. -/
theorem Rd.go {w : World} {R : Nat} {v : Value} {s : ByteArray} {i b : Nat} (h : Rd w R v s i b) (j : Nat) (hj : j ≤ s.size) : Rd (w.setCell ⟨R, 1, none⟩ (.int .i64 j)) R v s j b :=
 ⟨by rw [bset h.box]; rfl, h.byt.keep fun k hk => Below.heap_setCell _ _ _ _ (by simp; omega), hj, h.lb, h.sz, tab_keep h.tab (Below.heap_setCell _ _ _ _ (by have := h.gR; simp; omega)) (Below.heap_setCell _ _ _ _ (by have := h.gR; simp; omega)), h.gR⟩
theorem Rd.begin {w : World} {R : Nat} {v : Value} {s : ByteArray} {i b : Nat} (h : Rd w R v s i b) (c : Nat) (hc : c ≤ 16384) : Rd (w.setCell ⟨R, 2, none⟩ (.int .i64 c)) R v s i c :=
 ⟨by rw [bset h.box]; rfl, h.byt.keep fun k hk => Below.heap_setCell _ _ _ _ (by simp; omega), h.le, hc, h.sz, tab_keep h.tab (Below.heap_setCell _ _ _ _ (by have := h.gR; simp; omega)) (Below.heap_setCell _ _ _ _ (by have := h.gR; simp; omega)), h.gR⟩
theorem Rd.cells {w : World} {R : Nat} {v : Value} {s : ByteArray} {i b : Nat} (h : Rd w R v s i b) :
  w.cell? ⟨R, 0, none⟩ = some v ∧ w.cell? ⟨R, 1, none⟩ = some (.int .i64 i) ∧ w.cell? ⟨R, 2, none⟩ = some (.int .i64 b) ∧ w.frozen? ⟨R, 1, none⟩ = false ∧ w.frozen? ⟨R, 2, none⟩ = false := by
 have h' := h.box
 refine ⟨?_, ?_, ?_, ?_, ?_⟩ <;> simp [World.cell?, World.frozen?, h']
theorem Rd.byte {w : World} {R : Nat} {v : Value} {s : ByteArray} {i b : Nat} (h : Rd w R v s i b) {j : Nat} (hj : j < s.size) :
  ∃ g o cap, v = .slice (some ⟨g, o, none⟩) s.size cap ∧ s.size ≤ cap ∧ w.cell? ⟨g, o + j, none⟩ = some (.int .u8 (at' s j : Nat)) := by
 obtain ⟨a, cap, h1, h2, h3, h4, h5⟩ := h.byt
 rcases h5 with h5 | ⟨g, o, rfl, hg, hc⟩
 ·omega
 ·exact ⟨g, o, cap, h1, h2, hc j hj⟩
/-- What a reader panics with. -/
def pk (e : F) : List PanicEntry := [{ v := .iface 41 (.agg #[.int .i64 (e.1 : Nat), .int .i64 (e.2 : Nat)]), recovered := false }]
/-- The place of a reader. -/
def plc (R : Nat) (w : World) : Nat := match w.cell? ⟨R, 1, none⟩ with
 | some (.int _ n) => n.toNat
 | _ => 0
theorem Rd.plc {w : World} {R : Nat} {v : Value} {s : ByteArray} {i b : Nat} (h : Rd w R v s i b) : plc R w = i := by
 unfold Rdr.plc
 rw [h.cells.2.1]
 simp
def ptr (R : Nat) : Value := .pointer (some ⟨R, 0, none⟩)
end Go.Proofs.YthkpbhgbmagaeaaGreatDoor.Rdr
namespace Go.Proofs.YthkpbhgbmagaeaaGreatDoor.Byts
open Go.ChangeShapes Go.WideShapes Go.ChangeAt Go.RowKit Go.Proofs.YthkpbhgbmagaeaaGreatDoor.Base Go.Proofs.YthkpbhgbmagaeaaGreatDoor.Rdr
set_option linter.unusedVariables false
theorem info5 : (Tryz.prog.info? 5).map (fun i => (i.zero, i.size, i.bytes)) = some (some (.int .u8 0), 1, 1) := by kernel_rfl
/-- v is a row of one's own (a block from B on) that holds the bytes L. -/
def Own (w : World) (B : Nat) (v : Value) (L : List UInt8) : Prop := w.ownsRow B 5 1 v L.length (Lib.byteCells L)
theorem Own.nil (w : World) (B : Nat) : Own w B (.slice none 0 0) [] := World.ownsRow_nil _ _ _ _
theorem own_rune {w' : World} {B : Nat} {v : Value} {L : List UInt8} {r : Int} (h : w'.ownsRow B 5 1 v (L.length + (Lib.runeCells r).length) (Lib.byteCells L ++ Lib.runeCells r)) : Own w' B v (L ++ Lib.encodeRune r) := by
 unfold Own
 rw [Lib.byteCells_append, List.length_append, Lib.byteCells_encodeRune, ← Lib.runeCells_length]
 exact h
/-- Such a row as a text. -/
theorem own_conv {w : World} {B : Nat} {v : Value} {L : List UInt8} (h : Own w B v L) : (convert 22 9 v).run Tryz.prog w = .ok (.string ⟨L.toArray⟩) w := by
 rcases h.2 with ⟨rfl, h0⟩ | ⟨g, cap, cur, rfl, hb, hh, hn, hm, _⟩
 ·have hL : L = [] := List.eq_nil_of_length_eq_zero h0
  subst hL
  exact run_convert_bytes_nil w 22 5 Tryz.underlying22 Tryz.underlying5 0 0 9 Tryz.underlying9
 ·refine run_convert_bytes_back (P := Tryz.prog) w 22 9 5 ⟨g, 0, none⟩ cap L Tryz.underlying22 Tryz.underlying5 Tryz.underlying9 fun j hj => ?_
  exact World.ownsRow.cells (g := g) h rfl j (.int .u8 (L[j].toNat : Int)) (by simp [Lib.byteCells, hj])
theorem Own.len {w : World} {B : Nat} {v : Value} {L : List UInt8} (h : Own w B v L) : ∃ a cap, v = .slice a L.length cap ∧ L.length ≤ cap ∧ cap ≤ maxLen := by
 rcases h.2 with ⟨rfl, h0⟩ | ⟨g, cap, cur, rfl, hb, hh, hn, hm, _⟩
 ·exact ⟨none, 0, by rw [h0], by omega, by unfold maxLen; omega⟩
 ·exact ⟨_, cap, rfl, hn, hm⟩
/-- A row of one's own stays where its block does. -/
theorem own_keep {w w' : World} {B : Nat} {e : TypeId} {z n : Nat} {v : Value} {xs : List Value} (h : w.ownsRow B e z v n xs) (hk : ∀ g, B ≤ g → g < w.heap.size → v.ownBlock = some g → w'.heap[g]? = w.heap[g]?) : w'.ownsRow B e z v n xs := by
 refine ⟨h.1, ?_⟩
 rcases h.2 with h2 | ⟨g, cap, cur, hv, hg, hh, r⟩
 ·exact .inl h2
 ·exact .inr ⟨g, cap, cur, hv, hg, (hk g hg (Array.getElem?_eq_some_iff.1 hh).1 (by rw [hv]; rfl)).trans hh, r⟩
theorem own_kr {w w' : World} {R B : Nat} {e : TypeId} {z n : Nat} {v : Value} {xs : List Value} (h : w.ownsRow B e z v n xs) (hk : Kr R w w') (hR : R < B) : w'.ownsRow B e z v n xs :=
 own_keep h fun g hg hs _ => hk.other g (by omega) hs
/-- What grows a row of one's own is no other block's business. -/
theorem kr_grown {R B : Nat} {w a w' : World} {row : Option Nat} (h : Kr R w a) (hB : B = w.heap.size) (hR : R < B) (hg : a.grownBy w' row) (hr : ∀ k, row = some k → B ≤ k) : Kr R w w' := by
 have hs := h.below.size
 refine ⟨h.below.grown hg (by omega) (fun k hk => by have := hr k hk; omega), fun k hk hlt => ?_⟩
 rw [hg.block k (by omega) (fun e => by have := hr k e.symm; omega)]
 exact h.other k hk hlt
theorem rd_grown {R B : Nat} {a w' : World} {row : Option Nat} {v : Value} {s : ByteArray} {i b : Nat} (h : Rd a R v s i b) (hR : R < B) (hg : a.grownBy w' row) (hr : ∀ k, row = some k → B ≤ k) : Rd w' R v s i b :=
 h.keep fun k hk => hg.block k (by have := h.lt; omega) (fun e => by have := hr k e.symm; omega)
end Go.Proofs.YthkpbhgbmagaeaaGreatDoor.Byts
namespace Go.Proofs.YthkpbhgbmagaeaaGreatDoor.Take
open Go.RowKit Go.Proofs.YthkpbhgbmagaeaaGreatDoor.Base Go.Proofs.YthkpbhgbmagaeaaGreatDoor.UBase Go.Proofs.YthkpbhgbmagaeaaGreatDoor.Spec Go.Proofs.YthkpbhgbmagaeaaGreatDoor.Rdr
set_option linter.unusedVariables false
theorem refuse_c {w : World} {R : Nat} {v : Value} {s : ByteArray} {i b : Nat} (h : Rd w R v s i b) :
  Calls Tryz.prog 26 #[ptr R] w fun e w' => e = .panicked (pk (600, i)) ∧ w' = w := by
 obtain ⟨k0, k1, k2, f1, f2⟩ := h.cells
 unfold ptr pk
 clear h
 go_enter Tryz.func26, Tryz.ntmps26
 go_wp2
 exact ⟨rfl, rfl, rfl⟩
theorem next_c {w : World} {R : Nat} {v : Value} {s : ByteArray} {i b : Nat} (h : Rd w R v s i b) (hi : i < s.size) :
  Calls Tryz.prog 37 #[ptr R] w fun e w' => e = .returned (.int .u8 (at' s i : Nat)) ∧ w' = w.drew.drew := by
 obtain ⟨k0, k1, k2, f1, f2⟩ := h.cells
 obtain ⟨g, o, cap, rfl, hc, kb⟩ := h.byte hi
 have hne : ((i : Int) == (s.size : Int)) = false := by simp; omega
 have hsz := h.sz
 unfold ptr
 clear h
 go_enter Tryz.func37, Tryz.ntmps37
 go_wp2_with fail
 go_region
 go_wp2_with fail
 go_region
 go_wp2_with fail
 go_ret
 exact ⟨rfl, rfl⟩
theorem next_end {w : World} {R : Nat} {v : Value} {s : ByteArray} {i b : Nat} (h : Rd w R v s i b) (hi : ¬ i < s.size) :
  Calls Tryz.prog 37 #[ptr R] w fun e w' => e = .panicked (pk (600, i)) ∧ w' = w.drew := by
 have c41 := refuse_c h.drew
 obtain ⟨k0, k1, k2, f1, f2⟩ := h.cells
 obtain ⟨a, cap, rfl, hc, -⟩ := h.byt
 have hne : ((i : Int) == (s.size : Int)) = true := by have := h.le; simp; omega
 have hsz := h.sz
 unfold ptr at c41 ⊢
 clear h
 go_enter Tryz.func37, Tryz.ntmps37
 go_wp2_with fail
 go_region
 go_wp2_with (go_at_call 26; refine c41.mono ?_; rintro e w' ⟨rfl, rfl⟩)
 exact ⟨rfl, rfl, rfl⟩
theorem take_c {w : World} {R : Nat} {v : Value} {s : ByteArray} {i b c : Nat} (h : Rd w R v s i b) (hc : at' s i = c) (hc0 : c ≠ 0) (hcb : c < 256) :
  Calls Tryz.prog 53 #[ptr R, .int .u8 c] w fun e w' => e = .returned (.tuple #[]) ∧ Rd w' R v s (i + 1) b ∧ Kr R w w' := by
 have hi : i < s.size := at_in (by omega)
 have c58 := next_c h hi
 rw [hc] at c58
 have h2 := h.drew.drew
 have h3 := h2.go (i + 1) (by omega)
 have k3 := (((Kr.refl R w).drew).drew).set 1 (.int .i64 (i + 1 : Nat))
 obtain ⟨k0, k1, k2, f1, f2⟩ := h2.cells
 have hsz := h.sz
 unfold ptr at c58 ⊢
 clear h h2 hc
 go_enter Tryz.func53, Tryz.ntmps53
 go_wp2_with (go_at_call 37; refine c58.mono ?_; rintro e w' ⟨rfl, rfl⟩)
 go_end0
 exact ⟨rfl, h3, k3⟩
theorem take_no {w : World} {R : Nat} {v : Value} {s : ByteArray} {i b c : Nat} (h : Rd w R v s i b) (hc : at' s i ≠ c) (hc0 : c ≠ 0) (hcb : c < 256) :
  Calls Tryz.prog 53 #[ptr R, .int .u8 c] w fun e w' => e = .panicked (pk (600, i)) ∧ Kr R w w' := by
 have c41 := refuse_c h.drew.drew
 by_cases hi : i < s.size
 ·have c58 := next_c h hi
  have hne : (((at' s i : Nat) : Int) != (c : Int)) = true := by simp; omega
  have hb := at_lt s i
  generalize at' s i = x at *
  unfold ptr at c58 c41 ⊢
  clear h
  go_enter Tryz.func53, Tryz.ntmps53
  go_wp2_with (first | (go_at_call 37; refine c58.mono ?_; rintro e w' ⟨rfl, rfl⟩) | (go_at_call 26; refine c41.mono ?_; rintro e w' ⟨rfl, rfl⟩))
  exact ⟨rfl, rfl, ((Kr.refl R w).drew).drew⟩
 ·have c58 := next_end h hi
  unfold ptr at c58 ⊢
  clear h c41
  go_enter Tryz.func53, Tryz.ntmps53
  go_wp2_with (go_at_call 37; refine c58.mono ?_; rintro e w' ⟨rfl, rfl⟩)
  exact ⟨rfl, rfl, (Kr.refl R w).drew⟩
/-- The bytes of a word. -/
def wb (t : ByteArray) : List Nat := (List.range t.size).map (at' t)
theorem wd_drop (s t : ByteArray) (i q : Nat) (hq : q < t.size) (n : Nat) : wd s (((List.range t.size).map (at' t)).drop q) n = if at' s n = at' t q then wd s (((List.range t.size).map (at' t)).drop (q + 1)) (n + 1) else .error (600, n) := by
 rw [List.drop_eq_getElem_cons (by simp; omega)]
 simp only [List.getElem_map, List.getElem_range]
 rw [wd]
/-- A word: the place behind it, or the fault. -/
theorem word_c {w : World} {R : Nat} {v : Value} {s : ByteArray} {i b : Nat} (t : ByteArray) (ht : t.size ≤ 8) (hz : ∀ j, j < t.size → at' t j ≠ 0) (h : Rd w R v s i b) :
  Calls Tryz.prog 38 #[ptr R, .string t] w fun e w' => Kr R w w' ∧ match wd s (wb t) i with
   | .ok j => (∃ r, e = .returned r) ∧ Rd w' R v s j b
   | .error x => e = .panicked (pk x) := by
 have HZ : Hid (∀ j, j < t.size → at' t j ≠ 0) := hz
 have HR : Hid (Rd w R v s i b) := h
 obtain ⟨X, hX⟩ : ∃ X, wd s (wb t) i = X := ⟨_, rfl⟩
 rw [hX]
 have HX : Hid (wd s (wb t) i = X) := hX
 clear h hz hX
 unfold ptr
 go_enter Tryz.func38, Tryz.ntmps38
 go_wp2_with fail
 go_loopw [7] (fun ii wr => ∃ q : Nat, q ≤ t.size ∧ ii = .int .i64 q ∧ Rd wr R v s (i + q) b ∧ Kr R w wr ∧ wd s ((wb t).drop q) (i + q) = X) (fun ii _ => t.size - (intOf ii).toNat)
 case atStart => exact ⟨0, by omega, rfl, HR.out, Kr.refl _ _, HX.out⟩
 case round =>
  obtain ⟨q, hq, rfl, hr, hk, hx⟩ := hrel
  by_cases hlt : q < t.size
  ·rw [wb, wd_drop s t i q hlt] at hx
   have hz := HZ.out q hlt
   have hlb := at_lt t q
   have et := at_get t q hlt
   by_cases hc : at' s (i + q) = at' t q
   ·rw [if_pos hc] at hx
    have c77 := take_c hr hc hz hlb
    have HX2 : Hid (wd s ((wb t).drop (q + 1)) (i + q + 1) = X) := hx
    rw [et] at c77
    unfold ptr at c77
    clear hx hc hz hlb et hr
    go_wp2_with (go_at_call 53; refine c77.mono ?_; rintro e w' ⟨rfl, h2, k2⟩)
    go_roundw
    case rel => exact ⟨q + 1, by omega, by go_num, by rw [← Nat.add_assoc]; exact h2, hk.trans k2, by rw [← Nat.add_assoc]; exact HX2.out⟩
    case measure => simp only [intOf]; omega
   ·rw [if_neg hc] at hx
    have c77 := take_no hr hc hz hlb
    rw [et] at c77
    unfold ptr at c77
    subst hx
    clear hc hz hlb et hr
    go_wp2_with (go_at_call 53; refine c77.mono ?_; rintro e w' ⟨rfl, k2⟩)
    exact ⟨rfl, hk.trans k2, rfl⟩
  ·obtain rfl : q = t.size := by omega
   have e0 : (wb t).drop t.size = [] := List.drop_eq_nil_of_le (by simp [wb])
   rw [e0, wd] at hx
   subst hx
   have HR2 : Hid (Rd wr R v s (i + t.size) b) := hr
   clear hr e0
   go_wp2_with fail
   go_end0
   exact ⟨hk, ⟨_, rfl⟩, HR2.out⟩
end Go.Proofs.YthkpbhgbmagaeaaGreatDoor.Take
namespace Go.Proofs.YthkpbhgbmagaeaaGreatDoor.RRd
open Go.RowKit Go.Proofs.YthkpbhgbmagaeaaGreatDoor.Base Go.Proofs.YthkpbhgbmagaeaaGreatDoor.UBase Go.Proofs.YthkpbhgbmagaeaaGreatDoor.Spec Go.Proofs.YthkpbhgbmagaeaaGreatDoor.Sums Go.Proofs.YthkpbhgbmagaeaaGreatDoor.Nums Go.Proofs.YthkpbhgbmagaeaaGreatDoor.Rdr
set_option linter.unusedVariables false
/-- The reader in block R: the text, the place, the first fault and its place, how many have begun. -/
structure Rr (w : World) (R : Nat) (s : ByteArray) (i f p b : Nat) : Prop where
 box : w.heap[R]? = some (.cells #[.string s, .int .i64 i, .int .i64 f, .int .i64 p, .int .i64 b] 46 (0, 0))
 li : i ≤ s.size + 16
 sz : s.size ≤ 65536
 lb : b ≤ 16384
theorem Rr.lt {w : World} {R : Nat} {s : ByteArray} {i f p b : Nat} (h : Rr w R s i f p b) : R < w.heap.size := (Array.getElem?_eq_some_iff.1 h.box).1
theorem Rr.cells {w : World} {R : Nat} {s : ByteArray} {i f p b : Nat} (h : Rr w R s i f p b) :
  w.cell? ⟨R, 0, none⟩ = some (.string s) ∧ w.cell? ⟨R, 1, none⟩ = some (.int .i64 i) ∧ w.cell? ⟨R, 2, none⟩ = some (.int .i64 f) ∧ w.cell? ⟨R, 3, none⟩ = some (.int .i64 p) ∧ w.cell? ⟨R, 4, none⟩ = some (.int .i64 b) := by
 refine ⟨?_, ?_, ?_, ?_, ?_⟩ <;> simp [World.cell?, h.box]
theorem Rr.free {w : World} {R : Nat} {s : ByteArray} {i f p b : Nat} (h : Rr w R s i f p b) (j : Nat) : w.frozen? ⟨R, j, none⟩ = false := by
 simp [World.frozen?, h.box]
theorem Rr.keep {w w' : World} {R : Nat} {s : ByteArray} {i f p b : Nat} (h : Rr w R s i f p b) (hk : w'.heap[R]? = w.heap[R]?) : Rr w' R s i f p b := ⟨hk.trans h.box, h.li, h.sz, h.lb⟩
theorem Rr.below {w w' : World} {R : Nat} {s : ByteArray} {i f p b : Nat} (h : Rr w R s i f p b) (hk : Below w.heap.size w w') : Rr w' R s i f p b := h.keep (hk.block R h.lt)
theorem Rr.drewN {w : World} {R : Nat} {s : ByteArray} {i f p b : Nat} (h : Rr w R s i f p b) (n : Nat) : Rr (w.drewN n) R s i f p b := h.keep rfl
theorem Rr.drew {w : World} {R : Nat} {s : ByteArray} {i f p b : Nat} (h : Rr w R s i f p b) : Rr w.drew R s i f p b := h.keep rfl
theorem Rr.go {w : World} {R : Nat} {s : ByteArray} {i f p b : Nat} (h : Rr w R s i f p b) (j : Nat) (hj : j ≤ s.size + 16) : Rr (w.setCell ⟨R, 1, none⟩ (.int .i64 j)) R s j f p b :=
 ⟨by rw [bset h.box]; rfl, hj, h.sz, h.lb⟩
theorem Rr.fault {w : World} {R : Nat} {s : ByteArray} {i f p b : Nat} (h : Rr w R s i f p b) (f' : Nat) : Rr (w.setCell ⟨R, 2, none⟩ (.int .i64 f')) R s i f' p b :=
 ⟨by rw [bset h.box]; rfl, h.li, h.sz, h.lb⟩
theorem Rr.place {w : World} {R : Nat} {s : ByteArray} {i f p b : Nat} (h : Rr w R s i f p b) (p' : Nat) : Rr (w.setCell ⟨R, 3, none⟩ (.int .i64 p')) R s i f p' b :=
 ⟨by rw [bset h.box]; rfl, h.li, h.sz, h.lb⟩
theorem Rr.begun {w : World} {R : Nat} {s : ByteArray} {i f p b : Nat} (h : Rr w R s i f p b) (b' : Nat) (hb : b' ≤ 16384) : Rr (w.setCell ⟨R, 4, none⟩ (.int .i64 b')) R s i f p b' :=
 ⟨by rw [bset h.box]; rfl, h.li, h.sz, hb⟩
theorem fail_first {w : World} {R : Nat} {s : ByteArray} {i p b : Nat} (h : Rr w R s i 0 p b) (e pl : Nat) (he : e ≤ 100000) (hp : pl ≤ 100000) :
  Calls Tryz.prog 16 #[ptr R, .int .i64 (e : Int), .int .i64 (pl : Int)] w fun r w' => r = .returned (.tuple #[]) ∧ Rr w' R s i e pl b ∧ Kr R w w' := by
 obtain ⟨k0, k1, k2, k3, k4⟩ := h.cells
 have f2 := h.free 2
 have f3 := h.free 3
 have h2 := (h.fault e).place pl
 have hk := ((Kr.refl R w).set 2 (.int .i64 (e : Int))).set 3 (.int .i64 (pl : Int))
 unfold ptr
 clear h
 go_enter Tryz.func16, Tryz.ntmps16
 go_wp2_with fail
 go_end0
 exact ⟨rfl, h2, hk⟩
theorem fail_more {w : World} {R : Nat} {s : ByteArray} {i f p b : Nat} (h : Rr w R s i f p b) (hf : f ≠ 0) (e pl : Int) :
  Calls Tryz.prog 16 #[ptr R, .int .i64 e, .int .i64 pl] w fun r w' => r = .returned (.tuple #[]) ∧ w' = w := by
 obtain ⟨k0, k1, k2, k3, k4⟩ := h.cells
 have e1 : ((f : Int) == 0) = false := by simp; omega
 unfold ptr
 clear h
 go_enter Tryz.func16, Tryz.ntmps16
 go_wp2_with fail
 go_end0
 exact ⟨rfl, rfl⟩
theorem peek_c {w : World} {R : Nat} {s : ByteArray} {i f p b : Nat} (h : Rr w R s i f p b) :
  Calls Tryz.prog 27 #[ptr R] w fun r w' => r = .returned (.int .u8 (at' s i : Nat)) ∧ ∃ k, w' = w.drewN k := by
 obtain ⟨k0, k1, -, -, -⟩ := h.cells
 have hsz := h.sz
 have hli := h.li
 unfold ptr
 clear h
 by_cases hi : i < s.size
 ·have H : Hid (at' s i = (s[i]'hi).toNat) := at_get s i hi
  have d : decide (i < s.size) = true := decide_eq_true hi
  go_enter Tryz.func27, Tryz.ntmps27
  go_wp2_with fail
  go_quiet (fail)
  go_wp2_with fail
  go_quiet (fail)
  go_wp2_with fail
  go_ret
  exact ⟨by rw [H.out]; rfl, _, World.drewN_drewN _ _ _⟩
 ·have H : Hid (at' s i = 0) := at_out s i hi
  have d : decide (i < s.size) = false := decide_eq_false hi
  go_enter Tryz.func27, Tryz.ntmps27
  go_wp2_with fail
  go_quiet (fail)
  go_wp2_with fail
  go_ret
  exact ⟨by rw [H.out]; rfl, _, rfl⟩
theorem digit_c (c : Nat) (hc : c < 256) (w : World) :
  Calls Tryz.prog 28 #[.int .u8 (c : Nat)] w fun r w' => r = .returned (.bool (dig c)) ∧ w' = w := by
 by_cases h1 : 48 ≤ c
 ·have d1 : decide ((48 : Int) ≤ (c : Int)) = true := decide_eq_true (by omega)
  have e : dig c = decide ((c : Int) ≤ 57) := by
   unfold dig
   rw [decide_eq_true h1, Bool.true_and]
   exact decide_eq_decide.mpr (by omega)
  rw [e]
  clear e
  go_enter Tryz.func28, Tryz.ntmps28
  go_wp2_with fail
  go_ret
  exact ⟨rfl, rfl⟩
 ·have d1 : decide ((48 : Int) ≤ (c : Int)) = false := decide_eq_false (by omega)
  have e : dig c = false := by unfold dig; simp; omega
  rw [e]
  clear e
  go_enter Tryz.func28, Tryz.ntmps28
  go_wp2_with fail
  go_ret
  exact ⟨rfl, rfl⟩
set_option maxRecDepth 20000 in
set_option maxHeartbeats 1600000 in
theorem blanks_c {w : World} {R : Nat} {s : ByteArray} {i f p b : Nat} (h : Rr w R s i f p b) :
  Calls Tryz.prog 15 #[ptr R] w fun r w' => r = .returned (.tuple #[]) ∧ Rr w' R s (blk s i) f p b ∧ Kr R w w' := by
 unfold ptr
 obtain ⟨X, hX⟩ : ∃ X, blk s i = X := ⟨_, rfl⟩
 rw [hX]
 go_enter Tryz.func15, Tryz.ntmps15
 go_wp2_with fail
 go_loopw [] (fun wr => ∃ j : Nat, blk s j = X ∧ Rr wr R s j f p b ∧ Kr R w wr) (fun wr => s.size - (intOf ((wr.cell? ⟨R, 1, none⟩).getD undef)).toNat)
 case atStart => exact ⟨i, hX, h, Kr.refl _ _⟩
 case round =>
  clear h hX i
  obtain ⟨i, hX, h, HK⟩ := hrel
  obtain ⟨k0, k1, -, -, -⟩ := h.cells
  have f1 := h.free 1
  have hsz := h.sz
  have hli := h.li
  have hM0 : (intOf ((wr.cell? ⟨R, 1, none⟩).getD undef)).toNat = i := by rw [k1]; simp [intOf]
  by_cases hi : i < s.size
  ·obtain ⟨c, hc0⟩ : ∃ c, (s[i]'hi).toNat = c := ⟨_, rfl⟩
   have HC : Hid (at' s i = c) := by rw [← hc0]; exact at_get s i hi
   have d : decide (i < s.size) = true := decide_eq_true hi
   have hS := h.go (i + 1) (by omega)
   rw [show ((i + 1 : Nat) : Int) = (i : Int) + 1 from by omega] at hS
   have HS : Hid (∀ m, Rr ((wr.drewN m).setCell ⟨R, 1, none⟩ (.int .i64 ((i : Int) + 1))) R s (i + 1) f p b) := fun m => hS.keep rfl
   have HM : Hid (∀ m, s.size - (intOf ((((wr.drewN m).setCell ⟨R, 1, none⟩ (.int .i64 ((i : Int) + 1))).cell? ⟨R, 1, none⟩).getD undef)).toNat < s.size - (intOf ((wr.cell? ⟨R, 1, none⟩).getD undef)).toNat) := fun m => by
    rw [(HS.out m).cells.2.1, hM0]
    simp [intOf]
    omega
   have HR : Hid (∀ m, Rr (wr.drewN m) R s i f p b) := fun m => h.drewN m
   clear hS hM0 h
   by_cases hc0 : c = 32
   ·have hc : c = 32 := hc0
    have e0 : ((c : Int) == 32) = true := by simp; omega
    clear hc0
    have HB : Hid (blk s (i + 1) = X) := by
     show _ = _
     rw [← hX, blk_step hi (by rw [HC.out]; subst hc; decide)]
    clear hX HC hc
    go_wp2_with fail
    go_quiet (fail)
    go_wp2_with fail
    go_roundw
    case rel => exact ⟨i + 1, HB.out, HS.out nq, (HK.drewN nq).set 1 _⟩
    case measure => exact HM.out nq
   ·skip
    by_cases hc1 : c = 9
    ·have hc : c = 9 := hc1
     have e0 : ((c : Int) == 32) = false := by simp; omega
     have e1 : ((c : Int) == 9) = true := by simp; omega
     clear hc1 hc0
     have HB : Hid (blk s (i + 1) = X) := by
      show _ = _
      rw [← hX, blk_step hi (by rw [HC.out]; subst hc; decide)]
     clear hX HC hc
     go_wp2_with fail
     go_quiet (fail)
     go_wp2_with fail
     go_roundw
     case rel => exact ⟨i + 1, HB.out, HS.out nq, (HK.drewN nq).set 1 _⟩
     case measure => exact HM.out nq
    ·skip
     by_cases hc2 : c = 10
     ·have hc : c = 10 := hc2
      have e0 : ((c : Int) == 32) = false := by simp; omega
      have e1 : ((c : Int) == 9) = false := by simp; omega
      have e2 : ((c : Int) == 10) = true := by simp; omega
      clear hc2 hc0 hc1
      have HB : Hid (blk s (i + 1) = X) := by
       show _ = _
       rw [← hX, blk_step hi (by rw [HC.out]; subst hc; decide)]
      clear hX HC hc
      go_wp2_with fail
      go_quiet (fail)
      go_wp2_with fail
      go_roundw
      case rel => exact ⟨i + 1, HB.out, HS.out nq, (HK.drewN nq).set 1 _⟩
      case measure => exact HM.out nq
     ·skip
      by_cases hc3 : c = 13
      ·have hc : c = 13 := hc3
       have e0 : ((c : Int) == 32) = false := by simp; omega
       have e1 : ((c : Int) == 9) = false := by simp; omega
       have e2 : ((c : Int) == 10) = false := by simp; omega
       have e3 : ((c : Int) == 13) = true := by simp; omega
       clear hc3 hc0 hc1 hc2
       have HB : Hid (blk s (i + 1) = X) := by
        show _ = _
        rw [← hX, blk_step hi (by rw [HC.out]; subst hc; decide)]
       clear hX HC hc
       go_wp2_with fail
       go_quiet (fail)
       go_wp2_with fail
       go_roundw
       case rel => exact ⟨i + 1, HB.out, HS.out nq, (HK.drewN nq).set 1 _⟩
       case measure => exact HM.out nq
      ·skip
       have e0 : ((c : Int) == 32) = false := by simp; omega
       have e1 : ((c : Int) == 9) = false := by simp; omega
       have e2 : ((c : Int) == 10) = false := by simp; omega
       have e3 : ((c : Int) == 13) = false := by simp; omega
       have HB : Hid (blk s i = i) := blk_stop (by rw [HC.out]; simp [isb]; omega)
       have HX : Hid (i = X) := HB.out.symm.trans hX
       clear hX HC HS HM
       go_wp2_with fail
       go_quiet (fail)
       go_wp2_with fail
       go_end0
       exact ⟨rfl, HX.out ▸ HR.out nq, HK.drewN nq⟩
  ·have d : decide (i < s.size) = false := decide_eq_false hi
   have HX : Hid (i = X) := (blk_end hi).symm.trans hX
   have HR : Hid (∀ m, Rr (wr.drewN m) R s i f p b) := fun m => h.drewN m
   clear hX h hM0
   go_wp2_with fail
   go_quiet (fail)
   go_wp2_with fail
   go_end0
   exact ⟨rfl, HX.out ▸ HR.out nq, HK.drewN nq⟩
end Go.Proofs.YthkpbhgbmagaeaaGreatDoor.RRd
namespace Go.Proofs.YthkpbhgbmagaeaaGreatDoor.RWd
open Go.RowKit Go.Proofs.YthkpbhgbmagaeaaGreatDoor.Base Go.Proofs.YthkpbhgbmagaeaaGreatDoor.UBase Go.Proofs.YthkpbhgbmagaeaaGreatDoor.Spec Go.Proofs.YthkpbhgbmagaeaaGreatDoor.Sums Go.Proofs.YthkpbhgbmagaeaaGreatDoor.Nums Go.Proofs.YthkpbhgbmagaeaaGreatDoor.Rdr Go.Proofs.YthkpbhgbmagaeaaGreatDoor.Take Go.Proofs.YthkpbhgbmagaeaaGreatDoor.RRd
set_option linter.unusedVariables false
/-- A fault was met: the first one is x. -/
def Flt (w : World) (R : Nat) (s : ByteArray) (x : F) : Prop := x.1 ≠ 0 ∧ ∃ i b, Rr w R s i x.1 x.2 b
def Res (w : World) (R : Nat) (s : ByteArray) (b : Nat) : Except F Nat → Prop
 | .ok j => Rr w R s j 0 0 b
 | .error x => Flt w R s x
theorem peekQ {w : World} {R : Nat} {s : ByteArray} {i f p b : Nat} (h : Rr w R s i f p b) (k : Nat) :
  Calls Tryz.prog 27 #[.pointer (some ⟨R, 0, none⟩)] (w.drewN k) fun e w'' => e = .returned (.int .u8 (at' s i : Nat)) ∧ ∃ m, w'' = w.drewN m :=
 (peek_c (h.drewN k)).mono fun e w' ⟨he, m, hm⟩ => ⟨he, k + m, by rw [hm, World.drewN_drewN]⟩
set_option maxRecDepth 20000 in
set_option maxHeartbeats 800000 in
theorem word_c {w : World} {R : Nat} {s : ByteArray} {i b : Nat} (t : ByteArray) (ht : t.size ≤ 8) (hi : i ≤ s.size) (h : Rr w R s i 0 0 b) :
  Calls Tryz.prog 29 #[ptr R, .string t] w fun e w' => e = .returned (.tuple #[]) ∧ Res w' R s b (wd s (wb t) i) ∧ Kr R w w' := by
 obtain ⟨X, hX⟩ : ∃ X, wd s (wb t) i = X := ⟨_, rfl⟩
 rw [hX]
 have HX : Hid (wd s (wb t) i = X) := hX
 have HR : Hid (Rr w R s i 0 0 b) := h
 have hsz := h.sz
 clear h hX
 unfold ptr
 go_enter Tryz.func29, Tryz.ntmps29
 go_wp2_with fail
 go_loopw [4] (fun ii wr => ∃ q : Nat, q ≤ t.size ∧ ii = .int .i64 (q : Nat) ∧ Rr wr R s (i + q) 0 0 b ∧ Kr R w wr ∧ wd s ((wb t).drop q) (i + q) = X) (fun ii _ => t.size - (intOf ii).toNat)
 case atStart => exact ⟨0, by omega, rfl, HR.out, Kr.refl _ _, HX.out⟩
 case round =>
  obtain ⟨q, hq, rfl, hr, hk, hx⟩ := hrel
  have HX2 : Hid (wd s ((wb t).drop q) (i + q) = X) := hx
  clear hx
  by_cases hlt : q < t.size
  ·have hwd : wd s ((wb t).drop q) (i + q) = if at' s (i + q) = at' t q then wd s ((wb t).drop (q + 1)) (i + q + 1) else .error (600, i + q) := wd_drop s t i q hlt (i + q)
   obtain ⟨c, hc⟩ : ∃ c, (t[q]'hlt).toNat = c := ⟨_, rfl⟩
   have hct : at' t q = c := by rw [← hc]; exact at_get t q hlt
   rw [hct] at hwd
   have HW : Hid (X = if at' s (i + q) = c then wd s ((wb t).drop (q + 1)) (i + q + 1) else .error (600, i + q)) := HX2.out.symm.trans hwd
   have hP := fun k => peekQ hr k
   have HRR : Hid (∀ k, Rr (wr.drewN k) R s (i + q) 0 0 b) := fun k => hr.drewN k
   clear HX2 hwd hct
   by_cases he : at' s (i + q) = c
   ·have HW2 : Hid (wd s ((wb t).drop (q + 1)) (i + (q + 1)) = X) := by
     have := HW.out
     rw [if_pos he] at this
     exact this.symm
    have e1 : ((at' s (i + q) : Int) == (c : Int)) = true := by simp [he]
    have HS : Hid (∀ k, Rr ((wr.drewN k).setCell ⟨R, 1, none⟩ (.int .i64 ((i : Int) + (q : Int) + 1))) R s (i + (q + 1)) 0 0 b) := fun k => by
     have := (HRR.out k).go (i + (q + 1)) (by omega)
     rwa [show ((i + (q + 1) : Nat) : Int) = (i : Int) + (q : Int) + 1 from by omega] at this
    have hcell := fun k => (HRR.out k).cells.2.1
    have hfr := fun k => (HRR.out k).free 1
    rw [show ((i + q : Nat) : Int) = (i : Int) + (q : Int) from by omega] at hcell
    clear HW he hr
    generalize at' s (i + q) = y at *
    go_wp2_with fail
    go_quiet (first | (go_at_call 27; exact hP _))
    go_wp2_with fail
    go_roundw
    case rel => exact ⟨q + 1, by omega, by go_num, HS.out nq, (hk.drewN nq).set 1 _, HW2.out⟩
    case measure => simp only [intOf]; omega
   ·have HW2 : Hid (X = .error (600, i + q)) := by
     have := HW.out
     rw [if_neg he] at this
     exact this
    have e1 : ((at' s (i + q) : Int) == (c : Int)) = false := by simp; omega
    have hcell := fun k => (HRR.out k).cells.2.1
    have cF := fun k => fail_first (HRR.out k) 600 (i + q) (by omega) (by omega)
    unfold ptr at cF
    rw [show ((i + q : Nat) : Int) = (i : Int) + (q : Int) from by omega] at hcell cF
    clear HW he hr
    generalize at' s (i + q) = y at *
    go_wp2_with fail
    go_quiet (first | (go_at_call 27; exact hP _))
    go_wp2_with (first | (go_at_call 16; refine (cF nq).mono ?_; rintro e w' ⟨rfl, hF, hkF⟩))
    refine bodyPost_ret (results_none rfl _ _ _) rfl ?_
    refine ⟨rfl, ?_, (hk.drewN nq).trans hkF⟩
    rw [HW2.out]
    exact ⟨by simp, _, _, hF⟩
  ·obtain rfl : q = t.size := by omega
   have hnlt : decide ((t.size : Int) < (t.size : Int)) = false := by simp
   have HX3 : Hid (X = .ok (i + t.size)) := by
    have := HX2.out
    rw [List.drop_eq_nil_of_le (by simp [wb])] at this
    rw [← this]
    rfl
   have HR2 : Hid (Rr wr R s (i + t.size) 0 0 b) := hr
   clear HX2 hr
   go_wp2_with fail
   go_end0
   refine ⟨rfl, ?_, hk⟩
   rw [HX3.out]
   exact HR2.out
/-- Behind an element: the end (true), another one (false), or a fault. -/
def en (s : ByteArray) (c i : Nat) : Except F (Bool × Nat) := if at' s (blk s i) = c then .ok (true, blk s i + 1) else if at' s (blk s i) = 44 then .ok (false, blk s i + 1) else .error (600, blk s i)
def EnR (w : World) (R : Nat) (s : ByteArray) (b : Nat) (e : Ending) : Except F (Bool × Nat) → Prop
 | .ok (t, j) => e = .returned (.bool t) ∧ Rr w R s j 0 0 b
 | .error x => e = .returned (.bool true) ∧ Flt w R s x
set_option maxRecDepth 20000 in
set_option maxHeartbeats 1600000 in
theorem ends_c {w : World} {R : Nat} {s : ByteArray} {i b : Nat} (c : Nat) (hc : c < 256) (hc0 : c ≠ 0) (hi : i ≤ s.size) (h : Rr w R s i 0 0 b) :
  Calls Tryz.prog 46 #[ptr R, .int .u8 (c : Nat)] w fun e w' => EnR w' R s b e (en s c i) ∧ Kr R w w' := by
 have cB := blanks_c h
 unfold ptr at cB ⊢
 have hj := blk_in hi
 have hen : en s c i = if at' s (blk s i) = c then .ok (true, blk s i + 1) else if at' s (blk s i) = 44 then .ok (false, blk s i + 1) else .error (600, blk s i) := rfl
 have HE : Hid (en s c i = if at' s (blk s i) = c then .ok (true, blk s i + 1) else if at' s (blk s i) = 44 then .ok (false, blk s i + 1) else .error (600, blk s i)) := hen
 have hsz := h.sz
 clear h hen
 generalize blk s i = j at *
 generalize en s c i = X at *
 go_enter Tryz.func46, Tryz.ntmps46
 go_wp2_with (first | (go_at_call 15; refine cB.mono ?_; clear cB; rintro e w1 ⟨rfl, hr, hk⟩; obtain ⟨k0, k1, -, -, -⟩ := hr.cells; have f1 := hr.free 1))
 have HRR : Hid (∀ k, Rr (w1.drewN k) R s j 0 0 b) := fun k => hr.drewN k
 have HS : Hid (∀ k, j < s.size → Rr ((w1.drewN k).setCell ⟨R, 1, none⟩ (.int .i64 ((j : Int) + 1))) R s (j + 1) 0 0 b) := fun k hlt => by
  have := (HRR.out k).go (j + 1) (by omega)
  rwa [show ((j + 1 : Nat) : Int) = (j : Int) + 1 from by omega] at this
 clear hr
 by_cases hlt : j < s.size
 ·obtain ⟨y, hy⟩ : ∃ y, (s[j]'hlt).toNat = y := ⟨_, rfl⟩
  have hya : at' s j = y := by rw [← hy]; exact at_get s j hlt
  rw [hya] at HE
  have d : decide (j < s.size) = true := decide_eq_true hlt
  by_cases h1 : y = c
  ·have e1 : ((y : Int) == (c : Int)) = true := by simp [h1]
   have HX : Hid (X = .ok (true, j + 1)) := by
    have := HE.out
    rw [if_pos h1] at this
    exact this
   clear HE h1 hya
   go_wp2_with fail
   go_quiet (fail)
   go_wp2_with fail
   go_ret
   rw [HX.out]
   exact ⟨⟨rfl, HS.out nq hlt⟩, (hk.drewN nq).set 1 _⟩
  ·have e1 : ((y : Int) == (c : Int)) = false := by simp; omega
   by_cases h2 : y = 44
   ·have e2 : ((y : Int) == 44) = true := by simp; omega
    have HX : Hid (X = .ok (false, j + 1)) := by
     have := HE.out
     rw [if_neg h1, if_pos h2] at this
     exact this
    clear HE h1 h2 hya
    go_wp2_with fail
    go_quiet (fail)
    go_wp2_with fail
    go_quiet (fail)
    go_wp2_with fail
    go_ret
    rw [HX.out]
    exact ⟨⟨rfl, HS.out _ hlt⟩, (hk.drewN _).set 1 _⟩
   ·have e2 : ((y : Int) == 44) = false := by simp; omega
    have HX : Hid (X = .error (600, j)) := by
     have := HE.out
     rw [if_neg h1, if_neg h2] at this
     exact this
    have cF := fun k => fail_first (HRR.out k) 600 j (by omega) (by omega)
    unfold ptr at cF
    clear HE h1 h2 hya
    go_wp2_with fail
    go_quiet (fail)
    go_wp2_with fail
    go_quiet (fail)
    rw [World.drewN_drewN]
    go_wp2_with (first | (go_at_call 16; refine (cF _).mono ?_; rintro e w' ⟨rfl, hF, hkF⟩))
    go_ret
    rw [HX.out]
    exact ⟨⟨rfl, by simp, _, _, hF⟩, (hk.drewN _).trans hkF⟩
 ·have d : decide (j < s.size) = false := decide_eq_false hlt
  have hya : at' s j = 0 := at_out s j hlt
  have HX : Hid (X = .error (600, j)) := by
   have := HE.out
   rw [hya, if_neg (by omega), if_neg (by decide)] at this
   exact this
  have cF := fun k => fail_first (HRR.out k) 600 j (by omega) (by omega)
  unfold ptr at cF
  clear HE hya
  go_wp2_with fail
  go_quiet (fail)
  go_wp2_with fail
  go_quiet (fail)
  rw [World.drewN_drewN]
  go_wp2_with (first | (go_at_call 16; refine (cF _).mono ?_; rintro e w' ⟨rfl, hF, hkF⟩))
  go_ret
  rw [HX.out]
  exact ⟨⟨rfl, by simp, _, _, hF⟩, (hk.drewN _).trans hkF⟩
end Go.Proofs.YthkpbhgbmagaeaaGreatDoor.RWd
