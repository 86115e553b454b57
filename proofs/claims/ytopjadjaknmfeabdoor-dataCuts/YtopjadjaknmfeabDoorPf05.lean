import Derived.BigQuiet
import Derived.Deep.QuietTactic
import Derived.Laws.BytesArg
import Derived.Lib.AppendStr
import Derived.Lib.RuneBytes
import Derived.Lib.UnsafeStr
import Derived.LoopN
import Derived.LoopTactic
import Derived.Shelf.Unicode.DecodeSlow
import Derived.WalkLawsBesides
import Derived.Test.YtopjadjaknmfeabDoorPf00
import Derived.Test.YtopjadjaknmfeabDoorPf04
namespace Go.Proofs.YtopjadjaknmfeabDoor.Rdr
open Go.RowKit Go.Proofs.YtopjadjaknmfeabDoor.Base Go.Proofs.YtopjadjaknmfeabDoor.UBase Go.Proofs.YtopjadjaknmfeabDoor.Spec
set_option linter.unusedVariables false
theorem bset {w : World} {B j : Nat} {cs : Array Value} {t : TypeId} {fz : Nat × Nat} (h : w.heap[B]? = some (.cells cs t fz)) (u : Value) : (w.setCell ⟨B, j, none⟩ u).heap[B]? = some (.cells (cs.setIfInBounds j u) t fz) := by
  simp [World.setCell, Array.getElem?_modify, h]
/-- The bytes s lie in the slice v, in a block below R. -/
def Byt (w : World) (R : Nat) (v : Value) (s : ByteArray) : Prop :=
  ∃ a cap, v = .slice a s.size cap ∧ s.size ≤ cap ∧ cap ≤ maxLen ∧ (a = none → cap = 0) ∧
    (s.size = 0 ∨ ∃ g o, a = some ⟨g, o, none⟩ ∧ g < R ∧ ∀ j, j < s.size → w.cell? ⟨g, o + j, none⟩ = some (.int .u8 (at' s j : Nat)))
/-- The reader in block R stands at place i, b values have begun. -/
structure Rd (w : World) (R : Nat) (v : Value) (s : ByteArray) (i b : Nat) : Prop where
  box : w.heap[R]? = some (.cells #[v, .int .i64 i, .int .i64 b] 61 (0, 0))
  byt : Byt w R v s
  le : i ≤ s.size
  lb : b ≤ 16384
  sz : s.size ≤ 65536
  tab : Lib.Utf8Tabs 2 3 w
  gR : 2 < R ∧ 3 < R
/-- Only the block R has changed, and new ones have come. -/
structure Kr (R : Nat) (w w' : World) : Prop where
  below : Below R w w'
  other : ∀ k, k ≠ R → k < w.heap.size → w'.heap[k]? = w.heap[k]?
theorem Kr.refl (R : Nat) (w : World) : Kr R w w := ⟨Below.refl _ _, fun _ _ _ => rfl⟩
theorem Kr.trans {R : Nat} {a b c : World} (h : Kr R a b) (k : Kr R b c) : Kr R a c :=
  ⟨h.below.trans k.below, fun n hn hs => (k.other n hn (by have := h.below.size; omega)).trans (h.other n hn hs)⟩
theorem Kr.of_below {R : Nat} {w w' : World} (h : Below w.heap.size w w') (hR : R ≤ w.heap.size) : Kr R w w' := ⟨h.mono hR, fun k _ hk => h.block k hk⟩
theorem Kr.drew {R : Nat} {w w' : World} (h : Kr R w w') : Kr R w w'.drew := ⟨h.below.drew, h.other⟩
theorem Kr.alloc {R : Nat} {w w' : World} (h : Kr R w w') (hR : R ≤ w'.heap.size) (o : Obj) : Kr R w (w'.alloc o) :=
  ⟨h.below.alloc hR o, fun k hk hs => (Below.heap_alloc _ _ _ (by have := h.below.size; omega)).trans (h.other k hk hs)⟩
theorem Kr.set {R : Nat} {w w' : World} (h : Kr R w w') (j : Nat) (u : Value) : Kr R w (w'.setCell ⟨R, j, none⟩ u) :=
  ⟨h.below.setCell (p := ⟨R, j, none⟩) (Nat.le_refl _) u, fun k hk hs => (Below.heap_setCell _ _ _ _ hk).trans (h.other k hk hs)⟩
theorem Rd.lt {w : World} {R : Nat} {v : Value} {s : ByteArray} {i b : Nat} (h : Rd w R v s i b) : R < w.heap.size := (Array.getElem?_eq_some_iff.1 h.box).1
theorem Byt.keep {w w' : World} {R : Nat} {v : Value} {s : ByteArray} (h : Byt w R v s) (hk : ∀ k, k < R → w'.heap[k]? = w.heap[k]?) : Byt w' R v s := by
  obtain ⟨a, cap, h1, h2, h3, h4, h5⟩ := h
  refine ⟨a, cap, h1, h2, h3, h4, ?_⟩
  rcases h5 with h5 | ⟨g, o, ha, hg, hc⟩
  · exact .inl h5
  · exact .inr ⟨g, o, ha, hg, fun j hj => (World.cell?_of_block (w := w) (hk g hg)).trans (hc j hj)⟩
theorem tab_keep {w w' : World} {g h : Nat} (t : Lib.Utf8Tabs g h w) (hg : w'.heap[g]? = w.heap[g]?) (hh : w'.heap[h]? = w.heap[h]?) : Lib.Utf8Tabs g h w' :=
  ⟨fun c hc => (World.cell?_of_block (w := w) hg).trans (t.1 c hc), fun i hi => ⟨(World.cell?_of_block (w := w) hh).trans (t.2 i hi).1, (World.cell?_of_block (w := w) hh).trans (t.2 i hi).2⟩⟩
/-- Memory turned elsewhere leaves the reader. -/
theorem Rd.keep {w w' : World} {R : Nat} {v : Value} {s : ByteArray} {i b : Nat} (h : Rd w R v s i b) (hk : ∀ k, k ≤ R → w'.heap[k]? = w.heap[k]?) : Rd w' R v s i b :=
  ⟨(hk R (Nat.le_refl _)).trans h.box, h.byt.keep fun k hk' => hk k (by omega), h.le, h.lb, h.sz, tab_keep h.tab (hk _ (by have := h.gR; omega)) (hk _ (by have := h.gR; omega)), h.gR⟩
theorem Rd.below {w w' : World} {R : Nat} {v : Value} {s : ByteArray} {i b : Nat} (h : Rd w R v s i b) (hk : Below w.heap.size w w') : Rd w' R v s i b :=
  h.keep fun k hk' => hk.block k (by have := h.lt; omega)
theorem Rd.drew {w : World} {R : Nat} {v : Value} {s : ByteArray} {i b : Nat} (h : Rd w R v s i b) : Rd w.drew R v s i b := h.keep fun _ _ => rfl
theorem Rd.drewN {w : World} {R : Nat} {v : Value} {s : ByteArray} {i b : Nat} (h : Rd w R v s i b) (n : Nat) : Rd (w.drewN n) R v s i b := h.keep fun _ _ => by simp
theorem Kr.drewN {R : Nat} {w w' : World} (h : Kr R w w') (n : Nat) : Kr R w (w'.drewN n) :=
  h.trans ⟨⟨rfl, rfl, rfl, by simp, fun _ _ => by simp⟩, fun _ _ _ => by simp⟩
/-- The place is turned. -/
theorem Rd.go {w : World} {R : Nat} {v : Value} {s : ByteArray} {i b : Nat} (h : Rd w R v s i b) (j : Nat) (hj : j ≤ s.size) : Rd (w.setCell ⟨R, 1, none⟩ (.int .i64 j)) R v s j b :=
  ⟨by rw [bset h.box]; rfl, h.byt.keep fun k hk => Below.heap_setCell _ _ _ _ (by simp; omega), hj, h.lb, h.sz, tab_keep h.tab (Below.heap_setCell _ _ _ _ (by have := h.gR; simp; omega)) (Below.heap_setCell _ _ _ _ (by have := h.gR; simp; omega)), h.gR⟩
theorem Rd.begin {w : World} {R : Nat} {v : Value} {s : ByteArray} {i b : Nat} (h : Rd w R v s i b) (c : Nat) (hc : c ≤ 16384) : Rd (w.setCell ⟨R, 2, none⟩ (.int .i64 c)) R v s i c :=
  ⟨by rw [bset h.box]; rfl, h.byt.keep fun k hk => Below.heap_setCell _ _ _ _ (by simp; omega), h.le, hc, h.sz, tab_keep h.tab (Below.heap_setCell _ _ _ _ (by have := h.gR; simp; omega)) (Below.heap_setCell _ _ _ _ (by have := h.gR; simp; omega)), h.gR⟩
theorem Rd.cells {w : World} {R : Nat} {v : Value} {s : ByteArray} {i b : Nat} (h : Rd w R v s i b) :
    w.cell? ⟨R, 0, none⟩ = some v ∧ w.cell? ⟨R, 1, none⟩ = some (.int .i64 i) ∧ w.cell? ⟨R, 2, none⟩ = some (.int .i64 b) ∧ w.frozen? ⟨R, 1, none⟩ = false ∧ w.frozen? ⟨R, 2, none⟩ = false := by
  have h' := h.box
  refine ⟨?_, ?_, ?_, ?_, ?_⟩ <;> simp [World.cell?, World.frozen?, h']
theorem Rd.byte {w : World} {R : Nat} {v : Value} {s : ByteArray} {i b : Nat} (h : Rd w R v s i b) {j : Nat} (hj : j < s.size) :
    ∃ g o cap, v = .slice (some ⟨g, o, none⟩) s.size cap ∧ s.size ≤ cap ∧ w.cell? ⟨g, o + j, none⟩ = some (.int .u8 (at' s j : Nat)) := by
  obtain ⟨a, cap, h1, h2, h3, h4, h5⟩ := h.byt
  rcases h5 with h5 | ⟨g, o, rfl, hg, hc⟩
  · omega
  · exact ⟨g, o, cap, h1, h2, hc j hj⟩
/-- What a reader panics with. -/
def pk (e : F) : List PanicEntry := [{ v := .iface 46 (.agg #[.int .i64 (e.1 : Nat), .int .i64 (e.2 : Nat)]), recovered := false }]
/-- The place of a reader. -/
def plc (R : Nat) (w : World) : Nat := match w.cell? ⟨R, 1, none⟩ with
  | some (.int _ n) => n.toNat
  | _ => 0
theorem Rd.plc {w : World} {R : Nat} {v : Value} {s : ByteArray} {i b : Nat} (h : Rd w R v s i b) : plc R w = i := by
  unfold Rdr.plc
  rw [h.cells.2.1]
  simp
def ptr (R : Nat) : Value := .pointer (some ⟨R, 0, none⟩)
end Go.Proofs.YtopjadjaknmfeabDoor.Rdr
namespace Go.Proofs.YtopjadjaknmfeabDoor.Byts
open Go.ChangeShapes Go.WideShapes Go.ChangeAt Go.RowKit Go.Proofs.YtopjadjaknmfeabDoor.Base Go.Proofs.YtopjadjaknmfeabDoor.Rdr
set_option linter.unusedVariables false
theorem info5 : (Tryd.prog.info? 5).map (fun i => (i.zero, i.size, i.bytes)) = some (some (.int .u8 0), 1, 1) := by kernel_rfl
/-- v is a row of one's own (a block from B on) that holds the bytes L. -/
def Own (w : World) (B : Nat) (v : Value) (L : List UInt8) : Prop := w.ownsRow B 5 1 v L.length (Lib.byteCells L)
theorem Own.nil (w : World) (B : Nat) : Own w B (.slice none 0 0) [] := World.ownsRow_nil _ _ _ _
theorem cell_new (w : World) (v : Value) (t : TypeId) : (w.alloc (.cells #[v] t)).cell? ⟨w.heap.size, 0, none⟩ = some v := by
  have h := heap_alloc_new w (.cells #[v] t)
  unfold World.cell?
  rw [h]
  rfl
theorem cell_one_byte (wr : World) (c : Nat) (j : Nat) (u : Value) (hj : [Value.int .u8 (c : Int)][j]? = some u) :
    (wr.alloc (.cells #[.int .u8 (c : Int)] 5)).cell? ((⟨wr.heap.size, 0, none⟩ : Addr).add j) = some u := by
  cases j with
  | zero => simp at hj; subst hj; exact cell_new _ _ _
  | succ j => simp at hj
theorem own_more {w' : World} {B : Nat} {v : Value} {L : List UInt8} {c : UInt8} (h : w'.ownsRow B 5 1 v (L.length + 1) (Lib.byteCells L ++ [.int .u8 (c.toNat : Int)])) : Own w' B v (L ++ [c]) := by
  unfold Own
  rw [Lib.byteCells_append, List.length_append]
  exact h
theorem own_text {w' : World} {B : Nat} {v : Value} {L : List UInt8} {x : ByteArray} (h : w'.ownsRow B 5 1 v (L.length + x.size) (Lib.byteCells L ++ Lib.strCells x)) : Own w' B v (L ++ x.data.toList) := by
  unfold Own
  rw [Lib.byteCells_append, List.length_append]
  exact h
theorem own_rune {w' : World} {B : Nat} {v : Value} {L : List UInt8} {r : Int} (h : w'.ownsRow B 5 1 v (L.length + (Lib.runeCells r).length) (Lib.byteCells L ++ Lib.runeCells r)) : Own w' B v (L ++ Lib.encodeRune r) := by
  unfold Own
  rw [Lib.byteCells_append, List.length_append, Lib.byteCells_encodeRune, ← Lib.runeCells_length]
  exact h
/-- Such a row as a text. -/
theorem own_conv {w : World} {B : Nat} {v : Value} {L : List UInt8} (h : Own w B v L) : (convert 30 9 v).run Tryd.prog w = .ok (.string ⟨L.toArray⟩) w := by
  rcases h.2 with ⟨rfl, h0⟩ | ⟨g, cap, cur, rfl, hb, hh, hn, hm, _⟩
  · have hL : L = [] := List.eq_nil_of_length_eq_zero h0
    subst hL
    exact run_convert_bytes_nil w 30 5 Tryd.underlying30 Tryd.underlying5 0 0 9 Tryd.underlying9
  · refine run_convert_bytes_back (P := Tryd.prog) w 30 9 5 ⟨g, 0, none⟩ cap L Tryd.underlying30 Tryd.underlying5 Tryd.underlying9 fun j hj => ?_
    exact World.ownsRow.cells (g := g) h rfl j (.int .u8 (L[j].toNat : Int)) (by simp [Lib.byteCells, hj])
theorem Own.len {w : World} {B : Nat} {v : Value} {L : List UInt8} (h : Own w B v L) : ∃ a cap, v = .slice a L.length cap ∧ L.length ≤ cap ∧ cap ≤ maxLen := by
  rcases h.2 with ⟨rfl, h0⟩ | ⟨g, cap, cur, rfl, hb, hh, hn, hm, _⟩
  · exact ⟨none, 0, by rw [h0], by omega, by unfold maxLen; omega⟩
  · exact ⟨_, cap, rfl, hn, hm⟩
/-- A row of one's own stays where its block does. -/
theorem own_keep {w w' : World} {B : Nat} {e : TypeId} {z n : Nat} {v : Value} {xs : List Value} (h : w.ownsRow B e z v n xs) (hk : ∀ g, B ≤ g → g < w.heap.size → v.ownBlock = some g → w'.heap[g]? = w.heap[g]?) : w'.ownsRow B e z v n xs := by
  refine ⟨h.1, ?_⟩
  rcases h.2 with h2 | ⟨g, cap, cur, hv, hg, hh, r⟩
  · exact .inl h2
  · exact .inr ⟨g, cap, cur, hv, hg, (hk g hg (Array.getElem?_eq_some_iff.1 hh).1 (by rw [hv]; rfl)).trans hh, r⟩
theorem own_kr {w w' : World} {R B : Nat} {e : TypeId} {z n : Nat} {v : Value} {xs : List Value} (h : w.ownsRow B e z v n xs) (hk : Kr R w w') (hR : R < B) : w'.ownsRow B e z v n xs :=
  own_keep h fun g hg hs _ => hk.other g (by omega) hs
/-- What grows a row of one's own is no other block's business. -/
theorem kr_grown {R B : Nat} {w a w' : World} {row : Option Nat} (h : Kr R w a) (hB : B = w.heap.size) (hR : R < B) (hg : a.grownBy w' row) (hr : ∀ k, row = some k → B ≤ k) : Kr R w w' := by
  have hs := h.below.size
  refine ⟨h.below.grown hg (by omega) (fun k hk => by have := hr k hk; omega), fun k hk hlt => ?_⟩
  rw [hg.block k (by omega) (fun e => by have := hr k e.symm; omega)]
  exact h.other k hk hlt
theorem rd_grown {R B : Nat} {a w' : World} {row : Option Nat} {v : Value} {s : ByteArray} {i b : Nat} (h : Rd a R v s i b) (hR : R < B) (hg : a.grownBy w' row) (hr : ∀ k, row = some k → B ≤ k) : Rd w' R v s i b :=
  h.keep fun k hk => hg.block k (by have := h.lt; omega) (fun e => by have := hr k e.symm; omega)
end Go.Proofs.YtopjadjaknmfeabDoor.Byts
namespace Go.Proofs.YtopjadjaknmfeabDoor.Take
open Go.RowKit Go.Proofs.YtopjadjaknmfeabDoor.Base Go.Proofs.YtopjadjaknmfeabDoor.UBase Go.Proofs.YtopjadjaknmfeabDoor.Spec Go.Proofs.YtopjadjaknmfeabDoor.Rdr
set_option linter.unusedVariables false
theorem refuse_c {w : World} {R : Nat} {v : Value} {s : ByteArray} {i b : Nat} (h : Rd w R v s i b) :
    Calls Tryd.prog 32 #[ptr R] w fun e w' => e = .panicked (pk (600, i)) ∧ w' = w := by
  obtain ⟨k0, k1, k2, f1, f2⟩ := h.cells
  unfold ptr pk
  clear h
  go_enter Tryd.func32, Tryd.ntmps32
  go_wp2
  exact ⟨rfl, rfl, rfl⟩
theorem next_c {w : World} {R : Nat} {v : Value} {s : ByteArray} {i b : Nat} (h : Rd w R v s i b) (hi : i < s.size) :
    Calls Tryd.prog 41 #[ptr R] w fun e w' => e = .returned (.int .u8 (at' s i : Nat)) ∧ w' = w.drew.drew := by
  obtain ⟨k0, k1, k2, f1, f2⟩ := h.cells
  obtain ⟨g, o, cap, rfl, hc, kb⟩ := h.byte hi
  have hne : ((i : Int) == (s.size : Int)) = false := by simp; omega
  have hsz := h.sz
  unfold ptr
  clear h
  go_enter Tryd.func41, Tryd.ntmps41
  go_wp2_with fail
  go_region
  go_wp2_with fail
  go_region
  go_wp2_with fail
  go_ret
  exact ⟨rfl, rfl⟩
theorem next_end {w : World} {R : Nat} {v : Value} {s : ByteArray} {i b : Nat} (h : Rd w R v s i b) (hi : ¬ i < s.size) :
    Calls Tryd.prog 41 #[ptr R] w fun e w' => e = .panicked (pk (600, i)) ∧ w' = w.drew := by
  have c41 := refuse_c h.drew
  obtain ⟨k0, k1, k2, f1, f2⟩ := h.cells
  obtain ⟨a, cap, rfl, hc, -⟩ := h.byt
  have hne : ((i : Int) == (s.size : Int)) = true := by have := h.le; simp; omega
  have hsz := h.sz
  unfold ptr at c41 ⊢
  clear h
  go_enter Tryd.func41, Tryd.ntmps41
  go_wp2_with fail
  go_region
  go_wp2_with (go_at_call 32; refine c41.mono ?_; rintro e w' ⟨rfl, rfl⟩)
  exact ⟨rfl, rfl, rfl⟩
theorem take_c {w : World} {R : Nat} {v : Value} {s : ByteArray} {i b c : Nat} (h : Rd w R v s i b) (hc : at' s i = c) (hc0 : c ≠ 0) (hcb : c < 256) :
    Calls Tryd.prog 52 #[ptr R, .int .u8 c] w fun e w' => e = .returned (.tuple #[]) ∧ Rd w' R v s (i + 1) b ∧ Kr R w w' := by
  have hi : i < s.size := at_in (by omega)
  have c58 := next_c h hi
  rw [hc] at c58
  have h2 := h.drew.drew
  have h3 := h2.go (i + 1) (by omega)
  have k3 := (((Kr.refl R w).drew).drew).set 1 (.int .i64 (i + 1 : Nat))
  obtain ⟨k0, k1, k2, f1, f2⟩ := h2.cells
  have hsz := h.sz
  unfold ptr at c58 ⊢
  clear h h2 hc
  go_enter Tryd.func52, Tryd.ntmps52
  go_wp2_with (go_at_call 41; refine c58.mono ?_; rintro e w' ⟨rfl, rfl⟩)
  go_end0
  exact ⟨rfl, h3, k3⟩
theorem take_no {w : World} {R : Nat} {v : Value} {s : ByteArray} {i b c : Nat} (h : Rd w R v s i b) (hc : at' s i ≠ c) (hc0 : c ≠ 0) (hcb : c < 256) :
    Calls Tryd.prog 52 #[ptr R, .int .u8 c] w fun e w' => e = .panicked (pk (600, i)) ∧ Kr R w w' := by
  have c41 := refuse_c h.drew.drew
  by_cases hi : i < s.size
  · have c58 := next_c h hi
    have hne : (((at' s i : Nat) : Int) != (c : Int)) = true := by simp; omega
    have hb := at_lt s i
    generalize at' s i = x at *
    unfold ptr at c58 c41 ⊢
    clear h
    go_enter Tryd.func52, Tryd.ntmps52
    go_wp2_with (first | (go_at_call 41; refine c58.mono ?_; rintro e w' ⟨rfl, rfl⟩) | (go_at_call 32; refine c41.mono ?_; rintro e w' ⟨rfl, rfl⟩))
    exact ⟨rfl, rfl, ((Kr.refl R w).drew).drew⟩
  · have c58 := next_end h hi
    unfold ptr at c58 ⊢
    clear h c41
    go_enter Tryd.func52, Tryd.ntmps52
    go_wp2_with (go_at_call 41; refine c58.mono ?_; rintro e w' ⟨rfl, rfl⟩)
    exact ⟨rfl, rfl, (Kr.refl R w).drew⟩
/-- The bytes of a word. -/
def wb (t : ByteArray) : List Nat := (List.range t.size).map (at' t)
theorem wd_drop (s t : ByteArray) (i q : Nat) (hq : q < t.size) (n : Nat) : wd s (((List.range t.size).map (at' t)).drop q) n = if at' s n = at' t q then wd s (((List.range t.size).map (at' t)).drop (q + 1)) (n + 1) else .error (600, n) := by
  rw [List.drop_eq_getElem_cons (by simp; omega)]
  simp only [List.getElem_map, List.getElem_range]
  rw [wd]
/-- A word: the place behind it, or the fault. -/
theorem word_c {w : World} {R : Nat} {v : Value} {s : ByteArray} {i b : Nat} (t : ByteArray) (ht : t.size ≤ 8) (hz : ∀ j, j < t.size → at' t j ≠ 0) (h : Rd w R v s i b) :
    Calls Tryd.prog 42 #[ptr R, .string t] w fun e w' => Kr R w w' ∧ match wd s (wb t) i with
      | .ok j => (∃ r, e = .returned r) ∧ Rd w' R v s j b
      | .error x => e = .panicked (pk x) := by
  have HZ : Hid (∀ j, j < t.size → at' t j ≠ 0) := hz
  have HR : Hid (Rd w R v s i b) := h
  obtain ⟨X, hX⟩ : ∃ X, wd s (wb t) i = X := ⟨_, rfl⟩
  rw [hX]
  have HX : Hid (wd s (wb t) i = X) := hX
  clear h hz hX
  unfold ptr
  go_enter Tryd.func42, Tryd.ntmps42
  go_wp2_with fail
  go_loopw [7] (fun ii wr => ∃ q : Nat, q ≤ t.size ∧ ii = .int .i64 q ∧ Rd wr R v s (i + q) b ∧ Kr R w wr ∧ wd s ((wb t).drop q) (i + q) = X) (fun ii _ => t.size - (intOf ii).toNat)
  case atStart => exact ⟨0, by omega, rfl, HR.out, Kr.refl _ _, HX.out⟩
  case round =>
    obtain ⟨q, hq, rfl, hr, hk, hx⟩ := hrel
    by_cases hlt : q < t.size
    · rw [wb, wd_drop s t i q hlt] at hx
      have hz := HZ.out q hlt
      have hlb := at_lt t q
      have et := at_get t q hlt
      by_cases hc : at' s (i + q) = at' t q
      · rw [if_pos hc] at hx
        have c77 := take_c hr hc hz hlb
        have HX2 : Hid (wd s ((wb t).drop (q + 1)) (i + q + 1) = X) := hx
        rw [et] at c77
        unfold ptr at c77
        clear hx hc hz hlb et hr
        go_wp2_with (go_at_call 52; refine c77.mono ?_; rintro e w' ⟨rfl, h2, k2⟩)
        go_roundw
        case rel => exact ⟨q + 1, by omega, by go_num, by rw [← Nat.add_assoc]; exact h2, hk.trans k2, by rw [← Nat.add_assoc]; exact HX2.out⟩
        case measure => simp only [intOf]; omega
      · rw [if_neg hc] at hx
        have c77 := take_no hr hc hz hlb
        rw [et] at c77
        unfold ptr at c77
        subst hx
        clear hc hz hlb et hr
        go_wp2_with (go_at_call 52; refine c77.mono ?_; rintro e w' ⟨rfl, k2⟩)
        exact ⟨rfl, hk.trans k2, rfl⟩
    · obtain rfl : q = t.size := by omega
      have e0 : (wb t).drop t.size = [] := List.drop_eq_nil_of_le (by simp [wb])
      rw [e0, wd] at hx
      subst hx
      have HR2 : Hid (Rd wr R v s (i + t.size) b) := hr
      clear hr e0
      go_wp2_with fail
      go_end0
      exact ⟨hk, ⟨_, rfl⟩, HR2.out⟩
end Go.Proofs.YtopjadjaknmfeabDoor.Take
namespace Go.Proofs.YtopjadjaknmfeabDoor.ATx
open Go.RowKit Go.Proofs.YtopjadjaknmfeabDoor.Base Go.Proofs.YtopjadjaknmfeabDoor.UBase Go.Proofs.YtopjadjaknmfeabDoor.Spec Go.Proofs.YtopjadjaknmfeabDoor.Byts
set_option linter.unusedVariables false
/-- What writing a byte does. -/
def ByteIs : Prop := ∀ (w : World) (B : Nat) (v : Value) (L : List UInt8) (c : UInt8), Own w B v L → B ≤ w.heap.size → L.length ≤ 1000000000000 →
    Calls Tryd.prog 39 #[v, .int .u8 (c.toNat : Nat)] w fun e w' => ∃ v', e = .returned v' ∧ Own w' B v' (L ++ qb c) ∧ Below B w w'
theorem qb_len (c : UInt8) : (qb c).length ≤ 6 := by
  unfold qb
  repeat' split
  all_goals simp
theorem fm_len : ∀ l : List UInt8, (l.flatMap qb).length ≤ 6 * l.length
  | [] => by simp
  | c :: l => by
    have := qb_len c
    have := fm_len l
    rw [List.flatMap_cons, List.length_append, List.length_cons]
    omega
theorem own_app {w' : World} {B : Nat} {v : Value} {L M : List UInt8} {m : Nat} (hm : M.length = m) (h : w'.ownsRow B 5 1 v (L.length + m) (Lib.byteCells L ++ Lib.byteCells M)) : Own w' B v (L ++ M) := by
  unfold Own
  rw [Lib.byteCells_append, List.length_append, hm]
  exact h
set_option maxRecDepth 20000 in
set_option maxHeartbeats 800000 in
theorem atext_c {w : World} {B : Nat} {v : Value} {L : List UInt8} {s : ByteArray} (hby : ByteIs) (h : Own w B v L) (hB : B ≤ w.heap.size) (hl : L.length ≤ 100000000000) (hs : s.size ≤ 1000000000) :
    Calls Tryd.prog 27 #[v, .string s] w fun e w' => ∃ v', e = .returned v' ∧ Own w' B v' (L ++ qt s) ∧ Below B w w' := by
  obtain ⟨i0, hi, hz0, hz1, hz2⟩ := info_parts info5
  have hown : (w.alloc (.cells #[.int .u8 34] 5)).ownsRow B 5 1 v L.length (Lib.byteCells L) := World.ownsRow.alloc h _
  have hnews : ∀ j u, ([.int .u8 34] : List Value)[j]? = some u → (w.alloc (.cells #[.int .u8 34] 5)).cell? ((⟨w.heap.size, 0, none⟩ : Addr).add j) = some u := new_cells w [.int .u8 34] 5
  have hone : ∀ u ∈ ([.int .u8 34] : List Value), u.oneCell' = true := by intro u hu; simp only [List.mem_cons, List.not_mem_nil, or_false] at hu; subst hu; rfl
  have HBY : Hid ByteIs := hby
  clear hby
  go_enter Tryd.func27, Tryd.ntmps27
  go_wp2_with (at_builtin; refine wpList_append_own _ rfl _ _ 30 rfl B 5 i0 (.int .u8 0) 1 1 Tryd.underlying30 hi hz0 hz1 hz2 rfl (by decide) _ _ _ rfl hown ⟨w.heap.size, 0, none⟩ 1 1 [.int .u8 34] rfl rfl hnews hone (by unfold maxLen; omega) (by omega) (by simp; omega) ?_; intro v1 w1 hown1 hgrow1 _; have hgrow1 : World.grownBy _ w1 v.ownBlock := hgrow1)
  have o1 : Own w1 B v1 (L ++ [34]) := own_app rfl hown1
  have b1 : Below B w w1 := ((Below.refl _ w).alloc hB _).grown hgrow1 (by simp; omega) (fun k hk => (World.ownsRow.lt h k hk).1)
  have z1 := b1.size
  have HB1 : Hid (Below B w w1) := b1
  have HO1 : Hid (Own w1 B v1 (L ++ [34])) := o1
  clear hown hnews hown1 hgrow1 o1 b1 h
  go_loopw [0, 11] (fun out ii wr => ∃ q : Nat, q ≤ s.size ∧ ii = .int .i64 q ∧ Own wr B out (L ++ 34 :: (s.data.toList.take q).flatMap qb) ∧ Below B w wr) (fun _ ii _ => s.size - (intOf ii).toNat)
  case atStart => exact ⟨0, by omega, rfl, by simpa using HO1.out, HB1.out⟩
  case round =>
    obtain ⟨q, hq, rfl, ho, hb⟩ := hrel
    have zr := hb.size
    have hfl := fm_len (s.data.toList.take q)
    have hfl2 : (s.data.toList.take q).length ≤ q := by rw [List.length_take]; omega
    by_cases hlt : q < s.size
    · have cb := HBY.out wr B u0 _ s[q] ho (by omega) (by simp only [List.length_append, List.length_cons]; omega)
      have HO : Hid (Below B w wr) := hb
      clear ho hb hfl hfl2
      go_wp2_with (go_at_call 39; refine cb.mono ?_; rintro e w2 ⟨v2, rfl, o2, b2⟩)
      go_roundw
      case rel =>
        refine ⟨q + 1, by omega, by go_num, ?_, HO.out.trans b2⟩
        have e1 : s.data.toList.take (q + 1) = s.data.toList.take q ++ [s[q]] := by
          rw [List.take_succ_eq_append_getElem (by simpa using hlt)]
          rfl
        rw [e1, List.flatMap_append]
        simpa [List.append_assoc] using o2
      case measure => simp only [intOf]; omega
    · obtain rfl : q = s.size := by omega
      have e1 : s.data.toList.take s.size = s.data.toList := List.take_of_length_le (show s.data.toList.length ≤ s.data.size from Nat.le_of_eq Array.length_toList)
      rw [e1] at ho hfl hfl2
      have hown : (wr.alloc (.cells #[.int .u8 34] 5)).ownsRow B 5 1 u0 _ _ := World.ownsRow.alloc ho _
      have hnews : ∀ j u, ([.int .u8 34] : List Value)[j]? = some u → (wr.alloc (.cells #[.int .u8 34] 5)).cell? ((⟨wr.heap.size, 0, none⟩ : Addr).add j) = some u := new_cells wr [.int .u8 34] 5
      have HO : Hid (Below B w wr) := hb
      have HLT : Hid (∀ k, u0.ownBlock = some k → B ≤ k) := fun k hk => (World.ownsRow.lt ho k hk).1
      obtain ⟨N, hN⟩ : ∃ N, (L ++ 34 :: s.data.toList.flatMap qb).length = N := ⟨_, rfl⟩
      have hNl : N ≤ 1000000000000 := by rw [← hN]; simp only [List.length_append, List.length_cons]; omega
      rw [hN] at hown
      have HN : Hid ((L ++ 34 :: s.data.toList.flatMap qb).length = N) := hN
      clear ho hb hfl hfl2 e1 hN
      go_wp2_with (at_builtin; refine wpList_append_own _ rfl _ _ 30 rfl B 5 i0 (.int .u8 0) 1 1 Tryd.underlying30 hi hz0 hz1 hz2 rfl (by decide) _ _ _ rfl hown ⟨wr.heap.size, 0, none⟩ 1 1 [.int .u8 34] rfl rfl hnews hone (by unfold maxLen; omega) (by omega) (by simp; omega) ?_; intro v2 v2w hown2 hgrow2 _; have hgrow2 : World.grownBy _ v2w u0.ownBlock := hgrow2)
      have o2 : Own v2w B v2 _ := own_app (L := L ++ 34 :: s.data.toList.flatMap qb) (M := [34]) rfl (by rw [HN.out]; exact hown2)
      refine bodyPost_ret (results_tmp rfl _ _ _) rfl ⟨v2, rfl, by simpa [qt, List.append_assoc] using o2, HO.out.trans (((Below.refl _ wr).alloc (by omega) _).grown hgrow2 (by simp; omega) HLT.out)⟩
end Go.Proofs.YtopjadjaknmfeabDoor.ATx
