import Derived.Deep.RegionHeld3
import Derived.Test.YtghnhkagkngjcaaGreatDoorPN00
import Derived.Test.YtghnhkagkngjcaaGreatDoorPN04
import Derived.Test.YtghnhkagkngjcaaGreatDoorPN05
set_option linter.unusedVariables false
namespace Go.Proofs.YtghnhkagkngjcaaGreatDoor.ERd
open Go.RowKit Base UBase EPure
abbrev ptr (R : Nat) : Value := .pointer (some ⟨R, 0, none⟩)
structure Kr (R : Nat) (w w' : World) : Prop where
 below : Below R w w'
 other : ∀ k, k ≠ R → k < w.heap.size → w'.heap[k]? = w.heap[k]?
theorem Kr.refl (R : Nat) (w : World) : Kr R w w := ⟨Below.refl _ _, fun _ _ _ => rfl⟩
theorem Kr.trans {R : Nat} {a b c : World} (h : Kr R a b) (k : Kr R b c) : Kr R a c :=
 ⟨h.below.trans k.below, fun n hn hs => (k.other n hn (by have := h.below.size; omega)).trans (h.other n hn hs)⟩
theorem Kr.of_below {R : Nat} {w w' : World} (h : Below w.heap.size w w') (hR : R ≤ w.heap.size) : Kr R w w' := ⟨h.mono hR, fun k _ hk => h.block k hk⟩
theorem Kr.drewN {R : Nat} {w w' : World} (h : Kr R w w') (n : Nat) : Kr R w (w'.drewN n) :=
 h.trans ⟨⟨rfl, rfl, rfl, by simp, fun _ _ => by simp⟩, fun _ _ _ => by simp⟩
theorem Kr.set {R : Nat} {w w' : World} (h : Kr R w w') (j : Nat) (u : Value) : Kr R w (w'.setCell ⟨R, j, none⟩ u) :=
 ⟨h.below.setCell (p := ⟨R, j, none⟩) (Nat.le_refl _) u, fun k hk hs => (Below.heap_setCell _ _ _ _ (by simpa using hk)).trans (h.other k hk hs)⟩
structure Er (w : World) (R : Nat) (s : ByteArray) (a r : Nat) (t : Tk) : Prop where
 box : w.heap[R]? = some (.cells #[.string s, .int .i64 a, .int .i64 r, .int .i64 t.k, .string t.t, .int .i64 t.n, .int .i64 t.a] 85 (0, 0))
 la : a ≤ s.size
 sz : s.size ≤ 140737488351300
theorem Er.lt {w : World} {R : Nat} {s : ByteArray} {a r : Nat} {t : Tk} (h : Er w R s a r t) : R < w.heap.size := (Array.getElem?_eq_some_iff.1 h.box).1
theorem Er.keep {w w' : World} {R : Nat} {s : ByteArray} {a r : Nat} {t : Tk} (h : Er w R s a r t) (hk : w'.heap[R]? = w.heap[R]?) : Er w' R s a r t := ⟨hk.trans h.box, h.la, h.sz⟩
theorem Er.drewN {w : World} {R : Nat} {s : ByteArray} {a r : Nat} {t : Tk} (h : Er w R s a r t) (n : Nat) : Er (w.drewN n) R s a r t := h.keep rfl
theorem Er.cells {w : World} {R : Nat} {s : ByteArray} {a r : Nat} {t : Tk} (h : Er w R s a r t) :
  w.cell? ⟨R, 0, none⟩ = some (.string s) ∧ w.cell? ⟨R, 1, none⟩ = some (.int .i64 a) ∧ w.cell? ⟨R, 2, none⟩ = some (.int .i64 r) ∧ w.cell? ⟨R, 3, none⟩ = some (.int .i64 t.k) ∧ w.cell? ⟨R, 4, none⟩ = some (.string t.t) ∧ w.cell? ⟨R, 5, none⟩ = some (.int .i64 t.n) ∧ w.cell? ⟨R, 6, none⟩ = some (.int .i64 t.a) := by
 refine ⟨?_, ?_, ?_, ?_, ?_, ?_, ?_⟩ <;> simp [World.cell?, h.box]
theorem Er.free {w : World} {R : Nat} {s : ByteArray} {a r : Nat} {t : Tk} (h : Er w R s a r t) (j : Nat) : w.frozen? ⟨R, j, none⟩ = false := by
 simp [World.frozen?, h.box]
theorem Er.go {w : World} {R : Nat} {s : ByteArray} {a r : Nat} {t : Tk} (h : Er w R s a r t) (j : Nat) (hj : j ≤ s.size) : Er (w.setCell ⟨R, 1, none⟩ (.int .i64 j)) R s j r t := by
 refine ⟨?_, hj, h.sz⟩
 have := heap_setCell_same w R 1 _ 85 (.int .i64 j) h.box
 rw [this]
 rfl
theorem at_in {s : ByteArray} {i : Nat} (h : at' s i ≠ 0) : i < s.size := Decidable.of_not_not fun hn => h (at_out s i hn)
theorem isOf_c (those : ByteArray) (c : Nat) (w : World) :
  Calls Tryz.prog 97 #[.string those, .int .u8 (c : Nat)] w fun e w' => e = .returned (.bool (decide ((0 : Int) ≤ Lib.indexByte those.data.toList (c.toUInt8)))) ∧ w' = w := by
 have c1 := Tryz.strings_IndexByte those (c : Int) w
 simp only [Int.toNat_natCast] at c1
 go_enter Tryz.func97, Tryz.ntmps97
 go_wp2_with (first | (go_at_call 95; refine c1.mono ?_; rintro e w' ⟨rfl, rfl⟩))
 go_ret
 exact ⟨rfl, rfl⟩
theorem next_c {w : World} {R : Nat} {s : ByteArray} {a r : Nat} {t : Tk} (h : Er w R s a r t) (ha : a < s.size) :
  Calls Tryz.prog 98 #[ptr R] w fun e w' => e = .returned (.int .u8 (at' s a : Nat)) ∧ ∃ k, w' = w.drewN k := by
 obtain ⟨k0, k1, -, -, -, -, -⟩ := h.cells
 have hsz := h.sz
 have H : Hid (at' s a = (s[a]'ha).toNat) := at_get s a ha
 have e1 : ((a : Int) == (s.size : Int)) = false := by simp; omega
 unfold ptr
 clear h
 go_enter Tryz.func98, Tryz.ntmps98
 go_wp2_with fail
 go_quiet (fail)
 go_wp2_with fail
 go_quiet (fail)
 go_wp2_with fail
 go_ret
 exact ⟨by rw [H.out]; rfl, _, World.drewN_drewN _ _ _⟩
end Go.Proofs.YtghnhkagkngjcaaGreatDoor.ERd
