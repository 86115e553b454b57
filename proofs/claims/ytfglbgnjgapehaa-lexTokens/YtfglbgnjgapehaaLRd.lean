/- Templates: the lexer's cells; contracts of failed, begins, take, refuse, misplaced, must. -/
import Derived.Test.YtfglbgnjgapehaaMBase
import Derived.Test.YtfglbgnjgapehaaShelf
import Derived.Deep.RegionHeld3
import Derived.BigQuiet
namespace Go.Proofs.Ytfglbgnjgapehaa.LRd
open Go.RowKit Go.Proofs.Ytfglbgnjgapehaa.UBase Go.Proofs.Ytfglbgnjgapehaa.EPure Go.Proofs.Ytfglbgnjgapehaa.LPure
set_option linter.unusedVariables false

theorem heap_alloc_new (w : World) (o : Obj) : (w.alloc o).heap[w.heap.size]? = some o := by
  show (w.heap.push o)[w.heap.size]? = _
  simp
theorem heap_setCell_same (w : World) (B j : Nat) (cs : Array Value) (t : TypeId) (v : Value) (h : w.heap[B]? = some (.cells cs t (0, 0))) : (w.setCell ⟨B, j, none⟩ v).heap[B]? = some (.cells (cs.setIfInBounds j v) t (0, 0)) := by
  simp [World.setCell, Array.getElem?_modify, h]
abbrev ptr (R : Nat) : Value := .pointer (some ⟨R, 0, none⟩)
/-- Only block R has changed, and new ones have come. -/
structure Kr (R : Nat) (w w' : World) : Prop where
  below : Below R w w'
  other : ∀ k, k ≠ R → k < w.heap.size → w'.heap[k]? = w.heap[k]?
theorem Kr.refl (R : Nat) (w : World) : Kr R w w := ⟨Below.refl _ _, fun _ _ _ => rfl⟩
theorem Kr.trans {R : Nat} {a b c : World} (h : Kr R a b) (k : Kr R b c) : Kr R a c :=
  ⟨h.below.trans k.below, fun n hn hs => (k.other n hn (by have := h.below.size; omega)).trans (h.other n hn hs)⟩
theorem Kr.of_below {R : Nat} {w w' : World} (h : Below w.heap.size w w') (hR : R ≤ w.heap.size) : Kr R w w' := ⟨h.mono hR, fun k _ hk => h.block k hk⟩
theorem Kr.drewN {R : Nat} {w w' : World} (h : Kr R w w') (n : Nat) : Kr R w (w'.drewN n) :=
  h.trans ⟨⟨rfl, rfl, rfl, by simp, fun _ _ => by simp⟩, fun _ _ _ => by simp⟩
theorem Kr.set {R : Nat} {w w' : World} (h : Kr R w w') (j : Nat) (u : Value) : Kr R w (w'.setCell ⟨R, j, none⟩ u) :=
  ⟨h.below.setCell (p := ⟨R, j, none⟩) (Nat.le_refl _) u, fun k hk hs => (Below.heap_setCell _ _ _ _ (by simpa using hk)).trans (h.other k hk hs)⟩
/-- The lexer in block R: the text, the place, in a tag or not, the first fault (0: none). -/
structure Lr (w : World) (R : Nat) (s : ByteArray) (i : Nat) (b : Bool) (f : F) : Prop where
  box : w.heap[R]? = some (.cells #[.string s, .int .i64 i, .bool b, .int .i64 f.1, .int .i64 f.2] 43 (0, 0))
  la : i ≤ s.size
  sz : s.size ≤ 65536
theorem Lr.lt {w : World} {R : Nat} {s : ByteArray} {i : Nat} {b : Bool} {f : F} (h : Lr w R s i b f) : R < w.heap.size := (Array.getElem?_eq_some_iff.1 h.box).1
theorem Lr.keep {w w' : World} {R : Nat} {s : ByteArray} {i : Nat} {b : Bool} {f : F} (h : Lr w R s i b f) (hk : w'.heap[R]? = w.heap[R]?) : Lr w' R s i b f := ⟨hk.trans h.box, h.la, h.sz⟩
theorem Lr.drewN {w : World} {R : Nat} {s : ByteArray} {i : Nat} {b : Bool} {f : F} (h : Lr w R s i b f) (n : Nat) : Lr (w.drewN n) R s i b f := h.keep rfl
theorem Lr.cells {w : World} {R : Nat} {s : ByteArray} {i : Nat} {b : Bool} {f : F} (h : Lr w R s i b f) :
    w.cell? ⟨R, 0, none⟩ = some (.string s) ∧ w.cell? ⟨R, 1, none⟩ = some (.int .i64 i) ∧ w.cell? ⟨R, 2, none⟩ = some (.bool b) ∧ w.cell? ⟨R, 3, none⟩ = some (.int .i64 f.1) ∧ w.cell? ⟨R, 4, none⟩ = some (.int .i64 f.2) := by
  refine ⟨?_, ?_, ?_, ?_, ?_⟩ <;> simp [World.cell?, h.box]
theorem Lr.free {w : World} {R : Nat} {s : ByteArray} {i : Nat} {b : Bool} {f : F} (h : Lr w R s i b f) (j : Nat) : w.frozen? ⟨R, j, none⟩ = false := by
  simp [World.frozen?, h.box]
theorem Lr.go {w : World} {R : Nat} {s : ByteArray} {i : Nat} {b : Bool} {f : F} (h : Lr w R s i b f) (j : Nat) (hj : j ≤ s.size) : Lr (w.setCell ⟨R, 1, none⟩ (.int .i64 j)) R s j b f := by
  refine ⟨?_, hj, h.sz⟩
  rw [heap_setCell_same w R 1 _ 43 (.int .i64 j) h.box]
  rfl
/-- The first fault is kept. -/
def rf (f e : F) : F := if f.1 = 0 then e else f
theorem failed_c {w : World} {R : Nat} {s : ByteArray} {i : Nat} {b : Bool} {f : F} (h : Lr w R s i b f) :
    Calls Try.prog 18 #[ptr R] w fun e w' => e = .returned (.bool ((f.1 : Int) != 0)) ∧ w' = w := by
  obtain ⟨k0, k1, k2, k3, k4⟩ := h.cells
  unfold ptr
  clear h
  go_enter Try.func18, Try.ntmps18
  go_wp2_with fail
  go_ret
  exact ⟨rfl, rfl⟩
theorem pre_eq (s : ByteArray) (a : Nat) (ha : a ≤ s.size) (x : List UInt8) : Lib.hasPrefix (s.extract a s.size).data.toList (⟨x.toArray⟩ : ByteArray).data.toList = pre s a x := by
  have e1 : (s.extract a s.size).data.toList = s.data.toList.drop a := by
    rw [ByteArray.data_extract, Array.toList_extract, List.extract_eq_take_drop]
    refine List.take_of_length_le ?_
    simp
  have hz : s.data.toList.length = s.size := by simp
  rw [e1]
  unfold Lib.hasPrefix pre
  rw [Bool.eq_iff_iff]
  simp only [Bool.and_eq_true, decide_eq_true_eq, beq_iff_eq, List.isPrefixOf_iff_prefix]
  constructor
  · rintro ⟨l, hl⟩
    have hlen := congrArg List.length hl
    simp only [List.length_append, List.length_drop, hz] at hlen
    exact ⟨by omega, by rw [← hl]; simp⟩
  · rintro ⟨h1, h2⟩
    exact ⟨(s.data.toList.drop a).drop x.length, by rw [← h2, List.length_take_of_le (by simp; omega)]; exact List.take_append_drop _ _⟩
theorem pre_le {s : ByteArray} {a : Nat} {x : List UInt8} (h : pre s a x = true) : a + x.length ≤ s.size := by
  unfold pre at h
  simp only [Bool.and_eq_true, decide_eq_true_eq] at h
  exact h.1
set_option maxRecDepth 20000 in
theorem begins_c {w : World} {R : Nat} {s : ByteArray} {i : Nat} {b : Bool} {f : F} (h : Lr w R s i b f) (x : List UInt8) :
    Calls Try.prog 41 #[ptr R, .string ⟨x.toArray⟩] w fun e w' => e = .returned (.bool (pre s i x)) ∧ ∃ k, w' = w.drewN k := by
  obtain ⟨k0, k1, k2, k3, k4⟩ := h.cells
  have hsz := h.sz
  have hla := h.la
  have cH := fun W => Try.strings_HasPrefix (s.extract i s.size) ⟨x.toArray⟩ W
  rw [pre_eq s i hla x] at cH
  unfold ptr
  clear h
  go_enter Try.func41, Try.ntmps41
  go_wp2_with fail
  go_quiet (first | (go_at_call 39; exact Calls.quiet_of_same (cH _)))
  go_wp2_with fail
  go_ret
  exact ⟨rfl, _, rfl⟩
/-- A sign that stands here is passed. -/
theorem take_c {w : World} {R : Nat} {s : ByteArray} {i : Nat} {b : Bool} {f : F} (h : Lr w R s i b f) (x : List UInt8) :
    Calls Try.prog 67 #[ptr R, .string ⟨x.toArray⟩] w fun e w' => e = .returned (.bool (pre s i x)) ∧ Lr w' R s (if pre s i x = true then i + x.length else i) b f ∧ Kr R w w' := by
  have cB := begins_c h x
  have HE : Hid (Lr w R s i b f) := h
  have hsz := h.sz
  have hla := h.la
  have hxs : (⟨x.toArray⟩ : ByteArray).size = x.length := by show x.toArray.size = _; simp
  cases hp : pre s i x with
  | false =>
    rw [hp] at cB
    simp only [Bool.false_eq_true, if_false]
    unfold ptr at cB ⊢
    clear h hp
    go_enter Try.func67, Try.ntmps67
    go_wp2_with fail
    refine cB.mono ?_
    rintro e w1 ⟨rfl, k, hk⟩
    have HW : Hid (w1 = w.drewN k) := hk
    clear hk cB
    go_wp2_with fail
    go_ret
    rw [HW.out]
    exact ⟨rfl, HE.out.drewN k, (Kr.refl R w).drewN k⟩
  | true =>
    have hle := pre_le hp
    rw [hp] at cB
    simp only [if_true]
    unfold ptr at cB ⊢
    clear h hp
    go_enter Try.func67, Try.ntmps67
    go_wp2_with fail
    refine cB.mono ?_
    rintro e w1 ⟨rfl, k, hk⟩
    have hr1 : Lr w1 R s i b f := by rw [hk]; exact HE.out.drewN k
    have HK1 : Hid (Kr R w w1) := by show Kr R w w1; rw [hk]; exact (Kr.refl R w).drewN k
    have HR1 : Hid (Lr w1 R s i b f) := hr1
    obtain ⟨k0, k1, k2, k3, k4⟩ := hr1.cells
    have f1 := hr1.free 1
    clear hk cB hr1
    go_wp2_with fail
    go_ret
    rw [show (i : Int) + (x.length : Int) = ((i + x.length : Nat) : Int) by omega]
    exact ⟨rfl, HR1.out.go _ hle, HK1.out.set _ _⟩
theorem Lr.low {w w' : World} {R : Nat} {s : ByteArray} {i : Nat} {b : Bool} {f : F} (h : Lr w R s i b f) (hb : Below w.heap.size w w') : Lr w' R s i b f := h.keep (hb.block R h.lt)
theorem two_box {w : World} {B : Nat} {v0 v1 : Value} {t : TypeId} (h : w.heap[B]? = some (.cells #[v0, v1] t (0, 0))) : w.cell? ⟨B, 0, none⟩ = some v0 ∧ w.cell? ⟨B, 1, none⟩ = some v1 := by
  constructor <;> simp [World.cell?, h]
/-- A fault: the first one is kept. -/
theorem refuse_c {w : World} {R : Nat} {s : ByteArray} {i : Nat} {b : Bool} {f : F} (h : Lr w R s i b f) (e' : F) :
    Calls Try.prog 68 #[ptr R, .agg #[.int .i64 e'.1, .int .i64 e'.2]] w fun e w' => (∃ r, e = .returned r) ∧ Lr w' R s i b (rf f e') ∧ Kr R w w' := by
  obtain ⟨c, p⟩ := e'
  obtain ⟨fc, fp⟩ := f
  simp only
  obtain ⟨W0, hW0⟩ : ∃ W0, w.alloc (.cells #[.int .i64 c, .int .i64 p] 41) = W0 := ⟨_, rfl⟩
  have b0 : Below w.heap.size w W0 := by rw [← hW0]; exact (Below.refl _ w).alloc (Nat.le_refl _) _
  have hlt := h.lt
  have hx : W0.heap[w.heap.size]? = some (.cells #[.int .i64 c, .int .i64 p] 41 (0, 0)) := by rw [← hW0]; exact heap_alloc_new w _
  have h0 := h.low b0
  have cF := failed_c h0
  have HR : Hid (Lr W0 R s i b (fc, fp) ∧ Kr R w W0) := ⟨h0, Kr.of_below b0 (by omega)⟩
  obtain ⟨y0, y1⟩ := two_box hx
  obtain ⟨k0, k1, k2, k3, k4⟩ := h0.cells
  have f3 := h0.free 3
  have f4 := h0.free 4
  have hne : w.heap.size ≠ R := by omega
  unfold ptr at cF ⊢
  by_cases hf : fc = 0
  · have d : ((fc : Int) != 0) = false := by simp [hf]
    simp only at cF
    rw [d] at cF
    have HF : Hid (rf (fc, fp) (c, p) = (c, p)) := by show _ = _; unfold rf; rw [if_pos hf]
    clear h h0 b0 hx hf d
    go_enter Try.func68, Try.ntmps68
    go_wp2_with fail
    refine cF.mono ?_
    rintro e w1 ⟨rfl, hw⟩
    subst w1
    clear cF hW0
    go_wp2_with fail
    go_end0
    rw [HF.out]
    refine ⟨⟨_, rfl⟩, ⟨?_, HR.out.1.la, HR.out.1.sz⟩, (HR.out.2.set 3 _).set 4 _⟩
    rw [heap_setCell_same _ R 4 _ 43 _ (heap_setCell_same _ R 3 _ 43 _ HR.out.1.box)]
    rfl
  · have d : ((fc : Int) != 0) = true := by simp; omega
    simp only at cF
    rw [d] at cF
    have HF : Hid (rf (fc, fp) (c, p) = (fc, fp)) := by show _ = _; unfold rf; rw [if_neg hf]
    clear h h0 b0 hx hf d
    go_enter Try.func68, Try.ntmps68
    go_wp2_with fail
    refine cF.mono ?_
    rintro e w1 ⟨rfl, hw⟩
    subst w1
    clear cF hW0
    go_wp2_with fail
    go_end0
    rw [HF.out]
    exact ⟨⟨_, rfl⟩, HR.out.1, HR.out.2⟩
theorem misplaced_c {w : World} {R : Nat} {s : ByteArray} {i : Nat} {b : Bool} {f : F} (h : Lr w R s i b f) (p : Nat) :
    Calls Try.prog 55 #[ptr R, .int .i64 p] w fun e w' => (∃ r, e = .returned r) ∧ Lr w' R s i b (rf f (1202, p)) ∧ Kr R w w' := by
  have c := refuse_c h (1202, p)
  unfold ptr at c ⊢
  clear h
  go_enter Try.func55, Try.ntmps55
  go_wp2_with fail
  refine c.mono ?_
  rintro e w1 ⟨⟨r, rfl⟩, h1, k1⟩
  have H1 : Hid (Lr w1 R s i b (rf f (1202, p)) ∧ Kr R w w1) := ⟨h1, k1⟩
  clear c h1 k1
  go_wp2_with fail
  go_end0
  exact ⟨⟨_, rfl⟩, H1.out⟩
/-- A sign that has to stand here. -/
theorem must_c {w : World} {R : Nat} {s : ByteArray} {i : Nat} {b : Bool} {f : F} (h : Lr w R s i b f) (x : List UInt8) :
    Calls Try.prog 56 #[ptr R, .string ⟨x.toArray⟩] w fun e w' => (∃ r, e = .returned r) ∧ (if pre s i x = true then Lr w' R s (i + x.length) b f else Lr w' R s i b (rf f (1202, i))) ∧ Kr R w w' := by
  have cT := take_c h x
  cases hp : pre s i x with
  | true =>
    rw [hp] at cT
    simp only [if_true] at cT ⊢
    unfold ptr at cT ⊢
    clear h hp
    go_enter Try.func56, Try.ntmps56
    go_wp2_with fail
    refine cT.mono ?_
    rintro e w1 ⟨rfl, h1, k1⟩
    have H1 : Hid (Lr w1 R s (i + x.length) b f ∧ Kr R w w1) := ⟨h1, k1⟩
    clear cT h1 k1
    go_wp2_with fail
    go_end0
    exact ⟨⟨_, rfl⟩, H1.out⟩
  | false =>
    rw [hp] at cT
    simp only [Bool.false_eq_true, if_false] at cT ⊢
    unfold ptr at cT ⊢
    clear h hp
    go_enter Try.func56, Try.ntmps56
    go_wp2_with fail
    refine cT.mono ?_
    rintro e w1 ⟨rfl, h1, k1⟩
    have HK1 : Hid (Kr R w w1) := k1
    obtain ⟨k0, k1', -⟩ := h1.cells
    have cM := misplaced_c h1 i
    unfold ptr at cM
    clear cT h1 k1
    go_wp2_with fail
    refine cM.mono ?_
    rintro e w2 ⟨⟨r, rfl⟩, h2, k2⟩
    have H2 : Hid (Lr w2 R s i b (rf f (1202, i)) ∧ Kr R w w2) := ⟨h2, HK1.out.trans k2⟩
    clear cM h2 k2
    go_wp2_with fail
    go_end0
    exact ⟨⟨_, rfl⟩, H2.out⟩
end Go.Proofs.Ytfglbgnjgapehaa.LRd
