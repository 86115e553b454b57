import Derived.Below
import Derived.Carry
import Derived.Deep.DeepHandedRow
import Derived.Lib.LaidTab
import Derived.Lib.LaidU8
import Derived.OpenShut
import Derived.PinnedBridge
import Derived.ProofKit
import Derived.Stop.LaidErr
import Derived.Test.YthkpbhgbmagaeaaGreatDoorRows
import Derived.WalkKit
import Derived.Test.YthkpbhgbmagaeaaGreatDoorP33
import Derived.Test.YthkpbhgbmagaeaaGreatDoorP34
namespace Go.Proofs.YthkpbhgbmagaeaaGreatDoor.Frame
open Go.ChangeShapes Go.WideShapes Go.ChangeAt Go.RowKit Go.Proofs.YthkpbhgbmagaeaaGreatDoor.Base Go.Proofs.YthkpbhgbmagaeaaGreatDoor.Digits Go.Proofs.YthkpbhgbmagaeaaGreatDoor.Aw
theorem own : ownKnob Tryz.prog.godebug = none := by kernel_rfl
theorem gPow : Tryz.prog.globalNamed "internal/strconv.uint64pow10" = some 3 := by kernel_rfl
theorem tPow : (Tryz.prog.globals[3]?).map (·.type) = some 122 := by kernel_rfl
theorem cPow : Tryz.prog.cellsOf 122 = 20 := by kernel_rfl
theorem cU64 : Tryz.prog.cellsOf 87 = 1 := by kernel_rfl
theorem gFst : Tryz.prog.globalNamed "unicode/utf8.first" = some 0 := by kernel_rfl
theorem tFst : (Tryz.prog.globals[0]?).map (·.type) = some 110 := by kernel_rfl
theorem cFst : Tryz.prog.cellsOf 110 = 256 := by kernel_rfl
theorem cU8 : Tryz.prog.cellsOf 5 = 1 := by kernel_rfl
theorem gAcc : Tryz.prog.globalNamed "unicode/utf8.acceptRanges" = some 1 := by kernel_rfl
theorem tAcc : (Tryz.prog.globals[1]?).map (·.type) = some 113 := by kernel_rfl
theorem cAcc : Tryz.prog.cellsOf 112 = 2 := by kernel_rfl
/-- The list of the rows. -/
def tabs : List (String × DataW Unit) := [("math/bits.deBruijn32tab", Rows.laid_math_bits_deBruijn32tab), ("math/bits.deBruijn64tab", Rows.laid_math_bits_deBruijn64tab), ("internal/strconv.uint64pow10", Rows.laid_internal_strconv_uint64pow10), ("unicode/utf8.acceptRanges", Rows.laid_unicode_utf8_acceptRanges), ("unicode/utf8.first", Rows.laid_unicode_utf8_first)]
theorem lt_of_var {W : World} {n : String} {g : Nat} {cs : Array Value} (hg : Tryz.prog.globalNamed n = some g) (h : W.var? Tryz.prog n = some cs) : g < W.heap.size := by
 unfold World.var? at h
 rw [hg] at h
 simp only [Option.bind_some] at h
 rcases Nat.lt_or_ge g W.heap.size with h' | h'
 ·exact h'
 ·rw [Array.getElem?_eq_none h'] at h; cases h
/-- What the rows' list gives: the tables hold what they are laid with. -/
theorem tab_of {W : World} (h : laidMet Tryz.prog tabs W) : T6 W := by
 have h3 : Lib.VarReads Tryz.prog W "unicode/utf8.first" Lib.firstData := by
  rw [← Pinned.utf8First_eq]
  exact Lib.laidMet.reads h (by simp [tabs, Rows.laid_unicode_utf8_first])
 have h4 : Lib.VarReads Tryz.prog W "unicode/utf8.acceptRanges" Lib.acceptData :=
  Lib.laidMet.reads h (show ("unicode/utf8.acceptRanges", Lib.acceptData) ∈ tabs from .tail _ (.tail _ (.tail _ (.head _))))
 have hp : Tab W := by
  have hr : Lib.VarReads Tryz.prog W "internal/strconv.uint64pow10" (Lib.tabData .u64 Lib.pow10Tab) :=
   Lib.laidMet.reads h (show ("internal/strconv.uint64pow10", Lib.tabData .u64 Lib.pow10Tab) ∈ tabs from .tail _ (.tail _ (.head _)))
  obtain ⟨g, t, cs, fuel, p, hg, hty, hvar, hd⟩ := hr
  obtain rfl := Option.some.inj (gPow.symm.trans hg)
  obtain rfl := Option.some.inj (tPow.symm.trans hty)
  unfold Tab Lib.TabIs
  rw [hvar, ← Lib.cells_of_tab Tryz.underlying122 Tryz.underlying87 cU64 cPow hd]
 obtain ⟨g, t, cs, fuel, p, hg, hty, hvar, hd⟩ := h3
 obtain rfl := Option.some.inj (gFst.symm.trans hg)
 obtain rfl := Option.some.inj (tFst.symm.trans hty)
 obtain ⟨g', t', cs', fuel', p', hg', hty', hvar', hd'⟩ := h4
 obtain rfl := Option.some.inj (gAcc.symm.trans hg')
 obtain rfl := Option.some.inj (tAcc.symm.trans hty')
 refine ⟨hp, ⟨fun c hc => ?_, fun i hi => ?_⟩, lt_of_var hg hvar, lt_of_var hg' hvar'⟩
 ·have hcs := Lib.cells_of_tab Tryz.underlying110 Tryz.underlying5 cU8 cFst hd
  rw [World.var?_cell hg hvar c, ← Array.getElem?_toList, hcs]
  simp [Lib.firstTab, hc]
 ·obtain ⟨fuel'', d, q, hdi, he⟩ := Lib.array_elem Tryz.underlying113 hd' i hi
  simp only [List.getElem?_map, List.getElem?_range hi, Option.map_some, Option.some.injEq] at hdi
  subst hdi
  rw [cAcc] at he
  have hcs := Lib.ints_of_struct Tryz.underlying112 (fun j f hj => by
   match j, hj with
   | 0, hj => simp at hj; subst hj; exact ⟨Tryz.underlying5, rfl, cU8⟩
   | 1, hj => simp at hj; subst hj; exact ⟨Tryz.underlying5, rfl, cU8⟩
   | j + 2, hj => simp at hj) (by rw [cAcc]; rfl) he
  have e0 := congrArg (·[0]?) hcs
  have e1 := congrArg (·[1]?) hcs
  simp only [List.getElem?_take, List.getElem?_drop] at e0 e1
  constructor
  ·rw [World.var?_cell hg' hvar' (2 * i), ← Array.getElem?_toList]
   simpa [Nat.mul_comm] using e0
  ·rw [World.var?_cell hg' hvar' (2 * i + 1), ← Array.getElem?_toList]
   simpa [Nat.mul_comm] using e1
def lay (cs : Array Value) : Obj → Obj
 | .cells _ t frozen => .cells cs t frozen
 | o => o
/-- A world for the witness: the settled one, the tables holding what their initialisers lay. -/
def laidW (w : World) : World :=
 { w with heap := (((((w.heap.modify 3 (lay (Lib.pow10Tab.map fun z => Value.int .u64 z).toArray)).modify 4 (lay #[.int .u8 0, .int .u8 1, .int .u8 28, .int .u8 2, .int .u8 29, .int .u8 14, .int .u8 24, .int .u8 3, .int .u8 30, .int .u8 22, .int .u8 20, .int .u8 15, .int .u8 25, .int .u8 17, .int .u8 4, .int .u8 8, .int .u8 31, .int .u8 27, .int .u8 13, .int .u8 23, .int .u8 21, .int .u8 19, .int .u8 16, .int .u8 7, .int .u8 26, .int .u8 12, .int .u8 18, .int .u8 6, .int .u8 11, .int .u8 5, .int .u8 10, .int .u8 9])).modify 5 (lay #[.int .u8 0, .int .u8 1, .int .u8 56, .int .u8 2, .int .u8 57, .int .u8 49, .int .u8 28, .int .u8 3, .int .u8 61, .int .u8 58, .int .u8 42, .int .u8 50, .int .u8 38, .int .u8 29, .int .u8 17, .int .u8 4, .int .u8 62, .int .u8 47, .int .u8 59, .int .u8 36, .int .u8 45, .int .u8 43, .int .u8 51, .int .u8 22, .int .u8 53, .int .u8 39, .int .u8 33, .int .u8 30, .int .u8 24, .int .u8 18, .int .u8 12, .int .u8 5, .int .u8 63, .int .u8 55, .int .u8 48, .int .u8 27, .int .u8 60, .int .u8 41, .int .u8 37, .int .u8 16, .int .u8 46, .int .u8 35, .int .u8 44, .int .u8 21, .int .u8 52, .int .u8 32, .int .u8 23, .int .u8 11, .int .u8 54, .int .u8 26, .int .u8 40, .int .u8 15, .int .u8 34, .int .u8 20, .int .u8 31, .int .u8 10, .int .u8 25, .int .u8 14, .int .u8 19, .int .u8 9, .int .u8 13, .int .u8 8, .int .u8 7, .int .u8 6])).modify 0 (lay (Lib.firstTab.map fun z => Value.int .u8 z).toArray)).modify 1 (lay ((List.range 16).flatMap fun i => [Value.int .u8 (Lib.accLo i), Value.int .u8 (Lib.accHi i)]).toArray)) }
theorem laidOut : laidOutB Tryz.prog = true := by kernel_rfl
set_option maxRecDepth 100000 in
/-- A value that comes in: its own six cells, what it holds, and that it reads the same behind whatever only adds. -/
theorem come {H : Type} {enc : TypeId × Value → H} {W : World} {base : Nat} {v : Value} {d : DataW H} {p : List MemPlace} {ts : List TypeId} {ds : List (DataW H)} {j : Nat}
  (hval : Value.okWide Tryz.prog W .any base 27 v) (h : DataW.Trod enc Tryz.prog W 0 (fun _ => true) true 27 v d p)
  (hsz : (DataW.weightsEach Tryz.prog ts ds).all (· ≤ reachBytes) = true) (ht : ts[j]? = some 27) (hd : ds[j]? = some d) :
  (∃ m c, In false All W m v c) ∧ ∀ W', Below W.heap.size W W' → DataW.Trod enc Tryz.prog W' 0 (fun b => decide (b < W.heap.size)) true 27 v d p := by
 have lt0 : ∀ x ∈ p, x.block < W.heap.size := by obtain ⟨m, hm⟩ := h; exact DataW.trod_lt m _ _ _ hm
 refine ⟨?_, fun W' bel => Below.trod laidOut (by kernel_rfl) (of_decide_eq_true (by kernel_rfl)) h bel lt0⟩
 obtain ⟨cs, rfl, -⟩ := okWide_struct Tryz.underlying27 hval
 obtain ⟨fuel, hf⟩ := h
 obtain ⟨c, hc⟩ := Open.open_val hf fun q hq => by simpa using List.all_eq_true.1 hsz q (DataW.weights_mem_each ht hd q hq)
 exact ⟨fuel, c, by simpa [Value.cells] using hc⟩
end Go.Proofs.YthkpbhgbmagaeaaGreatDoor.Frame
namespace Go.Proofs.YthkpbhgbmagaeaaGreatDoor.Frame
open Go.ChangeShapes Go.WideShapes Go.ChangeAt Go.RowKit Go.Proofs.YthkpbhgbmagaeaaGreatDoor.Base Go.Proofs.YthkpbhgbmagaeaaGreatDoor.UBase Go.Proofs.YthkpbhgbmagaeaaGreatDoor.Digits Go.Proofs.YthkpbhgbmagaeaaGreatDoor.Aw Go.Proofs.YthkpbhgbmagaeaaGreatDoor.Rdr Go.Proofs.YthkpbhgbmagaeaaGreatDoor.Open
theorem cells5 : Tryz.prog.cellsOf 5 = 1 := by kernel_rfl
theorem bytes5 : Tryz.prog.bytesOf 5 = 1 := by kernel_rfl
theorem toB_toNat {z : Int} (h : (Lit.int .u8 z).wf = true) : ((UInt8.ofNat z.toNat).toNat : Int) = z := by
 have := bounds_u8 h
 rw [UInt8.toNat_ofNat']
 omega
theorem open_bytes {H : Type} {enc : TypeId × Value → H} {W : World} {fuel : Nat} {cs : List Value} {x : DataW H × List MemPlace} (h : DataW.trod enc Tryz.prog W 0 (fun _ => true) true fuel 22 cs = some x) (hw : ∀ q ∈ DataW.weights Tryz.prog 22 x.1, q ≤ reachBytes) :
  ∃ v s, cs = [v] ∧ Byt W W.heap.size v s ∧ s.size ≤ 140737488351232 := by
 rcases DataW.trod_slice Tryz.underlying22 h with ⟨rfl, rfl⟩ | ⟨a, len, cap, els, rest, m, rfl, rfl, rfl, _, hl, hm, hlen, hel, -, -⟩
 ·exact ⟨_, ⟨#[]⟩, rfl, ⟨none, 0, rfl, by decide, by unfold maxLen; omega, fun _ => rfl, .inl rfl⟩, by decide⟩
 ·have hone : ∀ j : Fin len, ∃ z : UInt8, W.cell? (a.add j.1) = some (.int .u8 (z.toNat : Int)) := by
   rintro ⟨j, hj⟩
   have hh := hel j hj
   rw [List.getElem?_eq_getElem (by omega), Option.bind_eq_some_iff] at hh
   obtain ⟨c', hc, ht⟩ := hh
   rw [cells5, Nat.mul_one] at hc
   obtain ⟨hl1, hcc⟩ := cells_at hc
   obtain ⟨z, rfl, hs, hwf⟩ := DataW.trod_int Tryz.underlying5 ht
   refine ⟨UInt8.ofNat z.toNat, ?_⟩
   rw [toB_toNat hwf]
   have := hcc 0 (by omega)
   rw [show (a.add j).add 0 = a.add j from by simp [Addr.add]] at this
   simpa using this
  have hb : len ≤ 140737488351232 := by
   have := hw ((els.length + rest.length) * 1) (by
    rw [DataW.weights, Tryz.underlying22]
    simp [bytes5])
   simp only [reachBytes] at this
   omega
  obtain ⟨f, hf⟩ := Classical.axiomOfChoice hone
  have hsz : (⟨(List.ofFn f).toArray⟩ : ByteArray).size = len := by show (List.ofFn f).toArray.size = _; simp
  refine ⟨_, ⟨(List.ofFn f).toArray⟩, rfl, ⟨some a, cap, by rw [hsz], by omega, hm, (fun h => by cases h), ?_⟩, by omega⟩
  by_cases h0 : len = 0
  ·exact .inl (by omega)
  ·obtain ⟨g, o, rfl⟩ := spot_none (hf ⟨0, by omega⟩)
   refine .inr ⟨g, o, rfl, ?_, fun j hj => ?_⟩
   ·exact World.block_lt_of_cell? W _ (hf ⟨0, by omega⟩)
   ·have hj' : j < len := by omega
    have := hf ⟨j, hj'⟩
    rw [add_none] at this
    rw [this, at_get _ _ hj]
    have e : (⟨(List.ofFn f).toArray⟩ : ByteArray)[j]'hj = f ⟨j, hj'⟩ := by
     show (List.ofFn f).toArray[j] = _
     simp
    rw [e]
set_option maxRecDepth 100000 in
/-- Bytes that come in, and that they read the same behind whatever only adds. -/
theorem comeB {H : Type} {enc : TypeId × Value → H} {W : World} {base : Nat} {v : Value} {d : DataW H} {p : List MemPlace} {ts : List TypeId} {ds : List (DataW H)} {j : Nat}
  (hval : Value.okWide Tryz.prog W .any base 22 v) (h : DataW.Trod enc Tryz.prog W 0 (fun _ => true) true 22 v d p)
  (hsz : (DataW.weightsEach Tryz.prog ts ds).all (· ≤ reachBytes) = true) (ht : ts[j]? = some 22) (hd : ds[j]? = some d) :
  (∃ s, Byt W W.heap.size v s ∧ s.size ≤ 140737488351232) ∧ ∀ W', Below W.heap.size W W' → DataW.Trod enc Tryz.prog W' 0 (fun b => decide (b < W.heap.size)) true 22 v d p := by
 have lt0 : ∀ x ∈ p, x.block < W.heap.size := by obtain ⟨m, hm⟩ := h; exact DataW.trod_lt m _ _ _ hm
 refine ⟨?_, fun W' bel => Below.trod laidOut (by kernel_rfl) (of_decide_eq_true (by kernel_rfl)) h bel lt0⟩
 obtain ⟨a0, len0, cap0, rfl⟩ := okWide_slice Tryz.underlying22 hval
 obtain ⟨fuel, hf⟩ := h
 obtain ⟨v', s, e, hb, hs⟩ := open_bytes hf fun q hq => by simpa using List.all_eq_true.1 hsz q (DataW.weights_mem_each ht hd q hq)
 refine ⟨s, ?_, hs⟩
 have hv : v' = .slice a0 len0 cap0 := by simpa [Value.cells] using e.symm
 rw [← hv]
 exact hb
end Go.Proofs.YthkpbhgbmagaeaaGreatDoor.Frame
