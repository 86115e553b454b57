import Derived.Below
import Derived.Carry
import Derived.Deep.DeepHandedRow
import Derived.Lib.LaidTab
import Derived.Lib.LaidU8
import Derived.OpenShut
import Derived.PinnedBridge
import Derived.ProofKit
import Derived.Stop.LaidErr
import Derived.Test.YtghnhkagkngjcaaGreatDoorRows
import Derived.WalkKit
import Derived.Test.YtghnhkagkngjcaaGreatDoorPN40
set_option linter.unusedVariables false
namespace Go.Proofs.YtghnhkagkngjcaaGreatDoor.Frame
open Go.ChangeShapes Go.WideShapes Go.ChangeAt Go.RowKit Base Digits VOf
theorem own : ownKnob Tryz.prog.godebug = none := by kernel_rfl
theorem gPow : Tryz.prog.globalNamed "internal/strconv.uint64pow10" = some 1 := by kernel_rfl
theorem tPow : (Tryz.prog.globals[1]?).map (·.type) = some 179 := by kernel_rfl
theorem cPow : Tryz.prog.cellsOf 179 = 20 := by kernel_rfl
theorem cU64 : Tryz.prog.cellsOf 153 = 1 := by kernel_rfl
theorem gFst : Tryz.prog.globalNamed "unicode/utf8.first" = some 2 := by kernel_rfl
theorem tFst : (Tryz.prog.globals[2]?).map (·.type) = some 182 := by kernel_rfl
theorem cFst : Tryz.prog.cellsOf 182 = 256 := by kernel_rfl
theorem cU8 : Tryz.prog.cellsOf 5 = 1 := by kernel_rfl
theorem gAcc : Tryz.prog.globalNamed "unicode/utf8.acceptRanges" = some 3 := by kernel_rfl
theorem tAcc : (Tryz.prog.globals[3]?).map (·.type) = some 185 := by kernel_rfl
theorem cAcc : Tryz.prog.cellsOf 184 = 2 := by kernel_rfl
def tabs : List (String × DataW Unit) := [("math/bits.deBruijn32tab", Rows.laid_math_bits_deBruijn32tab), ("math/bits.deBruijn64tab", Rows.laid_math_bits_deBruijn64tab), ("internal/strconv.uint64pow10", Rows.laid_internal_strconv_uint64pow10), ("unicode/utf8.acceptRanges", Rows.laid_unicode_utf8_acceptRanges), ("unicode/utf8.first", Rows.laid_unicode_utf8_first)]
theorem lt_of_var {W : World} {n : String} {g : Nat} {cs : Array Value} (hg : Tryz.prog.globalNamed n = some g) (h : W.var? Tryz.prog n = some cs) : g < W.heap.size := by
 unfold World.var? at h
 rw [hg] at h
 simp only [Option.bind_some] at h
 rcases Nat.lt_or_ge g W.heap.size with h' | h'
 ·exact h'
 ·rw [Array.getElem?_eq_none h'] at h; cases h
theorem tab_of {W : World} (h : laidMet Tryz.prog tabs W) : TX W := by
 have h3 : Lib.VarReads Tryz.prog W "unicode/utf8.first" Lib.firstData := by
  rw [← Pinned.utf8First_eq]
  exact Lib.laidMet.reads h (by simp [tabs, Rows.laid_unicode_utf8_first])
 have h4 : Lib.VarReads Tryz.prog W "unicode/utf8.acceptRanges" Lib.acceptData :=
  Lib.laidMet.reads h (show ("unicode/utf8.acceptRanges", Lib.acceptData) ∈ tabs from .tail _ (.tail _ (.tail _ (.head _))))
 have hp : Tab W := by
  have hr : Lib.VarReads Tryz.prog W "internal/strconv.uint64pow10" (Lib.tabData .u64 Lib.pow10Tab) :=
   Lib.laidMet.reads h (show ("internal/strconv.uint64pow10", Lib.tabData .u64 Lib.pow10Tab) ∈ tabs from .tail _ (.tail _ (.head _)))
  obtain ⟨g, t, cs, fuel, p, hg, hty, hvar, hd⟩ := hr
  obtain rfl := Option.some.inj (gPow.symm.trans hg)
  obtain rfl := Option.some.inj (tPow.symm.trans hty)
  unfold Tab Lib.TabIs
  rw [hvar, ← Lib.cells_of_tab Tryz.underlying179 Tryz.underlying153 cU64 cPow hd]
 obtain ⟨g, t, cs, fuel, p, hg, hty, hvar, hd⟩ := h3
 obtain rfl := Option.some.inj (gFst.symm.trans hg)
 obtain rfl := Option.some.inj (tFst.symm.trans hty)
 obtain ⟨g', t', cs', fuel', p', hg', hty', hvar', hd'⟩ := h4
 obtain rfl := Option.some.inj (gAcc.symm.trans hg')
 obtain rfl := Option.some.inj (tAcc.symm.trans hty')
 refine ⟨hp, ⟨fun c hc => ?_, fun i hi => ?_⟩, lt_of_var hg hvar, lt_of_var hg' hvar'⟩
 ·have hcs := Lib.cells_of_tab Tryz.underlying182 Tryz.underlying5 cU8 cFst hd
  rw [World.var?_cell hg hvar c, ← Array.getElem?_toList, hcs]
  simp [Lib.firstTab, hc]
 ·obtain ⟨fuel'', d, q, hdi, he⟩ := Lib.array_elem Tryz.underlying185 hd' i hi
  simp only [List.getElem?_map, List.getElem?_range hi, Option.map_some, Option.some.injEq] at hdi
  subst hdi
  rw [cAcc] at he
  have hcs := Lib.ints_of_struct Tryz.underlying184 (fun j f hj => by
   match j, hj with
   | 0, hj => simp at hj; subst hj; exact ⟨Tryz.underlying5, rfl, cU8⟩
   | 1, hj => simp at hj; subst hj; exact ⟨Tryz.underlying5, rfl, cU8⟩
   | j + 2, hj => simp at hj) (by rw [cAcc]; rfl) he
  have e0 := congrArg (·[0]?) hcs
  have e1 := congrArg (·[1]?) hcs
  simp only [List.getElem?_take, List.getElem?_drop] at e0 e1
  constructor
  ·rw [World.var?_cell hg' hvar' (2 * i), ← Array.getElem?_toList]
   simpa [Nat.mul_comm] using e0
  ·rw [World.var?_cell hg' hvar' (2 * i + 1), ← Array.getElem?_toList]
   simpa [Nat.mul_comm] using e1
def lay (cs : Array Value) : Obj → Obj
 | .cells _ t frozen => .cells cs t frozen
 | o => o
def laidW (w : World) : World :=
 { w with heap := (((((w.heap.modify 1 (lay (Lib.pow10Tab.map fun z => Value.int .u64 z).toArray)).modify 4 (lay #[.int .u8 0, .int .u8 1, .int .u8 28, .int .u8 2, .int .u8 29, .int .u8 14, .int .u8 24, .int .u8 3, .int .u8 30, .int .u8 22, .int .u8 20, .int .u8 15, .int .u8 25, .int .u8 17, .int .u8 4, .int .u8 8, .int .u8 31, .int .u8 27, .int .u8 13, .int .u8 23, .int .u8 21, .int .u8 19, .int .u8 16, .int .u8 7, .int .u8 26, .int .u8 12, .int .u8 18, .int .u8 6, .int .u8 11, .int .u8 5, .int .u8 10, .int .u8 9])).modify 5 (lay #[.int .u8 0, .int .u8 1, .int .u8 56, .int .u8 2, .int .u8 57, .int .u8 49, .int .u8 28, .int .u8 3, .int .u8 61, .int .u8 58, .int .u8 42, .int .u8 50, .int .u8 38, .int .u8 29, .int .u8 17, .int .u8 4, .int .u8 62, .int .u8 47, .int .u8 59, .int .u8 36, .int .u8 45, .int .u8 43, .int .u8 51, .int .u8 22, .int .u8 53, .int .u8 39, .int .u8 33, .int .u8 30, .int .u8 24, .int .u8 18, .int .u8 12, .int .u8 5, .int .u8 63, .int .u8 55, .int .u8 48, .int .u8 27, .int .u8 60, .int .u8 41, .int .u8 37, .int .u8 16, .int .u8 46, .int .u8 35, .int .u8 44, .int .u8 21, .int .u8 52, .int .u8 32, .int .u8 23, .int .u8 11, .int .u8 54, .int .u8 26, .int .u8 40, .int .u8 15, .int .u8 34, .int .u8 20, .int .u8 31, .int .u8 10, .int .u8 25, .int .u8 14, .int .u8 19, .int .u8 9, .int .u8 13, .int .u8 8, .int .u8 7, .int .u8 6])).modify 2 (lay (Lib.firstTab.map fun z => Value.int .u8 z).toArray)).modify 3 (lay ((List.range 16).flatMap fun i => [Value.int .u8 (Lib.accLo i), Value.int .u8 (Lib.accHi i)]).toArray)) }
theorem laidOut : laidOutB Tryz.prog = true := by kernel_rfl
end Go.Proofs.YtghnhkagkngjcaaGreatDoor.Frame
