import Derived.ChangeOld
import Derived.SizedLaws
import Derived.Test.YtaiackmmmlhgbaaGreatChecked
import Derived.Test.YtaiackmmmlhgbaaGreatPR00
open Go.Proofs.Tryz
set_option linter.unusedVariables false
namespace Go.Proofs.YtaiackmmmlhgbaaGreat.Leb
open Go.ChangeShapes Go.WideShapes Go.ChangeAt Go.RowKit
theorem own : ownKnob prog.godebug = none := by kernel_rfl
theorem laidOut : laidOutB prog = true := by kernel_rfl
theorem bytes5 : prog.bytesOf 5 = 1 := by kernel_rfl
def toB (z : Int) : UInt8 := UInt8.ofNat z.toNat
theorem toB_toNat {z : Int} (h : (Lit.int .u8 z).wf = true) : ((toB z).toNat : Int) = z := by
  have := bounds_u8 h
  unfold toB
  rw [byte_of (by omega)]
  omega
theorem seen_of {w : World} {x : Addr} {len cap : Nat} {zs : List Int} (hl : len <= cap) (hm : cap <= maxLen) (hz : zs.length = cap)
    (hcell : ∀ i, i < zs.length -> w.cell? (x.add i) = some (.int .u8 (zs.getD i 0))) (hwz : ∀ n ∈ zs, (Lit.int .u8 n).wf = true) :
    Seen w (.slice (some x) len cap) ((zs.take len).map toB) /\ ((zs.take len).map toB).length = len := by
  have hlen : ((zs.take len).map toB).length = len := by rw [List.length_map, List.length_take]; omega
  refine ⟨⟨some x, cap, by rw [hlen], by rw [hlen]; exact hl, hm, (fun h => by cases h), fun g o s e j hj => ?_⟩, hlen⟩
  cases e
  rw [hlen] at hj
  have h0 := hcell 0 (by omega)
  have hs : s = none := by simpa [Addr.add] using World.cell?_spot h0
  subst hs
  refine ⟨rfl, ?_⟩
  have hc := hcell j (by omega)
  rw [add_none] at hc
  rw [hc]
  have hjz : j < zs.length := by omega
  have e1 : zs.getD j 0 = zs[j] := by simp [List.getD, hjz]
  have e2 := toB_toNat (hwz zs[j] (List.getElem_mem hjz))
  rw [e1]
  simp [e2]
theorem seen_nil (w : World) : Seen w (.slice none 0 0) [] := ⟨none, 0, rfl, by simp, by simp, fun _ => rfl, fun g o s h => by cases h⟩
end Go.Proofs.YtaiackmmmlhgbaaGreat.Leb
