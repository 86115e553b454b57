/- Expressions: how deep they may be nested, by reading them (no walk). -/
import Derived.Test.YtofpdnhnlkocoaaDoorENst
namespace Go.Proofs.YtofpdnhnlkocoaaDoor.ENsA
open Go.Proofs.YtofpdnhnlkocoaaDoor.EPure Go.Proofs.YtofpdnhnlkocoaaDoor.ENst

theorem r0_0 : run 0 0 8 = true := by decide +kernel
theorem r0_8 : run 0 8 8 = true := by decide +kernel
theorem r0_16 : run 0 16 8 = true := by decide +kernel
theorem r0_24 : run 0 24 8 = true := by decide +kernel
theorem r0_32 : run 0 32 8 = true := by decide +kernel
theorem r0_40 : run 0 40 8 = true := by decide +kernel
theorem r0_48 : run 0 48 8 = true := by decide +kernel
theorem r0_56 : run 0 56 8 = true := by decide +kernel
theorem r1_0 : run 1 0 8 = true := by decide +kernel
theorem r1_8 : run 1 8 8 = true := by decide +kernel
theorem r1_16 : run 1 16 8 = true := by decide +kernel
theorem r1_24 : run 1 24 8 = true := by decide +kernel
theorem r1_32 : run 1 32 8 = true := by decide +kernel
theorem r1_40 : run 1 40 8 = true := by decide +kernel
theorem r1_48 : run 1 48 8 = true := by decide +kernel
theorem r1_56 : run 1 56 8 = true := by decide +kernel
end Go.Proofs.YtofpdnhnlkocoaaDoor.ENsA
