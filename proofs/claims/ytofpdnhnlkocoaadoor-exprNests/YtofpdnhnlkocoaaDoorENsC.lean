/- Expressions: how deep they may be nested, by reading them (no walk). -/
import Derived.Test.YtofpdnhnlkocoaaDoorENst
namespace Go.Proofs.YtofpdnhnlkocoaaDoor.ENsC
open Go.Proofs.YtofpdnhnlkocoaaDoor.EPure Go.Proofs.YtofpdnhnlkocoaaDoor.ENst

theorem r3_0 : run 3 0 4 = true := by decide +kernel
theorem r3_4 : run 3 4 4 = true := by decide +kernel
theorem r3_8 : run 3 8 4 = true := by decide +kernel
theorem r3_12 : run 3 12 4 = true := by decide +kernel
theorem r3_16 : run 3 16 4 = true := by decide +kernel
theorem r3_20 : run 3 20 4 = true := by decide +kernel
theorem r3_24 : run 3 24 4 = true := by decide +kernel
theorem r3_28 : run 3 28 4 = true := by decide +kernel
end Go.Proofs.YtofpdnhnlkocoaaDoor.ENsC
