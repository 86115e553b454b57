/- Expressions: how deep they may be nested, by reading them (no walk). -/
import Derived.Test.YtofpdnhnlkocoaaDoorENst
namespace Go.Proofs.YtofpdnhnlkocoaaDoor.ENsB
open Go.Proofs.YtofpdnhnlkocoaaDoor.EPure Go.Proofs.YtofpdnhnlkocoaaDoor.ENst

theorem r2_0 : run 2 0 8 = true := by decide +kernel
theorem r2_8 : run 2 8 8 = true := by decide +kernel
theorem r2_16 : run 2 16 8 = true := by decide +kernel
theorem r2_24 : run 2 24 8 = true := by decide +kernel
theorem r2_32 : run 2 32 8 = true := by decide +kernel
theorem r2_40 : run 2 40 8 = true := by decide +kernel
theorem r2_48 : run 2 48 8 = true := by decide +kernel
theorem r2_56 : run 2 56 8 = true := by decide +kernel
end Go.Proofs.YtofpdnhnlkocoaaDoor.ENsB
