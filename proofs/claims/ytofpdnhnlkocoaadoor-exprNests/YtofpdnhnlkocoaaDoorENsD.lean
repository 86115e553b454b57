/- Expressions: how deep they may be nested, by reading them (no walk). -/
import Derived.Test.YtofpdnhnlkocoaaDoorENst
namespace Go.Proofs.YtofpdnhnlkocoaaDoor.ENsD
open Go.Proofs.YtofpdnhnlkocoaaDoor.EPure Go.Proofs.YtofpdnhnlkocoaaDoor.ENst

theorem r3_32 : run 3 32 4 = true := by decide +kernel
theorem r3_36 : run 3 36 4 = true := by decide +kernel
theorem r3_40 : run 3 40 4 = true := by decide +kernel
theorem r3_44 : run 3 44 4 = true := by decide +kernel
theorem r3_48 : run 3 48 4 = true := by decide +kernel
theorem r3_52 : run 3 52 4 = true := by decide +kernel
theorem r3_56 : run 3 56 4 = true := by decide +kernel
theorem r3_60 : run 3 60 4 = true := by decide +kernel
end Go.Proofs.YtofpdnhnlkocoaaDoor.ENsD
