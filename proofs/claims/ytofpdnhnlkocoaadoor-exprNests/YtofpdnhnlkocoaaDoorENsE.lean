/- Expressions: how deep they may be nested, all of it (no walk). -/
import Derived.Test.YtofpdnhnlkocoaaDoorENsA
import Derived.Test.YtofpdnhnlkocoaaDoorENsB
import Derived.Test.YtofpdnhnlkocoaaDoorENsC
import Derived.Test.YtofpdnhnlkocoaaDoorENsD
namespace Go.Proofs.YtofpdnhnlkocoaaDoor.ENsE
open Go.Proofs.YtofpdnhnlkocoaaDoor.EPure Go.Proofs.YtofpdnhnlkocoaaDoor.ENst

theorem all {q k : Nat} (hq : q < 4) (hk : k < 64) : okk k (nst q k) = true := by
  match q, hq with
  | 0, _ =>
    rcases Nat.lt_or_ge k 8 with h8 | h8
    · exact of_run ENsA.r0_0 (by omega) (by omega)
    rcases Nat.lt_or_ge k 16 with h16 | h16
    · exact of_run ENsA.r0_8 (by omega) (by omega)
    rcases Nat.lt_or_ge k 24 with h24 | h24
    · exact of_run ENsA.r0_16 (by omega) (by omega)
    rcases Nat.lt_or_ge k 32 with h32 | h32
    · exact of_run ENsA.r0_24 (by omega) (by omega)
    rcases Nat.lt_or_ge k 40 with h40 | h40
    · exact of_run ENsA.r0_32 (by omega) (by omega)
    rcases Nat.lt_or_ge k 48 with h48 | h48
    · exact of_run ENsA.r0_40 (by omega) (by omega)
    rcases Nat.lt_or_ge k 56 with h56 | h56
    · exact of_run ENsA.r0_48 (by omega) (by omega)
    exact of_run ENsA.r0_56 (by omega) (by omega)
  | 1, _ =>
    rcases Nat.lt_or_ge k 8 with h8 | h8
    · exact of_run ENsA.r1_0 (by omega) (by omega)
    rcases Nat.lt_or_ge k 16 with h16 | h16
    · exact of_run ENsA.r1_8 (by omega) (by omega)
    rcases Nat.lt_or_ge k 24 with h24 | h24
    · exact of_run ENsA.r1_16 (by omega) (by omega)
    rcases Nat.lt_or_ge k 32 with h32 | h32
    · exact of_run ENsA.r1_24 (by omega) (by omega)
    rcases Nat.lt_or_ge k 40 with h40 | h40
    · exact of_run ENsA.r1_32 (by omega) (by omega)
    rcases Nat.lt_or_ge k 48 with h48 | h48
    · exact of_run ENsA.r1_40 (by omega) (by omega)
    rcases Nat.lt_or_ge k 56 with h56 | h56
    · exact of_run ENsA.r1_48 (by omega) (by omega)
    exact of_run ENsA.r1_56 (by omega) (by omega)
  | 2, _ =>
    rcases Nat.lt_or_ge k 8 with h8 | h8
    · exact of_run ENsB.r2_0 (by omega) (by omega)
    rcases Nat.lt_or_ge k 16 with h16 | h16
    · exact of_run ENsB.r2_8 (by omega) (by omega)
    rcases Nat.lt_or_ge k 24 with h24 | h24
    · exact of_run ENsB.r2_16 (by omega) (by omega)
    rcases Nat.lt_or_ge k 32 with h32 | h32
    · exact of_run ENsB.r2_24 (by omega) (by omega)
    rcases Nat.lt_or_ge k 40 with h40 | h40
    · exact of_run ENsB.r2_32 (by omega) (by omega)
    rcases Nat.lt_or_ge k 48 with h48 | h48
    · exact of_run ENsB.r2_40 (by omega) (by omega)
    rcases Nat.lt_or_ge k 56 with h56 | h56
    · exact of_run ENsB.r2_48 (by omega) (by omega)
    exact of_run ENsB.r2_56 (by omega) (by omega)
  | 3, _ =>
    rcases Nat.lt_or_ge k 4 with h4 | h4
    · exact of_run ENsC.r3_0 (by omega) (by omega)
    rcases Nat.lt_or_ge k 8 with h8 | h8
    · exact of_run ENsC.r3_4 (by omega) (by omega)
    rcases Nat.lt_or_ge k 12 with h12 | h12
    · exact of_run ENsC.r3_8 (by omega) (by omega)
    rcases Nat.lt_or_ge k 16 with h16 | h16
    · exact of_run ENsC.r3_12 (by omega) (by omega)
    rcases Nat.lt_or_ge k 20 with h20 | h20
    · exact of_run ENsC.r3_16 (by omega) (by omega)
    rcases Nat.lt_or_ge k 24 with h24 | h24
    · exact of_run ENsC.r3_20 (by omega) (by omega)
    rcases Nat.lt_or_ge k 28 with h28 | h28
    · exact of_run ENsC.r3_24 (by omega) (by omega)
    rcases Nat.lt_or_ge k 32 with h32 | h32
    · exact of_run ENsC.r3_28 (by omega) (by omega)
    rcases Nat.lt_or_ge k 36 with h36 | h36
    · exact of_run ENsD.r3_32 (by omega) (by omega)
    rcases Nat.lt_or_ge k 40 with h40 | h40
    · exact of_run ENsD.r3_36 (by omega) (by omega)
    rcases Nat.lt_or_ge k 44 with h44 | h44
    · exact of_run ENsD.r3_40 (by omega) (by omega)
    rcases Nat.lt_or_ge k 48 with h48 | h48
    · exact of_run ENsD.r3_44 (by omega) (by omega)
    rcases Nat.lt_or_ge k 52 with h52 | h52
    · exact of_run ENsD.r3_48 (by omega) (by omega)
    rcases Nat.lt_or_ge k 56 with h56 | h56
    · exact of_run ENsD.r3_52 (by omega) (by omega)
    rcases Nat.lt_or_ge k 60 with h60 | h60
    · exact of_run ENsD.r3_56 (by omega) (by omega)
    exact of_run ENsD.r3_60 (by omega) (by omega)
  | q + 4, h => exact absurd h (by omega)
end Go.Proofs.YtofpdnhnlkocoaaDoor.ENsE
