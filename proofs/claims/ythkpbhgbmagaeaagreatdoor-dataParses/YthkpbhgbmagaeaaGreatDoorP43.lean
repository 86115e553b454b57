import Derived.Test.YthkpbhgbmagaeaaGreatDoorP42
namespace Go.Proofs.YthkpbhgbmagaeaaGreatDoor.RVsl
open Go.RowKit Go.Proofs.YthkpbhgbmagaeaaGreatDoor.RSt Go.Proofs.YthkpbhgbmagaeaaGreatDoor.RVal
theorem rvs : ∀ n d, n + d = 25 → RVs n d n
 | 0, d, h => value_of 0 d h (fun n' e => by omega) (fun n' e => by omega)
 | n + 1, d, h => value_of (n + 1) d h
   (fun n' e => by
    obtain rfl : n' = n := by omega
    exact RLis.list_of n' d (by omega) (rvs n' (d + 1) (by omega)))
   (fun n' e => by
    obtain rfl : n' = n := by omega
    exact RRec.record_of n' d (by omega) (rvs n' (d + 1) (by omega)))
end Go.Proofs.YthkpbhgbmagaeaaGreatDoor.RVsl
