/-
  WalApart: the row's closed cells are what the program forces (the kernel's reckoning, in a file of its own). No conditions.
-/
import Derived.Test.YtmbmpabjclkhlaaGreatDoorRows
import Derived.WalkKit
import Derived.ProofKit
namespace Go.Proofs.YtmbmpabjclkhlaaGreatDoor.walApartDone
theorem closedFacts : joinedFacts Tryz.checked.prog 4 Tryz.f4 Rows.walApartSpec Rows.walApartRow = true := by kernel_rfl
end Go.Proofs.YtmbmpabjclkhlaaGreatDoor.walApartDone
