/-
  SnapNil: the row's closed cells are what the program forces (the kernel's reckoning, in a file of its own). No conditions.
-/
import Derived.Test.YtmbmpabjclkhlaaGreatDoorRows
import Derived.WalkKit
import Derived.ProofKit
namespace Go.Proofs.YtmbmpabjclkhlaaGreatDoor.snapNilDone
theorem closedFacts : joinedFacts Tryz.checked.prog 6 Tryz.f6 Rows.snapNilSpec Rows.snapNilRow = true := by kernel_rfl
end Go.Proofs.YtmbmpabjclkhlaaGreatDoor.snapNilDone
