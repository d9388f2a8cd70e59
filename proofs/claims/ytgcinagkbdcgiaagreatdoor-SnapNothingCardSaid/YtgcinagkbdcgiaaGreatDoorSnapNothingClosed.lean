/-
  SnapNothing: the row's closed cells are what the program forces (the kernel's reckoning, in a file of its own). No conditions.
-/
import Derived.Test.YtgcinagkbdcgiaaGreatDoorRows
import Derived.WalkKit
import Derived.ProofKit
namespace Go.Proofs.YtgcinagkbdcgiaaGreatDoor.snapNothingDone
theorem closedFacts : joinedFacts Tryz.checked.prog 6 Tryz.f6 Rows.snapNothingSpec Rows.snapNothingRow = true := by kernel_rfl
end Go.Proofs.YtgcinagkbdcgiaaGreatDoor.snapNothingDone
