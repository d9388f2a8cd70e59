/-
  SnapMended: the row's closed cells are what the program forces (the kernel's reckoning, in a file of its own). No conditions.
-/
import Derived.Test.YtgcinagkbdcgiaaGreatDoorRows
import Derived.WalkKit
import Derived.ProofKit
namespace Go.Proofs.YtgcinagkbdcgiaaGreatDoor.snapMendedDone
theorem closedFacts : joinedFacts Tryz.checked.prog 7 Tryz.f7 Rows.snapMendedSpec Rows.snapMendedRow = true := by kernel_rfl
end Go.Proofs.YtgcinagkbdcgiaaGreatDoor.snapMendedDone
