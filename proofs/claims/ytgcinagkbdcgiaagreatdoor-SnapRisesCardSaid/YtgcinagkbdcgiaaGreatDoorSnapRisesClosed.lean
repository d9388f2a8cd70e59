/-
  SnapRises: the row's closed cells are what the program forces (the kernel's reckoning, in a file of its own). No conditions.
-/
import Derived.Test.YtgcinagkbdcgiaaGreatDoorRows
import Derived.WalkKit
import Derived.ProofKit
namespace Go.Proofs.YtgcinagkbdcgiaaGreatDoor.snapRisesDone
theorem closedFacts : joinedFacts Tryz.checked.prog 8 Tryz.f8 Rows.snapRisesSpec Rows.snapRisesRow = true := by kernel_rfl
end Go.Proofs.YtgcinagkbdcgiaaGreatDoor.snapRisesDone
