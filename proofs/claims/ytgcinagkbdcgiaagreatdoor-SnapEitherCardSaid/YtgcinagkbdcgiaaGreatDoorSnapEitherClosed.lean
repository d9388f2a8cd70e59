/-
  SnapEither: the row's closed cells are what the program forces (the kernel's reckoning, in a file of its own). No conditions.
-/
import Derived.Test.YtgcinagkbdcgiaaGreatDoorRows
import Derived.WalkKit
import Derived.ProofKit
namespace Go.Proofs.YtgcinagkbdcgiaaGreatDoor.snapEitherDone
theorem closedFacts : joinedFacts Tryz.checked.prog 5 Tryz.f5 Rows.snapEitherSpec Rows.snapEitherRow = true := by kernel_rfl
end Go.Proofs.YtgcinagkbdcgiaaGreatDoor.snapEitherDone
