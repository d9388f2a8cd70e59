/-
  SnapPlays: the row's closed cells are what the program forces (the kernel's reckoning, in a file of its own). No conditions.
-/
import Derived.Test.YtmpaocpgoihliaaGreatDoorRows
import Derived.WalkKit
import Derived.ProofKit
namespace Go.Proofs.YtmpaocpgoihliaaGreatDoor.snapPlaysDone
theorem closedFacts : joinedFacts Tryz.checked.prog 4 Tryz.f4 Rows.snapPlaysSpec Rows.snapPlaysRow = true := by kernel_rfl
end Go.Proofs.YtmpaocpgoihliaaGreatDoor.snapPlaysDone
