/-
  WalPlays: the row's closed cells are what the program forces (the kernel's reckoning, in a file of its own). No conditions.
-/
import Derived.Test.YtdbpdhlecgoclaaGreatDoorRows
import Derived.WalkKit
import Derived.ProofKit
namespace Go.Proofs.YtdbpdhlecgoclaaGreatDoor.walPlaysDone
theorem closedFacts : joinedFacts Tryz.checked.prog 3 Tryz.f3 Rows.walPlaysSpec Rows.walPlaysRow = true := by kernel_rfl
end Go.Proofs.YtdbpdhlecgoclaaGreatDoor.walPlaysDone
