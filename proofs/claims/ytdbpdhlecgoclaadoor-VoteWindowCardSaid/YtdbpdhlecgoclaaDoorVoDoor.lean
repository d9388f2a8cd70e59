/-
  What the row's listing of the table of what is done gives the walks, and that the program's own start meets it.
-/
import Derived.Test.YtdbpdhlecgoclaaDoorRows
import Derived.Test.YtdbpdhlecgoclaaDoorVoTy
import Derived.Test.YtdbpdhlecgoclaaDoorVoC
import Derived.Test.YtdbpdhlecgoclaaDoorOpen
import Derived.ProofKit
import Derived.LaidMore
import Derived.Lib.LaidTab
import Derived.Stop.Joined
namespace Go.Proofs.YtdbpdhlecgoclaaDoor
open Go Go.ChangeShapes Go.WideShapes Go.ChangeAt Go.WideMaps Go.WideElems Go.RowKit

def laidList : List (String × DataW Unit) := [("sexton/vote.answers", Rows.laid_sexton_vote_answers)]
theorem door_met (os : Os) (args : Array Value) : laidMetH Tryd.prog laidList ((World.doorLaid Tryd.prog 400 os).forCall (fun _ _ => 0) ⟨#[], args, []⟩).memory :=
  laidMetH_of_parts3 (fuel := 8) (laidMet_of_run' 8 (by kernel_rfl) (by kernel_rfl)) (by kernel_rfl) (by kernel_rfl)
theorem laid_of {W : World} (h : laidMetH Tryd.prog laidList W) : LaidV W := by
  rw [MakeChecks.laidMetH_plain _ _ _ (by kernel_rfl)] at h
  have hg : Tryd.prog.globalNamed "sexton/vote.answers" = some 0 := by kernel_rfl
  have ht : (Tryd.prog.globals[0]?).map (·.type) = some 43 := by kernel_rfl
  have hv : W.var? Tryd.prog "sexton/vote.answers" = some (([1, 3, 2] : List Int).map fun z => Value.int .u8 z).toArray :=
    Lib.tabIs_of_head hg ht Tryd.underlying43 Tryd.underlying5 (by kernel_rfl) (by kernel_rfl) h
  have hc := fun i => World.var?_cell hg hv i
  exact ⟨hc 0, hc 1, hc 2⟩
end Go.Proofs.YtdbpdhlecgoclaaDoor
