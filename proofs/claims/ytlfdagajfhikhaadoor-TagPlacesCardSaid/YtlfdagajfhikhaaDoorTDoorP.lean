/-
  What the row's listing of the table of regions gives the walks, and that the program's own start meets it (rows that list this table alone).
-/
import Derived.Test.YtlfdagajfhikhaaDoorRows
import Derived.Test.YtlfdagajfhikhaaDoorTFind
import Derived.Test.YtlfdagajfhikhaaDoorTab2
import Derived.ProofKit
import Derived.LaidMore
import Derived.Stop.Joined
namespace Go.Proofs.YtlfdagajfhikhaaDoor
open Go Go.ChangeShapes Go.WideShapes Go.ChangeAt Go.WideMaps Go.WideElems Go.RowKit Go.Deep

def laidList : List (String × DataW Unit) := [("sexton/tag.regions", Rows.laid_sexton_tag_regions)]

theorem door_met (os : Os) (args : Array Value) : laidMetH Tryd.prog laidList ((World.doorLaid Tryd.prog 400 os).forCall (fun _ _ => 0) ⟨#[], args, []⟩).memory :=
  laidMetH_of_parts3 (fuel := 8) (laidMet_of_run' 8 (by kernel_rfl) (by kernel_rfl)) (by kernel_rfl) (by kernel_rfl)

theorem laid_of {W : World} (h : laidMetH Tryd.prog laidList W) : LaidT W := by
  rw [MakeChecks.laidMetH_plain _ _ _ (by kernel_rfl)] at h
  have hg : Tryd.prog.globalNamed "sexton/tag.regions" = some 1 := by kernel_rfl
  have ht : (Tryd.prog.globals[1]?).map (·.type) = some 62 := by kernel_rfl
  have hc := tab2_of_head (k := .i64) (rows := [[0, 0], [2, 1], [2, 1], [24, 1], [48, 2], [16, 2]]) hg ht Tryd.underlying62 Tryd.underlying61 (by kernel_rfl) (by kernel_rfl)
    (fun j f hf => by
      match j, hf with
      | 0, hf => injection hf with hf; subst hf; exact Tryd.underlying3
      | 1, hf => injection hf with hf; subst hf; exact Tryd.underlying3
      | (j + 2), hf => simp at hf) h
  have row : ∀ (i : Nat) (a b : Int), ([[0, 0], [2, 1], [2, 1], [24, 1], [48, 2], [16, 2]] : List (List Int))[i]? = some [a, b] → W.cell? ⟨1, i * 2, none⟩ = some (.int .i64 a) ∧ W.cell? ⟨1, i * 2 + 1, none⟩ = some (.int .i64 b) := fun i a b hi => ⟨hc i [a, b] hi 0 a rfl, hc i [a, b] hi 1 b rfl⟩
  intro r hr
  have hj' : r = 0 ∨ r = 1 ∨ r = 2 ∨ r = 3 ∨ r = 4 ∨ r = 5 := by omega
  rcases hj' with rfl | rfl | rfl | rfl | rfl | rfl
  · exact row 0 0 0 rfl
  · exact row 1 2 1 rfl
  · exact row 2 2 1 rfl
  · exact row 3 24 1 rfl
  · exact row 4 48 2 rfl
  · exact row 5 16 2 rfl
end Go.Proofs.YtlfdagajfhikhaaDoor
