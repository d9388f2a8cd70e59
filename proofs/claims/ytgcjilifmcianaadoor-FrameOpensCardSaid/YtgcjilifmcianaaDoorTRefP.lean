/-
  The contract of the document's own Places.
-/
import Derived.Test.YtgcjilifmcianaaDoorProg
import Derived.Test.YtgcjilifmcianaaDoorTSpec
import Derived.WalkKit
import Derived.WalkSpells
import Derived.WalkLawsBesides
import Derived.BigQuiet
import Derived.Lib.Hide
import Derived.Outline
namespace Go.Proofs.YtgcjilifmcianaaDoor
open Go Go.RowKit

theorem rplaces_any (r : Int) (w : World) :
    Calls Tryd.prog 53 #[.int .i64 r] w fun e w' => e = .returned (.int .i64 (plc r)) ∧ w = w' := by
  by_cases h : r < 1 ∨ 5 < r
  · have HF := Lib.hid (plc_out h)
    have g1 : (r == 1) = false := by simp; omega
    have g2 : (r == 2) = false := by simp; omega
    have g3 : (r == 3) = false := by simp; omega
    have g4 : (r == 4) = false := by simp; omega
    have g5 : (r == 5) = false := by simp; omega
    clear h
    go_enter Tryd.func53, Tryd.ntmps53
    go_wp2_with fail
    go_ret
    exact ⟨by rw [HF.out]; rfl, rfl⟩
  · rcases region_cases (r := r) (by omega) with rfl | rfl | rfl | rfl | rfl
    all_goals
      go_enter Tryd.func53, Tryd.ntmps53
      go_wp2_with fail
      go_ret
      exact ⟨rfl, rfl⟩
end Go.Proofs.YtgcjilifmcianaaDoor
