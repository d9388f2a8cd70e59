/-
  The contracts of the document's Less, Crowd, May, Next of ballots.
-/
import Derived.Test.YtdbpdhlecgoclaaDoorBlNext2
namespace Go.Proofs.YtdbpdhlecgoclaaDoor
set_option maxRecDepth 100000
open Go Go.RowKit

set_option maxRecDepth 100000 in
set_option maxHeartbeats 600000 in
theorem rless_of (x y x' y' : Int) (w : World) : Calls Tryd.prog 15 #[.agg #[.int .i64 x, .int .i64 y], .agg #[.int .i64 x', .int .i64 y']] w fun e w' => e = .returned (.bool (ltB ⟨x, y⟩ ⟨x', y'⟩)) ∧ Ext w w' := by
  obtain ⟨r, hr⟩ : ∃ r, ltB ⟨x, y⟩ ⟨x', y'⟩ = r := ⟨_, rfl⟩
  rw [hr]
  have HX := Lib.hid (((Ext.refl w).alloc (.cells #[.int .i64 x, .int .i64 y] 23)).alloc (.cells #[.int .i64 x', .int .i64 y'] 23))
  have fin : ∀ b : Bool, ltB ⟨x, y⟩ ⟨x', y'⟩ = b → Ending.returned (Value.bool b) = .returned (.bool r) := fun b h => by rw [← h, hr]
  have FIN := Lib.hid fin
  clear fin hr
  by_cases h2 : x = x'
  · have e2 : (x != x') = false := by simpa using h2
    have HD : Hid (ltB ⟨x, y⟩ ⟨x', y'⟩ = decide (y < y')) := Lib.hid (by
      rw [Bool.eq_iff_iff, ltB_iff, decide_eq_true_iff]
      dsimp only
      omega)
    clear h2
    go_enter Tryd.func15, Tryd.ntmps15
    go_wp2
    go_ret
    exact ⟨FIN.out _ HD.out, HX.out⟩
  · have e2 : (x != x') = true := by simpa using h2
    have HD : Hid (ltB ⟨x, y⟩ ⟨x', y'⟩ = decide (x < x')) := Lib.hid (by
      rw [Bool.eq_iff_iff, ltB_iff, decide_eq_true_iff]
      dsimp only
      omega)
    clear h2
    go_enter Tryd.func15, Tryd.ntmps15
    go_wp2
    go_ret
    exact ⟨FIN.out _ HD.out, HX.out⟩
end Go.Proofs.YtdbpdhlecgoclaaDoor
