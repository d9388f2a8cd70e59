/-
  The contracts of ballot's Less, IndexFunc over ballots, Max, May, Next.
-/
import Derived.Test.YtdbpdhlecgoclaaDoorBlSpec
import Derived.Test.YtdbpdhlecgoclaaDoorBlTy
import Derived.Test.YtdbpdhlecgoclaaDoorKMod
import Derived.Test.YtdbpdhlecgoclaaDoorProg
import Derived.WalkKit
import Derived.WalkSpells
import Derived.BigQuiet
import Derived.OwnWalk
import Derived.Laws.AppendOwnNone
import Derived.Lib.Hide
import Derived.Laws.EntriesVeiled
import Derived.Deep.RegionHeld3
namespace Go.Proofs.YtdbpdhlecgoclaaDoor
set_option maxRecDepth 100000
open Go Go.RowKit

theorem bal_one (w : World) (x y : Int) (t : TypeId) : (w.alloc (.cells #[.int .i64 x, .int .i64 y] t)).cell? ⟨w.heap.size, 0, none⟩ = some (.int .i64 x) ∧ (w.alloc (.cells #[.int .i64 x, .int .i64 y] t)).cell? ⟨w.heap.size, 1, none⟩ = some (.int .i64 y) :=
  ⟨cell_of_row _ w.heap.size 0 _ _ _ (heap_alloc_new w _), cell_of_row _ w.heap.size 1 _ _ _ (heap_alloc_new w _)⟩
set_option maxRecDepth 100000 in
set_option maxHeartbeats 600000 in
theorem isless_of (x y x' y' : Int) (w : World) : Calls Tryd.prog 18 #[.agg #[.int .i64 x, .int .i64 y], .agg #[.int .i64 x', .int .i64 y']] w fun e w' => e = .returned (.bool (ltB ⟨x, y⟩ ⟨x', y'⟩)) ∧ Ext w w' := by
  obtain ⟨r, hr⟩ : ∃ r, ltB ⟨x, y⟩ ⟨x', y'⟩ = r := ⟨_, rfl⟩
  rw [hr]
  have HX := Lib.hid (((Ext.refl w).alloc (.cells #[.int .i64 x, .int .i64 y] 46)).alloc (.cells #[.int .i64 x', .int .i64 y'] 23))
  have fin : ∀ b : Bool, ltB ⟨x, y⟩ ⟨x', y'⟩ = b → Ending.returned (Value.bool b) = .returned (.bool r) := fun b h => by rw [← h, hr]
  have FIN := Lib.hid fin
  clear fin hr
  by_cases h1 : x < x'
  · have HB : Hid (ltB ⟨x, y⟩ ⟨x', y'⟩ = true) := Lib.hid (ltB_iff.2 (.inl h1))
    go_enter Tryd.func18, Tryd.ntmps18
    go_wp2
    go_ret
    exact ⟨FIN.out _ HB.out, HX.out⟩
  · by_cases h2 : x = x'
    · by_cases h3 : y < y'
      · have HB : Hid (ltB ⟨x, y⟩ ⟨x', y'⟩ = true) := Lib.hid (ltB_iff.2 (.inr ⟨h2, h3⟩))
        have e2 : (x == x') = true := by simpa using h2
        clear h2
        go_enter Tryd.func18, Tryd.ntmps18
        go_wp2
        go_ret
        exact ⟨FIN.out _ HB.out, HX.out⟩
      · have HB : Hid (ltB ⟨x, y⟩ ⟨x', y'⟩ = false) := Lib.hid (ltB_not.2 (by dsimp only; omega))
        have e2 : (x == x') = true := by simpa using h2
        clear h2
        go_enter Tryd.func18, Tryd.ntmps18
        go_wp2
        go_ret
        exact ⟨FIN.out _ HB.out, HX.out⟩
    · have HB : Hid (ltB ⟨x, y⟩ ⟨x', y'⟩ = false) := Lib.hid (ltB_not.2 (by dsimp only; omega))
      have e2 : (x == x') = false := by simpa using h2
      clear h2
      go_enter Tryd.func18, Tryd.ntmps18
      go_wp2
      go_ret
      exact ⟨FIN.out _ HB.out, HX.out⟩
set_option maxRecDepth 100000 in
set_option maxHeartbeats 600000 in
theorem less_of (x y x' y' : Int) (w : World) : Calls Tryd.prog 14 #[.agg #[.int .i64 x, .int .i64 y], .agg #[.int .i64 x', .int .i64 y']] w fun e w' => e = .returned (.bool (ltB ⟨x, y⟩ ⟨x', y'⟩)) ∧ Ext w w' := by
  have HX := Lib.hid (((Ext.refl w).alloc (.cells #[.int .i64 x, .int .i64 y] 23)).alloc (.cells #[.int .i64 x', .int .i64 y'] 23))
  go_enter Tryd.func14, Tryd.ntmps14
  go_wp2_with fail
  refine (isless_of _ _ _ _ _).mono ?_
  rintro e w1 ⟨rfl, hx⟩
  have HX := Lib.hid (HX.out.trans hx)
  clear hx
  go_wp2_with fail
  go_ret
  exact ⟨rfl, HX.out⟩
theorem Ls.bal {w : World} {B n c : Nat} {A : Option Addr} {l : List Bal} (h : Ls Bal.cells 2 w B A n c l) {j : Nat} (hj : j < n) : ∃ g o b, A = some ⟨g, o, none⟩ ∧ l[j]? = some b ∧ w.cell? ⟨g, o + j * 2, none⟩ = some (.int .i64 b.x) ∧ w.cell? ⟨g, o + j * 2 + 1, none⟩ = some (.int .i64 b.y) := by
  obtain ⟨g, o, b, h1, _, h2, h3⟩ := h.at_ hj
  exact ⟨g, o, b, h1, h2, h3 0 _ rfl, h3 1 _ rfl⟩
/-- The first of a list that is greater, or none. -/
def FirstB (b : Bal) (l : List Bal) (z : Int) : Prop := (z = -1 ∧ ∀ (j : Nat) (a : Bal), l[j]? = some a → ltB b a = false) ∨ ∃ (i : Nat) (a : Bal), z = (i : Nat) ∧ l[i]? = some a ∧ ltB b a = true ∧ ∀ (j : Nat) (a' : Bal), j < i → l[j]? = some a' → ltB b a' = false
end Go.Proofs.YtdbpdhlecgoclaaDoor
