/-
  The contracts of the octet functions that only reckon: bound and Fits of the program, width and Fits of the document's answer.
-/
import Derived.Test.YtnlappoocffcpaaDoorProg
import Derived.Test.YtnlappoocffcpaaDoorSpec
import Derived.WalkKit
import Derived.WalkSpells
import Derived.BigQuiet
import Derived.Lib.Hide
namespace Go.Proofs.YtnlappoocffcpaaDoor
set_option maxRecDepth 100000
open Go Go.RowKit

/-- What the table of bounds holds. -/
def Laid (w : World) : Prop :=
  w.cell? ⟨0, 0, none⟩ = some (.int .i64 0) ∧ w.cell? ⟨0, 1, none⟩ = some (.int .i64 256) ∧ w.cell? ⟨0, 2, none⟩ = some (.int .i64 65536) ∧ w.cell? ⟨0, 3, none⟩ = some (.int .i64 0) ∧
  w.cell? ⟨0, 4, none⟩ = some (.int .i64 4294967296) ∧ w.cell? ⟨0, 5, none⟩ = some (.int .i64 0) ∧ w.cell? ⟨0, 6, none⟩ = some (.int .i64 281474976710656)

theorem bound_any (x : Int) (w : World) (hL : Laid w) :
    Calls Tryd.prog 24 #[.int .i64 x] w fun e w' => e = .returned (.int .i64 (bnd x)) ∧ w = w' := by
  obtain ⟨h0, h1, h2, h3, h4, h5, h6⟩ := hL
  by_cases hn : x < 0
  · have hb : bnd x = 0 := by unfold bnd; omega
    have HB := Lib.hid hb
    clear hb
    go_enter Tryd.func24, Tryd.ntmps24
    go_wp2_with fail
    go_ret
    exact ⟨by rw [HB.out]; rfl, rfl⟩
  · by_cases hg : 7 ≤ x
    · have hb : bnd x = 0 := by unfold bnd; omega
      have HB := Lib.hid hb
      clear hb
      go_enter Tryd.func24, Tryd.ntmps24
      go_wp2_with fail
      go_ret
      exact ⟨by rw [HB.out]; rfl, rfl⟩
    · have hx : x = 0 ∨ x = 1 ∨ x = 2 ∨ x = 3 ∨ x = 4 ∨ x = 5 ∨ x = 6 := by omega
      clear hn hg
      rcases hx with rfl | rfl | rfl | rfl | rfl | rfl | rfl
      all_goals
        go_enter Tryd.func24, Tryd.ntmps24
        go_wp2_with fail
        go_ret
        exact ⟨rfl, rfl⟩

theorem fits_any (x n : Int) (w : World) (hL : Laid w) :
    Calls Tryd.prog 22 #[.int .i64 x, .int .i64 n] w fun e w' => e = .returned (.bool (fitsB x n)) ∧ w = w' := by
  by_cases hn : 0 ≤ n
  · have H := Lib.hid hL
    clear hL
    go_enter Tryd.func22, Tryd.ntmps22
    go_wp2_with (go_at_call 24; refine (bound_any _ _ H.out).mono ?_; rintro e w' ⟨rfl, rfl⟩)
    go_ret
    exact ⟨by simp [fitsB, hn], rfl⟩
  · have H := Lib.hid hL
    clear hL
    have HF := Lib.hid (show fitsB x n = false by simp only [fitsB, hn, decide_false, Bool.false_and])
    go_enter Tryd.func22, Tryd.ntmps22
    go_wp2_with (go_at_call 24; refine (bound_any _ _ H.out).mono ?_; rintro e w' ⟨rfl, rfl⟩)
    go_ret
    exact ⟨by rw [HF.out]; rfl, rfl⟩

theorem div_step (n : Int) (k : Nat) : n / 256 ^ k / 256 = n / 256 ^ (k + 1) := by
  rw [Int.ediv_ediv_of_nonneg (Int.pow_nonneg (by omega)), Int.pow_succ]

end Go.Proofs.YtnlappoocffcpaaDoor
