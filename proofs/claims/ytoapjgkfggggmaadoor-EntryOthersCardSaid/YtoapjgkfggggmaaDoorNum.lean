/-
  The contracts of the octet functions that only reckon: bound and Fits of the program, width and Fits of the document's answer.
-/
import Derived.Test.YtoapjgkfggggmaaDoorProg
import Derived.Test.YtoapjgkfggggmaaDoorSpec
import Derived.WalkKit
import Derived.WalkSpells
import Derived.BigQuiet
import Derived.Lib.Hide
namespace Go.Proofs.YtoapjgkfggggmaaDoor
set_option maxRecDepth 100000
open Go Go.RowKit

/-- What the table of bounds holds. -/
def Laid (w : World) : Prop :=
  w.cell? ⟨0, 0, none⟩ = some (.int .i64 0) ∧ w.cell? ⟨0, 1, none⟩ = some (.int .i64 256) ∧ w.cell? ⟨0, 2, none⟩ = some (.int .i64 65536) ∧ w.cell? ⟨0, 3, none⟩ = some (.int .i64 0) ∧
  w.cell? ⟨0, 4, none⟩ = some (.int .i64 4294967296) ∧ w.cell? ⟨0, 5, none⟩ = some (.int .i64 0) ∧ w.cell? ⟨0, 6, none⟩ = some (.int .i64 281474976710656)

theorem bound_any (x : Int) (w : World) (hL : Laid w) :
    Calls Tryd.prog 54 #[.int .i64 x] w fun e w' => e = .returned (.int .i64 (bnd x)) ∧ w = w' := by
  obtain ⟨h0, h1, h2, h3, h4, h5, h6⟩ := hL
  by_cases hn : x < 0
  · have hb : bnd x = 0 := by unfold bnd; omega
    have HB := Lib.hid hb
    clear hb
    go_enter Tryd.func54, Tryd.ntmps54
    go_wp2_with fail
    go_ret
    exact ⟨by rw [HB.out]; rfl, rfl⟩
  · by_cases hg : 7 ≤ x
    · have hb : bnd x = 0 := by unfold bnd; omega
      have HB := Lib.hid hb
      clear hb
      go_enter Tryd.func54, Tryd.ntmps54
      go_wp2_with fail
      go_ret
      exact ⟨by rw [HB.out]; rfl, rfl⟩
    · have hx : x = 0 ∨ x = 1 ∨ x = 2 ∨ x = 3 ∨ x = 4 ∨ x = 5 ∨ x = 6 := by omega
      clear hn hg
      rcases hx with rfl | rfl | rfl | rfl | rfl | rfl | rfl
      all_goals
        go_enter Tryd.func54, Tryd.ntmps54
        go_wp2_with fail
        go_ret
        exact ⟨rfl, rfl⟩

theorem fits_any (x n : Int) (w : World) (hL : Laid w) :
    Calls Tryd.prog 51 #[.int .i64 x, .int .i64 n] w fun e w' => e = .returned (.bool (fitsB x n)) ∧ w = w' := by
  by_cases hn : 0 ≤ n
  · have H := Lib.hid hL
    clear hL
    go_enter Tryd.func51, Tryd.ntmps51
    go_wp2_with (go_at_call 54; refine (bound_any _ _ H.out).mono ?_; rintro e w' ⟨rfl, rfl⟩)
    go_ret
    exact ⟨by simp [fitsB, hn], rfl⟩
  · have H := Lib.hid hL
    clear hL
    have HF := Lib.hid (show fitsB x n = false by simp only [fitsB, hn, decide_false, Bool.false_and])
    go_enter Tryd.func51, Tryd.ntmps51
    go_wp2_with (go_at_call 54; refine (bound_any _ _ H.out).mono ?_; rintro e w' ⟨rfl, rfl⟩)
    go_ret
    exact ⟨by rw [HF.out]; rfl, rfl⟩

theorem width_any (x : Int) (w : World) :
    Calls Tryd.prog 48 #[.int .i64 x] w fun e w' => e = .returned (.bool (wOk x)) ∧ w = w' := by
  by_cases h1 : x = 1
  · subst h1
    go_enter Tryd.func48, Tryd.ntmps48
    go_wp2_with fail
    go_ret
    exact ⟨rfl, rfl⟩
  by_cases h2 : x = 2
  · subst h2
    go_enter Tryd.func48, Tryd.ntmps48
    go_wp2_with fail
    go_ret
    exact ⟨rfl, rfl⟩
  by_cases h4 : x = 4
  · subst h4
    go_enter Tryd.func48, Tryd.ntmps48
    go_wp2_with fail
    go_ret
    exact ⟨rfl, rfl⟩
  have g1 : (x == 1) = false := by simp [h1]
  have g2 : (x == 2) = false := by simp [h2]
  have g4 : (x == 4) = false := by simp [h4]
  clear h1 h2 h4
  go_enter Tryd.func48, Tryd.ntmps48
  go_wp2_with fail
  go_ret
  exact ⟨by simp [wOk, g1, g2, g4], rfl⟩

theorem div_step (n : Int) (k : Nat) : n / 256 ^ k / 256 = n / 256 ^ (k + 1) := by
  rw [Int.ediv_ediv_of_nonneg (Int.pow_nonneg (by omega)), Int.pow_succ]

theorem rfits_yes (x n : Int) (w : World) (hx : wOk x = true) (hn : 0 ≤ n) (hm : n ≤ 9223372036854775807) :
    Calls Tryd.prog 42 #[.int .i64 x, .int .i64 n] w fun e w' => e = .returned (.bool (fitsB x n)) ∧ w = w' := by
  have hx0 : 1 ≤ x ∧ x ≤ 6 := by rcases wOk_cases hx with rfl | rfl | rfl | rfl <;> omega
  have HX := Lib.hid hx
  clear hx
  go_enter Tryd.func42, Tryd.ntmps42
  go_wp2_with (go_at_call 48; refine (width_any _ _).mono ?_; rintro e w' ⟨rfl, rfl⟩; rw [HX.out])
  go_loop [1, 5] (fun q i => ∃ k : Nat, (k : Int) ≤ x ∧ i = .int .i64 k ∧ q = .int .i64 (n / 256 ^ k)) (fun _ i => (x - intOf i).toNat)
  case atStart => exact ⟨0, by omega, rfl, by simp⟩
  case round =>
    obtain ⟨k, hk, rfl, rfl⟩ := hrel
    have q0 : 0 ≤ n / 256 ^ k := Int.ediv_nonneg hn (Int.pow_nonneg (by omega))
    have q1 : n / 256 ^ k ≤ n := Int.ediv_le_self _ hn
    have q2 : n / 256 ^ k ≤ 9223372036854775807 := by omega
    clear q1
    by_cases hlt : (k : Int) < x
    · go_wp2_with fail
      go_round
      case rel => exact ⟨k + 1, by omega, by go_num, by rw [← div_step]⟩
      case measure => simp [intOf]; omega
    · have hkx : (k : Int) = x := by omega
      have HK := Lib.hid hkx
      clear hkx
      go_wp2_with fail
      go_ret
      refine ⟨?_, rfl⟩
      have hw := bnd_of_wOk HX.out
      have e1 : x.toNat = k := by have := HK.out; omega
      rw [e1] at hw
      simp only [fitsB, hn, hw, decide_true, Bool.true_and]
      refine congrArg (fun b => Ending.returned (Value.bool b)) ?_
      rw [Bool.eq_iff_iff, beq_iff_eq, decide_eq_true_eq]
      have hp : (0 : Int) < 256 ^ k := Int.pow_pos (by omega)
      constructor
      · intro h
        have := Int.emod_lt_of_pos n hp
        have h2 := Int.emod_add_mul_ediv n (256 ^ k)
        rw [h] at h2
        omega
      · intro h
        exact Int.ediv_eq_zero_of_lt hn h
theorem rfits_any (x n : Int) (w : World) (hm : n ≤ 9223372036854775807) :
    Calls Tryd.prog 42 #[.int .i64 x, .int .i64 n] w fun e w' => e = .returned (.bool (fitsB x n)) ∧ w = w' := by
  by_cases hx : wOk x = true
  · by_cases hn : 0 ≤ n
    · exact rfits_yes x n w hx hn hm
    · have HF := Lib.hid (show fitsB x n = false by simp [fitsB, hn])
      have HX := Lib.hid hx
      clear hx
      go_enter Tryd.func42, Tryd.ntmps42
      go_wp2_with (go_at_call 48; refine (width_any _ _).mono ?_; rintro e w' ⟨rfl, rfl⟩; rw [HX.out])
      go_ret
      exact ⟨by rw [HF.out]; rfl, rfl⟩
  · have hx' : wOk x = false := by simpa using hx
    have HF := Lib.hid (show fitsB x n = false by simp only [fitsB, bnd_of_not hx', Bool.and_eq_false_iff, decide_eq_false_iff_not]; omega)
    have HX := Lib.hid hx'
    clear hx hx'
    go_enter Tryd.func42, Tryd.ntmps42
    go_wp2_with (go_at_call 48; refine (width_any _ _).mono ?_; rintro e w' ⟨rfl, rfl⟩; rw [HX.out])
    go_ret
    exact ⟨by rw [HF.out]; rfl, rfl⟩
end Go.Proofs.YtoapjgkfggggmaaDoor
