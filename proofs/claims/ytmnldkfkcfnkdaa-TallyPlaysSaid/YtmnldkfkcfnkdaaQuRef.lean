/-
  The contracts of the document's Most, Has, Members, Enough, Same.
-/
import Derived.Test.YtmnldkfkcfnkdaaQuMem
namespace Go.Proofs.Ytmnldkfkcfnkdaa
set_option maxRecDepth 100000
open Go Go.RowKit

set_option maxHeartbeats 600000 in
theorem rmost_of (n : Int) (w : World) : Calls Try.prog 35 #[.int .i64 n] w fun e w' => e = .returned (.int .i64 (mostQ n : Int)) ∧ w = w' := by
  by_cases hm : mostQ n = 0
  · have h3 : (n == 3) = false := by simp; rintro rfl; cases hm
    have h5 : (n == 5) = false := by simp; rintro rfl; cases hm
    have h7 : (n == 7) = false := by simp; rintro rfl; cases hm
    have n3 : (n != 3) = true := by simp at h3 ⊢; exact h3
    have n5 : (n != 5) = true := by simp at h5 ⊢; exact h5
    have n7 : (n != 7) = true := by simp at h7 ⊢; exact h7
    have HM := Lib.hid hm
    clear hm
    go_enter Try.func35, Try.ntmps35
    go_wp2_with fail
    go_ret
    exact ⟨by rw [HM.out]; rfl, rfl⟩
  · have hn : n = 2 * (mostQ n : Int) - 1 := by rcases mostQ_cases hm with rfl | rfl | rfl <;> decide
    have hm4 : 2 ≤ mostQ n ∧ mostQ n ≤ 4 := by rcases mostQ_cases hm with rfl | rfl | rfl <;> decide
    have hx : (n != 3) = true ∧ (n != 5) = true ∧ (n != 7) = false ∨ (n != 3) = true ∧ (n != 5) = false ∨ (n != 3) = false := by rcases mostQ_cases hm with rfl | rfl | rfl <;> decide
    generalize mostQ n = m at *
    subst hn
    clear hm
    have main : ∀ (R : Ending → World → Prop), True := fun _ => trivial
    rcases hx with ⟨h3, h5, h7⟩ | ⟨h3, h5⟩ | h3
    all_goals
      go_enter Try.func35, Try.ntmps35
      go_wp2_with fail
      go_loopw [3] (fun v wr => ∃ k : Nat, k ≤ m ∧ v = .int .i64 (k : Int) ∧ wr = w) (fun v _ => m - (intOf v).toNat)
      case atStart => exact ⟨0, by omega, rfl, rfl⟩
      case round =>
        obtain ⟨k, hk, rfl, rfl⟩ := hrel
        by_cases hlt : k < m
        · have h1 : 2 * (k : Int) ≤ 2 * (m : Int) - 1 := by omega
          go_wp2_with fail
          go_roundw
          case rel => exact ⟨k + 1, by omega, by go_num, trivial⟩
          case measure => simp [intOf]; omega
        · obtain rfl : k = m := by omega
          have h1 : 2 * (k : Int) - 1 < 2 * (k : Int) := by omega
          go_wp2_with fail
          go_ret
          exact ⟨rfl, rfl⟩
set_option maxHeartbeats 600000 in
theorem rhas_of (s : Nat) (hs : s < 256) (i : Int) (w : World) : Calls Try.prog 38 #[.int .u8 (s : Int), .int .i64 i] w fun e w' => e = .returned (.bool (hasQ s i)) ∧ w = w' := by
  obtain ⟨b, hb⟩ : ∃ b, hasQ s i = b := ⟨_, rfl⟩
  rw [hb]
  have HB := Lib.hid hb
  clear hb
  by_cases h0 : i < 0
  · have hb := HB.out
    unfold hasQ at hb
    rw [decide_eq_false fun h => by omega] at hb
    subst hb
    go_enter Try.func38, Try.ntmps38
    go_wp2_with fail
    go_ret
    exact ⟨rfl, rfl⟩
  by_cases h6 : 6 < i
  · have hb := HB.out
    unfold hasQ at hb
    rw [decide_eq_false fun h => by omega] at hb
    subst hb
    go_enter Try.func38, Try.ntmps38
    go_wp2_with fail
    go_ret
    exact ⟨rfl, rfl⟩
  obtain ⟨j, rfl⟩ : ∃ j : Nat, i = (j : Int) := ⟨i.toNat, by omega⟩
  have hj : j ≤ 6 := by omega
  have HB2 : Hid ((((s / 2 ^ j : Nat) : Int) % 2 == 1) = b) := Lib.hid (by
    have hb := HB.out
    unfold hasQ at hb
    rw [decide_eq_true (show (0 : Int) ≤ (j : Int) ∧ (j : Int) < 7 by omega), Bool.true_and, Int.toNat_natCast, ← has_div ⟨s, hs⟩ ⟨j, by omega⟩] at hb
    rw [← hb]
    simp only
    rw [Bool.eq_iff_iff, beq_iff_eq, decide_eq_true_iff]
    omega)
  clear h0 h6
  go_enter Try.func38, Try.ntmps38
  go_wp2_with fail
  go_loopw [0, 5] (fun v i wr => ∃ k : Nat, k ≤ j ∧ i = .int .i64 (k : Int) ∧ v = .int .u8 ((s / 2 ^ k : Nat) : Int) ∧ wr = w) (fun _ i _ => j - (intOf i).toNat)
  case atStart => exact ⟨0, by omega, rfl, by simp, rfl⟩
  case round =>
    obtain ⟨k, hk, rfl, rfl, rfl⟩ := hrel
    have hq : s / 2 ^ k < 256 := Nat.lt_of_le_of_lt (Nat.div_le_self _ _) hs
    have HQ2 := Lib.hid (show s / 2 ^ (k + 1) = s / 2 ^ k / 2 by rw [Nat.pow_succ, Nat.div_div_eq_div_mul])
    by_cases hlt : k < j
    · generalize s / 2 ^ k = q at *
      go_wp2_with fail
      go_roundw
      case rel => exact ⟨k + 1, by omega, by go_num, by rw [HQ2.out]; go_num, trivial⟩
      case measure => simp [intOf]; omega
    · obtain rfl : k = j := by omega
      generalize s / 2 ^ k = q at *
      have hb2 := HB2.out
      go_wp2_with fail
      go_ret
      exact ⟨rfl, rfl⟩
end Go.Proofs.Ytmnldkfkcfnkdaa
