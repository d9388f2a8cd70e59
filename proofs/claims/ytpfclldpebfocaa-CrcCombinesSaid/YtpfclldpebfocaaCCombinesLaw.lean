/-
  The walk of the statement on Combine: the program's answer and the document's are the same.
-/
import Derived.Test.YtpfclldpebfocaaReg
import Derived.Test.YtpfclldpebfocaaRefIn
import Derived.Test.YtpfclldpebfocaaMem
import Derived.OpenShut
namespace Go.Proofs.Ytpfclldpebfocaa
open Go Go.RowKit

set_option maxHeartbeats 400000 in
theorem rcombine_yes (a b n : Nat) (w : World) (ha : a < 4294967296) (hb : b < 4294967296) (hn : n ≤ 5000) :
    Calls Try.prog 6 #[.int .u32 a, .int .u32 b, .int .i64 n] w fun e w' => e = .returned (.tuple #[.int .u32 ((comb a b n : Nat) : Int), .int .i64 0]) ∧ w = w' := by
  have hn0 : ¬ (n : Int) < 0 := by omega
  have hn1 : ¬ (1048576 : Int) < (n : Int) := by omega
  go_enter Try.func6, Try.ntmps6
  go_wp2_with fail
  go_loop [0, 8] (fun va vi => ∃ k r : Nat, k ≤ 8 * n ∧ vi = .int .i64 k ∧ va = .int .u32 r ∧ r < 4294967296 ∧ Hid (r = stps k a)) (fun _ vi => 8 * n - (intOf vi).toNat)
  case atStart => exact ⟨0, a, Nat.zero_le _, rfl, rfl, ha, Lib.hid rfl⟩
  case round =>
    obtain ⟨k, r, hk, rfl, rfl, hr, HR⟩ := hrel
    by_cases hlt : k < 8 * n
    · have hr2 := stp_lt hr
      have HR2 : Hid (stp r = stps (k + 1) a) := Lib.hid (by rw [stps_succ, HR.out])
      have h := in_any r 0 w hr (by omega)
      rw [Nat.xor_zero] at h
      have HI := Lib.hid h
      clear h
      go_wp2_with fail
      refine HI.out.mono ?_
      rintro e w' ⟨rfl, rfl⟩
      go_wp2_with fail
      go_round
      case rel => exact ⟨k + 1, stp r, by omega, by go_num, rfl, hr2, HR2⟩
      case measure => simp [intOf]; omega
    · obtain rfl : k = 8 * n := by omega
      have hx := u32_xor_nat r b hr hb
      have HF : Hid (r ^^^ b = comb a b n) := Lib.hid (by unfold comb; rw [HR.out, Nat.xor_comm])
      go_wp2_with fail
      go_ret2
      exact ⟨by rw [HF.out]; rfl, rfl⟩
theorem rcombine_no (a b : Nat) (n : Int) (w : World) (h : n < 0 ∨ 1048576 < n) :
    Calls Try.prog 6 #[.int .u32 a, .int .u32 b, .int .i64 n] w fun e w' => e = .returned (.tuple #[.int .u32 0, .int .i64 2]) ∧ w = w' := by
  rcases h with h | h
  · go_enter Try.func6, Try.ntmps6
    go_wp2_with fail
    go_ret2
    exact ⟨rfl, rfl⟩
  · have h2 : ¬ n < 0 := by omega
    go_enter Try.func6, Try.ntmps6
    go_wp2_with fail
    go_ret2
    exact ⟨rfl, rfl⟩

set_option maxHeartbeats 1000000 in
theorem combines_walk (a b : Nat) (n : Int) (w : World) (ha : a < 4294967296) (hb : b < 4294967296) :
    Calls Try.prog 3 #[.int .u32 a, .int .u32 b, .int .i64 n] w fun e w' => e = .returned (.bool true) ∧ Ext w w' := by
  by_cases h1 : 5000 < n ∧ n ≤ 1048576
  · obtain ⟨h1, h2⟩ := h1
    go_enter Try.func3, Try.ntmps3
    go_wp2_with fail
    go_ret
    exact ⟨rfl, Ext.refl _⟩
  by_cases h2 : n < 0
  · have hx : ¬ (5000 < n) := by omega
    clear h1
    go_enter Try.func3, Try.ntmps3
    go_wp2_with fail
    refine (combine_no a b n _ (Or.inl h2)).mono ?_
    rintro e w' ⟨rfl, rfl⟩
    go_wp2_with fail
    refine (rcombine_no a b n _ (Or.inl h2)).mono ?_
    rintro e w' ⟨rfl, rfl⟩
    go_wp2_with fail
    go_ret
    exact ⟨rfl, Ext.refl _⟩
  by_cases h3 : 1048576 < n
  · have hx : 5000 < n := by omega
    have hy : ¬ (n ≤ 1048576) := by omega
    clear h1
    go_enter Try.func3, Try.ntmps3
    go_wp2_with fail
    refine (combine_no a b n _ (Or.inr h3)).mono ?_
    rintro e w' ⟨rfl, rfl⟩
    go_wp2_with fail
    refine (rcombine_no a b n _ (Or.inr h3)).mono ?_
    rintro e w' ⟨rfl, rfl⟩
    go_wp2_with fail
    go_ret
    exact ⟨rfl, Ext.refl _⟩
  · obtain ⟨n, rfl⟩ := Int.eq_ofNat_of_zero_le (show 0 ≤ n by omega)
    have hn : n ≤ 5000 := by omega
    clear h1 h2 h3
    go_enter Try.func3, Try.ntmps3
    go_wp2_with fail
    refine (combine_yes a b n _ ha hb (by omega)).mono ?_
    rintro e w' ⟨rfl, rfl⟩
    go_wp2_with fail
    refine (rcombine_yes a b n _ ha hb hn).mono ?_
    rintro e w' ⟨rfl, rfl⟩
    go_wp2_with fail
    go_ret
    exact ⟨rfl, Ext.refl _⟩
theorem crcCombines_law (a b n : Int) (w : World) (ha : (Lit.int .u32 a).wf = true) (hb : (Lit.int .u32 b).wf = true) (_ : (Lit.int .i64 n).wf = true) :
    Calls Try.prog 3 #[.int .u32 a, .int .u32 b, .int .i64 n] w fun e w' => e = .returned (.bool true) ∧ Below w.heap.size w w' := by
  have h := bounds_u32 ha
  have h' := bounds_u32 hb
  obtain ⟨a, rfl⟩ := Int.eq_ofNat_of_zero_le h.1
  obtain ⟨b, rfl⟩ := Int.eq_ofNat_of_zero_le h'.1
  exact combines_walk a b n w (by omega) (by omega)
end Go.Proofs.Ytpfclldpebfocaa
