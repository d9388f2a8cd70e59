/-
  The walk of the statement on two ways of bringing a sum along.
-/
import Derived.Test.YtpfclldpebfocaaDoorCAwake
import Derived.OpenShut
namespace Go.Proofs.YtpfclldpebfocaaDoor
open Go Go.RowKit

theorem comb_far (a n m : Nat) : comb (comb a 0 n) 0 m = comb a 0 (n + m) := by
  rw [comb_assoc]
  congr 1
  unfold comb
  rw [stps_zero]
  rfl
theorem comb_none (a n : Nat) : comb 0 a n = a := by
  unfold comb
  rw [stps_zero, Nat.xor_zero]

set_option maxHeartbeats 1000000 in
set_option maxRecDepth 100000 in
theorem far_walk (a : Nat) (n m : Int) (w : World) (ha : a < 4294967296) (hL : LaidH w) :
    Calls Tryd.prog 5 #[.int .u32 a, .int .i64 n, .int .i64 m] w fun e w' => e = .returned (.bool true) ∧ Ext w w' := by
  have HL := Lib.hid hL
  clear hL
  by_cases h1 : n < 0
  · go_enter Tryd.func5, Tryd.ntmps5
    go_wp2_with fail
    refine (cawake_any _ HL.out).mono ?_
    rintro e w1 ⟨rfl, hx⟩
    have HE := Lib.hid hx
    clear hx
    go_wp2_with fail
    go_ret
    exact ⟨rfl, HE.out⟩
  by_cases h2 : 524288 < n
  · go_enter Tryd.func5, Tryd.ntmps5
    go_wp2_with fail
    refine (cawake_any _ HL.out).mono ?_
    rintro e w1 ⟨rfl, hx⟩
    have HE := Lib.hid hx
    clear hx
    go_wp2_with fail
    go_ret
    exact ⟨rfl, HE.out⟩
  by_cases h3 : m < 0
  · go_enter Tryd.func5, Tryd.ntmps5
    go_wp2_with fail
    refine (cawake_any _ HL.out).mono ?_
    rintro e w1 ⟨rfl, hx⟩
    have HE := Lib.hid hx
    clear hx
    go_wp2_with fail
    go_ret
    exact ⟨rfl, HE.out⟩
  by_cases h4 : 524288 < m
  · go_enter Tryd.func5, Tryd.ntmps5
    go_wp2_with fail
    refine (cawake_any _ HL.out).mono ?_
    rintro e w1 ⟨rfl, hx⟩
    have HE := Lib.hid hx
    clear hx
    go_wp2_with fail
    go_ret
    exact ⟨rfl, HE.out⟩
  obtain ⟨n, rfl⟩ := Int.eq_ofNat_of_zero_le (show 0 ≤ n by omega)
  obtain ⟨m, rfl⟩ := Int.eq_ofNat_of_zero_le (show 0 ≤ m by omega)
  have hc : comb a 0 n < 4294967296 := comb_lt ha (by omega)
  have HF := Lib.hid (comb_far a n m)
  have HN := Lib.hid (comb_none a n)
  go_enter Tryd.func5, Tryd.ntmps5
  go_wp2_with fail
  refine (cawake_any _ HL.out).mono ?_
  rintro e w1 ⟨rfl, hx⟩
  have HE := Lib.hid hx
  clear hx
  go_wp2_with fail
  refine (combine_yes a 0 n _ ha (by omega) (by omega)).mono ?_
  rintro e w' ⟨rfl, rfl⟩
  go_wp2_with fail
  refine (combine_yes (comb a 0 n) 0 m _ hc (by omega) (by omega)).mono ?_
  rw [HF.out]
  rintro e w' ⟨rfl, rfl⟩
  go_wp2_with fail
  refine (combine_yes a 0 (n + m) _ ha (by omega) (by omega)).mono ?_
  rintro e w' ⟨rfl, rfl⟩
  go_wp2_with fail
  refine (combine_yes 0 a n _ (by omega) ha (by omega)).mono ?_
  rw [HN.out]
  rintro e w' ⟨rfl, rfl⟩
  go_wp2_with fail
  go_ret
  exact ⟨rfl, HE.out⟩
theorem crcFar_law (a n m : Int) (w : World) (ha : (Lit.int .u32 a).wf = true) (_ : (Lit.int .i64 n).wf = true) (_ : (Lit.int .i64 m).wf = true) (hL : LaidH w) :
    Calls Tryd.prog 5 #[.int .u32 a, .int .i64 n, .int .i64 m] w fun e w' => e = .returned (.bool true) ∧ Below w.heap.size w w' := by
  have h := bounds_u32 ha
  obtain ⟨a, rfl⟩ := Int.eq_ofNat_of_zero_le h.1
  exact far_walk a n m w (by omega) hL
end Go.Proofs.YtpfclldpebfocaaDoor
