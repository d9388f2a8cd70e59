/-
  A number brought below a bound, by way of 64 bits without a sign.
-/
import Derived.Test.YtldgamgdbneneaaKDisk
namespace Go.Proofs.Ytldgamgdbneneaa
set_option maxRecDepth 100000
open Go Go.RowKit
theorem wrap_mod (z : Int) (N : Nat) (h0 : 0 < N) (hN : N ≤ 1000) : ∃ q : Nat, q < N ∧ wrap64 ((IntKind.u64.wrap z).tmod (N : Int)) = (q : Int) := by
  have h1 : 0 ≤ IntKind.u64.wrap z := by rw [IntKind.wrap_u64]; omega
  have h2 := Int.emod_nonneg (IntKind.u64.wrap z) (show (N : Int) ≠ 0 by omega)
  have h3 := Int.emod_lt_of_pos (IntKind.u64.wrap z) (show (0 : Int) < N by omega)
  refine ⟨((IntKind.u64.wrap z) % N).toNat, by omega, ?_⟩
  rw [Int.tmod_eq_emod_of_nonneg h1, IntWalk.wrap64_in _ (by omega)]
  omega
end Go.Proofs.Ytldgamgdbneneaa
