/-
  The contract of the program's own Get: it answers as the document's Get does.
-/
import Derived.Test.YtejejadbemkifaaGet
import Derived.Laws.BitsAllLaws
namespace Go.Proofs.Ytejejadbemkifaa
set_option maxRecDepth 100000
open Go Go.RowKit

theorem i64_or_nat (a b : Nat) (ha : a < 9223372036854775808) (hb : b < 9223372036854775808) : bits .or .i64 (a : Int) (b : Int) = ((a ||| b : Nat) : Int) := by
  have h : a ||| b < 2 ^ 63 := Nat.or_lt_two_pow (by omega) (by omega)
  show IntKind.i64.wrap ((BitVec.ofInt 64 (a : Int) ||| BitVec.ofInt 64 (b : Int)).toNat : Int) = _
  rw [BitVec.toNat_or, ofInt_u64 a (by omega), ofInt_u64 b (by omega), IntKind.wrap_i64]
  omega
theorem or_step (s b k : Nat) (hk : k ≤ 5) (hs : s < 256 ^ k) (hb : b < 256) : bits .or .i64 (s : Int) (wrap64 ((b : Int) * 2 ^ (8 * k))) = ((s + 256 ^ k * b : Nat) : Int) := by
  have e : (2 : Nat) ^ (8 * k) = 256 ^ k := by rw [Nat.pow_mul]
  have e' : ((b : Int) * 2 ^ (8 * k)) = ((b * 256 ^ k : Nat) : Int) := by rw [← e]; simp
  have hp : 256 ^ k ≤ 1099511627776 := Nat.le_trans (Nat.pow_le_pow_right (by omega) hk) (by decide)
  have hm : b * 256 ^ k ≤ 255 * 1099511627776 := Nat.mul_le_mul (by omega) hp
  rw [e', IntWalk.wrap64_in _ ⟨by omega, by omega⟩, i64_or_nat _ _ (by omega) (by omega), Nat.or_comm, nat_join (8 * k) _ _ (by rw [e]; exact Nat.mul_mod_left _ _) (by rw [e]; exact hs), Nat.mul_comm]
  congr 1
  omega

theorem num_take_lt' {l : List Nat} (hl : ∀ b ∈ l, b < 256) (a k : Nat) : num ((l.drop a).take k) < 256 ^ k := by
  have h1 := num_lt ((l.drop a).take k) (fun b hb => hl b (List.mem_of_mem_drop (List.mem_of_mem_take hb)))
  exact Nat.lt_of_lt_of_le h1 (Nat.pow_le_pow_right (by omega) (List.length_take_le _ _))

end Go.Proofs.Ytejejadbemkifaa
