/-
  The contracts of Get, the program's and the document's: the number that stands at a place of bytes, or which error.
-/
import Derived.Test.YtnlappoocffcpaaDoorNum
import Derived.Test.YtnlappoocffcpaaDoorBytes
import Derived.Laws.Bits64
import Derived.Outline
import Derived.Deep.DeepFit
namespace Go.Proofs.YtnlappoocffcpaaDoor
set_option maxRecDepth 100000
open Go Go.RowKit

/-- What Get answers: the number, the place behind it, and which error (0: none). -/
def getS (l : List Nat) (at_ x : Int) : Nat × Nat × Int :=
  if wOk x = false ∨ at_ < 0 ∨ (l.length : Int) < at_ then (0, 0, 2)
  else if (l.length : Int) - at_ < x then (0, 0, 10)
  else (num ((l.drop at_.toNat).take x.toNat), at_.toNat + x.toNat, 0)

theorem getS_arg {l : List Nat} {at_ x : Int} (h : wOk x = false ∨ at_ < 0 ∨ (l.length : Int) < at_) : getS l at_ x = (0, 0, 2) := by
  unfold getS
  rw [if_pos h]
theorem getS_short {l : List Nat} {at_ x : Int} (h1 : wOk x = true) (h2 : 0 ≤ at_) (h3 : at_ ≤ l.length) (h4 : (l.length : Int) - at_ < x) : getS l at_ x = (0, 0, 10) := by
  unfold getS
  rw [if_neg (by rw [h1]; simp; omega), if_pos h4]
theorem getS_yes {l : List Nat} {at_ x : Int} (h1 : wOk x = true) (h2 : 0 ≤ at_) (h3 : at_ ≤ l.length) (h4 : x ≤ (l.length : Int) - at_) : getS l at_ x = (num ((l.drop at_.toNat).take x.toNat), at_.toNat + x.toNat, 0) := by
  unfold getS
  rw [if_neg (by rw [h1]; simp; omega), if_neg (by omega)]

theorem num_step {l : List Nat} {a k x : Nat} (h : l[a + k]? = some x) : num ((l.drop a).take (k + 1)) = num ((l.drop a).take k) + 256 ^ k * x := by
  have e : (l.drop a)[k]? = some x := by rw [List.getElem?_drop]; exact h
  have hk : k < (l.drop a).length := (List.getElem?_eq_some_iff.1 e).1
  rw [List.take_add_one, e, Option.toList_some, num_snoc, List.length_take, Nat.min_eq_left (by omega)]
theorem num_take_lt {l : List Nat} (hl : ∀ b ∈ l, b < 256) (a k : Nat) (hk : k ≤ 6) : num ((l.drop a).take k) < 281474976710656 := by
  have h1 := num_lt ((l.drop a).take k) (fun b hb => hl b (List.mem_of_mem_drop (List.mem_of_mem_take hb)))
  have h2 : ((l.drop a).take k).length ≤ 6 := by rw [List.length_take]; omega
  exact Nat.lt_of_lt_of_le h1 (Nat.le_trans (Nat.pow_le_pow_right (by omega) h2) (by decide))
theorem pow_le_48 (k : Nat) (hk : k ≤ 6) : 256 ^ k ≤ 281474976710656 := Nat.le_trans (Nat.pow_le_pow_right (by omega) hk) (by decide)

end Go.Proofs.YtnlappoocffcpaaDoor
