/-
  The contracts of Print, the program's and the document's, in one form for valid tags and others.
-/
import Derived.Test.YtlfdagajfhikhaaDoorTPrint
import Derived.Test.YtlfdagajfhikhaaDoorTRPrint
namespace Go.Proofs.YtlfdagajfhikhaaDoor
open Go Go.RowKit

/-- What Print answers: the bytes, and which error (0: none). -/
def pl (a b c d e : Int) : List Nat := if mayB a b c d e = true then tagBytes a.toNat b.toNat c.toNat d.toNat e.toNat else []
def pr (a b c d e : Int) : Int := if mayB a b c d e = true then 0 else 2
theorem pl_yes {a b c d e : Int} (h : mayB a b c d e = true) : pl a b c d e = tagBytes a.toNat b.toNat c.toNat d.toNat e.toNat := by unfold pl; rw [if_pos h]
theorem pr_yes {a b c d e : Int} (h : mayB a b c d e = true) : pr a b c d e = 0 := by unfold pr; rw [if_pos h]
theorem pl_no {a b c d e : Int} (h : mayB a b c d e = false) : pl a b c d e = [] := by unfold pl; rw [if_neg (by rw [h]; simp)]
theorem pr_no {a b c d e : Int} (h : mayB a b c d e = false) : pr a b c d e = 2 := by unfold pr; rw [if_neg (by rw [h]; simp)]
theorem pl_len_le (a b c d e : Int) : (pl a b c d e).length ≤ 15 := by
  by_cases h : mayB a b c d e = true
  · rw [pl_yes h, tagBytes_len]; exact Nat.le_refl _
  · rw [pl_no (by simpa using h)]; simp

theorem print_any (a b c d e : Int) (w : World) (hL : LaidA w) :
    Calls Tryd.prog 10 #[.agg #[.int .i64 a, .int .i64 b, .int .i64 c, .int .i64 d, .int .i64 e]] w fun r w' => ∃ A cp, r = .returned (.tuple #[.slice A (pl a b c d e).length cp, .int .i64 (pr a b c d e)]) ∧ By w' A (pl a b c d e).length cp (pl a b c d e) ∧ Ext w w' := by
  by_cases h : mayB a b c d e = true
  · obtain ⟨a, b, c, d, e, rfl, rfl, rfl, rfl, rfl⟩ := may_nat h
    rw [pl_yes h, pr_yes h]
    simp only [Int.toNat_natCast, tagBytes_len]
    exact print_yes a b c d e w hL h
  · have h' : mayB a b c d e = false := by simpa using h
    rw [pl_no h', pr_no h']
    exact (print_no a b c d e w hL.t h').mono fun _ w' ⟨h1, h2⟩ => ⟨none, 0, h1, By.nil_ w', h2⟩
theorem rprint_any (a b c d e : Int) (w : World) :
    Calls Tryd.prog 11 #[.agg #[.int .i64 a, .int .i64 b, .int .i64 c, .int .i64 d, .int .i64 e]] w fun r w' => ∃ A cp, r = .returned (.tuple #[.slice A (pl a b c d e).length cp, .int .i64 (pr a b c d e)]) ∧ By w' A (pl a b c d e).length cp (pl a b c d e) ∧ Ext w w' := by
  by_cases h : mayB a b c d e = true
  · obtain ⟨a, b, c, d, e, rfl, rfl, rfl, rfl, rfl⟩ := may_nat h
    rw [pl_yes h, pr_yes h]
    simp only [Int.toNat_natCast, tagBytes_len]
    exact rprint_yes a b c d e w h
  · have h' : mayB a b c d e = false := by simpa using h
    rw [pl_no h', pr_no h']
    exact (rprint_no a b c d e w h').mono fun _ w' ⟨h1, h2⟩ => ⟨none, 0, h1, By.nil_ w', h2⟩
end Go.Proofs.YtlfdagajfhikhaaDoor
