/-
  The contracts of Print, the program's and the document's, in one form for valid tags and others.
-/
import Derived.Test.YtgcjilifmcianaaDoorTPrint
import Derived.Test.YtgcjilifmcianaaDoorTRPrint
namespace Go.Proofs.YtgcjilifmcianaaDoor
open Go Go.RowKit

theorem print_any (a b c d e : Int) (w : World) (hL : LaidA w) :
    Calls Tryd.prog 24 #[.agg #[.int .i64 a, .int .i64 b, .int .i64 c, .int .i64 d, .int .i64 e]] w fun r w' => ∃ A cp, r = .returned (.tuple #[.slice A (pl a b c d e).length cp, .int .i64 (pr a b c d e)]) ∧ By w' A (pl a b c d e).length cp (pl a b c d e) ∧ Ext w w' := by
  by_cases h : mayB a b c d e = true
  · obtain ⟨a, b, c, d, e, rfl, rfl, rfl, rfl, rfl⟩ := may_nat h
    rw [pl_yes h, pr_yes h]
    simp only [Int.toNat_natCast, tagBytes_len]
    exact print_yes a b c d e w hL h
  · have h' : mayB a b c d e = false := by simpa using h
    rw [pl_no h', pr_no h']
    exact (print_no a b c d e w hL.t h').mono fun _ w' ⟨h1, h2⟩ => ⟨none, 0, h1, By.nil_ w', h2⟩
theorem rprint_any (a b c d e : Int) (w : World) :
    Calls Tryd.prog 27 #[.agg #[.int .i64 a, .int .i64 b, .int .i64 c, .int .i64 d, .int .i64 e]] w fun r w' => ∃ A cp, r = .returned (.tuple #[.slice A (pl a b c d e).length cp, .int .i64 (pr a b c d e)]) ∧ By w' A (pl a b c d e).length cp (pl a b c d e) ∧ Ext w w' := by
  by_cases h : mayB a b c d e = true
  · obtain ⟨a, b, c, d, e, rfl, rfl, rfl, rfl, rfl⟩ := may_nat h
    rw [pl_yes h, pr_yes h]
    simp only [Int.toNat_natCast, tagBytes_len]
    exact rprint_yes a b c d e w h
  · have h' : mayB a b c d e = false := by simpa using h
    rw [pl_no h', pr_no h']
    exact (rprint_no a b c d e w h').mono fun _ w' ⟨h1, h2⟩ => ⟨none, 0, h1, By.nil_ w', h2⟩
end Go.Proofs.YtgcjilifmcianaaDoor
