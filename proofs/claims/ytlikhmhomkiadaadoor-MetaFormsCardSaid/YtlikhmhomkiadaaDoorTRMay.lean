/-
  The contract of the document's own May.
-/
import Derived.Test.YtlikhmhomkiadaaDoorTRefP
import Derived.Test.YtlikhmhomkiadaaDoorMem
import Derived.Deep.QuietTactic
namespace Go.Proofs.YtlikhmhomkiadaaDoor
set_option maxRecDepth 100000
open Go Go.RowKit

theorem mayB_no {a b c d e : Int} (h : ¬ (0 ≤ a ∧ a ≤ 6 ∧ 1 ≤ b ∧ b ≤ 5 ∧ 0 ≤ c ∧ c < plc b ∧ 0 ≤ d ∧ d ≤ 1099511627776 ∧ 1 ≤ e ∧ e ≤ 1099511627776)) : mayB a b c d e = false := by
  unfold mayB
  exact decide_eq_false h

end Go.Proofs.YtlikhmhomkiadaaDoor
