/-
  The contracts of the octet functions that only reckon: bound and Fits of the program, width and Fits of the document's answer.
-/
import Derived.Test.YtejejadbemkifaaProg
import Derived.Test.YtejejadbemkifaaSpec
import Derived.WalkKit
import Derived.WalkSpells
import Derived.BigQuiet
import Derived.Lib.Hide
namespace Go.Proofs.Ytejejadbemkifaa
set_option maxRecDepth 100000
open Go Go.RowKit
theorem div_step (n : Int) (k : Nat) : n / 256 ^ k / 256 = n / 256 ^ (k + 1) := by
  rw [Int.ediv_ediv_of_nonneg (Int.pow_nonneg (by omega)), Int.pow_succ]

end Go.Proofs.Ytejejadbemkifaa
