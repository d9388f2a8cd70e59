/-
  How what is known of the table of bounds is carried over calls that write nothing that was there.
-/
import Derived.Test.YtejejadbemkifaaNum
import Derived.Test.YtejejadbemkifaaMem
namespace Go.Proofs.Ytejejadbemkifaa
set_option maxRecDepth 100000
open Go Go.RowKit
end Go.Proofs.Ytejejadbemkifaa
