/-
  The contract of the statements' own first look at the chapter's examples: it answers true and writes nothing that was there.
-/
import Derived.Test.YtnlappoocffcpaaDoorBy
import Derived.Test.YtnlappoocffcpaaDoorLaid
import Derived.Test.YtnlappoocffcpaaDoorRead
import Derived.Test.YtnlappoocffcpaaDoorOBy
namespace Go.Proofs.YtnlappoocffcpaaDoor
set_option maxRecDepth 100000
open Go Go.RowKit
end Go.Proofs.YtnlappoocffcpaaDoor
