/-
  The contracts of Text and Join, in the words 'By' (a slice that reads as bytes) and 'Ext' (nothing that was there is written).
-/
import Derived.Test.YtnlappoocffcpaaDoorText
import Derived.Test.YtnlappoocffcpaaDoorJBy
import Derived.Test.YtnlappoocffcpaaDoorSC
namespace Go.Proofs.YtnlappoocffcpaaDoor
set_option maxRecDepth 100000
open Go Go.RowKit
end Go.Proofs.YtnlappoocffcpaaDoor
