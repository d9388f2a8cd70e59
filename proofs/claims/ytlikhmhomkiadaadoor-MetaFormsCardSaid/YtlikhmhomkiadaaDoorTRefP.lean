/-
  The contract of the document's own Places.
-/
import Derived.Test.YtlikhmhomkiadaaDoorProg
import Derived.Test.YtlikhmhomkiadaaDoorTSpec
import Derived.WalkKit
import Derived.WalkSpells
import Derived.WalkLawsBesides
import Derived.BigQuiet
import Derived.Lib.Hide
import Derived.Outline
namespace Go.Proofs.YtlikhmhomkiadaaDoor
set_option maxRecDepth 100000
open Go Go.RowKit
end Go.Proofs.YtlikhmhomkiadaaDoor
