/-
  The door of MetaForms: the table of bounds, and metadata that came in.
-/
import Derived.Test.YtlikhmhomkiadaaDoorDoor
import Derived.Test.YtlikhmhomkiadaaDoorUTy
namespace Go.Proofs.YtlikhmhomkiadaaDoor

end Go.Proofs.YtlikhmhomkiadaaDoor
