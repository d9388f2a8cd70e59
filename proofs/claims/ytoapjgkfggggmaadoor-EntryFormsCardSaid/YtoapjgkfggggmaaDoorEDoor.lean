/-
  The door of the statements on entries: the table of bounds, and entries, ballots, lists of them and bytes that came in.
-/
import Derived.Test.YtoapjgkfggggmaaDoorDoor
import Derived.Test.YtoapjgkfggggmaaDoorOpen
import Derived.Test.YtoapjgkfggggmaaDoorETy
namespace Go.Proofs.YtoapjgkfggggmaaDoor
set_option maxRecDepth 100000

end Go.Proofs.YtoapjgkfggggmaaDoor
