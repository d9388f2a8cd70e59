/-
  The contract of the document's own copy of bytes: new memory that holds the same bytes; nothing that was there is written.
-/
import Derived.Test.YtejejadbemkifaaProg
import Derived.Test.YtejejadbemkifaaBytes
import Derived.WalkSpells
import Derived.OwnWalk
import Derived.Laws.AppendOwnNone
import Derived.Lib.Hide
namespace Go.Proofs.Ytejejadbemkifaa
set_option maxRecDepth 100000
open Go Go.RowKit

theorem byte_info : (Try.prog.info? 5).map (fun i => (i.zero, i.size, i.bytes)) = some (some (.int .u8 0), 1, 1) := by kernel_rfl

end Go.Proofs.Ytejejadbemkifaa
