/-
  The contract of ballot's Next.
-/
import Derived.Test.YtdbpdhlecgoclaaDoorBlNext
import Derived.Test.YtdbpdhlecgoclaaDoorBlMax
namespace Go.Proofs.YtdbpdhlecgoclaaDoor
set_option maxRecDepth 100000
open Go Go.RowKit

theorem one_stored {w : World} {b b' i : Nat} {v : Value} {o : Obj} (hb : b' ≠ b) (h' : w.heap[b']? = some o) : (w.setCell ⟨b, i, none⟩ v).heap[b']? = some o :=
  heap_mod h' (Mod.setCell (F := fun k => k = b) (Mod.refl (fun k => k = b) w) (p := ⟨b, i, none⟩) (.inl rfl) v) hb
end Go.Proofs.YtdbpdhlecgoclaaDoor
