/-
  The contract of the document's own Print.
-/
import Derived.Test.YtlikhmhomkiadaaDoorTRMay
import Derived.Test.YtlikhmhomkiadaaDoorOwn
import Derived.Test.YtlikhmhomkiadaaDoorPut
namespace Go.Proofs.YtlikhmhomkiadaaDoor
set_option maxRecDepth 100000
open Go Go.RowKit

theorem Ext.cellv {a b : World} {p : Addr} {v : Value} (k : Ext a b) (h : a.cell? p = some v) : b.cell? p = some v := (Below.cell k (World.block_lt_of_cell? a _ h)).trans h
theorem tagBytes_eq {a b c d e : Nat} (h : mayB a b c d e = true) : tagBytes a b c d e = [a, b, c] ++ digs 6 d ++ digs 6 e := by
  rw [mayB_iff] at h
  have hp := plc_le (b : Int)
  simp only [tagBytes, pre, wth, fld, digs, List.nil_append]
  rw [show a % 256 = a by omega, show b % 256 = b by omega, show c % 256 = c by omega]
  rfl

end Go.Proofs.YtlikhmhomkiadaaDoor
