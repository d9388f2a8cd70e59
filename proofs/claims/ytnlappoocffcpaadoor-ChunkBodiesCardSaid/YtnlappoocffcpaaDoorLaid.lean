/-
  How what is known of the table of bounds is carried over calls that write nothing that was there.
-/
import Derived.Test.YtnlappoocffcpaaDoorNum
import Derived.Test.YtnlappoocffcpaaDoorMem
namespace Go.Proofs.YtnlappoocffcpaaDoor
set_option maxRecDepth 100000
open Go Go.RowKit

theorem Laid.keep {w w' : World} (h : Laid w) (hk : ∀ p : Addr, p.block < w.heap.size → w'.cell? p = w.cell? p) : Laid w' := by
  have hlt : 0 < w.heap.size := World.block_lt_of_cell? w _ h.1
  unfold Laid at h ⊢
  obtain ⟨h0, h1, h2, h3, h4, h5, h6⟩ := h
  exact ⟨(hk _ hlt).trans h0, (hk _ hlt).trans h1, (hk _ hlt).trans h2, (hk _ hlt).trans h3, (hk _ hlt).trans h4, (hk _ hlt).trans h5, (hk _ hlt).trans h6⟩
theorem Laid.below {w w' : World} (h : Laid w) (hb : Below w.heap.size w w') : Laid w' := h.keep fun _ hp => hb.cell hp
theorem Laid.drewN {w : World} (h : Laid w) (k : Nat) : Laid (w.drewN k) := h
theorem Laid.ext {a b : World} (h : Laid a) (k : Ext a b) : Laid b := h.below k
end Go.Proofs.YtnlappoocffcpaaDoor
