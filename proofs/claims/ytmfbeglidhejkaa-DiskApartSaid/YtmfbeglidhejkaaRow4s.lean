/-
  A variable that is a row of four slices; bytes told earlier, kept beside it.
-/
import Derived.Test.YtmfbeglidhejkaaTol
namespace Go.Proofs.Ytmfbeglidhejkaa
open Go Go.RowKit

/-- Four slices in a block of the call's own. -/
def Row4s (w : World) (L : Nat) (f : Nat → Option Addr × Nat) : Prop := w.heap[L]? = some (.cells #[.slice (f 0).1 (f 0).2 (f 0).2, .slice (f 1).1 (f 1).2 (f 1).2, .slice (f 2).1 (f 2).2 (f 2).2, .slice (f 3).1 (f 3).2 (f 3).2] 65 (0, 0))
section
variable {w w' : World} {L : Nat} {f : Nat → Option Addr × Nat} {F : Nat → Prop}
theorem Row4s.mod (h : Row4s w L f) (k : Mod F w w') (hL : ¬ F L) : Row4s w' L f := heap_mod h k hL
theorem Row4s.ext (h : Row4s w L f) (k : Ext w w') : Row4s w' L f := heap_mod (F := fun _ => False) h (Mod.of_ext k) fun h => h
theorem Row4s.lt (h : Row4s w L f) : L < w.heap.size := (Array.getElem?_eq_some_iff.1 h).1
theorem Row4s.cell (h : Row4s w L f) {s : Nat} (hs : s < 4) : w.cell? ⟨L, s, none⟩ = some (.slice (f s).1 (f s).2 (f s).2) := by
  match s, hs with
  | 0, _ => exact cell_of_row w L 0 _ _ _ h
  | 1, _ => exact cell_of_row w L 1 _ _ _ h
  | 2, _ => exact cell_of_row w L 2 _ _ _ h
  | 3, _ => exact cell_of_row w L 3 _ _ _ h
theorem Row4s.free (h : Row4s w L f) (s : Nat) : w.frozen? ⟨L, s, none⟩ = false := frozen_of_row w L s _ _ h
theorem Row4s.set (h : Row4s w L f) {q : Nat} (hq : q < 4) (A : Option Addr) (n : Nat) : Row4s (w.setCell ⟨L, q, none⟩ (.slice A n n)) L (fun s => if s = q then (A, n) else f s) := by
  unfold Row4s
  match q, hq with
  | 0, _ => exact row_set 0 h _ rfl
  | 1, _ => exact row_set 1 h _ rfl
  | 2, _ => exact row_set 2 h _ rfl
  | 3, _ => exact row_set 3 h _ rfl
theorem Tol.keep {G : Nat → Prop} {A : Option Addr} {n : Nat} {l : List Nat} (h : Tol G w A n l) (k : Mod F w w') (hF : ∀ i, F i → G i) : Tol G w' A n l := ⟨h.new.mod k fun p hp hf => h.off p hp (hF _ hf), h.off⟩
end
end Go.Proofs.Ytmfbeglidhejkaa
