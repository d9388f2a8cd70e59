/-
  A variable that is a row of four numbers.
-/
import Derived.Test.YtmfbeglidhejkaaKDisk
namespace Go.Proofs.Ytmfbeglidhejkaa
open Go Go.RowKit

/-- Four numbers in a block of the call's own. -/
def Row4 (w : World) (L : Nat) (f : Nat → Nat) : Prop := w.heap[L]? = some (.cells #[.int .i64 (f 0 : Nat), .int .i64 (f 1 : Nat), .int .i64 (f 2 : Nat), .int .i64 (f 3 : Nat)] 62 (0, 0))
section
variable {w w' : World} {L : Nat} {f : Nat → Nat} {F : Nat → Prop}
theorem Row4.mod (h : Row4 w L f) (k : Mod F w w') (hL : ¬ F L) : Row4 w' L f := heap_mod h k hL
theorem Row4.ext (h : Row4 w L f) (k : Ext w w') : Row4 w' L f := heap_mod (F := fun _ => False) h (Mod.of_ext k) fun h => h
theorem Row4.lt (h : Row4 w L f) : L < w.heap.size := (Array.getElem?_eq_some_iff.1 h).1
theorem Row4.congr {f' : Nat → Nat} (h : Row4 w L f) (e : ∀ s, s < 4 → f s = f' s) : Row4 w L f' := by
  unfold Row4 at h ⊢
  rw [h, e 0 (by omega), e 1 (by omega), e 2 (by omega), e 3 (by omega)]
theorem Row4.cell (h : Row4 w L f) {s : Nat} (hs : s < 4) : w.cell? ⟨L, s, none⟩ = some (.int .i64 (f s : Nat)) := by
  match s, hs with
  | 0, _ => exact cell_of_row w L 0 _ _ _ h
  | 1, _ => exact cell_of_row w L 1 _ _ _ h
  | 2, _ => exact cell_of_row w L 2 _ _ _ h
  | 3, _ => exact cell_of_row w L 3 _ _ _ h
theorem Row4.free (h : Row4 w L f) (s : Nat) : w.frozen? ⟨L, s, none⟩ = false := frozen_of_row w L s _ _ h
theorem Row4.set (h : Row4 w L f) {q : Nat} (hq : q < 4) (x : Nat) : Row4 (w.setCell ⟨L, q, none⟩ (.int .i64 (x : Int))) L (fun s => if s = q then x else f s) := by
  unfold Row4
  match q, hq with
  | 0, _ => exact row_set 0 h _ rfl
  | 1, _ => exact row_set 1 h _ rfl
  | 2, _ => exact row_set 2 h _ rfl
  | 3, _ => exact row_set 3 h _ rfl
end
end Go.Proofs.Ytmfbeglidhejkaa
