/-
  A tag that is stored into a block of its own: what the block holds then, and what stays.
-/
import Derived.Test.YtgcjilifmcianaaDoorTParse
namespace Go.Proofs.YtgcjilifmcianaaDoor
open Go Go.RowKit

theorem five_far {w : World} {g h k : Nat} (hne : g ≠ h) (x0 x1 x2 x3 x4 : Value) :
    (((((w.setCell ⟨g, 0, none⟩ x0).setCell ⟨g, 1, none⟩ x1).setCell ⟨g, 2, none⟩ x2).setCell ⟨g, 3, none⟩ x3).setCell ⟨g, 4, none⟩ x4).cell? ⟨h, k, none⟩ = w.cell? ⟨h, k, none⟩ := by
  rw [World.cell?_setCell_far _ ⟨g, 4, none⟩ ⟨h, k, none⟩ _ hne, World.cell?_setCell_far _ ⟨g, 3, none⟩ ⟨h, k, none⟩ _ hne, World.cell?_setCell_far _ ⟨g, 2, none⟩ ⟨h, k, none⟩ _ hne, World.cell?_setCell_far _ ⟨g, 1, none⟩ ⟨h, k, none⟩ _ hne, World.cell?_setCell_far _ ⟨g, 0, none⟩ ⟨h, k, none⟩ _ hne]
theorem five_far_drew {w : World} {g h k : Nat} {v : Value} (hne : g ≠ h) (hc : w.cell? ⟨h, k, none⟩ = some v) (x0 x1 x2 x3 x4 : Value) :
    (((((w.setCell ⟨g, 0, none⟩ x0).setCell ⟨g, 1, none⟩ x1).setCell ⟨g, 2, none⟩ x2).setCell ⟨g, 3, none⟩ x3).setCell ⟨g, 4, none⟩ x4).drew.cell? ⟨h, k, none⟩ = some v := by
  have e : ∀ W : World, W.drew.cell? ⟨h, k, none⟩ = W.cell? ⟨h, k, none⟩ := fun _ => rfl
  rw [e, five_far hne]
  exact hc
theorem row_step {w : World} {g t : Nat} {fr : Nat × Nat} {cs cs' : Array Value} (i : Nat) (h : w.heap[g]? = some (.cells cs t fr)) (x : Value) (e : cs.setIfInBounds i x = cs') : (w.setCell ⟨g, i, none⟩ x).heap[g]? = some (.cells cs' t fr) := by
  subst e
  rw [setCell_eq_setRow w g i cs t fr x h]
  exact setRow_heap w g _ _ _ _ h
theorem five_row {w : World} {g t : Nat} {y0 y1 y2 y3 y4 : Value} (h : w.heap[g]? = some (.cells #[y0, y1, y2, y3, y4] t (0, 0))) (x0 x1 x2 x3 x4 : Value) :
    (((((w.setCell ⟨g, 0, none⟩ x0).setCell ⟨g, 1, none⟩ x1).setCell ⟨g, 2, none⟩ x2).setCell ⟨g, 3, none⟩ x3).setCell ⟨g, 4, none⟩ x4).heap[g]? = some (.cells #[x0, x1, x2, x3, x4] t (0, 0)) := by
  exact row_step 4 (row_step 3 (row_step 2 (row_step 1 (row_step 0 h x0 rfl) x1 rfl) x2 rfl) x3 rfl) x4 rfl
theorem five_near_drew {w : World} {g : Nat} {y0 y1 y2 y3 y4 : Value} (h : w.heap[g]? = some (.cells #[y0, y1, y2, y3, y4] 23 (0, 0))) (x0 x1 x2 x3 x4 : Value) :
    (((((w.setCell ⟨g, 0, none⟩ x0).setCell ⟨g, 1, none⟩ x1).setCell ⟨g, 2, none⟩ x2).setCell ⟨g, 3, none⟩ x3).setCell ⟨g, 4, none⟩ x4).drew.cell? ⟨g, 0, none⟩ = some x0 ∧
    (((((w.setCell ⟨g, 0, none⟩ x0).setCell ⟨g, 1, none⟩ x1).setCell ⟨g, 2, none⟩ x2).setCell ⟨g, 3, none⟩ x3).setCell ⟨g, 4, none⟩ x4).drew.cell? ⟨g, 1, none⟩ = some x1 ∧
    (((((w.setCell ⟨g, 0, none⟩ x0).setCell ⟨g, 1, none⟩ x1).setCell ⟨g, 2, none⟩ x2).setCell ⟨g, 3, none⟩ x3).setCell ⟨g, 4, none⟩ x4).drew.cell? ⟨g, 2, none⟩ = some x2 ∧
    (((((w.setCell ⟨g, 0, none⟩ x0).setCell ⟨g, 1, none⟩ x1).setCell ⟨g, 2, none⟩ x2).setCell ⟨g, 3, none⟩ x3).setCell ⟨g, 4, none⟩ x4).drew.cell? ⟨g, 3, none⟩ = some x3 ∧
    (((((w.setCell ⟨g, 0, none⟩ x0).setCell ⟨g, 1, none⟩ x1).setCell ⟨g, 2, none⟩ x2).setCell ⟨g, 3, none⟩ x3).setCell ⟨g, 4, none⟩ x4).drew.cell? ⟨g, 4, none⟩ = some x4 := by
  have e : ∀ (W : World) k, W.drew.cell? ⟨g, k, none⟩ = W.cell? ⟨g, k, none⟩ := fun _ _ => rfl
  rw [e, e, e, e, e]
  exact (five_cells (five_row h x0 x1 x2 x3 x4)).1
theorem set_block {w : World} {g h k : Nat} {x : Value} {o : Obj} (hne : g ≠ h) (hh : w.heap[h]? = some o) (hg : ∃ cs t fr, w.heap[g]? = some (.cells cs t fr)) : (w.setCell ⟨g, k, none⟩ x).heap[h]? = some o := by
  obtain ⟨cs, t, fr, hr⟩ := hg
  rw [setCell_eq_setRow w g k cs t fr x hr]
  exact (setRow_other w _ _ _ (fun e => hne e.symm)).trans hh
theorem five_block {w : World} {g h t : Nat} {y0 y1 y2 y3 y4 : Value} {o : Obj} (hne : g ≠ h) (hg : w.heap[g]? = some (.cells #[y0, y1, y2, y3, y4] t (0, 0))) (hh : w.heap[h]? = some o) (x0 x1 x2 x3 x4 : Value) :
    (((((w.setCell ⟨g, 0, none⟩ x0).setCell ⟨g, 1, none⟩ x1).setCell ⟨g, 2, none⟩ x2).setCell ⟨g, 3, none⟩ x3).setCell ⟨g, 4, none⟩ x4).heap[h]? = some o := by
  have step : ∀ (W : World) (k : Nat) (x : Value), (∃ cs t fr, W.heap[g]? = some (.cells cs t fr)) → W.heap[h]? = some o → (∃ cs t fr, (W.setCell ⟨g, k, none⟩ x).heap[g]? = some (.cells cs t fr)) ∧ (W.setCell ⟨g, k, none⟩ x).heap[h]? = some o := by
    intro W k x hr hW
    refine ⟨?_, set_block hne hW hr⟩
    obtain ⟨cs, t, fr, hr⟩ := hr
    rw [setCell_eq_setRow W g k cs t fr x hr]
    exact ⟨_, _, _, setRow_heap W _ _ _ _ _ hr⟩
  obtain ⟨a0, b0⟩ := step w 0 x0 ⟨_, _, _, hg⟩ hh
  obtain ⟨a1, b1⟩ := step _ 1 x1 a0 b0
  obtain ⟨a2, b2⟩ := step _ 2 x2 a1 b1
  obtain ⟨a3, b3⟩ := step _ 3 x3 a2 b2
  exact (step _ 4 x4 a3 b3).2
end Go.Proofs.YtgcjilifmcianaaDoor
