/-
  The contracts of the document's own Copy and Same, in the words 'By' (a slice that reads as bytes) and 'Ext' (nothing that was there is written).
-/
import Derived.Test.YtnlappoocffcpaaDoorMem
import Derived.Test.YtnlappoocffcpaaDoorCopy
import Derived.Test.YtnlappoocffcpaaDoorSame
namespace Go.Proofs.YtnlappoocffcpaaDoor
set_option maxRecDepth 100000
open Go Go.RowKit

theorem same_by (A A' : Option Addr) (l l' : List Nat) (n n' c c' : Nat) (w : World) (hb : By w A n c l) (hb' : By w A' n' c' l') :
    Calls Tryd.prog 10 #[.slice A n c, .slice A' n' c'] w fun e w' => e = .returned (.bool (decide (l = l'))) ∧ Ext w w' :=
  (same_any A A' l l' n n' c c' _ w hb.len hb'.len hb.rd hb'.rd (by have := hb.cap; have := hb.most; unfold maxLen; omega)).mono fun _ _ ⟨h, k, hk⟩ => ⟨h, by subst hk; exact (Ext.refl _).drewN k⟩

theorem copy_by (A : Option Addr) (l : List Nat) (n c : Nat) (w : World) (hb : By w A n c l) (hm : n ≤ 140737488355328) :
    Calls Tryd.prog 5 #[.slice A n c] w fun e w' => ∃ A' c', e = .returned (.slice A' n c') ∧ By w' A' n c' l ∧ Ext w w' ∧ w'.ownsRow w.heap.size 5 1 (.slice A' n c') n (vb l) :=
  (copy_any A l n c _ w hb.len hb.rd (Bs.nil_ hb) hm).mono fun _ _ ⟨A', c', h1, _, _, h4, h5⟩ => ⟨A', c', h1, Bs.of_own h4 hb.rd.lt, h5, h4⟩
/-- A literal of bytes that the call has just made out of a constant text. -/
theorem By.litm (w : World) (l : List Nat) (t : TypeId) (fr : Nat × Nat) (hb : ∀ b ∈ l, b < 256) (hm : l.length ≤ 9223372036854775807) (cs : Array Value) (hcs : cs = (vb l).toArray) : By (w.alloc (.cells cs t fr)) (some ⟨w.heap.size, 0, none⟩) l.length l.length l := by
  subst hcs
  exact By.of_row (heap_alloc_new w _) (fun j x hx => vb_at hx) hb rfl (Nat.le_refl _) hm
/-- The second of two literals of bytes that the call has just made. -/
theorem By.lit2 (w : World) (o : Obj) (l : List Nat) (t : TypeId) (hb : ∀ b ∈ l, b < 256) (hm : l.length ≤ 9223372036854775807) (cs : Array Value) (hcs : cs = (vb l).toArray) : By ((w.alloc o).alloc (.cells cs t)) (some ⟨w.heap.size + 1, 0, none⟩) l.length l.length l := by
  rw [show w.heap.size + 1 = (w.alloc o).heap.size from by simp]
  exact By.lit _ l t hb hm cs hcs
end Go.Proofs.YtnlappoocffcpaaDoor
