/-
  The contract of slot's Parse: what it stands on.
-/
import Derived.Test.YtejejadbemkifaaDoorQ02
import Derived.Test.YtejejadbemkifaaDoorQ11
import Derived.Test.YtejejadbemkifaaDoorQ12
namespace Go.Proofs.YtejejadbemkifaaDoor
set_option maxRecDepth 100000
open Go Go.RowKit

theorem sget (A : Option Addr) (l : List Nat) (n c : Nat) (a x : Int) (X p : Nat) (q : Int) (hg : getS l a x = (X, p, q)) (w : World) (hL : Laid w) (hb : By w A n c l) (hm : n ≤ 9000000000000000000) :
    Calls Tryd.prog 17 #[.slice A n c, .int .i64 a, .int .i64 x] w fun e w' => e = .returned (.tuple #[.int .i64 (X : Int), .int .i64 (p : Int), .int .i64 q]) ∧ w' = w := by
  have h := oget_any A l n c _ a x w hL hb.len hb.rd hm
  rw [hg] at h
  exact h.mono fun _ _ ⟨h, hw⟩ => ⟨h, by subst hw; rfl⟩
/-- What Parse has made. -/
structure PaS (w W : World) (g g1 : Nat) (x y a b d : Int) : Prop where
  bal : W.heap[g]? = some (.cells #[.int .i64 x, .int .i64 y] 23 (0, 0))
  num : W.heap[g1]? = some (.cells #[.int .i64 a, .int .i64 b, .int .i64 d] 39 (0, 0))
  ext : Ext w W
  ne : g ≠ g1 ∧ w.heap.size ≤ g ∧ w.heap.size ≤ g1
theorem PaS.make (w : World) : PaS w ((w.alloc (.cells #[.int .i64 0, .int .i64 0] 23)).alloc (.cells #[.int .i64 0, .int .i64 0, .int .i64 0] 39)) w.heap.size (w.heap.size + 1) 0 0 0 0 0 := by
  refine ⟨keep_row ((Ext.refl _).alloc _) (heap_alloc_new w _), ?_, ((Ext.refl w).alloc _).alloc _, by omega⟩
  have h := heap_alloc_new (w.alloc (.cells #[.int .i64 0, .int .i64 0] 23)) (.cells #[.int .i64 0, .int .i64 0, .int .i64 0] 39)
  rw [World.size_alloc] at h
  exact h
section
variable {w W W' : World} {g g1 : Nat} {x y a b d : Int}
theorem PaS.mono (h : PaS w W g g1 x y a b d) (k : Ext W W') : PaS w W' g g1 x y a b d := ⟨keep_row k h.bal, keep_row k h.num, h.ext.trans k, h.ne⟩
theorem PaS.put0 (h : PaS w W g g1 x y a b d) (v : Int) : PaS w (W.setCell ⟨g1, 0, none⟩ (.int .i64 v)) g g1 x y v b d := ⟨off_setL h.bal h.ne.1 [.int .i64 v] 0, row_set1 h.num _, ext_setL h.ext h.ne.2.2 [.int .i64 v] 0, h.ne⟩
theorem PaS.put1 (h : PaS w W g g1 x y a b d) (v : Int) : PaS w (W.setCell ⟨g1, 1, none⟩ (.int .i64 v)) g g1 x y a v d := ⟨off_setL h.bal h.ne.1 [.int .i64 v] 1, row_set1 h.num _, ext_setL h.ext h.ne.2.2 [.int .i64 v] 1, h.ne⟩
theorem PaS.put2 (h : PaS w W g g1 x y a b d) (v : Int) : PaS w (W.setCell ⟨g1, 2, none⟩ (.int .i64 v)) g g1 x y a b v := ⟨off_setL h.bal h.ne.1 [.int .i64 v] 2, row_set1 h.num _, ext_setL h.ext h.ne.2.2 [.int .i64 v] 2, h.ne⟩
theorem PaS.ball (h : PaS w W g g1 x y a b d) (u v : Int) : PaS w ((W.setCell ⟨g, 0, none⟩ (.int .i64 u)).setCell ⟨g, 1, none⟩ (.int .i64 v)) g g1 u v a b d :=
  ⟨row_set1 (row_set1 h.bal (.int .i64 u)) (.int .i64 v), off_setL h.num (fun e => h.ne.1 e.symm) [.int .i64 u, .int .i64 v] 0, ext_setL h.ext h.ne.2.1 [.int .i64 u, .int .i64 v] 0, h.ne⟩
end
theorem idx_611 (a b c : Int) (w : World) : (Instr.index 39 (.agg #[.int .i64 a, .int .i64 b, .int .i64 c]) (.int .i64 0)).run Tryd.prog w = .ok (.int .i64 a) w ∧ (Instr.index 39 (.agg #[.int .i64 a, .int .i64 b, .int .i64 c]) (.int .i64 1)).run Tryd.prog w = .ok (.int .i64 b) w ∧ (Instr.index 39 (.agg #[.int .i64 a, .int .i64 b, .int .i64 c]) (.int .i64 2)).run Tryd.prog w = .ok (.int .i64 c) w := idx_three a b c w
end Go.Proofs.YtejejadbemkifaaDoor
