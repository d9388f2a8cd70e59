/-
  The contract of a rule's use, in one form.
  What slot's What stands on.
-/
import Derived.Test.YtejejadbemkifaaDoorQ15
import Derived.Test.YtejejadbemkifaaDoorQ16
import Derived.Test.YtejejadbemkifaaDoorQ17
import Derived.Test.YtejejadbemkifaaDoorQ18
import Derived.Test.YtejejadbemkifaaDoorQ19
namespace Go.Proofs.YtejejadbemkifaaDoor
set_option maxRecDepth 100000
open Go Go.RowKit

theorem use_of (F : Nat) (caps : Array Value) (fi : Int) (hfi : fi = 0 ∨ fi = 1) (x2 x3 x4 x5 x6 x7 x8 x9 x10 x11 x12 x13 : Value) (f0 f1 : Cop) (b0 b1 : Bool) (w : World) (hgo : Enters Tryd.prog F) (h0 : Asks w F caps f0 b0) (h1 : Asks w F caps f1 b1) :
    Calls Tryd.prog 34 #[.agg #[.func (.func F) #[] caps, .int .i64 fi, x2, x3, x4, x5, x6, x7, x8, x9, x10, x11, x12, x13], .agg #[.int .u8 (f0.st : Int), .int .i64 f0.ix, .int .i64 f0.bx, .int .i64 f0.yb, .int .u8 (f0.e.k : Int), .int .i64 f0.e.cl, .int .i64 f0.e.sq, .int .u8 (f0.e.ok : Int), .string f0.e.key, .string f0.e.old, .string f0.e.val, .int .u8 (f1.st : Int), .int .i64 f1.ix, .int .i64 f1.bx, .int .i64 f1.yb, .int .u8 (f1.e.k : Int), .int .i64 f1.e.cl, .int .i64 f1.e.sq, .int .u8 (f1.e.ok : Int), .string f1.e.key, .string f1.e.old, .string f1.e.val]] w fun e w' => e = .returned (.int .i64 (useL fi b0 b1 f0 f1)) ∧ Ext w w' := by
  have hv : ∀ a b : Int, a = b → (Ending.returned (Value.int .i64 a)) = .returned (.int .i64 b) := fun a b h => by rw [h]
  rcases hfi with rfl | rfl <;> cases b0 <;> cases b1
  · exact (use0_ff F caps x2 x3 x4 x5 x6 x7 x8 x9 x10 x11 x12 x13 f0 f1 w hgo h0 h1).mono fun e w' ⟨he, hx⟩ => ⟨he.trans (hv _ _ (by unfold useL pickW; simp)), hx⟩
  · exact (use0_ft F caps x2 x3 x4 x5 x6 x7 x8 x9 x10 x11 x12 x13 f0 f1 w hgo h0 h1).mono fun e w' ⟨he, hx⟩ => ⟨he.trans (hv _ _ (by unfold useL pickW; simp)), hx⟩
  · exact (use0_tf F caps x2 x3 x4 x5 x6 x7 x8 x9 x10 x11 x12 x13 f0 f1 w hgo h0 h1).mono fun e w' ⟨he, hx⟩ => ⟨he.trans (hv _ _ (by unfold useL pickW; simp)), hx⟩
  · refine (use0_tt F caps x2 x3 x4 x5 x6 x7 x8 x9 x10 x11 x12 x13 f0 f1 w hgo h0 h1).mono fun e w' ⟨he, hx⟩ => ⟨he.trans (hv _ _ ?_), hx⟩
    by_cases hh : gtL f1.bx f1.yb f0.bx f0.yb
    · have hp := balI_pos.2 hh
      unfold useL pickW
      simp [hh, hp]
    · have hp : ¬ 0 < balI f1.bx f1.yb f0.bx f0.yb := fun h => hh (balI_pos.1 h)
      unfold useL pickW
      simp [hh, hp]
  · exact (use1_ff F caps x2 x3 x4 x5 x6 x7 x8 x9 x10 x11 x12 x13 f0 f1 w hgo h0 h1).mono fun e w' ⟨he, hx⟩ => ⟨he.trans (hv _ _ (by unfold useL pickW; simp)), hx⟩
  · exact (use1_ft F caps x2 x3 x4 x5 x6 x7 x8 x9 x10 x11 x12 x13 f0 f1 w hgo h0 h1).mono fun e w' ⟨he, hx⟩ => ⟨he.trans (hv _ _ (by unfold useL pickW; simp)), hx⟩
  · exact (use1_tf F caps x2 x3 x4 x5 x6 x7 x8 x9 x10 x11 x12 x13 f0 f1 w hgo h0 h1).mono fun e w' ⟨he, hx⟩ => ⟨he.trans (hv _ _ (by unfold useL pickW; simp)), hx⟩
  · refine (use1_tt F caps x2 x3 x4 x5 x6 x7 x8 x9 x10 x11 x12 x13 f0 f1 w hgo h0 h1).mono fun e w' ⟨he, hx⟩ => ⟨he.trans (hv _ _ ?_), hx⟩
    by_cases hh : gtL f0.bx f0.yb f1.bx f1.yb
    · have hp := balI_pos.2 hh
      unfold useL pickW
      simp [hh, hp]
    · have hp : ¬ 0 < balI f0.bx f0.yb f1.bx f1.yb := fun h => hh (balI_pos.1 h)
      unfold useL pickW
      simp [hh, hp]
end Go.Proofs.YtejejadbemkifaaDoor

namespace Go.Proofs.YtejejadbemkifaaDoor
set_option maxRecDepth 100000
open Go Go.RowKit

/-- What What has made when it begins. -/
structure WhS (w W : World) (p : Rec) (f0 f1 : Cop) (g g1 g2 : Nat) (rp : Array Value) : Prop where
  rec_ : RecAt W g p
  two : Two W g1 f0 f1
  rep : W.heap[g2]? = some (.cells rp 64 (0, 0))
  ext : Ext w W
  ne : g ≠ g2 ∧ g1 ≠ g2 ∧ w.heap.size ≤ g2
theorem WhS.make (w : World) (p : Rec) (f0 f1 : Cop) : WhS w (((w.alloc (.cells #[.int .u8 (p.st : Int), .int .i64 p.ix, .int .i64 p.bx, .int .i64 p.yb, .int .i64 p.wh] 55)).alloc (.cells #[.int .u8 (f0.st : Int), .int .i64 f0.ix, .int .i64 f0.bx, .int .i64 f0.yb, .int .u8 (f0.e.k : Int), .int .i64 f0.e.cl, .int .i64 f0.e.sq, .int .u8 (f0.e.ok : Int), .string f0.e.key, .string f0.e.old, .string f0.e.val, .int .u8 (f1.st : Int), .int .i64 f1.ix, .int .i64 f1.bx, .int .i64 f1.yb, .int .u8 (f1.e.k : Int), .int .i64 f1.e.cl, .int .i64 f1.e.sq, .int .u8 (f1.e.ok : Int), .string f1.e.key, .string f1.e.old, .string f1.e.val] 67)).alloc (.cells #[.int .i64 0, .int .u8 0, .int .i64 0, .int .i64 0, .int .u8 0, .int .i64 0, .int .i64 0, .int .u8 0, .string ⟨#[]⟩, .string ⟨#[]⟩, .string ⟨#[]⟩] 64)) p f0 f1 w.heap.size (w.heap.size + 1) (w.heap.size + 1 + 1) #[.int .i64 0, .int .u8 0, .int .i64 0, .int .i64 0, .int .u8 0, .int .i64 0, .int .i64 0, .int .u8 0, .string ⟨#[]⟩, .string ⟨#[]⟩, .string ⟨#[]⟩] := by
  have row : ∀ (V : World) (cs : Array Value) (t : TypeId) (k : Nat), k = V.heap.size → (V.alloc (.cells cs t)).heap[k]? = some (.cells cs t (0, 0)) := fun V cs t k hk => by subst hk; exact heap_alloc_new V _
  have past : ∀ (V : World) (o ob : Obj) (k : Nat), V.heap[k]? = some ob → (V.alloc o).heap[k]? = some ob := fun V o ob k h => keep_row ((Ext.refl V).alloc o) h
  refine ⟨?_, ?_, ?_, ?_, ?_⟩
  · exact past _ _ _ _ (past _ _ _ _ (row _ _ _ _ rfl))
  · exact past _ _ _ _ (row _ _ _ _ (by simp))
  · exact row _ _ _ _ (by simp)
  · exact ((((Ext.refl w).alloc _).alloc _).alloc _)
  · omega
theorem WhS.mono {w W W' : World} {p : Rec} {f0 f1 : Cop} {g g1 g2 : Nat} {rp : Array Value} (h : WhS w W p f0 f1 g g1 g2 rp) (k : Ext W W') : WhS w W' p f0 f1 g g1 g2 rp :=
  ⟨h.rec_.ext k, h.two.ext k, keep_row k h.rep, h.ext.trans k, h.ne⟩
theorem two_cellsL {w : World} {g1 : Nat} {f0 f1 : Cop} (h : Two w g1 f0 f1) : w.cell? ⟨g1, 0, none⟩ = some (.int .u8 (f0.st : Int)) ∧ w.cell? ⟨g1, 1, none⟩ = some (.int .i64 f0.ix) ∧ w.cell? ⟨g1, 2, none⟩ = some (.int .i64 f0.bx) ∧ w.cell? ⟨g1, 3, none⟩ = some (.int .i64 f0.yb) ∧ w.cell? ⟨g1, 4, none⟩ = some (.int .u8 (f0.e.k : Int)) ∧ w.cell? ⟨g1, 5, none⟩ = some (.int .i64 f0.e.cl) ∧ w.cell? ⟨g1, 6, none⟩ = some (.int .i64 f0.e.sq) ∧ w.cell? ⟨g1, 7, none⟩ = some (.int .u8 (f0.e.ok : Int)) ∧ w.cell? ⟨g1, 8, none⟩ = some (.string f0.e.key) ∧ w.cell? ⟨g1, 9, none⟩ = some (.string f0.e.old) ∧ w.cell? ⟨g1, 10, none⟩ = some (.string f0.e.val) ∧ w.cell? ⟨g1, 11, none⟩ = some (.int .u8 (f1.st : Int)) ∧ w.cell? ⟨g1, 12, none⟩ = some (.int .i64 f1.ix) ∧ w.cell? ⟨g1, 13, none⟩ = some (.int .i64 f1.bx) ∧ w.cell? ⟨g1, 14, none⟩ = some (.int .i64 f1.yb) ∧ w.cell? ⟨g1, 15, none⟩ = some (.int .u8 (f1.e.k : Int)) ∧ w.cell? ⟨g1, 16, none⟩ = some (.int .i64 f1.e.cl) ∧ w.cell? ⟨g1, 17, none⟩ = some (.int .i64 f1.e.sq) ∧ w.cell? ⟨g1, 18, none⟩ = some (.int .u8 (f1.e.ok : Int)) ∧ w.cell? ⟨g1, 19, none⟩ = some (.string f1.e.key) ∧ w.cell? ⟨g1, 20, none⟩ = some (.string f1.e.old) ∧ w.cell? ⟨g1, 21, none⟩ = some (.string f1.e.val) := ⟨cell_of_row w g1 0 _ _ _ h, cell_of_row w g1 1 _ _ _ h, cell_of_row w g1 2 _ _ _ h, cell_of_row w g1 3 _ _ _ h, cell_of_row w g1 4 _ _ _ h, cell_of_row w g1 5 _ _ _ h, cell_of_row w g1 6 _ _ _ h, cell_of_row w g1 7 _ _ _ h, cell_of_row w g1 8 _ _ _ h, cell_of_row w g1 9 _ _ _ h, cell_of_row w g1 10 _ _ _ h, cell_of_row w g1 11 _ _ _ h, cell_of_row w g1 12 _ _ _ h, cell_of_row w g1 13 _ _ _ h, cell_of_row w g1 14 _ _ _ h, cell_of_row w g1 15 _ _ _ h, cell_of_row w g1 16 _ _ _ h, cell_of_row w g1 17 _ _ _ h, cell_of_row w g1 18 _ _ _ h, cell_of_row w g1 19 _ _ _ h, cell_of_row w g1 20 _ _ _ h, cell_of_row w g1 21 _ _ _ h⟩
theorem rule_cells {w : World} {gr : Nat} {x0 x1 x2 x3 x4 x5 x6 x7 x8 x9 x10 x11 x12 x13 : Value} (h : w.heap[gr]? = some (.cells #[x0, x1, x2, x3, x4, x5, x6, x7, x8, x9, x10, x11, x12, x13] 74 (0, 0))) : w.cell? ⟨gr, 0, none⟩ = some (x0) ∧ w.cell? ⟨gr, 1, none⟩ = some (x1) ∧ w.cell? ⟨gr, 2, none⟩ = some (x2) ∧ w.cell? ⟨gr, 3, none⟩ = some (x3) ∧ w.cell? ⟨gr, 4, none⟩ = some (x4) ∧ w.cell? ⟨gr, 5, none⟩ = some (x5) ∧ w.cell? ⟨gr, 6, none⟩ = some (x6) ∧ w.cell? ⟨gr, 7, none⟩ = some (x7) ∧ w.cell? ⟨gr, 8, none⟩ = some (x8) ∧ w.cell? ⟨gr, 9, none⟩ = some (x9) ∧ w.cell? ⟨gr, 10, none⟩ = some (x10) ∧ w.cell? ⟨gr, 11, none⟩ = some (x11) ∧ w.cell? ⟨gr, 12, none⟩ = some (x12) ∧ w.cell? ⟨gr, 13, none⟩ = some (x13) := ⟨cell_of_row w gr 0 _ _ _ h, cell_of_row w gr 1 _ _ _ h, cell_of_row w gr 2 _ _ _ h, cell_of_row w gr 3 _ _ _ h, cell_of_row w gr 4 _ _ _ h, cell_of_row w gr 5 _ _ _ h, cell_of_row w gr 6 _ _ _ h, cell_of_row w gr 7 _ _ _ h, cell_of_row w gr 8 _ _ _ h, cell_of_row w gr 9 _ _ _ h, cell_of_row w gr 10 _ _ _ h, cell_of_row w gr 11 _ _ _ h, cell_of_row w gr 12 _ _ _ h, cell_of_row w gr 13 _ _ _ h⟩
theorem rep_cells {w : World} {g2 : Nat} {x0 x1 x2 x3 x4 x5 x6 x7 x8 x9 x10 : Value} (h : w.heap[g2]? = some (.cells #[x0, x1, x2, x3, x4, x5, x6, x7, x8, x9, x10] 64 (0, 0))) : w.cell? ⟨g2, 0, none⟩ = some (x0) ∧ w.cell? ⟨g2, 1, none⟩ = some (x1) ∧ w.cell? ⟨g2, 2, none⟩ = some (x2) ∧ w.cell? ⟨g2, 3, none⟩ = some (x3) ∧ w.cell? ⟨g2, 4, none⟩ = some (x4) ∧ w.cell? ⟨g2, 5, none⟩ = some (x5) ∧ w.cell? ⟨g2, 6, none⟩ = some (x6) ∧ w.cell? ⟨g2, 7, none⟩ = some (x7) ∧ w.cell? ⟨g2, 8, none⟩ = some (x8) ∧ w.cell? ⟨g2, 9, none⟩ = some (x9) ∧ w.cell? ⟨g2, 10, none⟩ = some (x10) := ⟨cell_of_row w g2 0 _ _ _ h, cell_of_row w g2 1 _ _ _ h, cell_of_row w g2 2 _ _ _ h, cell_of_row w g2 3 _ _ _ h, cell_of_row w g2 4 _ _ _ h, cell_of_row w g2 5 _ _ _ h, cell_of_row w g2 6 _ _ _ h, cell_of_row w g2 7 _ _ _ h, cell_of_row w g2 8 _ _ _ h, cell_of_row w g2 9 _ _ _ h, cell_of_row w g2 10 _ _ _ h⟩
theorem row_range {w : World} {g : Nat} {t : TypeId} (l : List Value) (h : w.heap[g]? = some (.cells l.toArray t (0, 0))) (o : Nat) : w.rangeAt g o (l.drop o) := fun j v hv => by
  rw [cell_of_row w g (o + j) _ _ _ h, List.getElem?_toArray, ← List.getElem?_drop]
  exact hv
theorem half0 {w : World} {g1 : Nat} {f0 f1 : Cop} (h : Two w g1 f0 f1) : w.cell? ⟨g1, 2, none⟩ = some (.int .i64 f0.bx) ∧ w.cell? ⟨g1, 3, none⟩ = some (.int .i64 f0.yb) ∧ w.cell? ⟨g1, 4, none⟩ = some (.int .u8 (f0.e.k : Int)) ∧ w.cell? ⟨g1, 5, none⟩ = some (.int .i64 f0.e.cl) ∧ w.cell? ⟨g1, 6, none⟩ = some (.int .i64 f0.e.sq) ∧ w.cell? ⟨g1, 7, none⟩ = some (.int .u8 (f0.e.ok : Int)) ∧ w.cell? ⟨g1, 8, none⟩ = some (.string f0.e.key) ∧ w.cell? ⟨g1, 9, none⟩ = some (.string f0.e.old) ∧ w.cell? ⟨g1, 10, none⟩ = some (.string f0.e.val) := ⟨cell_of_row w g1 2 _ _ _ h, cell_of_row w g1 3 _ _ _ h, cell_of_row w g1 4 _ _ _ h, cell_of_row w g1 5 _ _ _ h, cell_of_row w g1 6 _ _ _ h, cell_of_row w g1 7 _ _ _ h, cell_of_row w g1 8 _ _ _ h, cell_of_row w g1 9 _ _ _ h, cell_of_row w g1 10 _ _ _ h⟩
theorem half1 {w : World} {g1 : Nat} {f0 f1 : Cop} (h : Two w g1 f0 f1) : w.cell? ⟨g1, 13, none⟩ = some (.int .i64 f1.bx) ∧ w.cell? ⟨g1, 14, none⟩ = some (.int .i64 f1.yb) ∧ w.cell? ⟨g1, 15, none⟩ = some (.int .u8 (f1.e.k : Int)) ∧ w.cell? ⟨g1, 16, none⟩ = some (.int .i64 f1.e.cl) ∧ w.cell? ⟨g1, 17, none⟩ = some (.int .i64 f1.e.sq) ∧ w.cell? ⟨g1, 18, none⟩ = some (.int .u8 (f1.e.ok : Int)) ∧ w.cell? ⟨g1, 19, none⟩ = some (.string f1.e.key) ∧ w.cell? ⟨g1, 20, none⟩ = some (.string f1.e.old) ∧ w.cell? ⟨g1, 21, none⟩ = some (.string f1.e.val) := ⟨cell_of_row w g1 13 _ _ _ h, cell_of_row w g1 14 _ _ _ h, cell_of_row w g1 15 _ _ _ h, cell_of_row w g1 16 _ _ _ h, cell_of_row w g1 17 _ _ _ h, cell_of_row w g1 18 _ _ _ h, cell_of_row w g1 19 _ _ _ h, cell_of_row w g1 20 _ _ _ h, cell_of_row w g1 21 _ _ _ h⟩
/-- A report stored into its block. -/
theorem WhS.put {w W : World} {p : Rec} {f0 f1 : Cop} {g g1 g2 : Nat} {z0 z1 z2 z3 z4 z5 z6 z7 z8 z9 z10 : Value} (h : WhS w W p f0 f1 g g1 g2 #[z0, z1, z2, z3, z4, z5, z6, z7, z8, z9, z10]) (x0 x1 x2 x3 x4 x5 x6 x7 x8 x9 x10 : Value) :
    WhS w ((((((((((((W.setCell ⟨g2, 0, none⟩ (x0)).setCell ⟨g2, 1, none⟩ (x1)).setCell ⟨g2, 2, none⟩ (x2)).setCell ⟨g2, 3, none⟩ (x3)).setCell ⟨g2, 4, none⟩ (x4)).setCell ⟨g2, 5, none⟩ (x5)).setCell ⟨g2, 6, none⟩ (x6)).setCell ⟨g2, 7, none⟩ (x7)).setCell ⟨g2, 8, none⟩ (x8)).setCell ⟨g2, 9, none⟩ (x9)).setCell ⟨g2, 10, none⟩ (x10))) p f0 f1 g g1 g2 #[x0, x1, x2, x3, x4, x5, x6, x7, x8, x9, x10] :=
  ⟨off11 h.rec_ h.ne.1 _ _ _ _ _ _ _ _ _ _ _, off11 h.two h.ne.2.1 _ _ _ _ _ _ _ _ _ _ _, row11 h.rep _ _ _ _ _ _ _ _ _ _ _, ext11 h.ext h.ne.2.2 _ _ _ _ _ _ _ _ _ _ _, h.ne⟩
theorem WhS.put0 {w W : World} {p : Rec} {f0 f1 : Cop} {g g1 g2 : Nat} {z0 z1 z2 z3 z4 z5 z6 z7 z8 z9 z10 : Value} (h : WhS w W p f0 f1 g g1 g2 #[z0, z1, z2, z3, z4, z5, z6, z7, z8, z9, z10]) (x : Value) :
    WhS w (W.setCell ⟨g2, 0, none⟩ x) p f0 f1 g g1 g2 #[x, z1, z2, z3, z4, z5, z6, z7, z8, z9, z10] :=
  ⟨off_setL h.rec_ h.ne.1 [x] 0, off_setL h.two h.ne.2.1 [x] 0, row_set1 h.rep x, ext_setL h.ext h.ne.2.2 [x] 0, h.ne⟩
end Go.Proofs.YtejejadbemkifaaDoor
