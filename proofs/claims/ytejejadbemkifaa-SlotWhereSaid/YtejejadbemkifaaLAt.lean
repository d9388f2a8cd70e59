/-
  What a slot is, by the frame by which it is intact.
-/
import Derived.Test.YtejejadbemkifaaLWhat
namespace Go.Proofs.Ytejejadbemkifaa
open Go Go.RowKit
theorem what_at0 (p : Rec) (f0 f1 : Cop) (i : Int) (hp : p.st ≤ 2) (h0 : f0.st ≤ 2) (h1 : f1.st ≤ 2) (hw : p.wh = 0 ∨ p.wh = 1) (h : whereL p f0 f1 i = 0) (w : World) :
    Calls Try.prog 7 #[.agg #[.int .u8 (p.st : Int), .int .i64 p.ix, .int .i64 p.bx, .int .i64 p.yb, .int .i64 p.wh], .agg #[.int .u8 (f0.st : Int), .int .i64 f0.ix, .int .i64 f0.bx, .int .i64 f0.yb, .int .u8 (f0.e.k : Int), .int .i64 f0.e.cl, .int .i64 f0.e.sq, .int .u8 (f0.e.ok : Int), .string f0.e.key, .string f0.e.old, .string f0.e.val, .int .u8 (f1.st : Int), .int .i64 f1.ix, .int .i64 f1.bx, .int .i64 f1.yb, .int .u8 (f1.e.k : Int), .int .i64 f1.e.cl, .int .i64 f1.e.sq, .int .u8 (f1.e.ok : Int), .string f1.e.key, .string f1.e.old, .string f1.e.val], .int .i64 i] w fun e w' => e = .returned (.tuple #[.int .u8 3, .agg #[.int .i64 i, .int .u8 2, .int .i64 f0.bx, .int .i64 f0.yb, .int .u8 (f0.e.k : Int), .int .i64 f0.e.cl, .int .i64 f0.e.sq, .int .u8 (f0.e.ok : Int), .string f0.e.key, .string f0.e.old, .string f0.e.val], .int .i64 0]) ∧ Ext w w' := by
  have e1 : repE p f0 f1 i = f0.e := by unfold repE; rw [h]; rfl
  have e2 : repX p f0 f1 i = f0.bx := by unfold repX; rw [h]; rfl
  have e3 : repY p f0 f1 i = f0.yb := by unfold repY; rw [h]; rfl
  have e4 : classL p f0 f1 i = 3 := classL_three.2 (by omega)
  have e5 : stateL p f0 f1 i = 2 := if_pos (by omega)
  refine (what_of p f0 f1 i w hp h0 h1 hw).mono fun e w' ⟨he, hx⟩ => ⟨he.trans ?_, hx⟩
  rw [e1, e2, e3, e4, e5, h]
  rfl
theorem what_at1 (p : Rec) (f0 f1 : Cop) (i : Int) (hp : p.st ≤ 2) (h0 : f0.st ≤ 2) (h1 : f1.st ≤ 2) (hw : p.wh = 0 ∨ p.wh = 1) (h : whereL p f0 f1 i = 1) (w : World) :
    Calls Try.prog 7 #[.agg #[.int .u8 (p.st : Int), .int .i64 p.ix, .int .i64 p.bx, .int .i64 p.yb, .int .i64 p.wh], .agg #[.int .u8 (f0.st : Int), .int .i64 f0.ix, .int .i64 f0.bx, .int .i64 f0.yb, .int .u8 (f0.e.k : Int), .int .i64 f0.e.cl, .int .i64 f0.e.sq, .int .u8 (f0.e.ok : Int), .string f0.e.key, .string f0.e.old, .string f0.e.val, .int .u8 (f1.st : Int), .int .i64 f1.ix, .int .i64 f1.bx, .int .i64 f1.yb, .int .u8 (f1.e.k : Int), .int .i64 f1.e.cl, .int .i64 f1.e.sq, .int .u8 (f1.e.ok : Int), .string f1.e.key, .string f1.e.old, .string f1.e.val], .int .i64 i] w fun e w' => e = .returned (.tuple #[.int .u8 3, .agg #[.int .i64 i, .int .u8 2, .int .i64 f1.bx, .int .i64 f1.yb, .int .u8 (f1.e.k : Int), .int .i64 f1.e.cl, .int .i64 f1.e.sq, .int .u8 (f1.e.ok : Int), .string f1.e.key, .string f1.e.old, .string f1.e.val], .int .i64 1]) ∧ Ext w w' := by
  have e1 : repE p f0 f1 i = f1.e := by unfold repE; rw [h]; rfl
  have e2 : repX p f0 f1 i = f1.bx := by unfold repX; rw [h]; rfl
  have e3 : repY p f0 f1 i = f1.yb := by unfold repY; rw [h]; rfl
  have e4 : classL p f0 f1 i = 3 := classL_three.2 (by omega)
  have e5 : stateL p f0 f1 i = 2 := if_pos (by omega)
  refine (what_of p f0 f1 i w hp h0 h1 hw).mono fun e w' ⟨he, hx⟩ => ⟨he.trans ?_, hx⟩
  rw [e1, e2, e3, e4, e5, h]
  rfl
theorem what_atN (p : Rec) (f0 f1 : Cop) (i : Int) (hp : p.st ≤ 2) (h0 : f0.st ≤ 2) (h1 : f1.st ≤ 2) (hw : p.wh = 0 ∨ p.wh = 1) (h : whereL p f0 f1 i = -1) (w : World) :
    Calls Try.prog 7 #[.agg #[.int .u8 (p.st : Int), .int .i64 p.ix, .int .i64 p.bx, .int .i64 p.yb, .int .i64 p.wh], .agg #[.int .u8 (f0.st : Int), .int .i64 f0.ix, .int .i64 f0.bx, .int .i64 f0.yb, .int .u8 (f0.e.k : Int), .int .i64 f0.e.cl, .int .i64 f0.e.sq, .int .u8 (f0.e.ok : Int), .string f0.e.key, .string f0.e.old, .string f0.e.val, .int .u8 (f1.st : Int), .int .i64 f1.ix, .int .i64 f1.bx, .int .i64 f1.yb, .int .u8 (f1.e.k : Int), .int .i64 f1.e.cl, .int .i64 f1.e.sq, .int .u8 (f1.e.ok : Int), .string f1.e.key, .string f1.e.old, .string f1.e.val], .int .i64 i] w fun e w' => e = .returned (.tuple #[.int .u8 (classL p f0 f1 i : Nat), .agg #[.int .i64 i, .int .u8 (stateL p f0 f1 i : Nat), .int .i64 (repX p f0 f1 i), .int .i64 (repY p f0 f1 i), .int .u8 0, .int .i64 0, .int .i64 0, .int .u8 0, .string ⟨#[]⟩, .string ⟨#[]⟩, .string ⟨#[]⟩], .int .i64 (-1)]) ∧ Ext w w' := by
  have e1 : repE p f0 f1 i = {} := by unfold repE; rw [h]; rfl
  refine (what_of p f0 f1 i w hp h0 h1 hw).mono fun e w' ⟨he, hx⟩ => ⟨he.trans ?_, hx⟩
  rw [e1, h]
  rfl
/-- A report in a block of the call's own. -/
theorem rep_new (w : World) {x0 x1 x2 x3 x4 x5 x6 x7 x8 x9 x10 : Value} : (w.alloc (.cells #[x0, x1, x2, x3, x4, x5, x6, x7, x8, x9, x10] 37)).cell? ⟨w.heap.size, 0, none⟩ = some (x0) ∧ (w.alloc (.cells #[x0, x1, x2, x3, x4, x5, x6, x7, x8, x9, x10] 37)).cell? ⟨w.heap.size, 1, none⟩ = some (x1) ∧ (w.alloc (.cells #[x0, x1, x2, x3, x4, x5, x6, x7, x8, x9, x10] 37)).cell? ⟨w.heap.size, 2, none⟩ = some (x2) ∧ (w.alloc (.cells #[x0, x1, x2, x3, x4, x5, x6, x7, x8, x9, x10] 37)).cell? ⟨w.heap.size, 3, none⟩ = some (x3) ∧ (w.alloc (.cells #[x0, x1, x2, x3, x4, x5, x6, x7, x8, x9, x10] 37)).cell? ⟨w.heap.size, 4, none⟩ = some (x4) ∧ (w.alloc (.cells #[x0, x1, x2, x3, x4, x5, x6, x7, x8, x9, x10] 37)).cell? ⟨w.heap.size, 5, none⟩ = some (x5) ∧ (w.alloc (.cells #[x0, x1, x2, x3, x4, x5, x6, x7, x8, x9, x10] 37)).cell? ⟨w.heap.size, 6, none⟩ = some (x6) ∧ (w.alloc (.cells #[x0, x1, x2, x3, x4, x5, x6, x7, x8, x9, x10] 37)).cell? ⟨w.heap.size, 7, none⟩ = some (x7) ∧ (w.alloc (.cells #[x0, x1, x2, x3, x4, x5, x6, x7, x8, x9, x10] 37)).cell? ⟨w.heap.size, 8, none⟩ = some (x8) ∧ (w.alloc (.cells #[x0, x1, x2, x3, x4, x5, x6, x7, x8, x9, x10] 37)).cell? ⟨w.heap.size, 9, none⟩ = some (x9) ∧ (w.alloc (.cells #[x0, x1, x2, x3, x4, x5, x6, x7, x8, x9, x10] 37)).cell? ⟨w.heap.size, 10, none⟩ = some (x10) :=
  rep_cells (heap_alloc_new w _)
end Go.Proofs.Ytejejadbemkifaa
