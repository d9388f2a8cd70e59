/-
  Rows of 5, 11, 14 and 22 values that are stored whole; 11 values stored into one of two halves.
  Two integers in a block: what their cells hold, and behind a store of both.
  The contract of the document's Parse of a record's body.
-/
import Derived.Test.YtejejadbemkifaaDoorQ11
import Derived.RegionTactic
namespace Go.Proofs.YtejejadbemkifaaDoor
set_option maxRecDepth 100000
open Go Go.RowKit

theorem tower5 (w : World) (g : Nat) (x0 x1 x2 x3 x4 : Value) : (((((w.setCell ⟨g, 0, none⟩ (x0)).setCell ⟨g, 1, none⟩ (x1)).setCell ⟨g, 2, none⟩ (x2)).setCell ⟨g, 3, none⟩ (x3)).setCell ⟨g, 4, none⟩ (x4)) = setL w g 0 [x0, x1, x2, x3, x4] := by
  simp only [setL, Nat.zero_add, Nat.reduceAdd]
theorem arr5 (x0 x1 x2 x3 x4 z0 z1 z2 z3 z4 : Value) : setA #[z0, z1, z2, z3, z4] 0 [x0, x1, x2, x3, x4] = #[x0, x1, x2, x3, x4] := by
  simp only [setA, List.setIfInBounds_toArray, List.set_cons_zero, List.set_cons_succ, Nat.zero_add, Nat.reduceAdd]
theorem row5 {w : World} {g : Nat} {t : TypeId} {z0 z1 z2 z3 z4 : Value} (h : w.heap[g]? = some (.cells #[z0, z1, z2, z3, z4] t (0, 0))) (x0 x1 x2 x3 x4 : Value) :
    ((((((w.setCell ⟨g, 0, none⟩ (x0)).setCell ⟨g, 1, none⟩ (x1)).setCell ⟨g, 2, none⟩ (x2)).setCell ⟨g, 3, none⟩ (x3)).setCell ⟨g, 4, none⟩ (x4))).heap[g]? = some (.cells #[x0, x1, x2, x3, x4] t (0, 0)) := by
  rw [tower5]
  have h2 := row_setL [x0, x1, x2, x3, x4] w 0 _ h
  rw [arr5] at h2
  exact h2
theorem off5 {w : World} {g k : Nat} {ob : Obj} (h : w.heap[k]? = some ob) (hk : k ≠ g) (x0 x1 x2 x3 x4 : Value) : ((((((w.setCell ⟨g, 0, none⟩ (x0)).setCell ⟨g, 1, none⟩ (x1)).setCell ⟨g, 2, none⟩ (x2)).setCell ⟨g, 3, none⟩ (x3)).setCell ⟨g, 4, none⟩ (x4))).heap[k]? = some ob := by
  rw [tower5]
  exact off_setL h hk _ _
theorem ext5 {a w : World} (h : Ext a w) {g : Nat} (hg : a.heap.size ≤ g) (x0 x1 x2 x3 x4 : Value) : Ext a ((((((w.setCell ⟨g, 0, none⟩ (x0)).setCell ⟨g, 1, none⟩ (x1)).setCell ⟨g, 2, none⟩ (x2)).setCell ⟨g, 3, none⟩ (x3)).setCell ⟨g, 4, none⟩ (x4))) := by
  rw [tower5]
  exact ext_setL h hg _ _
theorem tower11 (w : World) (g : Nat) (x0 x1 x2 x3 x4 x5 x6 x7 x8 x9 x10 : Value) : (((((((((((w.setCell ⟨g, 0, none⟩ (x0)).setCell ⟨g, 1, none⟩ (x1)).setCell ⟨g, 2, none⟩ (x2)).setCell ⟨g, 3, none⟩ (x3)).setCell ⟨g, 4, none⟩ (x4)).setCell ⟨g, 5, none⟩ (x5)).setCell ⟨g, 6, none⟩ (x6)).setCell ⟨g, 7, none⟩ (x7)).setCell ⟨g, 8, none⟩ (x8)).setCell ⟨g, 9, none⟩ (x9)).setCell ⟨g, 10, none⟩ (x10)) = setL w g 0 [x0, x1, x2, x3, x4, x5, x6, x7, x8, x9, x10] := by
  simp only [setL, Nat.zero_add, Nat.reduceAdd]
theorem arr11 (x0 x1 x2 x3 x4 x5 x6 x7 x8 x9 x10 z0 z1 z2 z3 z4 z5 z6 z7 z8 z9 z10 : Value) : setA #[z0, z1, z2, z3, z4, z5, z6, z7, z8, z9, z10] 0 [x0, x1, x2, x3, x4, x5, x6, x7, x8, x9, x10] = #[x0, x1, x2, x3, x4, x5, x6, x7, x8, x9, x10] := by
  simp only [setA, List.setIfInBounds_toArray, List.set_cons_zero, List.set_cons_succ, Nat.zero_add, Nat.reduceAdd]
theorem row11 {w : World} {g : Nat} {t : TypeId} {z0 z1 z2 z3 z4 z5 z6 z7 z8 z9 z10 : Value} (h : w.heap[g]? = some (.cells #[z0, z1, z2, z3, z4, z5, z6, z7, z8, z9, z10] t (0, 0))) (x0 x1 x2 x3 x4 x5 x6 x7 x8 x9 x10 : Value) :
    ((((((((((((w.setCell ⟨g, 0, none⟩ (x0)).setCell ⟨g, 1, none⟩ (x1)).setCell ⟨g, 2, none⟩ (x2)).setCell ⟨g, 3, none⟩ (x3)).setCell ⟨g, 4, none⟩ (x4)).setCell ⟨g, 5, none⟩ (x5)).setCell ⟨g, 6, none⟩ (x6)).setCell ⟨g, 7, none⟩ (x7)).setCell ⟨g, 8, none⟩ (x8)).setCell ⟨g, 9, none⟩ (x9)).setCell ⟨g, 10, none⟩ (x10))).heap[g]? = some (.cells #[x0, x1, x2, x3, x4, x5, x6, x7, x8, x9, x10] t (0, 0)) := by
  rw [tower11]
  have h2 := row_setL [x0, x1, x2, x3, x4, x5, x6, x7, x8, x9, x10] w 0 _ h
  rw [arr11] at h2
  exact h2
theorem off11 {w : World} {g k : Nat} {ob : Obj} (h : w.heap[k]? = some ob) (hk : k ≠ g) (x0 x1 x2 x3 x4 x5 x6 x7 x8 x9 x10 : Value) : ((((((((((((w.setCell ⟨g, 0, none⟩ (x0)).setCell ⟨g, 1, none⟩ (x1)).setCell ⟨g, 2, none⟩ (x2)).setCell ⟨g, 3, none⟩ (x3)).setCell ⟨g, 4, none⟩ (x4)).setCell ⟨g, 5, none⟩ (x5)).setCell ⟨g, 6, none⟩ (x6)).setCell ⟨g, 7, none⟩ (x7)).setCell ⟨g, 8, none⟩ (x8)).setCell ⟨g, 9, none⟩ (x9)).setCell ⟨g, 10, none⟩ (x10))).heap[k]? = some ob := by
  rw [tower11]
  exact off_setL h hk _ _
theorem ext11 {a w : World} (h : Ext a w) {g : Nat} (hg : a.heap.size ≤ g) (x0 x1 x2 x3 x4 x5 x6 x7 x8 x9 x10 : Value) : Ext a ((((((((((((w.setCell ⟨g, 0, none⟩ (x0)).setCell ⟨g, 1, none⟩ (x1)).setCell ⟨g, 2, none⟩ (x2)).setCell ⟨g, 3, none⟩ (x3)).setCell ⟨g, 4, none⟩ (x4)).setCell ⟨g, 5, none⟩ (x5)).setCell ⟨g, 6, none⟩ (x6)).setCell ⟨g, 7, none⟩ (x7)).setCell ⟨g, 8, none⟩ (x8)).setCell ⟨g, 9, none⟩ (x9)).setCell ⟨g, 10, none⟩ (x10))) := by
  rw [tower11]
  exact ext_setL h hg _ _
theorem tower14 (w : World) (g : Nat) (x0 x1 x2 x3 x4 x5 x6 x7 x8 x9 x10 x11 x12 x13 : Value) : ((((((((((((((w.setCell ⟨g, 0, none⟩ (x0)).setCell ⟨g, 1, none⟩ (x1)).setCell ⟨g, 2, none⟩ (x2)).setCell ⟨g, 3, none⟩ (x3)).setCell ⟨g, 4, none⟩ (x4)).setCell ⟨g, 5, none⟩ (x5)).setCell ⟨g, 6, none⟩ (x6)).setCell ⟨g, 7, none⟩ (x7)).setCell ⟨g, 8, none⟩ (x8)).setCell ⟨g, 9, none⟩ (x9)).setCell ⟨g, 10, none⟩ (x10)).setCell ⟨g, 11, none⟩ (x11)).setCell ⟨g, 12, none⟩ (x12)).setCell ⟨g, 13, none⟩ (x13)) = setL w g 0 [x0, x1, x2, x3, x4, x5, x6, x7, x8, x9, x10, x11, x12, x13] := by
  simp only [setL, Nat.zero_add, Nat.reduceAdd]
theorem arr14 (x0 x1 x2 x3 x4 x5 x6 x7 x8 x9 x10 x11 x12 x13 z0 z1 z2 z3 z4 z5 z6 z7 z8 z9 z10 z11 z12 z13 : Value) : setA #[z0, z1, z2, z3, z4, z5, z6, z7, z8, z9, z10, z11, z12, z13] 0 [x0, x1, x2, x3, x4, x5, x6, x7, x8, x9, x10, x11, x12, x13] = #[x0, x1, x2, x3, x4, x5, x6, x7, x8, x9, x10, x11, x12, x13] := by
  simp only [setA, List.setIfInBounds_toArray, List.set_cons_zero, List.set_cons_succ, Nat.zero_add, Nat.reduceAdd]
theorem row14 {w : World} {g : Nat} {t : TypeId} {z0 z1 z2 z3 z4 z5 z6 z7 z8 z9 z10 z11 z12 z13 : Value} (h : w.heap[g]? = some (.cells #[z0, z1, z2, z3, z4, z5, z6, z7, z8, z9, z10, z11, z12, z13] t (0, 0))) (x0 x1 x2 x3 x4 x5 x6 x7 x8 x9 x10 x11 x12 x13 : Value) :
    (((((((((((((((w.setCell ⟨g, 0, none⟩ (x0)).setCell ⟨g, 1, none⟩ (x1)).setCell ⟨g, 2, none⟩ (x2)).setCell ⟨g, 3, none⟩ (x3)).setCell ⟨g, 4, none⟩ (x4)).setCell ⟨g, 5, none⟩ (x5)).setCell ⟨g, 6, none⟩ (x6)).setCell ⟨g, 7, none⟩ (x7)).setCell ⟨g, 8, none⟩ (x8)).setCell ⟨g, 9, none⟩ (x9)).setCell ⟨g, 10, none⟩ (x10)).setCell ⟨g, 11, none⟩ (x11)).setCell ⟨g, 12, none⟩ (x12)).setCell ⟨g, 13, none⟩ (x13))).heap[g]? = some (.cells #[x0, x1, x2, x3, x4, x5, x6, x7, x8, x9, x10, x11, x12, x13] t (0, 0)) := by
  rw [tower14]
  have h2 := row_setL [x0, x1, x2, x3, x4, x5, x6, x7, x8, x9, x10, x11, x12, x13] w 0 _ h
  rw [arr14] at h2
  exact h2
theorem off14 {w : World} {g k : Nat} {ob : Obj} (h : w.heap[k]? = some ob) (hk : k ≠ g) (x0 x1 x2 x3 x4 x5 x6 x7 x8 x9 x10 x11 x12 x13 : Value) : (((((((((((((((w.setCell ⟨g, 0, none⟩ (x0)).setCell ⟨g, 1, none⟩ (x1)).setCell ⟨g, 2, none⟩ (x2)).setCell ⟨g, 3, none⟩ (x3)).setCell ⟨g, 4, none⟩ (x4)).setCell ⟨g, 5, none⟩ (x5)).setCell ⟨g, 6, none⟩ (x6)).setCell ⟨g, 7, none⟩ (x7)).setCell ⟨g, 8, none⟩ (x8)).setCell ⟨g, 9, none⟩ (x9)).setCell ⟨g, 10, none⟩ (x10)).setCell ⟨g, 11, none⟩ (x11)).setCell ⟨g, 12, none⟩ (x12)).setCell ⟨g, 13, none⟩ (x13))).heap[k]? = some ob := by
  rw [tower14]
  exact off_setL h hk _ _
theorem ext14 {a w : World} (h : Ext a w) {g : Nat} (hg : a.heap.size ≤ g) (x0 x1 x2 x3 x4 x5 x6 x7 x8 x9 x10 x11 x12 x13 : Value) : Ext a (((((((((((((((w.setCell ⟨g, 0, none⟩ (x0)).setCell ⟨g, 1, none⟩ (x1)).setCell ⟨g, 2, none⟩ (x2)).setCell ⟨g, 3, none⟩ (x3)).setCell ⟨g, 4, none⟩ (x4)).setCell ⟨g, 5, none⟩ (x5)).setCell ⟨g, 6, none⟩ (x6)).setCell ⟨g, 7, none⟩ (x7)).setCell ⟨g, 8, none⟩ (x8)).setCell ⟨g, 9, none⟩ (x9)).setCell ⟨g, 10, none⟩ (x10)).setCell ⟨g, 11, none⟩ (x11)).setCell ⟨g, 12, none⟩ (x12)).setCell ⟨g, 13, none⟩ (x13))) := by
  rw [tower14]
  exact ext_setL h hg _ _
theorem tower22 (w : World) (g : Nat) (x0 x1 x2 x3 x4 x5 x6 x7 x8 x9 x10 x11 x12 x13 x14 x15 x16 x17 x18 x19 x20 x21 : Value) : ((((((((((((((((((((((w.setCell ⟨g, 0, none⟩ (x0)).setCell ⟨g, 1, none⟩ (x1)).setCell ⟨g, 2, none⟩ (x2)).setCell ⟨g, 3, none⟩ (x3)).setCell ⟨g, 4, none⟩ (x4)).setCell ⟨g, 5, none⟩ (x5)).setCell ⟨g, 6, none⟩ (x6)).setCell ⟨g, 7, none⟩ (x7)).setCell ⟨g, 8, none⟩ (x8)).setCell ⟨g, 9, none⟩ (x9)).setCell ⟨g, 10, none⟩ (x10)).setCell ⟨g, 11, none⟩ (x11)).setCell ⟨g, 12, none⟩ (x12)).setCell ⟨g, 13, none⟩ (x13)).setCell ⟨g, 14, none⟩ (x14)).setCell ⟨g, 15, none⟩ (x15)).setCell ⟨g, 16, none⟩ (x16)).setCell ⟨g, 17, none⟩ (x17)).setCell ⟨g, 18, none⟩ (x18)).setCell ⟨g, 19, none⟩ (x19)).setCell ⟨g, 20, none⟩ (x20)).setCell ⟨g, 21, none⟩ (x21)) = setL w g 0 [x0, x1, x2, x3, x4, x5, x6, x7, x8, x9, x10, x11, x12, x13, x14, x15, x16, x17, x18, x19, x20, x21] := by
  simp only [setL, Nat.zero_add, Nat.reduceAdd]
theorem arr22 (x0 x1 x2 x3 x4 x5 x6 x7 x8 x9 x10 x11 x12 x13 x14 x15 x16 x17 x18 x19 x20 x21 z0 z1 z2 z3 z4 z5 z6 z7 z8 z9 z10 z11 z12 z13 z14 z15 z16 z17 z18 z19 z20 z21 : Value) : setA #[z0, z1, z2, z3, z4, z5, z6, z7, z8, z9, z10, z11, z12, z13, z14, z15, z16, z17, z18, z19, z20, z21] 0 [x0, x1, x2, x3, x4, x5, x6, x7, x8, x9, x10, x11, x12, x13, x14, x15, x16, x17, x18, x19, x20, x21] = #[x0, x1, x2, x3, x4, x5, x6, x7, x8, x9, x10, x11, x12, x13, x14, x15, x16, x17, x18, x19, x20, x21] := by
  simp only [setA, List.setIfInBounds_toArray, List.set_cons_zero, List.set_cons_succ, Nat.zero_add, Nat.reduceAdd]
theorem row22 {w : World} {g : Nat} {t : TypeId} {z0 z1 z2 z3 z4 z5 z6 z7 z8 z9 z10 z11 z12 z13 z14 z15 z16 z17 z18 z19 z20 z21 : Value} (h : w.heap[g]? = some (.cells #[z0, z1, z2, z3, z4, z5, z6, z7, z8, z9, z10, z11, z12, z13, z14, z15, z16, z17, z18, z19, z20, z21] t (0, 0))) (x0 x1 x2 x3 x4 x5 x6 x7 x8 x9 x10 x11 x12 x13 x14 x15 x16 x17 x18 x19 x20 x21 : Value) :
    (((((((((((((((((((((((w.setCell ⟨g, 0, none⟩ (x0)).setCell ⟨g, 1, none⟩ (x1)).setCell ⟨g, 2, none⟩ (x2)).setCell ⟨g, 3, none⟩ (x3)).setCell ⟨g, 4, none⟩ (x4)).setCell ⟨g, 5, none⟩ (x5)).setCell ⟨g, 6, none⟩ (x6)).setCell ⟨g, 7, none⟩ (x7)).setCell ⟨g, 8, none⟩ (x8)).setCell ⟨g, 9, none⟩ (x9)).setCell ⟨g, 10, none⟩ (x10)).setCell ⟨g, 11, none⟩ (x11)).setCell ⟨g, 12, none⟩ (x12)).setCell ⟨g, 13, none⟩ (x13)).setCell ⟨g, 14, none⟩ (x14)).setCell ⟨g, 15, none⟩ (x15)).setCell ⟨g, 16, none⟩ (x16)).setCell ⟨g, 17, none⟩ (x17)).setCell ⟨g, 18, none⟩ (x18)).setCell ⟨g, 19, none⟩ (x19)).setCell ⟨g, 20, none⟩ (x20)).setCell ⟨g, 21, none⟩ (x21))).heap[g]? = some (.cells #[x0, x1, x2, x3, x4, x5, x6, x7, x8, x9, x10, x11, x12, x13, x14, x15, x16, x17, x18, x19, x20, x21] t (0, 0)) := by
  rw [tower22]
  have h2 := row_setL [x0, x1, x2, x3, x4, x5, x6, x7, x8, x9, x10, x11, x12, x13, x14, x15, x16, x17, x18, x19, x20, x21] w 0 _ h
  rw [arr22] at h2
  exact h2
theorem off22 {w : World} {g k : Nat} {ob : Obj} (h : w.heap[k]? = some ob) (hk : k ≠ g) (x0 x1 x2 x3 x4 x5 x6 x7 x8 x9 x10 x11 x12 x13 x14 x15 x16 x17 x18 x19 x20 x21 : Value) : (((((((((((((((((((((((w.setCell ⟨g, 0, none⟩ (x0)).setCell ⟨g, 1, none⟩ (x1)).setCell ⟨g, 2, none⟩ (x2)).setCell ⟨g, 3, none⟩ (x3)).setCell ⟨g, 4, none⟩ (x4)).setCell ⟨g, 5, none⟩ (x5)).setCell ⟨g, 6, none⟩ (x6)).setCell ⟨g, 7, none⟩ (x7)).setCell ⟨g, 8, none⟩ (x8)).setCell ⟨g, 9, none⟩ (x9)).setCell ⟨g, 10, none⟩ (x10)).setCell ⟨g, 11, none⟩ (x11)).setCell ⟨g, 12, none⟩ (x12)).setCell ⟨g, 13, none⟩ (x13)).setCell ⟨g, 14, none⟩ (x14)).setCell ⟨g, 15, none⟩ (x15)).setCell ⟨g, 16, none⟩ (x16)).setCell ⟨g, 17, none⟩ (x17)).setCell ⟨g, 18, none⟩ (x18)).setCell ⟨g, 19, none⟩ (x19)).setCell ⟨g, 20, none⟩ (x20)).setCell ⟨g, 21, none⟩ (x21))).heap[k]? = some ob := by
  rw [tower22]
  exact off_setL h hk _ _
theorem ext22 {a w : World} (h : Ext a w) {g : Nat} (hg : a.heap.size ≤ g) (x0 x1 x2 x3 x4 x5 x6 x7 x8 x9 x10 x11 x12 x13 x14 x15 x16 x17 x18 x19 x20 x21 : Value) : Ext a (((((((((((((((((((((((w.setCell ⟨g, 0, none⟩ (x0)).setCell ⟨g, 1, none⟩ (x1)).setCell ⟨g, 2, none⟩ (x2)).setCell ⟨g, 3, none⟩ (x3)).setCell ⟨g, 4, none⟩ (x4)).setCell ⟨g, 5, none⟩ (x5)).setCell ⟨g, 6, none⟩ (x6)).setCell ⟨g, 7, none⟩ (x7)).setCell ⟨g, 8, none⟩ (x8)).setCell ⟨g, 9, none⟩ (x9)).setCell ⟨g, 10, none⟩ (x10)).setCell ⟨g, 11, none⟩ (x11)).setCell ⟨g, 12, none⟩ (x12)).setCell ⟨g, 13, none⟩ (x13)).setCell ⟨g, 14, none⟩ (x14)).setCell ⟨g, 15, none⟩ (x15)).setCell ⟨g, 16, none⟩ (x16)).setCell ⟨g, 17, none⟩ (x17)).setCell ⟨g, 18, none⟩ (x18)).setCell ⟨g, 19, none⟩ (x19)).setCell ⟨g, 20, none⟩ (x20)).setCell ⟨g, 21, none⟩ (x21))) := by
  rw [tower22]
  exact ext_setL h hg _ _
theorem tower11a (w : World) (g : Nat) (x0 x1 x2 x3 x4 x5 x6 x7 x8 x9 x10 : Value) : (((((((((((w.setCell ⟨g, 0, none⟩ (x0)).setCell ⟨g, 1, none⟩ (x1)).setCell ⟨g, 2, none⟩ (x2)).setCell ⟨g, 3, none⟩ (x3)).setCell ⟨g, 4, none⟩ (x4)).setCell ⟨g, 5, none⟩ (x5)).setCell ⟨g, 6, none⟩ (x6)).setCell ⟨g, 7, none⟩ (x7)).setCell ⟨g, 8, none⟩ (x8)).setCell ⟨g, 9, none⟩ (x9)).setCell ⟨g, 10, none⟩ (x10)) = setL w g 0 [x0, x1, x2, x3, x4, x5, x6, x7, x8, x9, x10] := by
  simp only [setL, Nat.zero_add, Nat.reduceAdd]
theorem arr11a (x0 x1 x2 x3 x4 x5 x6 x7 x8 x9 x10 z0 z1 z2 z3 z4 z5 z6 z7 z8 z9 z10 z11 z12 z13 z14 z15 z16 z17 z18 z19 z20 z21 : Value) : setA #[z0, z1, z2, z3, z4, z5, z6, z7, z8, z9, z10, z11, z12, z13, z14, z15, z16, z17, z18, z19, z20, z21] 0 [x0, x1, x2, x3, x4, x5, x6, x7, x8, x9, x10] = #[x0, x1, x2, x3, x4, x5, x6, x7, x8, x9, x10, z11, z12, z13, z14, z15, z16, z17, z18, z19, z20, z21] := by
  simp only [setA, List.setIfInBounds_toArray, List.set_cons_zero, List.set_cons_succ, Nat.zero_add, Nat.reduceAdd]
theorem row11a {w : World} {g : Nat} {t : TypeId} {z0 z1 z2 z3 z4 z5 z6 z7 z8 z9 z10 z11 z12 z13 z14 z15 z16 z17 z18 z19 z20 z21 : Value} (h : w.heap[g]? = some (.cells #[z0, z1, z2, z3, z4, z5, z6, z7, z8, z9, z10, z11, z12, z13, z14, z15, z16, z17, z18, z19, z20, z21] t (0, 0))) (x0 x1 x2 x3 x4 x5 x6 x7 x8 x9 x10 : Value) :
    ((((((((((((w.setCell ⟨g, 0, none⟩ (x0)).setCell ⟨g, 1, none⟩ (x1)).setCell ⟨g, 2, none⟩ (x2)).setCell ⟨g, 3, none⟩ (x3)).setCell ⟨g, 4, none⟩ (x4)).setCell ⟨g, 5, none⟩ (x5)).setCell ⟨g, 6, none⟩ (x6)).setCell ⟨g, 7, none⟩ (x7)).setCell ⟨g, 8, none⟩ (x8)).setCell ⟨g, 9, none⟩ (x9)).setCell ⟨g, 10, none⟩ (x10))).heap[g]? = some (.cells #[x0, x1, x2, x3, x4, x5, x6, x7, x8, x9, x10, z11, z12, z13, z14, z15, z16, z17, z18, z19, z20, z21] t (0, 0)) := by
  rw [tower11a]
  have h2 := row_setL [x0, x1, x2, x3, x4, x5, x6, x7, x8, x9, x10] w 0 _ h
  rw [arr11a] at h2
  exact h2
theorem off11a {w : World} {g k : Nat} {ob : Obj} (h : w.heap[k]? = some ob) (hk : k ≠ g) (x0 x1 x2 x3 x4 x5 x6 x7 x8 x9 x10 : Value) : ((((((((((((w.setCell ⟨g, 0, none⟩ (x0)).setCell ⟨g, 1, none⟩ (x1)).setCell ⟨g, 2, none⟩ (x2)).setCell ⟨g, 3, none⟩ (x3)).setCell ⟨g, 4, none⟩ (x4)).setCell ⟨g, 5, none⟩ (x5)).setCell ⟨g, 6, none⟩ (x6)).setCell ⟨g, 7, none⟩ (x7)).setCell ⟨g, 8, none⟩ (x8)).setCell ⟨g, 9, none⟩ (x9)).setCell ⟨g, 10, none⟩ (x10))).heap[k]? = some ob := by
  rw [tower11a]
  exact off_setL h hk _ _
theorem ext11a {a w : World} (h : Ext a w) {g : Nat} (hg : a.heap.size ≤ g) (x0 x1 x2 x3 x4 x5 x6 x7 x8 x9 x10 : Value) : Ext a ((((((((((((w.setCell ⟨g, 0, none⟩ (x0)).setCell ⟨g, 1, none⟩ (x1)).setCell ⟨g, 2, none⟩ (x2)).setCell ⟨g, 3, none⟩ (x3)).setCell ⟨g, 4, none⟩ (x4)).setCell ⟨g, 5, none⟩ (x5)).setCell ⟨g, 6, none⟩ (x6)).setCell ⟨g, 7, none⟩ (x7)).setCell ⟨g, 8, none⟩ (x8)).setCell ⟨g, 9, none⟩ (x9)).setCell ⟨g, 10, none⟩ (x10))) := by
  rw [tower11a]
  exact ext_setL h hg _ _
theorem tower11b (w : World) (g : Nat) (x0 x1 x2 x3 x4 x5 x6 x7 x8 x9 x10 : Value) : (((((((((((w.setCell ⟨g, 11, none⟩ (x0)).setCell ⟨g, 12, none⟩ (x1)).setCell ⟨g, 13, none⟩ (x2)).setCell ⟨g, 14, none⟩ (x3)).setCell ⟨g, 15, none⟩ (x4)).setCell ⟨g, 16, none⟩ (x5)).setCell ⟨g, 17, none⟩ (x6)).setCell ⟨g, 18, none⟩ (x7)).setCell ⟨g, 19, none⟩ (x8)).setCell ⟨g, 20, none⟩ (x9)).setCell ⟨g, 21, none⟩ (x10)) = setL w g 11 [x0, x1, x2, x3, x4, x5, x6, x7, x8, x9, x10] := by
  simp only [setL, Nat.reduceAdd]
theorem arr11b (x0 x1 x2 x3 x4 x5 x6 x7 x8 x9 x10 z0 z1 z2 z3 z4 z5 z6 z7 z8 z9 z10 z11 z12 z13 z14 z15 z16 z17 z18 z19 z20 z21 : Value) : setA #[z0, z1, z2, z3, z4, z5, z6, z7, z8, z9, z10, z11, z12, z13, z14, z15, z16, z17, z18, z19, z20, z21] 11 [x0, x1, x2, x3, x4, x5, x6, x7, x8, x9, x10] = #[z0, z1, z2, z3, z4, z5, z6, z7, z8, z9, z10, x0, x1, x2, x3, x4, x5, x6, x7, x8, x9, x10] := by
  simp only [setA, List.setIfInBounds_toArray, List.set_cons_zero, List.set_cons_succ, Nat.reduceAdd]
theorem row11b {w : World} {g : Nat} {t : TypeId} {z0 z1 z2 z3 z4 z5 z6 z7 z8 z9 z10 z11 z12 z13 z14 z15 z16 z17 z18 z19 z20 z21 : Value} (h : w.heap[g]? = some (.cells #[z0, z1, z2, z3, z4, z5, z6, z7, z8, z9, z10, z11, z12, z13, z14, z15, z16, z17, z18, z19, z20, z21] t (0, 0))) (x0 x1 x2 x3 x4 x5 x6 x7 x8 x9 x10 : Value) :
    ((((((((((((w.setCell ⟨g, 11, none⟩ (x0)).setCell ⟨g, 12, none⟩ (x1)).setCell ⟨g, 13, none⟩ (x2)).setCell ⟨g, 14, none⟩ (x3)).setCell ⟨g, 15, none⟩ (x4)).setCell ⟨g, 16, none⟩ (x5)).setCell ⟨g, 17, none⟩ (x6)).setCell ⟨g, 18, none⟩ (x7)).setCell ⟨g, 19, none⟩ (x8)).setCell ⟨g, 20, none⟩ (x9)).setCell ⟨g, 21, none⟩ (x10))).heap[g]? = some (.cells #[z0, z1, z2, z3, z4, z5, z6, z7, z8, z9, z10, x0, x1, x2, x3, x4, x5, x6, x7, x8, x9, x10] t (0, 0)) := by
  rw [tower11b]
  have h2 := row_setL [x0, x1, x2, x3, x4, x5, x6, x7, x8, x9, x10] w 11 _ h
  rw [arr11b] at h2
  exact h2
theorem off11b {w : World} {g k : Nat} {ob : Obj} (h : w.heap[k]? = some ob) (hk : k ≠ g) (x0 x1 x2 x3 x4 x5 x6 x7 x8 x9 x10 : Value) : ((((((((((((w.setCell ⟨g, 11, none⟩ (x0)).setCell ⟨g, 12, none⟩ (x1)).setCell ⟨g, 13, none⟩ (x2)).setCell ⟨g, 14, none⟩ (x3)).setCell ⟨g, 15, none⟩ (x4)).setCell ⟨g, 16, none⟩ (x5)).setCell ⟨g, 17, none⟩ (x6)).setCell ⟨g, 18, none⟩ (x7)).setCell ⟨g, 19, none⟩ (x8)).setCell ⟨g, 20, none⟩ (x9)).setCell ⟨g, 21, none⟩ (x10))).heap[k]? = some ob := by
  rw [tower11b]
  exact off_setL h hk _ _
theorem ext11b {a w : World} (h : Ext a w) {g : Nat} (hg : a.heap.size ≤ g) (x0 x1 x2 x3 x4 x5 x6 x7 x8 x9 x10 : Value) : Ext a ((((((((((((w.setCell ⟨g, 11, none⟩ (x0)).setCell ⟨g, 12, none⟩ (x1)).setCell ⟨g, 13, none⟩ (x2)).setCell ⟨g, 14, none⟩ (x3)).setCell ⟨g, 15, none⟩ (x4)).setCell ⟨g, 16, none⟩ (x5)).setCell ⟨g, 17, none⟩ (x6)).setCell ⟨g, 18, none⟩ (x7)).setCell ⟨g, 19, none⟩ (x8)).setCell ⟨g, 20, none⟩ (x9)).setCell ⟨g, 21, none⟩ (x10))) := by
  rw [tower11b]
  exact ext_setL h hg _ _
end Go.Proofs.YtejejadbemkifaaDoor

namespace Go.Proofs.YtejejadbemkifaaDoor
set_option maxRecDepth 100000
open Go Go.RowKit

theorem two_row {w : World} {g : Nat} {x y : Int} {t : TypeId} (h : w.heap[g]? = some (.cells #[.int .i64 x, .int .i64 y] t (0, 0))) :
    (w.cell? ⟨g, 0, none⟩ = some (.int .i64 x) ∧ w.cell? ⟨g, 1, none⟩ = some (.int .i64 y)) ∧ w.frozen? ⟨g, 0, none⟩ = false ∧ w.frozen? ⟨g, 1, none⟩ = false :=
  ⟨⟨cell_of_row w g 0 _ _ _ h, cell_of_row w g 1 _ _ _ h⟩, frozen_of_row w g 0 _ _ h, frozen_of_row w g 1 _ _ h⟩
theorem row_two {w : World} {g : Nat} {x y u v : Int} {t : TypeId} (h : w.heap[g]? = some (.cells #[.int .i64 x, .int .i64 y] t (0, 0))) :
    ((w.setCell ⟨g, 0, none⟩ (.int .i64 u)).setCell ⟨g, 1, none⟩ (.int .i64 v)).heap[g]? = some (.cells #[.int .i64 u, .int .i64 v] t (0, 0)) :=
  row_set1 (row_set1 h (.int .i64 u)) (.int .i64 v)
end Go.Proofs.YtejejadbemkifaaDoor

namespace Go.Proofs.YtejejadbemkifaaDoor
set_option maxRecDepth 100000
open Go Go.RowKit

theorem lby_at {w : World} {A : Option Addr} {n c k : Nat} {l : List Nat} (h : By w A n c l) (hk : k < n) : ∃ g o x, A = some ⟨g, o, none⟩ ∧ l[k]? = some x ∧ x < 256 ∧ w.cell? ⟨g, o + k, none⟩ = some (.int .u8 ((x : Nat) : Int)) := by
  obtain ⟨g, o, x, h1, _, h2, h3, h4⟩ := h.rd.at_ (k := k) (by rw [h.len]; exact hk)
  exact ⟨g, o, x, h1, h2, h3, h4⟩
theorem lby_cell {w : World} {g o n c k x : Nat} {l : List Nat} (h : By w (some ⟨g, o, none⟩) n c l) (hk : l[k]? = some x) : w.cell? ⟨g, o + k, none⟩ = some (.int .u8 ((x : Nat) : Int)) ∧ x < 256 := by
  obtain ⟨g', o', x', h1, _, h2, h3, h4⟩ := h.rd.at_ (k := k) (List.getElem?_eq_some_iff.1 hk).1
  rw [hk] at h2
  injection h2 with h2
  subst h2
  injection h1 with h1
  injection h1 with h1 h5
  subst h1 h5
  exact ⟨h4, h3⟩
set_option maxRecDepth 100000 in
set_option maxHeartbeats 600000 in
theorem rsparse_len (A : Option Addr) (n c : Nat) (w : World) (hn : n ≠ 8) :
    Calls Tryd.prog 9 #[.slice A n c] w fun e w' => e = .returned (.tuple #[.agg #[.int .i64 0, .int .i64 0], .int .i64 0, .int .i64 90]) ∧ Ext w w' := by
  have hx := (Ext.refl w).alloc (.cells #[.int .i64 0, .int .i64 0] 23)
  have HQ := Lib.hid (heap_alloc_new w (.cells #[.int .i64 0, .int .i64 0] 23))
  have HE := Lib.hid hx
  have hne : ((n : Int) != 8) = true := by rw [bne_iff_ne]; omega
  obtain ⟨⟨z0, z1⟩, e0, e1⟩ := two_row HQ.out
  clear hx hn
  go_enter Tryd.func9, Tryd.ntmps9
  go_wp2_with fail
  refine bodyPost_ret (v := .tuple #[.agg #[.int .i64 0, .int .i64 0], .int .i64 0, .int .i64 90]) (by simp [results, Tryd.results9, go_sem]) rfl ⟨rfl, HE.out⟩
set_option maxRecDepth 100000 in
set_option maxHeartbeats 600000 in
theorem rsparse_which (A : Option Addr) (c : Nat) (l : List Nat) (h : Nat) (w : World) (hb : By w A 8 c l) (hh : l[7]? = some h) (h1 : 1 < h) :
    Calls Tryd.prog 9 #[.slice A (8 : Nat) c] w fun e w' => e = .returned (.tuple #[.agg #[.int .i64 0, .int .i64 0], .int .i64 0, .int .i64 90]) ∧ Ext w w' := by
  have hx := (Ext.refl w).alloc (.cells #[.int .i64 0, .int .i64 0] 23)
  have HQ := Lib.hid (heap_alloc_new w (.cells #[.int .i64 0, .int .i64 0] 23))
  have HE := Lib.hid hx
  obtain ⟨g', o, h', rfl, hh', hh2, c7⟩ := lby_at (hb.ext hx) (show 7 < 8 by omega)
  obtain rfl : h = h' := by rw [hh] at hh'; exact Option.some.inj hh'
  have hgt : decide (1 < (h : Int)) = true := decide_eq_true (by omega)
  obtain ⟨⟨z0, z1⟩, e0, e1⟩ := two_row HQ.out
  clear hx hb hh hh' h1
  go_enter Tryd.func9, Tryd.ntmps9
  go_wp2_with fail
  refine bodyPost_ret (v := .tuple #[.agg #[.int .i64 0, .int .i64 0], .int .i64 0, .int .i64 90]) (by simp [results, Tryd.results9, go_sem]) rfl ⟨rfl, HE.out⟩
set_option maxRecDepth 100000 in
set_option maxHeartbeats 800000 in
theorem rsparse_eight (A : Option Addr) (c : Nat) (l : List Nat) (x y h : Nat) (w : World) (hb : By w A 8 c l) (hxn : num (l.take 6) = x) (hy : l[6]? = some y) (hh : l[7]? = some h) (h1 : h ≤ 1) (ans : Value) (hans : ans = if balE (x : Int) (y : Int) = true then .tuple #[.agg #[.int .i64 (x : Int), .int .i64 (y : Int)], .int .i64 (h : Int), .int .i64 0] else .tuple #[.agg #[.int .i64 0, .int .i64 0], .int .i64 0, .int .i64 90]) :
    Calls Tryd.prog 9 #[.slice A (8 : Nat) c] w fun e w' => e = .returned ans ∧ Ext w w' := by
  have hx := (Ext.refl w).alloc (.cells #[.int .i64 0, .int .i64 0] 23)
  have HQ := Lib.hid (heap_alloc_new w (.cells #[.int .i64 0, .int .i64 0] 23))
  have HE := Lib.hid hx
  have hlen := hb.len
  have HG : Hid (getS l 0 6 = (x, 6, 0)) := Lib.hid (by
    have h := getS_zero (l := l) (x := 6) rfl (by omega)
    rw [hxn] at h
    exact h)
  have HB := Lib.hid (hb.ext hx)
  clear hb hx
  have HY := Lib.hid (And.intro hy hh)
  have HANS := Lib.hid hans
  clear hxn hlen hy hh hans
  go_enter Tryd.func9, Tryd.ntmps9
  go_upto_region 1 with (fail)
  generalize w.alloc (.cells #[.int .i64 0, .int .i64 0] 23) = w1 at *
  generalize hg : w.heap.size = g at *
  have HGG := Lib.hid hg
  clear hg
  obtain ⟨g', o, y', rfl, hy', hy2, c6⟩ := lby_at HB.out (show 6 < 8 by omega)
  obtain rfl : y = y' := by rw [HY.out.1] at hy'; exact Option.some.inj hy'
  obtain ⟨c7, hh2⟩ := lby_cell HB.out HY.out.2
  have hgt : decide (1 < (h : Int)) = false := decide_eq_false (by omega)
  have hyw : IntKind.i64.wrap (y : Int) = (y : Int) := IntWalk.i64_in _ (by omega)
  have hhw : IntKind.i64.wrap (h : Int) = (h : Int) := IntWalk.i64_in _ (by omega)
  have hx := (Ext.refl w1).alloc (.cells #[.int .i64 (x : Int), .int .i64 (y : Int)] 23)
  have HQ2 := Lib.hid (keep_row hx HQ.out)
  have HE2 := Lib.hid (HE.out.trans hx)
  have HB2 := Lib.hid (HB.out.ext hx)
  have H8 := Lib.hid (heap_alloc_new w1 (.cells #[.int .i64 (x : Int), .int .i64 (y : Int)] 23))
  clear hx hy' h1
  go_wp2_with fail
  refine (rget_any _ l 8 c _ _ _ _ HB.out.len HB.out.rd (by omega)).mono ?_
  rw [HG.out]
  rintro e w' ⟨rfl, rfl⟩
  go_upto_region 5 with (fail)
  generalize (w1.alloc (.cells #[.int .i64 (x : Int), .int .i64 (y : Int)] 23)) = W at *
  generalize w1.heap.size = g8 at *
  clear c6 c7
  obtain ⟨⟨b0, b1⟩, _⟩ := two_row H8.out
  go_wp2_with fail
  refine (rballotE _ _ _).mono ?_
  rintro e w5 ⟨rfl, hx⟩
  have HQ3 := Lib.hid (keep_row hx HQ2.out)
  have H9 := Lib.hid (keep_row hx H8.out)
  have HE3 := Lib.hid (HE2.out.trans hx)
  have HB3 := Lib.hid (HB2.out.ext hx)
  clear hx b0 b1
  obtain ⟨c7, _⟩ := lby_cell HB3.out HY.out.2
  obtain ⟨⟨z0, z1⟩, e0, e1⟩ := two_row HQ3.out
  obtain ⟨⟨b0, b1⟩, _⟩ := two_row H9.out
  cases hb : balE (x : Int) (y : Int) with
  | false =>
    have HE3 := Lib.hid (ext_setL HE3.out (Nat.le_of_eq HGG.out) [.int .i64 0, .int .i64 0] 0)
    go_wp2_with fail
    have z0 := cell_of_row _ _ 0 _ _ _ (row_two (u := 0) (v := 0) HQ3.out)
    have z1 := cell_of_row _ _ 1 _ _ _ (row_two (u := 0) (v := 0) HQ3.out)
    refine bodyPost_ret (v := .tuple #[.agg #[.int .i64 0, .int .i64 0], .int .i64 0, .int .i64 90]) (by simp [results, Tryd.results9, go_sem, z0, z1]) rfl ⟨by rw [HANS.out, hb]; rfl, HE3.out⟩
  | true =>
    go_wp2_with fail
    go_region
    go_wp2_with fail
    refine bodyPost_ret (v := .tuple #[.agg #[.int .i64 (x : Int), .int .i64 (y : Int)], .int .i64 (h : Int), .int .i64 0]) ?_ rfl ⟨by rw [HANS.out, hb]; rfl, ?_⟩
    · simp [results, Tryd.results9, go_sem, z0, z1]
    · exact Ext.drew (ext_setL HE3.out (Nat.le_of_eq HGG.out) [.int .i64 (x : Int), .int .i64 (y : Int)] 0)
theorem rsparse_of (A : Option Addr) (n c : Nat) (l : List Nat) (w : World) (hb : By w A n c l) :
    Calls Tryd.prog 9 #[.slice A n c] w fun e w' => e = .returned (.tuple #[.agg #[.int .i64 ((rcR l).1 : Int), .int .i64 ((rcR l).2.1 : Int)], .int .i64 ((rcR l).2.2.1 : Int), .int .i64 (rcR l).2.2.2]) ∧ Ext w w' := by
  have hl := hb.len
  by_cases h8 : n = 8
  · subst h8
    obtain ⟨y, hy⟩ : ∃ y, l[6]? = some y := ⟨_, List.getElem?_eq_getElem (by omega)⟩
    obtain ⟨h, hh⟩ : ∃ h, l[7]? = some h := ⟨_, List.getElem?_eq_getElem (by omega)⟩
    by_cases h1 : 1 < h
    · rw [rcR_none (recR_which hh h1)]
      exact rsparse_which A c l h w hb hh h1
    · have hk := rsparse_eight A c l _ y h w hb rfl hy hh (by omega) _ rfl
      cases hbal : balE (num (l.take 6) : Nat) (y : Nat) with
      | true =>
        rw [hbal] at hk
        rw [rcR_some (recR_yes hl hy hh (by omega) hbal)]
        exact hk
      | false =>
        rw [hbal] at hk
        rw [rcR_none (recR_bal hy hbal)]
        exact hk
  · rw [rcR_none (recR_len (by rw [hl]; exact h8))]
    exact rsparse_len A n c w h8
end Go.Proofs.YtejejadbemkifaaDoor
