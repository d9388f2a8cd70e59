/-
  Rows of 5, 11, 14 and 22 values that are stored whole; 11 values stored into one of two halves.
-/
import Derived.Test.YtejejadbemkifaaLSet
namespace Go.Proofs.Ytejejadbemkifaa
open Go Go.RowKit

theorem tower5 (w : World) (g : Nat) (x0 x1 x2 x3 x4 : Value) : (((((w.setCell ⟨g, 0, none⟩ (x0)).setCell ⟨g, 1, none⟩ (x1)).setCell ⟨g, 2, none⟩ (x2)).setCell ⟨g, 3, none⟩ (x3)).setCell ⟨g, 4, none⟩ (x4)) = setL w g 0 [x0, x1, x2, x3, x4] := by
  simp only [setL, Nat.zero_add, Nat.reduceAdd]
theorem arr5 (x0 x1 x2 x3 x4 z0 z1 z2 z3 z4 : Value) : setA #[z0, z1, z2, z3, z4] 0 [x0, x1, x2, x3, x4] = #[x0, x1, x2, x3, x4] := by
  simp only [setA, List.setIfInBounds_toArray, List.set_cons_zero, List.set_cons_succ, Nat.zero_add, Nat.reduceAdd]
theorem row5 {w : World} {g : Nat} {t : TypeId} {z0 z1 z2 z3 z4 : Value} (h : w.heap[g]? = some (.cells #[z0, z1, z2, z3, z4] t (0, 0))) (x0 x1 x2 x3 x4 : Value) :
    ((((((w.setCell ⟨g, 0, none⟩ (x0)).setCell ⟨g, 1, none⟩ (x1)).setCell ⟨g, 2, none⟩ (x2)).setCell ⟨g, 3, none⟩ (x3)).setCell ⟨g, 4, none⟩ (x4))).heap[g]? = some (.cells #[x0, x1, x2, x3, x4] t (0, 0)) := by
  rw [tower5]
  have h2 := row_setL [x0, x1, x2, x3, x4] w 0 _ h
  rw [arr5] at h2
  exact h2
theorem off5 {w : World} {g k : Nat} {ob : Obj} (h : w.heap[k]? = some ob) (hk : k ≠ g) (x0 x1 x2 x3 x4 : Value) : ((((((w.setCell ⟨g, 0, none⟩ (x0)).setCell ⟨g, 1, none⟩ (x1)).setCell ⟨g, 2, none⟩ (x2)).setCell ⟨g, 3, none⟩ (x3)).setCell ⟨g, 4, none⟩ (x4))).heap[k]? = some ob := by
  rw [tower5]
  exact off_setL h hk _ _
theorem ext5 {a w : World} (h : Ext a w) {g : Nat} (hg : a.heap.size ≤ g) (x0 x1 x2 x3 x4 : Value) : Ext a ((((((w.setCell ⟨g, 0, none⟩ (x0)).setCell ⟨g, 1, none⟩ (x1)).setCell ⟨g, 2, none⟩ (x2)).setCell ⟨g, 3, none⟩ (x3)).setCell ⟨g, 4, none⟩ (x4))) := by
  rw [tower5]
  exact ext_setL h hg _ _
theorem tower11 (w : World) (g : Nat) (x0 x1 x2 x3 x4 x5 x6 x7 x8 x9 x10 : Value) : (((((((((((w.setCell ⟨g, 0, none⟩ (x0)).setCell ⟨g, 1, none⟩ (x1)).setCell ⟨g, 2, none⟩ (x2)).setCell ⟨g, 3, none⟩ (x3)).setCell ⟨g, 4, none⟩ (x4)).setCell ⟨g, 5, none⟩ (x5)).setCell ⟨g, 6, none⟩ (x6)).setCell ⟨g, 7, none⟩ (x7)).setCell ⟨g, 8, none⟩ (x8)).setCell ⟨g, 9, none⟩ (x9)).setCell ⟨g, 10, none⟩ (x10)) = setL w g 0 [x0, x1, x2, x3, x4, x5, x6, x7, x8, x9, x10] := by
  simp only [setL, Nat.zero_add, Nat.reduceAdd]
theorem arr11 (x0 x1 x2 x3 x4 x5 x6 x7 x8 x9 x10 z0 z1 z2 z3 z4 z5 z6 z7 z8 z9 z10 : Value) : setA #[z0, z1, z2, z3, z4, z5, z6, z7, z8, z9, z10] 0 [x0, x1, x2, x3, x4, x5, x6, x7, x8, x9, x10] = #[x0, x1, x2, x3, x4, x5, x6, x7, x8, x9, x10] := by
  simp only [setA, List.setIfInBounds_toArray, List.set_cons_zero, List.set_cons_succ, Nat.zero_add, Nat.reduceAdd]
theorem row11 {w : World} {g : Nat} {t : TypeId} {z0 z1 z2 z3 z4 z5 z6 z7 z8 z9 z10 : Value} (h : w.heap[g]? = some (.cells #[z0, z1, z2, z3, z4, z5, z6, z7, z8, z9, z10] t (0, 0))) (x0 x1 x2 x3 x4 x5 x6 x7 x8 x9 x10 : Value) :
    ((((((((((((w.setCell ⟨g, 0, none⟩ (x0)).setCell ⟨g, 1, none⟩ (x1)).setCell ⟨g, 2, none⟩ (x2)).setCell ⟨g, 3, none⟩ (x3)).setCell ⟨g, 4, none⟩ (x4)).setCell ⟨g, 5, none⟩ (x5)).setCell ⟨g, 6, none⟩ (x6)).setCell ⟨g, 7, none⟩ (x7)).setCell ⟨g, 8, none⟩ (x8)).setCell ⟨g, 9, none⟩ (x9)).setCell ⟨g, 10, none⟩ (x10))).heap[g]? = some (.cells #[x0, x1, x2, x3, x4, x5, x6, x7, x8, x9, x10] t (0, 0)) := by
  rw [tower11]
  have h2 := row_setL [x0, x1, x2, x3, x4, x5, x6, x7, x8, x9, x10] w 0 _ h
  rw [arr11] at h2
  exact h2
theorem off11 {w : World} {g k : Nat} {ob : Obj} (h : w.heap[k]? = some ob) (hk : k ≠ g) (x0 x1 x2 x3 x4 x5 x6 x7 x8 x9 x10 : Value) : ((((((((((((w.setCell ⟨g, 0, none⟩ (x0)).setCell ⟨g, 1, none⟩ (x1)).setCell ⟨g, 2, none⟩ (x2)).setCell ⟨g, 3, none⟩ (x3)).setCell ⟨g, 4, none⟩ (x4)).setCell ⟨g, 5, none⟩ (x5)).setCell ⟨g, 6, none⟩ (x6)).setCell ⟨g, 7, none⟩ (x7)).setCell ⟨g, 8, none⟩ (x8)).setCell ⟨g, 9, none⟩ (x9)).setCell ⟨g, 10, none⟩ (x10))).heap[k]? = some ob := by
  rw [tower11]
  exact off_setL h hk _ _
theorem ext11 {a w : World} (h : Ext a w) {g : Nat} (hg : a.heap.size ≤ g) (x0 x1 x2 x3 x4 x5 x6 x7 x8 x9 x10 : Value) : Ext a ((((((((((((w.setCell ⟨g, 0, none⟩ (x0)).setCell ⟨g, 1, none⟩ (x1)).setCell ⟨g, 2, none⟩ (x2)).setCell ⟨g, 3, none⟩ (x3)).setCell ⟨g, 4, none⟩ (x4)).setCell ⟨g, 5, none⟩ (x5)).setCell ⟨g, 6, none⟩ (x6)).setCell ⟨g, 7, none⟩ (x7)).setCell ⟨g, 8, none⟩ (x8)).setCell ⟨g, 9, none⟩ (x9)).setCell ⟨g, 10, none⟩ (x10))) := by
  rw [tower11]
  exact ext_setL h hg _ _
theorem tower14 (w : World) (g : Nat) (x0 x1 x2 x3 x4 x5 x6 x7 x8 x9 x10 x11 x12 x13 : Value) : ((((((((((((((w.setCell ⟨g, 0, none⟩ (x0)).setCell ⟨g, 1, none⟩ (x1)).setCell ⟨g, 2, none⟩ (x2)).setCell ⟨g, 3, none⟩ (x3)).setCell ⟨g, 4, none⟩ (x4)).setCell ⟨g, 5, none⟩ (x5)).setCell ⟨g, 6, none⟩ (x6)).setCell ⟨g, 7, none⟩ (x7)).setCell ⟨g, 8, none⟩ (x8)).setCell ⟨g, 9, none⟩ (x9)).setCell ⟨g, 10, none⟩ (x10)).setCell ⟨g, 11, none⟩ (x11)).setCell ⟨g, 12, none⟩ (x12)).setCell ⟨g, 13, none⟩ (x13)) = setL w g 0 [x0, x1, x2, x3, x4, x5, x6, x7, x8, x9, x10, x11, x12, x13] := by
  simp only [setL, Nat.zero_add, Nat.reduceAdd]
theorem arr14 (x0 x1 x2 x3 x4 x5 x6 x7 x8 x9 x10 x11 x12 x13 z0 z1 z2 z3 z4 z5 z6 z7 z8 z9 z10 z11 z12 z13 : Value) : setA #[z0, z1, z2, z3, z4, z5, z6, z7, z8, z9, z10, z11, z12, z13] 0 [x0, x1, x2, x3, x4, x5, x6, x7, x8, x9, x10, x11, x12, x13] = #[x0, x1, x2, x3, x4, x5, x6, x7, x8, x9, x10, x11, x12, x13] := by
  simp only [setA, List.setIfInBounds_toArray, List.set_cons_zero, List.set_cons_succ, Nat.zero_add, Nat.reduceAdd]
theorem row14 {w : World} {g : Nat} {t : TypeId} {z0 z1 z2 z3 z4 z5 z6 z7 z8 z9 z10 z11 z12 z13 : Value} (h : w.heap[g]? = some (.cells #[z0, z1, z2, z3, z4, z5, z6, z7, z8, z9, z10, z11, z12, z13] t (0, 0))) (x0 x1 x2 x3 x4 x5 x6 x7 x8 x9 x10 x11 x12 x13 : Value) :
    (((((((((((((((w.setCell ⟨g, 0, none⟩ (x0)).setCell ⟨g, 1, none⟩ (x1)).setCell ⟨g, 2, none⟩ (x2)).setCell ⟨g, 3, none⟩ (x3)).setCell ⟨g, 4, none⟩ (x4)).setCell ⟨g, 5, none⟩ (x5)).setCell ⟨g, 6, none⟩ (x6)).setCell ⟨g, 7, none⟩ (x7)).setCell ⟨g, 8, none⟩ (x8)).setCell ⟨g, 9, none⟩ (x9)).setCell ⟨g, 10, none⟩ (x10)).setCell ⟨g, 11, none⟩ (x11)).setCell ⟨g, 12, none⟩ (x12)).setCell ⟨g, 13, none⟩ (x13))).heap[g]? = some (.cells #[x0, x1, x2, x3, x4, x5, x6, x7, x8, x9, x10, x11, x12, x13] t (0, 0)) := by
  rw [tower14]
  have h2 := row_setL [x0, x1, x2, x3, x4, x5, x6, x7, x8, x9, x10, x11, x12, x13] w 0 _ h
  rw [arr14] at h2
  exact h2
theorem off14 {w : World} {g k : Nat} {ob : Obj} (h : w.heap[k]? = some ob) (hk : k ≠ g) (x0 x1 x2 x3 x4 x5 x6 x7 x8 x9 x10 x11 x12 x13 : Value) : (((((((((((((((w.setCell ⟨g, 0, none⟩ (x0)).setCell ⟨g, 1, none⟩ (x1)).setCell ⟨g, 2, none⟩ (x2)).setCell ⟨g, 3, none⟩ (x3)).setCell ⟨g, 4, none⟩ (x4)).setCell ⟨g, 5, none⟩ (x5)).setCell ⟨g, 6, none⟩ (x6)).setCell ⟨g, 7, none⟩ (x7)).setCell ⟨g, 8, none⟩ (x8)).setCell ⟨g, 9, none⟩ (x9)).setCell ⟨g, 10, none⟩ (x10)).setCell ⟨g, 11, none⟩ (x11)).setCell ⟨g, 12, none⟩ (x12)).setCell ⟨g, 13, none⟩ (x13))).heap[k]? = some ob := by
  rw [tower14]
  exact off_setL h hk _ _
theorem ext14 {a w : World} (h : Ext a w) {g : Nat} (hg : a.heap.size ≤ g) (x0 x1 x2 x3 x4 x5 x6 x7 x8 x9 x10 x11 x12 x13 : Value) : Ext a (((((((((((((((w.setCell ⟨g, 0, none⟩ (x0)).setCell ⟨g, 1, none⟩ (x1)).setCell ⟨g, 2, none⟩ (x2)).setCell ⟨g, 3, none⟩ (x3)).setCell ⟨g, 4, none⟩ (x4)).setCell ⟨g, 5, none⟩ (x5)).setCell ⟨g, 6, none⟩ (x6)).setCell ⟨g, 7, none⟩ (x7)).setCell ⟨g, 8, none⟩ (x8)).setCell ⟨g, 9, none⟩ (x9)).setCell ⟨g, 10, none⟩ (x10)).setCell ⟨g, 11, none⟩ (x11)).setCell ⟨g, 12, none⟩ (x12)).setCell ⟨g, 13, none⟩ (x13))) := by
  rw [tower14]
  exact ext_setL h hg _ _
theorem tower22 (w : World) (g : Nat) (x0 x1 x2 x3 x4 x5 x6 x7 x8 x9 x10 x11 x12 x13 x14 x15 x16 x17 x18 x19 x20 x21 : Value) : ((((((((((((((((((((((w.setCell ⟨g, 0, none⟩ (x0)).setCell ⟨g, 1, none⟩ (x1)).setCell ⟨g, 2, none⟩ (x2)).setCell ⟨g, 3, none⟩ (x3)).setCell ⟨g, 4, none⟩ (x4)).setCell ⟨g, 5, none⟩ (x5)).setCell ⟨g, 6, none⟩ (x6)).setCell ⟨g, 7, none⟩ (x7)).setCell ⟨g, 8, none⟩ (x8)).setCell ⟨g, 9, none⟩ (x9)).setCell ⟨g, 10, none⟩ (x10)).setCell ⟨g, 11, none⟩ (x11)).setCell ⟨g, 12, none⟩ (x12)).setCell ⟨g, 13, none⟩ (x13)).setCell ⟨g, 14, none⟩ (x14)).setCell ⟨g, 15, none⟩ (x15)).setCell ⟨g, 16, none⟩ (x16)).setCell ⟨g, 17, none⟩ (x17)).setCell ⟨g, 18, none⟩ (x18)).setCell ⟨g, 19, none⟩ (x19)).setCell ⟨g, 20, none⟩ (x20)).setCell ⟨g, 21, none⟩ (x21)) = setL w g 0 [x0, x1, x2, x3, x4, x5, x6, x7, x8, x9, x10, x11, x12, x13, x14, x15, x16, x17, x18, x19, x20, x21] := by
  simp only [setL, Nat.zero_add, Nat.reduceAdd]
theorem arr22 (x0 x1 x2 x3 x4 x5 x6 x7 x8 x9 x10 x11 x12 x13 x14 x15 x16 x17 x18 x19 x20 x21 z0 z1 z2 z3 z4 z5 z6 z7 z8 z9 z10 z11 z12 z13 z14 z15 z16 z17 z18 z19 z20 z21 : Value) : setA #[z0, z1, z2, z3, z4, z5, z6, z7, z8, z9, z10, z11, z12, z13, z14, z15, z16, z17, z18, z19, z20, z21] 0 [x0, x1, x2, x3, x4, x5, x6, x7, x8, x9, x10, x11, x12, x13, x14, x15, x16, x17, x18, x19, x20, x21] = #[x0, x1, x2, x3, x4, x5, x6, x7, x8, x9, x10, x11, x12, x13, x14, x15, x16, x17, x18, x19, x20, x21] := by
  simp only [setA, List.setIfInBounds_toArray, List.set_cons_zero, List.set_cons_succ, Nat.zero_add, Nat.reduceAdd]
theorem row22 {w : World} {g : Nat} {t : TypeId} {z0 z1 z2 z3 z4 z5 z6 z7 z8 z9 z10 z11 z12 z13 z14 z15 z16 z17 z18 z19 z20 z21 : Value} (h : w.heap[g]? = some (.cells #[z0, z1, z2, z3, z4, z5, z6, z7, z8, z9, z10, z11, z12, z13, z14, z15, z16, z17, z18, z19, z20, z21] t (0, 0))) (x0 x1 x2 x3 x4 x5 x6 x7 x8 x9 x10 x11 x12 x13 x14 x15 x16 x17 x18 x19 x20 x21 : Value) :
    (((((((((((((((((((((((w.setCell ⟨g, 0, none⟩ (x0)).setCell ⟨g, 1, none⟩ (x1)).setCell ⟨g, 2, none⟩ (x2)).setCell ⟨g, 3, none⟩ (x3)).setCell ⟨g, 4, none⟩ (x4)).setCell ⟨g, 5, none⟩ (x5)).setCell ⟨g, 6, none⟩ (x6)).setCell ⟨g, 7, none⟩ (x7)).setCell ⟨g, 8, none⟩ (x8)).setCell ⟨g, 9, none⟩ (x9)).setCell ⟨g, 10, none⟩ (x10)).setCell ⟨g, 11, none⟩ (x11)).setCell ⟨g, 12, none⟩ (x12)).setCell ⟨g, 13, none⟩ (x13)).setCell ⟨g, 14, none⟩ (x14)).setCell ⟨g, 15, none⟩ (x15)).setCell ⟨g, 16, none⟩ (x16)).setCell ⟨g, 17, none⟩ (x17)).setCell ⟨g, 18, none⟩ (x18)).setCell ⟨g, 19, none⟩ (x19)).setCell ⟨g, 20, none⟩ (x20)).setCell ⟨g, 21, none⟩ (x21))).heap[g]? = some (.cells #[x0, x1, x2, x3, x4, x5, x6, x7, x8, x9, x10, x11, x12, x13, x14, x15, x16, x17, x18, x19, x20, x21] t (0, 0)) := by
  rw [tower22]
  have h2 := row_setL [x0, x1, x2, x3, x4, x5, x6, x7, x8, x9, x10, x11, x12, x13, x14, x15, x16, x17, x18, x19, x20, x21] w 0 _ h
  rw [arr22] at h2
  exact h2
theorem off22 {w : World} {g k : Nat} {ob : Obj} (h : w.heap[k]? = some ob) (hk : k ≠ g) (x0 x1 x2 x3 x4 x5 x6 x7 x8 x9 x10 x11 x12 x13 x14 x15 x16 x17 x18 x19 x20 x21 : Value) : (((((((((((((((((((((((w.setCell ⟨g, 0, none⟩ (x0)).setCell ⟨g, 1, none⟩ (x1)).setCell ⟨g, 2, none⟩ (x2)).setCell ⟨g, 3, none⟩ (x3)).setCell ⟨g, 4, none⟩ (x4)).setCell ⟨g, 5, none⟩ (x5)).setCell ⟨g, 6, none⟩ (x6)).setCell ⟨g, 7, none⟩ (x7)).setCell ⟨g, 8, none⟩ (x8)).setCell ⟨g, 9, none⟩ (x9)).setCell ⟨g, 10, none⟩ (x10)).setCell ⟨g, 11, none⟩ (x11)).setCell ⟨g, 12, none⟩ (x12)).setCell ⟨g, 13, none⟩ (x13)).setCell ⟨g, 14, none⟩ (x14)).setCell ⟨g, 15, none⟩ (x15)).setCell ⟨g, 16, none⟩ (x16)).setCell ⟨g, 17, none⟩ (x17)).setCell ⟨g, 18, none⟩ (x18)).setCell ⟨g, 19, none⟩ (x19)).setCell ⟨g, 20, none⟩ (x20)).setCell ⟨g, 21, none⟩ (x21))).heap[k]? = some ob := by
  rw [tower22]
  exact off_setL h hk _ _
theorem ext22 {a w : World} (h : Ext a w) {g : Nat} (hg : a.heap.size ≤ g) (x0 x1 x2 x3 x4 x5 x6 x7 x8 x9 x10 x11 x12 x13 x14 x15 x16 x17 x18 x19 x20 x21 : Value) : Ext a (((((((((((((((((((((((w.setCell ⟨g, 0, none⟩ (x0)).setCell ⟨g, 1, none⟩ (x1)).setCell ⟨g, 2, none⟩ (x2)).setCell ⟨g, 3, none⟩ (x3)).setCell ⟨g, 4, none⟩ (x4)).setCell ⟨g, 5, none⟩ (x5)).setCell ⟨g, 6, none⟩ (x6)).setCell ⟨g, 7, none⟩ (x7)).setCell ⟨g, 8, none⟩ (x8)).setCell ⟨g, 9, none⟩ (x9)).setCell ⟨g, 10, none⟩ (x10)).setCell ⟨g, 11, none⟩ (x11)).setCell ⟨g, 12, none⟩ (x12)).setCell ⟨g, 13, none⟩ (x13)).setCell ⟨g, 14, none⟩ (x14)).setCell ⟨g, 15, none⟩ (x15)).setCell ⟨g, 16, none⟩ (x16)).setCell ⟨g, 17, none⟩ (x17)).setCell ⟨g, 18, none⟩ (x18)).setCell ⟨g, 19, none⟩ (x19)).setCell ⟨g, 20, none⟩ (x20)).setCell ⟨g, 21, none⟩ (x21))) := by
  rw [tower22]
  exact ext_setL h hg _ _
theorem tower11a (w : World) (g : Nat) (x0 x1 x2 x3 x4 x5 x6 x7 x8 x9 x10 : Value) : (((((((((((w.setCell ⟨g, 0, none⟩ (x0)).setCell ⟨g, 1, none⟩ (x1)).setCell ⟨g, 2, none⟩ (x2)).setCell ⟨g, 3, none⟩ (x3)).setCell ⟨g, 4, none⟩ (x4)).setCell ⟨g, 5, none⟩ (x5)).setCell ⟨g, 6, none⟩ (x6)).setCell ⟨g, 7, none⟩ (x7)).setCell ⟨g, 8, none⟩ (x8)).setCell ⟨g, 9, none⟩ (x9)).setCell ⟨g, 10, none⟩ (x10)) = setL w g 0 [x0, x1, x2, x3, x4, x5, x6, x7, x8, x9, x10] := by
  simp only [setL, Nat.zero_add, Nat.reduceAdd]
theorem arr11a (x0 x1 x2 x3 x4 x5 x6 x7 x8 x9 x10 z0 z1 z2 z3 z4 z5 z6 z7 z8 z9 z10 z11 z12 z13 z14 z15 z16 z17 z18 z19 z20 z21 : Value) : setA #[z0, z1, z2, z3, z4, z5, z6, z7, z8, z9, z10, z11, z12, z13, z14, z15, z16, z17, z18, z19, z20, z21] 0 [x0, x1, x2, x3, x4, x5, x6, x7, x8, x9, x10] = #[x0, x1, x2, x3, x4, x5, x6, x7, x8, x9, x10, z11, z12, z13, z14, z15, z16, z17, z18, z19, z20, z21] := by
  simp only [setA, List.setIfInBounds_toArray, List.set_cons_zero, List.set_cons_succ, Nat.zero_add, Nat.reduceAdd]
theorem row11a {w : World} {g : Nat} {t : TypeId} {z0 z1 z2 z3 z4 z5 z6 z7 z8 z9 z10 z11 z12 z13 z14 z15 z16 z17 z18 z19 z20 z21 : Value} (h : w.heap[g]? = some (.cells #[z0, z1, z2, z3, z4, z5, z6, z7, z8, z9, z10, z11, z12, z13, z14, z15, z16, z17, z18, z19, z20, z21] t (0, 0))) (x0 x1 x2 x3 x4 x5 x6 x7 x8 x9 x10 : Value) :
    ((((((((((((w.setCell ⟨g, 0, none⟩ (x0)).setCell ⟨g, 1, none⟩ (x1)).setCell ⟨g, 2, none⟩ (x2)).setCell ⟨g, 3, none⟩ (x3)).setCell ⟨g, 4, none⟩ (x4)).setCell ⟨g, 5, none⟩ (x5)).setCell ⟨g, 6, none⟩ (x6)).setCell ⟨g, 7, none⟩ (x7)).setCell ⟨g, 8, none⟩ (x8)).setCell ⟨g, 9, none⟩ (x9)).setCell ⟨g, 10, none⟩ (x10))).heap[g]? = some (.cells #[x0, x1, x2, x3, x4, x5, x6, x7, x8, x9, x10, z11, z12, z13, z14, z15, z16, z17, z18, z19, z20, z21] t (0, 0)) := by
  rw [tower11a]
  have h2 := row_setL [x0, x1, x2, x3, x4, x5, x6, x7, x8, x9, x10] w 0 _ h
  rw [arr11a] at h2
  exact h2
theorem off11a {w : World} {g k : Nat} {ob : Obj} (h : w.heap[k]? = some ob) (hk : k ≠ g) (x0 x1 x2 x3 x4 x5 x6 x7 x8 x9 x10 : Value) : ((((((((((((w.setCell ⟨g, 0, none⟩ (x0)).setCell ⟨g, 1, none⟩ (x1)).setCell ⟨g, 2, none⟩ (x2)).setCell ⟨g, 3, none⟩ (x3)).setCell ⟨g, 4, none⟩ (x4)).setCell ⟨g, 5, none⟩ (x5)).setCell ⟨g, 6, none⟩ (x6)).setCell ⟨g, 7, none⟩ (x7)).setCell ⟨g, 8, none⟩ (x8)).setCell ⟨g, 9, none⟩ (x9)).setCell ⟨g, 10, none⟩ (x10))).heap[k]? = some ob := by
  rw [tower11a]
  exact off_setL h hk _ _
theorem ext11a {a w : World} (h : Ext a w) {g : Nat} (hg : a.heap.size ≤ g) (x0 x1 x2 x3 x4 x5 x6 x7 x8 x9 x10 : Value) : Ext a ((((((((((((w.setCell ⟨g, 0, none⟩ (x0)).setCell ⟨g, 1, none⟩ (x1)).setCell ⟨g, 2, none⟩ (x2)).setCell ⟨g, 3, none⟩ (x3)).setCell ⟨g, 4, none⟩ (x4)).setCell ⟨g, 5, none⟩ (x5)).setCell ⟨g, 6, none⟩ (x6)).setCell ⟨g, 7, none⟩ (x7)).setCell ⟨g, 8, none⟩ (x8)).setCell ⟨g, 9, none⟩ (x9)).setCell ⟨g, 10, none⟩ (x10))) := by
  rw [tower11a]
  exact ext_setL h hg _ _
theorem tower11b (w : World) (g : Nat) (x0 x1 x2 x3 x4 x5 x6 x7 x8 x9 x10 : Value) : (((((((((((w.setCell ⟨g, 11, none⟩ (x0)).setCell ⟨g, 12, none⟩ (x1)).setCell ⟨g, 13, none⟩ (x2)).setCell ⟨g, 14, none⟩ (x3)).setCell ⟨g, 15, none⟩ (x4)).setCell ⟨g, 16, none⟩ (x5)).setCell ⟨g, 17, none⟩ (x6)).setCell ⟨g, 18, none⟩ (x7)).setCell ⟨g, 19, none⟩ (x8)).setCell ⟨g, 20, none⟩ (x9)).setCell ⟨g, 21, none⟩ (x10)) = setL w g 11 [x0, x1, x2, x3, x4, x5, x6, x7, x8, x9, x10] := by
  simp only [setL, Nat.reduceAdd]
theorem arr11b (x0 x1 x2 x3 x4 x5 x6 x7 x8 x9 x10 z0 z1 z2 z3 z4 z5 z6 z7 z8 z9 z10 z11 z12 z13 z14 z15 z16 z17 z18 z19 z20 z21 : Value) : setA #[z0, z1, z2, z3, z4, z5, z6, z7, z8, z9, z10, z11, z12, z13, z14, z15, z16, z17, z18, z19, z20, z21] 11 [x0, x1, x2, x3, x4, x5, x6, x7, x8, x9, x10] = #[z0, z1, z2, z3, z4, z5, z6, z7, z8, z9, z10, x0, x1, x2, x3, x4, x5, x6, x7, x8, x9, x10] := by
  simp only [setA, List.setIfInBounds_toArray, List.set_cons_zero, List.set_cons_succ, Nat.reduceAdd]
theorem row11b {w : World} {g : Nat} {t : TypeId} {z0 z1 z2 z3 z4 z5 z6 z7 z8 z9 z10 z11 z12 z13 z14 z15 z16 z17 z18 z19 z20 z21 : Value} (h : w.heap[g]? = some (.cells #[z0, z1, z2, z3, z4, z5, z6, z7, z8, z9, z10, z11, z12, z13, z14, z15, z16, z17, z18, z19, z20, z21] t (0, 0))) (x0 x1 x2 x3 x4 x5 x6 x7 x8 x9 x10 : Value) :
    ((((((((((((w.setCell ⟨g, 11, none⟩ (x0)).setCell ⟨g, 12, none⟩ (x1)).setCell ⟨g, 13, none⟩ (x2)).setCell ⟨g, 14, none⟩ (x3)).setCell ⟨g, 15, none⟩ (x4)).setCell ⟨g, 16, none⟩ (x5)).setCell ⟨g, 17, none⟩ (x6)).setCell ⟨g, 18, none⟩ (x7)).setCell ⟨g, 19, none⟩ (x8)).setCell ⟨g, 20, none⟩ (x9)).setCell ⟨g, 21, none⟩ (x10))).heap[g]? = some (.cells #[z0, z1, z2, z3, z4, z5, z6, z7, z8, z9, z10, x0, x1, x2, x3, x4, x5, x6, x7, x8, x9, x10] t (0, 0)) := by
  rw [tower11b]
  have h2 := row_setL [x0, x1, x2, x3, x4, x5, x6, x7, x8, x9, x10] w 11 _ h
  rw [arr11b] at h2
  exact h2
theorem off11b {w : World} {g k : Nat} {ob : Obj} (h : w.heap[k]? = some ob) (hk : k ≠ g) (x0 x1 x2 x3 x4 x5 x6 x7 x8 x9 x10 : Value) : ((((((((((((w.setCell ⟨g, 11, none⟩ (x0)).setCell ⟨g, 12, none⟩ (x1)).setCell ⟨g, 13, none⟩ (x2)).setCell ⟨g, 14, none⟩ (x3)).setCell ⟨g, 15, none⟩ (x4)).setCell ⟨g, 16, none⟩ (x5)).setCell ⟨g, 17, none⟩ (x6)).setCell ⟨g, 18, none⟩ (x7)).setCell ⟨g, 19, none⟩ (x8)).setCell ⟨g, 20, none⟩ (x9)).setCell ⟨g, 21, none⟩ (x10))).heap[k]? = some ob := by
  rw [tower11b]
  exact off_setL h hk _ _
theorem ext11b {a w : World} (h : Ext a w) {g : Nat} (hg : a.heap.size ≤ g) (x0 x1 x2 x3 x4 x5 x6 x7 x8 x9 x10 : Value) : Ext a ((((((((((((w.setCell ⟨g, 11, none⟩ (x0)).setCell ⟨g, 12, none⟩ (x1)).setCell ⟨g, 13, none⟩ (x2)).setCell ⟨g, 14, none⟩ (x3)).setCell ⟨g, 15, none⟩ (x4)).setCell ⟨g, 16, none⟩ (x5)).setCell ⟨g, 17, none⟩ (x6)).setCell ⟨g, 18, none⟩ (x7)).setCell ⟨g, 19, none⟩ (x8)).setCell ⟨g, 20, none⟩ (x9)).setCell ⟨g, 21, none⟩ (x10))) := by
  rw [tower11b]
  exact ext_setL h hg _ _
end Go.Proofs.Ytejejadbemkifaa
