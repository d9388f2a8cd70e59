/-
  Rows of 5, 11, 14 and 22 values that are stored whole; 11 values stored into one of two halves.
  What slot's applying stands on; which rule applies, in plain words.
  The contract of a rule's use: by which frame a slot is intact. (The drawn regions are walked operation by operation: tools/genluse.py.)
-/
import Derived.Test.YtejejadbemkifaaS03
import Derived.Deep.DeepCutAuto
import Derived.Laws.EntriesVeiled
import Derived.Deep.MidRow
namespace Go.Proofs.Ytejejadbemkifaa
set_option maxRecDepth 100000
open Go Go.RowKit

theorem tower5 (w : World) (g : Nat) (x0 x1 x2 x3 x4 : Value) : (((((w.setCell ⟨g, 0, none⟩ (x0)).setCell ⟨g, 1, none⟩ (x1)).setCell ⟨g, 2, none⟩ (x2)).setCell ⟨g, 3, none⟩ (x3)).setCell ⟨g, 4, none⟩ (x4)) = setL w g 0 [x0, x1, x2, x3, x4] := by
  simp only [setL, Nat.zero_add, Nat.reduceAdd]
theorem arr5 (x0 x1 x2 x3 x4 z0 z1 z2 z3 z4 : Value) : setA #[z0, z1, z2, z3, z4] 0 [x0, x1, x2, x3, x4] = #[x0, x1, x2, x3, x4] := by
  simp only [setA, List.setIfInBounds_toArray, List.set_cons_zero, List.set_cons_succ, Nat.zero_add, Nat.reduceAdd]
theorem row5 {w : World} {g : Nat} {t : TypeId} {z0 z1 z2 z3 z4 : Value} (h : w.heap[g]? = some (.cells #[z0, z1, z2, z3, z4] t (0, 0))) (x0 x1 x2 x3 x4 : Value) :
    ((((((w.setCell ⟨g, 0, none⟩ (x0)).setCell ⟨g, 1, none⟩ (x1)).setCell ⟨g, 2, none⟩ (x2)).setCell ⟨g, 3, none⟩ (x3)).setCell ⟨g, 4, none⟩ (x4))).heap[g]? = some (.cells #[x0, x1, x2, x3, x4] t (0, 0)) := by
  rw [tower5]
  have h2 := row_setL [x0, x1, x2, x3, x4] w 0 _ h
  rw [arr5] at h2
  exact h2
theorem off5 {w : World} {g k : Nat} {ob : Obj} (h : w.heap[k]? = some ob) (hk : k ≠ g) (x0 x1 x2 x3 x4 : Value) : ((((((w.setCell ⟨g, 0, none⟩ (x0)).setCell ⟨g, 1, none⟩ (x1)).setCell ⟨g, 2, none⟩ (x2)).setCell ⟨g, 3, none⟩ (x3)).setCell ⟨g, 4, none⟩ (x4))).heap[k]? = some ob := by
  rw [tower5]
  exact off_setL h hk _ _
theorem ext5 {a w : World} (h : Ext a w) {g : Nat} (hg : a.heap.size ≤ g) (x0 x1 x2 x3 x4 : Value) : Ext a ((((((w.setCell ⟨g, 0, none⟩ (x0)).setCell ⟨g, 1, none⟩ (x1)).setCell ⟨g, 2, none⟩ (x2)).setCell ⟨g, 3, none⟩ (x3)).setCell ⟨g, 4, none⟩ (x4))) := by
  rw [tower5]
  exact ext_setL h hg _ _
theorem tower11 (w : World) (g : Nat) (x0 x1 x2 x3 x4 x5 x6 x7 x8 x9 x10 : Value) : (((((((((((w.setCell ⟨g, 0, none⟩ (x0)).setCell ⟨g, 1, none⟩ (x1)).setCell ⟨g, 2, none⟩ (x2)).setCell ⟨g, 3, none⟩ (x3)).setCell ⟨g, 4, none⟩ (x4)).setCell ⟨g, 5, none⟩ (x5)).setCell ⟨g, 6, none⟩ (x6)).setCell ⟨g, 7, none⟩ (x7)).setCell ⟨g, 8, none⟩ (x8)).setCell ⟨g, 9, none⟩ (x9)).setCell ⟨g, 10, none⟩ (x10)) = setL w g 0 [x0, x1, x2, x3, x4, x5, x6, x7, x8, x9, x10] := by
  simp only [setL, Nat.zero_add, Nat.reduceAdd]
theorem arr11 (x0 x1 x2 x3 x4 x5 x6 x7 x8 x9 x10 z0 z1 z2 z3 z4 z5 z6 z7 z8 z9 z10 : Value) : setA #[z0, z1, z2, z3, z4, z5, z6, z7, z8, z9, z10] 0 [x0, x1, x2, x3, x4, x5, x6, x7, x8, x9, x10] = #[x0, x1, x2, x3, x4, x5, x6, x7, x8, x9, x10] := by
  simp only [setA, List.setIfInBounds_toArray, List.set_cons_zero, List.set_cons_succ, Nat.zero_add, Nat.reduceAdd]
theorem row11 {w : World} {g : Nat} {t : TypeId} {z0 z1 z2 z3 z4 z5 z6 z7 z8 z9 z10 : Value} (h : w.heap[g]? = some (.cells #[z0, z1, z2, z3, z4, z5, z6, z7, z8, z9, z10] t (0, 0))) (x0 x1 x2 x3 x4 x5 x6 x7 x8 x9 x10 : Value) :
    ((((((((((((w.setCell ⟨g, 0, none⟩ (x0)).setCell ⟨g, 1, none⟩ (x1)).setCell ⟨g, 2, none⟩ (x2)).setCell ⟨g, 3, none⟩ (x3)).setCell ⟨g, 4, none⟩ (x4)).setCell ⟨g, 5, none⟩ (x5)).setCell ⟨g, 6, none⟩ (x6)).setCell ⟨g, 7, none⟩ (x7)).setCell ⟨g, 8, none⟩ (x8)).setCell ⟨g, 9, none⟩ (x9)).setCell ⟨g, 10, none⟩ (x10))).heap[g]? = some (.cells #[x0, x1, x2, x3, x4, x5, x6, x7, x8, x9, x10] t (0, 0)) := by
  rw [tower11]
  have h2 := row_setL [x0, x1, x2, x3, x4, x5, x6, x7, x8, x9, x10] w 0 _ h
  rw [arr11] at h2
  exact h2
theorem off11 {w : World} {g k : Nat} {ob : Obj} (h : w.heap[k]? = some ob) (hk : k ≠ g) (x0 x1 x2 x3 x4 x5 x6 x7 x8 x9 x10 : Value) : ((((((((((((w.setCell ⟨g, 0, none⟩ (x0)).setCell ⟨g, 1, none⟩ (x1)).setCell ⟨g, 2, none⟩ (x2)).setCell ⟨g, 3, none⟩ (x3)).setCell ⟨g, 4, none⟩ (x4)).setCell ⟨g, 5, none⟩ (x5)).setCell ⟨g, 6, none⟩ (x6)).setCell ⟨g, 7, none⟩ (x7)).setCell ⟨g, 8, none⟩ (x8)).setCell ⟨g, 9, none⟩ (x9)).setCell ⟨g, 10, none⟩ (x10))).heap[k]? = some ob := by
  rw [tower11]
  exact off_setL h hk _ _
theorem ext11 {a w : World} (h : Ext a w) {g : Nat} (hg : a.heap.size ≤ g) (x0 x1 x2 x3 x4 x5 x6 x7 x8 x9 x10 : Value) : Ext a ((((((((((((w.setCell ⟨g, 0, none⟩ (x0)).setCell ⟨g, 1, none⟩ (x1)).setCell ⟨g, 2, none⟩ (x2)).setCell ⟨g, 3, none⟩ (x3)).setCell ⟨g, 4, none⟩ (x4)).setCell ⟨g, 5, none⟩ (x5)).setCell ⟨g, 6, none⟩ (x6)).setCell ⟨g, 7, none⟩ (x7)).setCell ⟨g, 8, none⟩ (x8)).setCell ⟨g, 9, none⟩ (x9)).setCell ⟨g, 10, none⟩ (x10))) := by
  rw [tower11]
  exact ext_setL h hg _ _
theorem tower14 (w : World) (g : Nat) (x0 x1 x2 x3 x4 x5 x6 x7 x8 x9 x10 x11 x12 x13 : Value) : ((((((((((((((w.setCell ⟨g, 0, none⟩ (x0)).setCell ⟨g, 1, none⟩ (x1)).setCell ⟨g, 2, none⟩ (x2)).setCell ⟨g, 3, none⟩ (x3)).setCell ⟨g, 4, none⟩ (x4)).setCell ⟨g, 5, none⟩ (x5)).setCell ⟨g, 6, none⟩ (x6)).setCell ⟨g, 7, none⟩ (x7)).setCell ⟨g, 8, none⟩ (x8)).setCell ⟨g, 9, none⟩ (x9)).setCell ⟨g, 10, none⟩ (x10)).setCell ⟨g, 11, none⟩ (x11)).setCell ⟨g, 12, none⟩ (x12)).setCell ⟨g, 13, none⟩ (x13)) = setL w g 0 [x0, x1, x2, x3, x4, x5, x6, x7, x8, x9, x10, x11, x12, x13] := by
  simp only [setL, Nat.zero_add, Nat.reduceAdd]
theorem arr14 (x0 x1 x2 x3 x4 x5 x6 x7 x8 x9 x10 x11 x12 x13 z0 z1 z2 z3 z4 z5 z6 z7 z8 z9 z10 z11 z12 z13 : Value) : setA #[z0, z1, z2, z3, z4, z5, z6, z7, z8, z9, z10, z11, z12, z13] 0 [x0, x1, x2, x3, x4, x5, x6, x7, x8, x9, x10, x11, x12, x13] = #[x0, x1, x2, x3, x4, x5, x6, x7, x8, x9, x10, x11, x12, x13] := by
  simp only [setA, List.setIfInBounds_toArray, List.set_cons_zero, List.set_cons_succ, Nat.zero_add, Nat.reduceAdd]
theorem row14 {w : World} {g : Nat} {t : TypeId} {z0 z1 z2 z3 z4 z5 z6 z7 z8 z9 z10 z11 z12 z13 : Value} (h : w.heap[g]? = some (.cells #[z0, z1, z2, z3, z4, z5, z6, z7, z8, z9, z10, z11, z12, z13] t (0, 0))) (x0 x1 x2 x3 x4 x5 x6 x7 x8 x9 x10 x11 x12 x13 : Value) :
    (((((((((((((((w.setCell ⟨g, 0, none⟩ (x0)).setCell ⟨g, 1, none⟩ (x1)).setCell ⟨g, 2, none⟩ (x2)).setCell ⟨g, 3, none⟩ (x3)).setCell ⟨g, 4, none⟩ (x4)).setCell ⟨g, 5, none⟩ (x5)).setCell ⟨g, 6, none⟩ (x6)).setCell ⟨g, 7, none⟩ (x7)).setCell ⟨g, 8, none⟩ (x8)).setCell ⟨g, 9, none⟩ (x9)).setCell ⟨g, 10, none⟩ (x10)).setCell ⟨g, 11, none⟩ (x11)).setCell ⟨g, 12, none⟩ (x12)).setCell ⟨g, 13, none⟩ (x13))).heap[g]? = some (.cells #[x0, x1, x2, x3, x4, x5, x6, x7, x8, x9, x10, x11, x12, x13] t (0, 0)) := by
  rw [tower14]
  have h2 := row_setL [x0, x1, x2, x3, x4, x5, x6, x7, x8, x9, x10, x11, x12, x13] w 0 _ h
  rw [arr14] at h2
  exact h2
theorem off14 {w : World} {g k : Nat} {ob : Obj} (h : w.heap[k]? = some ob) (hk : k ≠ g) (x0 x1 x2 x3 x4 x5 x6 x7 x8 x9 x10 x11 x12 x13 : Value) : (((((((((((((((w.setCell ⟨g, 0, none⟩ (x0)).setCell ⟨g, 1, none⟩ (x1)).setCell ⟨g, 2, none⟩ (x2)).setCell ⟨g, 3, none⟩ (x3)).setCell ⟨g, 4, none⟩ (x4)).setCell ⟨g, 5, none⟩ (x5)).setCell ⟨g, 6, none⟩ (x6)).setCell ⟨g, 7, none⟩ (x7)).setCell ⟨g, 8, none⟩ (x8)).setCell ⟨g, 9, none⟩ (x9)).setCell ⟨g, 10, none⟩ (x10)).setCell ⟨g, 11, none⟩ (x11)).setCell ⟨g, 12, none⟩ (x12)).setCell ⟨g, 13, none⟩ (x13))).heap[k]? = some ob := by
  rw [tower14]
  exact off_setL h hk _ _
theorem ext14 {a w : World} (h : Ext a w) {g : Nat} (hg : a.heap.size ≤ g) (x0 x1 x2 x3 x4 x5 x6 x7 x8 x9 x10 x11 x12 x13 : Value) : Ext a (((((((((((((((w.setCell ⟨g, 0, none⟩ (x0)).setCell ⟨g, 1, none⟩ (x1)).setCell ⟨g, 2, none⟩ (x2)).setCell ⟨g, 3, none⟩ (x3)).setCell ⟨g, 4, none⟩ (x4)).setCell ⟨g, 5, none⟩ (x5)).setCell ⟨g, 6, none⟩ (x6)).setCell ⟨g, 7, none⟩ (x7)).setCell ⟨g, 8, none⟩ (x8)).setCell ⟨g, 9, none⟩ (x9)).setCell ⟨g, 10, none⟩ (x10)).setCell ⟨g, 11, none⟩ (x11)).setCell ⟨g, 12, none⟩ (x12)).setCell ⟨g, 13, none⟩ (x13))) := by
  rw [tower14]
  exact ext_setL h hg _ _
theorem tower22 (w : World) (g : Nat) (x0 x1 x2 x3 x4 x5 x6 x7 x8 x9 x10 x11 x12 x13 x14 x15 x16 x17 x18 x19 x20 x21 : Value) : ((((((((((((((((((((((w.setCell ⟨g, 0, none⟩ (x0)).setCell ⟨g, 1, none⟩ (x1)).setCell ⟨g, 2, none⟩ (x2)).setCell ⟨g, 3, none⟩ (x3)).setCell ⟨g, 4, none⟩ (x4)).setCell ⟨g, 5, none⟩ (x5)).setCell ⟨g, 6, none⟩ (x6)).setCell ⟨g, 7, none⟩ (x7)).setCell ⟨g, 8, none⟩ (x8)).setCell ⟨g, 9, none⟩ (x9)).setCell ⟨g, 10, none⟩ (x10)).setCell ⟨g, 11, none⟩ (x11)).setCell ⟨g, 12, none⟩ (x12)).setCell ⟨g, 13, none⟩ (x13)).setCell ⟨g, 14, none⟩ (x14)).setCell ⟨g, 15, none⟩ (x15)).setCell ⟨g, 16, none⟩ (x16)).setCell ⟨g, 17, none⟩ (x17)).setCell ⟨g, 18, none⟩ (x18)).setCell ⟨g, 19, none⟩ (x19)).setCell ⟨g, 20, none⟩ (x20)).setCell ⟨g, 21, none⟩ (x21)) = setL w g 0 [x0, x1, x2, x3, x4, x5, x6, x7, x8, x9, x10, x11, x12, x13, x14, x15, x16, x17, x18, x19, x20, x21] := by
  simp only [setL, Nat.zero_add, Nat.reduceAdd]
theorem arr22 (x0 x1 x2 x3 x4 x5 x6 x7 x8 x9 x10 x11 x12 x13 x14 x15 x16 x17 x18 x19 x20 x21 z0 z1 z2 z3 z4 z5 z6 z7 z8 z9 z10 z11 z12 z13 z14 z15 z16 z17 z18 z19 z20 z21 : Value) : setA #[z0, z1, z2, z3, z4, z5, z6, z7, z8, z9, z10, z11, z12, z13, z14, z15, z16, z17, z18, z19, z20, z21] 0 [x0, x1, x2, x3, x4, x5, x6, x7, x8, x9, x10, x11, x12, x13, x14, x15, x16, x17, x18, x19, x20, x21] = #[x0, x1, x2, x3, x4, x5, x6, x7, x8, x9, x10, x11, x12, x13, x14, x15, x16, x17, x18, x19, x20, x21] := by
  simp only [setA, List.setIfInBounds_toArray, List.set_cons_zero, List.set_cons_succ, Nat.zero_add, Nat.reduceAdd]
theorem row22 {w : World} {g : Nat} {t : TypeId} {z0 z1 z2 z3 z4 z5 z6 z7 z8 z9 z10 z11 z12 z13 z14 z15 z16 z17 z18 z19 z20 z21 : Value} (h : w.heap[g]? = some (.cells #[z0, z1, z2, z3, z4, z5, z6, z7, z8, z9, z10, z11, z12, z13, z14, z15, z16, z17, z18, z19, z20, z21] t (0, 0))) (x0 x1 x2 x3 x4 x5 x6 x7 x8 x9 x10 x11 x12 x13 x14 x15 x16 x17 x18 x19 x20 x21 : Value) :
    (((((((((((((((((((((((w.setCell ⟨g, 0, none⟩ (x0)).setCell ⟨g, 1, none⟩ (x1)).setCell ⟨g, 2, none⟩ (x2)).setCell ⟨g, 3, none⟩ (x3)).setCell ⟨g, 4, none⟩ (x4)).setCell ⟨g, 5, none⟩ (x5)).setCell ⟨g, 6, none⟩ (x6)).setCell ⟨g, 7, none⟩ (x7)).setCell ⟨g, 8, none⟩ (x8)).setCell ⟨g, 9, none⟩ (x9)).setCell ⟨g, 10, none⟩ (x10)).setCell ⟨g, 11, none⟩ (x11)).setCell ⟨g, 12, none⟩ (x12)).setCell ⟨g, 13, none⟩ (x13)).setCell ⟨g, 14, none⟩ (x14)).setCell ⟨g, 15, none⟩ (x15)).setCell ⟨g, 16, none⟩ (x16)).setCell ⟨g, 17, none⟩ (x17)).setCell ⟨g, 18, none⟩ (x18)).setCell ⟨g, 19, none⟩ (x19)).setCell ⟨g, 20, none⟩ (x20)).setCell ⟨g, 21, none⟩ (x21))).heap[g]? = some (.cells #[x0, x1, x2, x3, x4, x5, x6, x7, x8, x9, x10, x11, x12, x13, x14, x15, x16, x17, x18, x19, x20, x21] t (0, 0)) := by
  rw [tower22]
  have h2 := row_setL [x0, x1, x2, x3, x4, x5, x6, x7, x8, x9, x10, x11, x12, x13, x14, x15, x16, x17, x18, x19, x20, x21] w 0 _ h
  rw [arr22] at h2
  exact h2
theorem off22 {w : World} {g k : Nat} {ob : Obj} (h : w.heap[k]? = some ob) (hk : k ≠ g) (x0 x1 x2 x3 x4 x5 x6 x7 x8 x9 x10 x11 x12 x13 x14 x15 x16 x17 x18 x19 x20 x21 : Value) : (((((((((((((((((((((((w.setCell ⟨g, 0, none⟩ (x0)).setCell ⟨g, 1, none⟩ (x1)).setCell ⟨g, 2, none⟩ (x2)).setCell ⟨g, 3, none⟩ (x3)).setCell ⟨g, 4, none⟩ (x4)).setCell ⟨g, 5, none⟩ (x5)).setCell ⟨g, 6, none⟩ (x6)).setCell ⟨g, 7, none⟩ (x7)).setCell ⟨g, 8, none⟩ (x8)).setCell ⟨g, 9, none⟩ (x9)).setCell ⟨g, 10, none⟩ (x10)).setCell ⟨g, 11, none⟩ (x11)).setCell ⟨g, 12, none⟩ (x12)).setCell ⟨g, 13, none⟩ (x13)).setCell ⟨g, 14, none⟩ (x14)).setCell ⟨g, 15, none⟩ (x15)).setCell ⟨g, 16, none⟩ (x16)).setCell ⟨g, 17, none⟩ (x17)).setCell ⟨g, 18, none⟩ (x18)).setCell ⟨g, 19, none⟩ (x19)).setCell ⟨g, 20, none⟩ (x20)).setCell ⟨g, 21, none⟩ (x21))).heap[k]? = some ob := by
  rw [tower22]
  exact off_setL h hk _ _
theorem ext22 {a w : World} (h : Ext a w) {g : Nat} (hg : a.heap.size ≤ g) (x0 x1 x2 x3 x4 x5 x6 x7 x8 x9 x10 x11 x12 x13 x14 x15 x16 x17 x18 x19 x20 x21 : Value) : Ext a (((((((((((((((((((((((w.setCell ⟨g, 0, none⟩ (x0)).setCell ⟨g, 1, none⟩ (x1)).setCell ⟨g, 2, none⟩ (x2)).setCell ⟨g, 3, none⟩ (x3)).setCell ⟨g, 4, none⟩ (x4)).setCell ⟨g, 5, none⟩ (x5)).setCell ⟨g, 6, none⟩ (x6)).setCell ⟨g, 7, none⟩ (x7)).setCell ⟨g, 8, none⟩ (x8)).setCell ⟨g, 9, none⟩ (x9)).setCell ⟨g, 10, none⟩ (x10)).setCell ⟨g, 11, none⟩ (x11)).setCell ⟨g, 12, none⟩ (x12)).setCell ⟨g, 13, none⟩ (x13)).setCell ⟨g, 14, none⟩ (x14)).setCell ⟨g, 15, none⟩ (x15)).setCell ⟨g, 16, none⟩ (x16)).setCell ⟨g, 17, none⟩ (x17)).setCell ⟨g, 18, none⟩ (x18)).setCell ⟨g, 19, none⟩ (x19)).setCell ⟨g, 20, none⟩ (x20)).setCell ⟨g, 21, none⟩ (x21))) := by
  rw [tower22]
  exact ext_setL h hg _ _
theorem tower11a (w : World) (g : Nat) (x0 x1 x2 x3 x4 x5 x6 x7 x8 x9 x10 : Value) : (((((((((((w.setCell ⟨g, 0, none⟩ (x0)).setCell ⟨g, 1, none⟩ (x1)).setCell ⟨g, 2, none⟩ (x2)).setCell ⟨g, 3, none⟩ (x3)).setCell ⟨g, 4, none⟩ (x4)).setCell ⟨g, 5, none⟩ (x5)).setCell ⟨g, 6, none⟩ (x6)).setCell ⟨g, 7, none⟩ (x7)).setCell ⟨g, 8, none⟩ (x8)).setCell ⟨g, 9, none⟩ (x9)).setCell ⟨g, 10, none⟩ (x10)) = setL w g 0 [x0, x1, x2, x3, x4, x5, x6, x7, x8, x9, x10] := by
  simp only [setL, Nat.zero_add, Nat.reduceAdd]
theorem arr11a (x0 x1 x2 x3 x4 x5 x6 x7 x8 x9 x10 z0 z1 z2 z3 z4 z5 z6 z7 z8 z9 z10 z11 z12 z13 z14 z15 z16 z17 z18 z19 z20 z21 : Value) : setA #[z0, z1, z2, z3, z4, z5, z6, z7, z8, z9, z10, z11, z12, z13, z14, z15, z16, z17, z18, z19, z20, z21] 0 [x0, x1, x2, x3, x4, x5, x6, x7, x8, x9, x10] = #[x0, x1, x2, x3, x4, x5, x6, x7, x8, x9, x10, z11, z12, z13, z14, z15, z16, z17, z18, z19, z20, z21] := by
  simp only [setA, List.setIfInBounds_toArray, List.set_cons_zero, List.set_cons_succ, Nat.zero_add, Nat.reduceAdd]
theorem row11a {w : World} {g : Nat} {t : TypeId} {z0 z1 z2 z3 z4 z5 z6 z7 z8 z9 z10 z11 z12 z13 z14 z15 z16 z17 z18 z19 z20 z21 : Value} (h : w.heap[g]? = some (.cells #[z0, z1, z2, z3, z4, z5, z6, z7, z8, z9, z10, z11, z12, z13, z14, z15, z16, z17, z18, z19, z20, z21] t (0, 0))) (x0 x1 x2 x3 x4 x5 x6 x7 x8 x9 x10 : Value) :
    ((((((((((((w.setCell ⟨g, 0, none⟩ (x0)).setCell ⟨g, 1, none⟩ (x1)).setCell ⟨g, 2, none⟩ (x2)).setCell ⟨g, 3, none⟩ (x3)).setCell ⟨g, 4, none⟩ (x4)).setCell ⟨g, 5, none⟩ (x5)).setCell ⟨g, 6, none⟩ (x6)).setCell ⟨g, 7, none⟩ (x7)).setCell ⟨g, 8, none⟩ (x8)).setCell ⟨g, 9, none⟩ (x9)).setCell ⟨g, 10, none⟩ (x10))).heap[g]? = some (.cells #[x0, x1, x2, x3, x4, x5, x6, x7, x8, x9, x10, z11, z12, z13, z14, z15, z16, z17, z18, z19, z20, z21] t (0, 0)) := by
  rw [tower11a]
  have h2 := row_setL [x0, x1, x2, x3, x4, x5, x6, x7, x8, x9, x10] w 0 _ h
  rw [arr11a] at h2
  exact h2
theorem off11a {w : World} {g k : Nat} {ob : Obj} (h : w.heap[k]? = some ob) (hk : k ≠ g) (x0 x1 x2 x3 x4 x5 x6 x7 x8 x9 x10 : Value) : ((((((((((((w.setCell ⟨g, 0, none⟩ (x0)).setCell ⟨g, 1, none⟩ (x1)).setCell ⟨g, 2, none⟩ (x2)).setCell ⟨g, 3, none⟩ (x3)).setCell ⟨g, 4, none⟩ (x4)).setCell ⟨g, 5, none⟩ (x5)).setCell ⟨g, 6, none⟩ (x6)).setCell ⟨g, 7, none⟩ (x7)).setCell ⟨g, 8, none⟩ (x8)).setCell ⟨g, 9, none⟩ (x9)).setCell ⟨g, 10, none⟩ (x10))).heap[k]? = some ob := by
  rw [tower11a]
  exact off_setL h hk _ _
theorem ext11a {a w : World} (h : Ext a w) {g : Nat} (hg : a.heap.size ≤ g) (x0 x1 x2 x3 x4 x5 x6 x7 x8 x9 x10 : Value) : Ext a ((((((((((((w.setCell ⟨g, 0, none⟩ (x0)).setCell ⟨g, 1, none⟩ (x1)).setCell ⟨g, 2, none⟩ (x2)).setCell ⟨g, 3, none⟩ (x3)).setCell ⟨g, 4, none⟩ (x4)).setCell ⟨g, 5, none⟩ (x5)).setCell ⟨g, 6, none⟩ (x6)).setCell ⟨g, 7, none⟩ (x7)).setCell ⟨g, 8, none⟩ (x8)).setCell ⟨g, 9, none⟩ (x9)).setCell ⟨g, 10, none⟩ (x10))) := by
  rw [tower11a]
  exact ext_setL h hg _ _
theorem tower11b (w : World) (g : Nat) (x0 x1 x2 x3 x4 x5 x6 x7 x8 x9 x10 : Value) : (((((((((((w.setCell ⟨g, 11, none⟩ (x0)).setCell ⟨g, 12, none⟩ (x1)).setCell ⟨g, 13, none⟩ (x2)).setCell ⟨g, 14, none⟩ (x3)).setCell ⟨g, 15, none⟩ (x4)).setCell ⟨g, 16, none⟩ (x5)).setCell ⟨g, 17, none⟩ (x6)).setCell ⟨g, 18, none⟩ (x7)).setCell ⟨g, 19, none⟩ (x8)).setCell ⟨g, 20, none⟩ (x9)).setCell ⟨g, 21, none⟩ (x10)) = setL w g 11 [x0, x1, x2, x3, x4, x5, x6, x7, x8, x9, x10] := by
  simp only [setL, Nat.reduceAdd]
theorem arr11b (x0 x1 x2 x3 x4 x5 x6 x7 x8 x9 x10 z0 z1 z2 z3 z4 z5 z6 z7 z8 z9 z10 z11 z12 z13 z14 z15 z16 z17 z18 z19 z20 z21 : Value) : setA #[z0, z1, z2, z3, z4, z5, z6, z7, z8, z9, z10, z11, z12, z13, z14, z15, z16, z17, z18, z19, z20, z21] 11 [x0, x1, x2, x3, x4, x5, x6, x7, x8, x9, x10] = #[z0, z1, z2, z3, z4, z5, z6, z7, z8, z9, z10, x0, x1, x2, x3, x4, x5, x6, x7, x8, x9, x10] := by
  simp only [setA, List.setIfInBounds_toArray, List.set_cons_zero, List.set_cons_succ, Nat.reduceAdd]
theorem row11b {w : World} {g : Nat} {t : TypeId} {z0 z1 z2 z3 z4 z5 z6 z7 z8 z9 z10 z11 z12 z13 z14 z15 z16 z17 z18 z19 z20 z21 : Value} (h : w.heap[g]? = some (.cells #[z0, z1, z2, z3, z4, z5, z6, z7, z8, z9, z10, z11, z12, z13, z14, z15, z16, z17, z18, z19, z20, z21] t (0, 0))) (x0 x1 x2 x3 x4 x5 x6 x7 x8 x9 x10 : Value) :
    ((((((((((((w.setCell ⟨g, 11, none⟩ (x0)).setCell ⟨g, 12, none⟩ (x1)).setCell ⟨g, 13, none⟩ (x2)).setCell ⟨g, 14, none⟩ (x3)).setCell ⟨g, 15, none⟩ (x4)).setCell ⟨g, 16, none⟩ (x5)).setCell ⟨g, 17, none⟩ (x6)).setCell ⟨g, 18, none⟩ (x7)).setCell ⟨g, 19, none⟩ (x8)).setCell ⟨g, 20, none⟩ (x9)).setCell ⟨g, 21, none⟩ (x10))).heap[g]? = some (.cells #[z0, z1, z2, z3, z4, z5, z6, z7, z8, z9, z10, x0, x1, x2, x3, x4, x5, x6, x7, x8, x9, x10] t (0, 0)) := by
  rw [tower11b]
  have h2 := row_setL [x0, x1, x2, x3, x4, x5, x6, x7, x8, x9, x10] w 11 _ h
  rw [arr11b] at h2
  exact h2
theorem off11b {w : World} {g k : Nat} {ob : Obj} (h : w.heap[k]? = some ob) (hk : k ≠ g) (x0 x1 x2 x3 x4 x5 x6 x7 x8 x9 x10 : Value) : ((((((((((((w.setCell ⟨g, 11, none⟩ (x0)).setCell ⟨g, 12, none⟩ (x1)).setCell ⟨g, 13, none⟩ (x2)).setCell ⟨g, 14, none⟩ (x3)).setCell ⟨g, 15, none⟩ (x4)).setCell ⟨g, 16, none⟩ (x5)).setCell ⟨g, 17, none⟩ (x6)).setCell ⟨g, 18, none⟩ (x7)).setCell ⟨g, 19, none⟩ (x8)).setCell ⟨g, 20, none⟩ (x9)).setCell ⟨g, 21, none⟩ (x10))).heap[k]? = some ob := by
  rw [tower11b]
  exact off_setL h hk _ _
theorem ext11b {a w : World} (h : Ext a w) {g : Nat} (hg : a.heap.size ≤ g) (x0 x1 x2 x3 x4 x5 x6 x7 x8 x9 x10 : Value) : Ext a ((((((((((((w.setCell ⟨g, 11, none⟩ (x0)).setCell ⟨g, 12, none⟩ (x1)).setCell ⟨g, 13, none⟩ (x2)).setCell ⟨g, 14, none⟩ (x3)).setCell ⟨g, 15, none⟩ (x4)).setCell ⟨g, 16, none⟩ (x5)).setCell ⟨g, 17, none⟩ (x6)).setCell ⟨g, 18, none⟩ (x7)).setCell ⟨g, 19, none⟩ (x8)).setCell ⟨g, 20, none⟩ (x9)).setCell ⟨g, 21, none⟩ (x10))) := by
  rw [tower11b]
  exact ext_setL h hg _ _
end Go.Proofs.Ytejejadbemkifaa

namespace Go.Proofs.Ytejejadbemkifaa
set_option maxRecDepth 100000
open Go Go.RowKit

def isB (c : Cop) (i : Int) : Bool := (c.st : Int) == 1 && c.ix == i
theorem isB_iff {c : Cop} {i : Int} : isB c i = true ↔ c.of i := by
  unfold isB Cop.of
  rw [cast_one, Bool.and_eq_true, decide_eq_true_iff, beq_iff_eq]
def isR (p : Rec) (i : Int) : Bool := (p.st : Int) == 1 && p.ix == i
theorem isR_iff {p : Rec} {i : Int} : isR p i = true ↔ p.of i := by
  unfold isR Rec.of
  rw [cast_one, Bool.and_eq_true, decide_eq_true_iff, beq_iff_eq]
def badB (n : Nat) : Bool := (n : Int) != 0 && (n : Int) != 1
theorem badB_iff {n : Nat} (h : n ≤ 2) : badB n = true ↔ n = 2 := by
  unfold badB
  rw [Bool.and_eq_true, bne_iff_ne, bne_iff_ne]
  omega
def hasB (f0 f1 : Cop) : Bool := badB f0.st || badB f1.st
theorem hasB_iff {f0 f1 : Cop} (h0 : f0.st ≤ 2) (h1 : f1.st ≤ 2) : hasB f0 f1 = true ↔ badL f0 f1 := by
  unfold hasB badL
  rw [Bool.or_eq_true, badB_iff h0, badB_iff h1]
/-- May a slot be intact by a frame, by a record of its index? -/
def recentB (p : Rec) (i : Int) (c : Cop) : Bool := isB c i && decide (0 ≤ balI c.bx c.yb p.bx p.yb)
theorem recentB_iff {p : Rec} {i : Int} {c : Cop} : recentB p i c = true ↔ candL p c i := by
  unfold recentB candL
  rw [Bool.and_eq_true, isB_iff, decide_eq_true_iff, balI_ge]
theorem bad_go : Enters Try.prog 20 := enters_of Try.func20 (by kernel_rfl) rfl
theorem index_go : Enters Try.prog 17 := enters_of Try.func17 (by kernel_rfl) rfl
theorem recent_go : Enters Try.prog 22 := enters_of Try.func22 (by kernel_rfl) rfl
theorem none_go : Enters Try.prog 25 := enters_of Try.func25 (by kernel_rfl) rfl
theorem sz_two : (Try.prog.info? 34).map (·.size) = some 22 := by kernel_rfl
theorem size_two : ∃ N, N = 22 ∧ ∀ w, (sizeOf 34).run Try.prog w = .ok N w := ⟨22, rfl, fun w => by
  have h := sz_two
  cases hq : Try.prog.info? 34 with
  | none => simp [hq] at h
  | some i => simp [hq] at h; simp [sizeOf, typeInfo, hq, h]⟩
theorem load_two {w : World} {g N : Nat} {f0 f1 : Cop} (hN : N = 22) (h : Two w g f0 f1) : (loadCellsFrom ⟨g, 0, none⟩ 0 N #[]).run Try.prog w = .ok #[.int .u8 (f0.st : Int), .int .i64 f0.ix, .int .i64 f0.bx, .int .i64 f0.yb, .int .u8 (f0.e.k : Int), .int .i64 f0.e.cl, .int .i64 f0.e.sq, .int .u8 (f0.e.ok : Int), .string f0.e.key, .string f0.e.old, .string f0.e.val, .int .u8 (f1.st : Int), .int .i64 f1.ix, .int .i64 f1.bx, .int .i64 f1.yb, .int .u8 (f1.e.k : Int), .int .i64 f1.e.cl, .int .i64 f1.e.sq, .int .u8 (f1.e.ok : Int), .string f1.e.key, .string f1.e.old, .string f1.e.val] w := by
  subst hN
  exact run_loadCells_list (P := Try.prog) w ⟨g, 0, none⟩ [.int .u8 (f0.st : Int), .int .i64 f0.ix, .int .i64 f0.bx, .int .i64 f0.yb, .int .u8 (f0.e.k : Int), .int .i64 f0.e.cl, .int .i64 f0.e.sq, .int .u8 (f0.e.ok : Int), .string f0.e.key, .string f0.e.old, .string f0.e.val, .int .u8 (f1.st : Int), .int .i64 f1.ix, .int .i64 f1.bx, .int .i64 f1.yb, .int .u8 (f1.e.k : Int), .int .i64 f1.e.cl, .int .i64 f1.e.sq, .int .u8 (f1.e.ok : Int), .string f1.e.key, .string f1.e.old, .string f1.e.val] (fun j v hv => by rw [Addr.add_mid, Nat.zero_add, cell_of_row w g j _ _ _ h, List.getElem?_toArray]; exact hv)
/-- What applying has made when it begins. -/
structure ApS (w W : World) (p : Rec) (f0 f1 : Cop) (i : Int) (g g1 g2 g3 g4 : Nat) : Prop where
  rec_ : RecAt W g p
  two : Two W g1 f0 f1
  ix : W.heap[g2]? = some (.cells #[.int .i64 i] 3 (0, 0))
  rule : W.heap[g3]? = some (.cells #[.nilFunc, .int .i64 0, .int .u8 0, .int .i64 0, .int .u8 0, .int .i64 0, .int .i64 0, .int .u8 0, .int .i64 0, .int .i64 0, .int .u8 0, .string ⟨#[]⟩, .string ⟨#[]⟩, .string ⟨#[]⟩] 50 (0, 0))
  fn : W.heap[g4]? = some (.cells #[.func (.func 17) #[] #[.pointer (some ⟨g2, 0, none⟩)]] 48 (0, 0))
  ext : Ext w W
  ne : g ≠ g3 ∧ g2 ≠ g3 ∧ g4 ≠ g3 ∧ w.heap.size ≤ g3
theorem ApS.make (w : World) (p : Rec) (f0 f1 : Cop) (i : Int) : ApS w (((((w.alloc (.cells #[.int .u8 (p.st : Int), .int .i64 p.ix, .int .i64 p.bx, .int .i64 p.yb, .int .i64 p.wh] 27)).alloc (.cells #[.int .u8 (f0.st : Int), .int .i64 f0.ix, .int .i64 f0.bx, .int .i64 f0.yb, .int .u8 (f0.e.k : Int), .int .i64 f0.e.cl, .int .i64 f0.e.sq, .int .u8 (f0.e.ok : Int), .string f0.e.key, .string f0.e.old, .string f0.e.val, .int .u8 (f1.st : Int), .int .i64 f1.ix, .int .i64 f1.bx, .int .i64 f1.yb, .int .u8 (f1.e.k : Int), .int .i64 f1.e.cl, .int .i64 f1.e.sq, .int .u8 (f1.e.ok : Int), .string f1.e.key, .string f1.e.old, .string f1.e.val] 34)).alloc (.cells #[.int .i64 i] 3)).alloc (.cells #[.nilFunc, .int .i64 0, .int .u8 0, .int .i64 0, .int .u8 0, .int .i64 0, .int .i64 0, .int .u8 0, .int .i64 0, .int .i64 0, .int .u8 0, .string ⟨#[]⟩, .string ⟨#[]⟩, .string ⟨#[]⟩] 50)).alloc (.cells #[.func (.func 17) #[] #[.pointer (some ⟨w.heap.size + 1 + 1, 0, none⟩)]] 48)) p f0 f1 i w.heap.size (w.heap.size + 1) (w.heap.size + 1 + 1) (w.heap.size + 1 + 1 + 1) (w.heap.size + 1 + 1 + 1 + 1) := by
  have row : ∀ (V : World) (cs : Array Value) (t : TypeId) (k : Nat), k = V.heap.size → (V.alloc (.cells cs t)).heap[k]? = some (.cells cs t (0, 0)) := fun V cs t k hk => by subst hk; exact heap_alloc_new V _
  have past : ∀ (V : World) (o ob : Obj) (k : Nat), V.heap[k]? = some ob → (V.alloc o).heap[k]? = some ob := fun V o ob k h => keep_row ((Ext.refl V).alloc o) h
  refine ⟨?_, ?_, ?_, ?_, ?_, ?_, ?_⟩
  · exact past _ _ _ _ (past _ _ _ _ (past _ _ _ _ (past _ _ _ _ (row _ _ _ _ rfl))))
  · exact past _ _ _ _ (past _ _ _ _ (past _ _ _ _ (row _ _ _ _ (by simp))))
  · exact past _ _ _ _ (past _ _ _ _ (row _ _ _ _ (by simp)))
  · exact past _ _ _ _ (row _ _ _ _ (by simp))
  · exact row _ _ _ _ (by simp)
  · exact ((((((Ext.refl w).alloc _).alloc _).alloc _).alloc _).alloc _)
  · omega
theorem ApS.mono {w W W' : World} {p : Rec} {f0 f1 : Cop} {i : Int} {g g1 g2 g3 g4 : Nat} (h : ApS w W p f0 f1 i g g1 g2 g3 g4) (k : Ext W W') : ApS w W' p f0 f1 i g g1 g2 g3 g4 :=
  ⟨h.rec_.ext k, h.two.ext k, keep_row k h.ix, keep_row k h.rule, keep_row k h.fn, h.ext.trans k, h.ne⟩
end Go.Proofs.Ytejejadbemkifaa

namespace Go.Proofs.Ytejejadbemkifaa
set_option maxRecDepth 100000
open Go Go.RowKit

theorem use_keep {W w' : World} {g g2 F : Nat} {caps : Array Value} {fi : Int} {x2 x3 x4 x5 x6 x7 x8 x9 x10 x11 x12 x13 : Value} {f0 f1 : Cop} (h : W.heap[g]? = some (.cells #[.func (.func F) #[] caps, .int .i64 fi, x2, x3, x4, x5, x6, x7, x8, x9, x10, x11, x12, x13] 50 (0, 0))) (hT : Two W g2 f0 f1) (k : Ext W w') :
    w'.cell? ⟨g, 0, none⟩ = some (.func (.func F) #[] caps) ∧ w'.cell? ⟨g, 1, none⟩ = some (.int .i64 fi) ∧ w'.cell? ⟨g2, 0, none⟩ = some (.int .u8 (f0.st : Int)) ∧ w'.cell? ⟨g2, 1, none⟩ = some (.int .i64 f0.ix) ∧ w'.cell? ⟨g2, 2, none⟩ = some (.int .i64 f0.bx) ∧ w'.cell? ⟨g2, 3, none⟩ = some (.int .i64 f0.yb) ∧ w'.cell? ⟨g2, 4, none⟩ = some (.int .u8 (f0.e.k : Int)) ∧ w'.cell? ⟨g2, 5, none⟩ = some (.int .i64 f0.e.cl) ∧ w'.cell? ⟨g2, 6, none⟩ = some (.int .i64 f0.e.sq) ∧ w'.cell? ⟨g2, 7, none⟩ = some (.int .u8 (f0.e.ok : Int)) ∧ w'.cell? ⟨g2, 8, none⟩ = some (.string f0.e.key) ∧ w'.cell? ⟨g2, 9, none⟩ = some (.string f0.e.old) ∧ w'.cell? ⟨g2, 10, none⟩ = some (.string f0.e.val) ∧ w'.cell? ⟨g2, 11, none⟩ = some (.int .u8 (f1.st : Int)) ∧ w'.cell? ⟨g2, 12, none⟩ = some (.int .i64 f1.ix) ∧ w'.cell? ⟨g2, 13, none⟩ = some (.int .i64 f1.bx) ∧ w'.cell? ⟨g2, 14, none⟩ = some (.int .i64 f1.yb) ∧ w'.cell? ⟨g2, 15, none⟩ = some (.int .u8 (f1.e.k : Int)) ∧ w'.cell? ⟨g2, 16, none⟩ = some (.int .i64 f1.e.cl) ∧ w'.cell? ⟨g2, 17, none⟩ = some (.int .i64 f1.e.sq) ∧ w'.cell? ⟨g2, 18, none⟩ = some (.int .u8 (f1.e.ok : Int)) ∧ w'.cell? ⟨g2, 19, none⟩ = some (.string f1.e.key) ∧ w'.cell? ⟨g2, 20, none⟩ = some (.string f1.e.old) ∧ w'.cell? ⟨g2, 21, none⟩ = some (.string f1.e.val) :=
  ⟨cell_of_row w' g 0 _ _ _ (keep_row k h), cell_of_row w' g 1 _ _ _ (keep_row k h), cell_of_row w' g2 0 _ _ _ (keep_row k hT), cell_of_row w' g2 1 _ _ _ (keep_row k hT), cell_of_row w' g2 2 _ _ _ (keep_row k hT), cell_of_row w' g2 3 _ _ _ (keep_row k hT), cell_of_row w' g2 4 _ _ _ (keep_row k hT), cell_of_row w' g2 5 _ _ _ (keep_row k hT), cell_of_row w' g2 6 _ _ _ (keep_row k hT), cell_of_row w' g2 7 _ _ _ (keep_row k hT), cell_of_row w' g2 8 _ _ _ (keep_row k hT), cell_of_row w' g2 9 _ _ _ (keep_row k hT), cell_of_row w' g2 10 _ _ _ (keep_row k hT), cell_of_row w' g2 11 _ _ _ (keep_row k hT), cell_of_row w' g2 12 _ _ _ (keep_row k hT), cell_of_row w' g2 13 _ _ _ (keep_row k hT), cell_of_row w' g2 14 _ _ _ (keep_row k hT), cell_of_row w' g2 15 _ _ _ (keep_row k hT), cell_of_row w' g2 16 _ _ _ (keep_row k hT), cell_of_row w' g2 17 _ _ _ (keep_row k hT), cell_of_row w' g2 18 _ _ _ (keep_row k hT), cell_of_row w' g2 19 _ _ _ (keep_row k hT), cell_of_row w' g2 20 _ _ _ (keep_row k hT), cell_of_row w' g2 21 _ _ _ (keep_row k hT)⟩
/-- By which frame, of those that fit. -/
def useL (fi : Int) (b0 b1 : Bool) (f0 f1 : Cop) : Int := if fi = 1 then pickW (b0 = true) (b1 = true) (¬ gtL f0.bx f0.yb f1.bx f1.yb) else pickW (b0 = true) (b1 = true) (gtL f1.bx f1.yb f0.bx f0.yb)
theorem idx_two (a b : Int) (w : World) : (Instr.index 60 (.agg #[.int .i64 a, .int .i64 b]) (.int .i64 0)).run Try.prog w = .ok (.int .i64 a) w ∧ (Instr.index 60 (.agg #[.int .i64 a, .int .i64 b]) (.int .i64 1)).run Try.prog w = .ok (.int .i64 b) w := by
  constructor <;> kernel_rfl
end Go.Proofs.Ytejejadbemkifaa
