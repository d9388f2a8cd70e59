/-
  The walk of TagWrong: a tag with one number beyond its bounds may not be, and has no form; just at the bounds it may be.
-/
import Derived.Test.YtlfdagajfhikhaaDoorTAwake
import Derived.Test.YtlfdagajfhikhaaDoorTParse
import Derived.OpenShut
namespace Go.Proofs.YtlfdagajfhikhaaDoor
open Go Go.RowKit Go.ChangeShapes Go.WideShapes

theorem row_set {w : World} {g : Nat} {cs : Array Value} {t : TypeId} (h : w.heap[g]? = some (.cells cs t (0, 0))) (i : Nat) (v : Value) : (w.setCell ⟨g, i, none⟩ v).heap[g]? = some (.cells (cs.setIfInBounds i v) t (0, 0)) := by
  rw [setCell_eq_setRow w g i cs t (0, 0) v h]
  exact setRow_heap w g cs _ t (0, 0) h
theorem row_alloc3 {w : World} {g : Nat} {o : Obj} (h : w.heap[g]? = some o) (A B C : Obj) : (((w.alloc A).alloc B).alloc C).heap[g]? = some o := by
  have hlt := (Array.getElem?_eq_some_iff.1 h).1
  rw [heap_alloc_old _ _ (by simp; omega), heap_alloc_old _ _ (by simp; omega), heap_alloc_old _ _ hlt, h]
theorem pl_len_yes {a b c d e : Int} (h : mayB a b c d e = true) : (pl a b c d e).length = 15 := by rw [pl_yes h, tagBytes_len]
theorem pl_len_no {a b c d e : Int} (h : mayB a b c d e = false) : (pl a b c d e).length = 0 := by rw [pl_no h]; rfl

theorem wrong_row {w w' : World} {g : Nat} {cs : Array Value} {t : TypeId} (h : w.heap[g]? = some (.cells cs t (0, 0))) {A B C : Obj} {i : Nat} {v : Value} (hx : Ext ((((w.alloc A).alloc B).alloc C).setCell ⟨g, i, none⟩ v) w') : w'.heap[g]? = some (.cells (cs.setIfInBounds i v) t (0, 0)) :=
  (hx.block g (Array.getElem?_eq_some_iff.1 (row_set (row_alloc3 h A B C) i v)).1).trans (row_set (row_alloc3 h A B C) i v)
theorem wrong_row2 {w w' : World} {g : Nat} {cs : Array Value} {t : TypeId} (h : w.heap[g]? = some (.cells cs t (0, 0))) {A B C : Obj} {i j : Nat} {v u : Value} (hx : Ext (((((w.alloc A).alloc B).alloc C).setCell ⟨g, i, none⟩ v).setCell ⟨g, j, none⟩ u) w') : w'.heap[g]? = some (.cells ((cs.setIfInBounds i v).setIfInBounds j u) t (0, 0)) :=
  (hx.block g (Array.getElem?_eq_some_iff.1 (row_set (row_set (row_alloc3 h A B C) i v) j u)).1).trans (row_set (row_set (row_alloc3 h A B C) i v) j u)

theorem wrong_ext {w0 w w' : World} (h : Ext w0 w) {A B C : Obj} {i : Nat} {v : Value} (hx : Ext ((((w.alloc A).alloc B).alloc C).setCell ⟨w0.heap.size, i, none⟩ v) w') : Ext w0 w' :=
  Ext.trans ((((h.alloc A).alloc B).alloc C).setCell (p := ⟨w0.heap.size, i, none⟩) (Nat.le_refl _) v) hx
theorem wrong_ext2 {w0 w w' : World} (h : Ext w0 w) {A B C : Obj} {i j : Nat} {v u : Value} (hx : Ext (((((w.alloc A).alloc B).alloc C).setCell ⟨w0.heap.size, i, none⟩ v).setCell ⟨w0.heap.size, j, none⟩ u) w') : Ext w0 w' :=
  Ext.trans (((((h.alloc A).alloc B).alloc C).setCell (p := ⟨w0.heap.size, i, none⟩) (Nat.le_refl _) v).setCell (p := ⟨w0.heap.size, j, none⟩) (Nat.le_refl _) u) hx

set_option maxRecDepth 100000 in
set_option maxHeartbeats 3200000 in
theorem tagWrong_00 (a b c d e : Int) (x y : Int) (w : World) (hL : LaidA w) (hm : mayB a b c d e = true) (hx0 : 0 ≤ x) (hx1 : x ≤ 255) (hy0 : 0 ≤ y) (hy1 : y ≤ 255) (hx : x % 5 = 0) (hy : y % 4 = 0) :
    Calls Tryd.prog 7 #[.agg #[.int .i64 a, .int .i64 b, .int .i64 c, .int .i64 d, .int .i64 e], .int .u8 x, .int .u8 y] w fun r w' => r = .returned (.bool true) ∧ Ext w w' := by
  have hE := (Ext.refl w).alloc (.cells #[.int .i64 a, .int .i64 b, .int .i64 c, .int .i64 d, .int .i64 e] 23)
  have HT := Lib.hid (heap_alloc_new w (.cells #[.int .i64 a, .int .i64 b, .int .i64 c, .int .i64 d, .int .i64 e] 23))
  have HL := Lib.hid hL
  have HE := Lib.hid hE
  have HM := Lib.hid hm
  have hn : mayB (-1) b c d e = false := mayB_no (by have h := mayB_iff.1 hm; omega)
  have HN := Lib.hid hn
  have HP := Lib.hid (pl_len_no hn)
  have HR := Lib.hid (pr_no hn)
  clear hE hL hm hn
  go_enter Tryd.func7, Tryd.ntmps7
  go_wp2_with fail
  refine (tawake_any _ (HL.out.ext HE.out)).mono ?_
  rintro r w1 ⟨rfl, hk⟩
  have HE := Lib.hid (HE.out.trans hk)
  have ht := (hk.block _ (Array.getElem?_eq_some_iff.1 HT.out).1).trans HT.out
  have HT := Lib.hid ht
  clear hk ht
  obtain ⟨⟨i0, i1, i2, i3, i4⟩, _⟩ := five_cells HT.out
  go_wp2_with fail
  refine (may_any _ _ _ _ _ _ (HL.out.ext HE.out).t).mono ?_
  rw [HM.out]
  rintro r w2 ⟨rfl, hk⟩
  have HE := Lib.hid (HE.out.trans hk)
  have ht := (hk.block _ (Array.getElem?_eq_some_iff.1 HT.out).1).trans HT.out
  have HT := Lib.hid ht
  clear hk ht i0 i1 i2 i3 i4
  obtain ⟨⟨i0, i1, i2, i3, i4⟩, _⟩ := five_cells HT.out
  go_wp2_with fail
  refine (places_any _ _ (HL.out.ext HE.out).t).mono ?_
  rintro r w3 ⟨rfl, hk⟩
  have HE := Lib.hid (HE.out.trans hk)
  have ht := (hk.block _ (Array.getElem?_eq_some_iff.1 HT.out).1).trans HT.out
  have HT := Lib.hid ht
  have hpl := plc_le b
  have c0 := fun A B C => (five_cells (row_alloc3 ht A B C)).1.1
  have c1 := fun A B C => (five_cells (row_alloc3 ht A B C)).1.2.1
  have c2 := fun A B C => (five_cells (row_alloc3 ht A B C)).1.2.2.1
  have c3 := fun A B C => (five_cells (row_alloc3 ht A B C)).1.2.2.2.1
  have c4 := fun A B C => (five_cells (row_alloc3 ht A B C)).1.2.2.2.2
  have f0 := fun A B C => (five_cells (row_alloc3 ht A B C)).2.1
  clear hk ht i0 i1 i2 i3 i4
  go_wp2_with fail
  clear c0 c1 c2 c3 c4 f0
  refine (print_any _ _ _ _ _ _ (HL.out.ext ((((HE.out.alloc _).alloc _).alloc _).setCell (p := ⟨w.heap.size, 0, none⟩) (Nat.le_refl _) _))).mono ?_
  rw [HP.out, HR.out]
  rintro r w4 ⟨A4, cp4, rfl, _, hk⟩
  have ht : w4.heap[w.heap.size]? = some (.cells #[.int .i64 (-1), .int .i64 b, .int .i64 c, .int .i64 d, .int .i64 e] 23 (0, 0)) := wrong_row HT.out hk
  have HE := Lib.hid (wrong_ext HE.out hk)
  clear hk
  obtain ⟨⟨i0, i1, i2, i3, i4⟩, _⟩ := five_cells ht
  clear ht
  go_wp2_with fail
  refine (may_any _ _ _ _ _ _ (HL.out.ext HE.out).t).mono ?_
  rw [HN.out]
  rintro r w5 ⟨rfl, hk⟩
  have HE := Lib.hid (HE.out.trans hk)
  clear hk i0 i1 i2 i3 i4
  go_wp2_with fail
  go_ret
  exact ⟨rfl, HE.out⟩

set_option maxRecDepth 100000 in
set_option maxHeartbeats 3200000 in
theorem tagWrong_01 (a b c d e : Int) (x y : Int) (w : World) (hL : LaidA w) (hm : mayB a b c d e = true) (hx0 : 0 ≤ x) (hx1 : x ≤ 255) (hy0 : 0 ≤ y) (hy1 : y ≤ 255) (hx : x % 5 = 0) (hy : y % 4 = 1) :
    Calls Tryd.prog 7 #[.agg #[.int .i64 a, .int .i64 b, .int .i64 c, .int .i64 d, .int .i64 e], .int .u8 x, .int .u8 y] w fun r w' => r = .returned (.bool true) ∧ Ext w w' := by
  have hE := (Ext.refl w).alloc (.cells #[.int .i64 a, .int .i64 b, .int .i64 c, .int .i64 d, .int .i64 e] 23)
  have HT := Lib.hid (heap_alloc_new w (.cells #[.int .i64 a, .int .i64 b, .int .i64 c, .int .i64 d, .int .i64 e] 23))
  have HL := Lib.hid hL
  have HE := Lib.hid hE
  have HM := Lib.hid hm
  have hn : mayB 0 b c d e = true := mayB_iff.2 (by have h := mayB_iff.1 hm; omega)
  have HN := Lib.hid hn
  have HP := Lib.hid (pl_len_yes hn)
  have HR := Lib.hid (pr_yes hn)
  clear hE hL hm hn
  go_enter Tryd.func7, Tryd.ntmps7
  go_wp2_with fail
  refine (tawake_any _ (HL.out.ext HE.out)).mono ?_
  rintro r w1 ⟨rfl, hk⟩
  have HE := Lib.hid (HE.out.trans hk)
  have ht := (hk.block _ (Array.getElem?_eq_some_iff.1 HT.out).1).trans HT.out
  have HT := Lib.hid ht
  clear hk ht
  obtain ⟨⟨i0, i1, i2, i3, i4⟩, _⟩ := five_cells HT.out
  go_wp2_with fail
  refine (may_any _ _ _ _ _ _ (HL.out.ext HE.out).t).mono ?_
  rw [HM.out]
  rintro r w2 ⟨rfl, hk⟩
  have HE := Lib.hid (HE.out.trans hk)
  have ht := (hk.block _ (Array.getElem?_eq_some_iff.1 HT.out).1).trans HT.out
  have HT := Lib.hid ht
  clear hk ht i0 i1 i2 i3 i4
  obtain ⟨⟨i0, i1, i2, i3, i4⟩, _⟩ := five_cells HT.out
  go_wp2_with fail
  refine (places_any _ _ (HL.out.ext HE.out).t).mono ?_
  rintro r w3 ⟨rfl, hk⟩
  have HE := Lib.hid (HE.out.trans hk)
  have ht := (hk.block _ (Array.getElem?_eq_some_iff.1 HT.out).1).trans HT.out
  have HT := Lib.hid ht
  have hpl := plc_le b
  have c0 := fun A B C => (five_cells (row_alloc3 ht A B C)).1.1
  have c1 := fun A B C => (five_cells (row_alloc3 ht A B C)).1.2.1
  have c2 := fun A B C => (five_cells (row_alloc3 ht A B C)).1.2.2.1
  have c3 := fun A B C => (five_cells (row_alloc3 ht A B C)).1.2.2.2.1
  have c4 := fun A B C => (five_cells (row_alloc3 ht A B C)).1.2.2.2.2
  have f0 := fun A B C => (five_cells (row_alloc3 ht A B C)).2.1
  clear hk ht i0 i1 i2 i3 i4
  go_wp2_with fail
  clear c0 c1 c2 c3 c4 f0
  refine (print_any _ _ _ _ _ _ (HL.out.ext ((((HE.out.alloc _).alloc _).alloc _).setCell (p := ⟨w.heap.size, 0, none⟩) (Nat.le_refl _) _))).mono ?_
  rw [HP.out, HR.out]
  rintro r w4 ⟨A4, cp4, rfl, _, hk⟩
  have ht : w4.heap[w.heap.size]? = some (.cells #[.int .i64 0, .int .i64 b, .int .i64 c, .int .i64 d, .int .i64 e] 23 (0, 0)) := wrong_row HT.out hk
  have HE := Lib.hid (wrong_ext HE.out hk)
  clear hk
  obtain ⟨⟨i0, i1, i2, i3, i4⟩, _⟩ := five_cells ht
  clear ht
  go_wp2_with fail
  refine (may_any _ _ _ _ _ _ (HL.out.ext HE.out).t).mono ?_
  rw [HN.out]
  rintro r w5 ⟨rfl, hk⟩
  have HE := Lib.hid (HE.out.trans hk)
  clear hk i0 i1 i2 i3 i4
  go_wp2_with fail
  go_ret
  exact ⟨rfl, HE.out⟩

set_option maxRecDepth 100000 in
set_option maxHeartbeats 3200000 in
theorem tagWrong_02 (a b c d e : Int) (x y : Int) (w : World) (hL : LaidA w) (hm : mayB a b c d e = true) (hx0 : 0 ≤ x) (hx1 : x ≤ 255) (hy0 : 0 ≤ y) (hy1 : y ≤ 255) (hx : x % 5 = 0) (hy : y % 4 = 2) :
    Calls Tryd.prog 7 #[.agg #[.int .i64 a, .int .i64 b, .int .i64 c, .int .i64 d, .int .i64 e], .int .u8 x, .int .u8 y] w fun r w' => r = .returned (.bool true) ∧ Ext w w' := by
  have hE := (Ext.refl w).alloc (.cells #[.int .i64 a, .int .i64 b, .int .i64 c, .int .i64 d, .int .i64 e] 23)
  have HT := Lib.hid (heap_alloc_new w (.cells #[.int .i64 a, .int .i64 b, .int .i64 c, .int .i64 d, .int .i64 e] 23))
  have HL := Lib.hid hL
  have HE := Lib.hid hE
  have HM := Lib.hid hm
  have hn : mayB 6 b c d e = true := mayB_iff.2 (by have h := mayB_iff.1 hm; omega)
  have HN := Lib.hid hn
  have HP := Lib.hid (pl_len_yes hn)
  have HR := Lib.hid (pr_yes hn)
  clear hE hL hm hn
  go_enter Tryd.func7, Tryd.ntmps7
  go_wp2_with fail
  refine (tawake_any _ (HL.out.ext HE.out)).mono ?_
  rintro r w1 ⟨rfl, hk⟩
  have HE := Lib.hid (HE.out.trans hk)
  have ht := (hk.block _ (Array.getElem?_eq_some_iff.1 HT.out).1).trans HT.out
  have HT := Lib.hid ht
  clear hk ht
  obtain ⟨⟨i0, i1, i2, i3, i4⟩, _⟩ := five_cells HT.out
  go_wp2_with fail
  refine (may_any _ _ _ _ _ _ (HL.out.ext HE.out).t).mono ?_
  rw [HM.out]
  rintro r w2 ⟨rfl, hk⟩
  have HE := Lib.hid (HE.out.trans hk)
  have ht := (hk.block _ (Array.getElem?_eq_some_iff.1 HT.out).1).trans HT.out
  have HT := Lib.hid ht
  clear hk ht i0 i1 i2 i3 i4
  obtain ⟨⟨i0, i1, i2, i3, i4⟩, _⟩ := five_cells HT.out
  go_wp2_with fail
  refine (places_any _ _ (HL.out.ext HE.out).t).mono ?_
  rintro r w3 ⟨rfl, hk⟩
  have HE := Lib.hid (HE.out.trans hk)
  have ht := (hk.block _ (Array.getElem?_eq_some_iff.1 HT.out).1).trans HT.out
  have HT := Lib.hid ht
  have hpl := plc_le b
  have c0 := fun A B C => (five_cells (row_alloc3 ht A B C)).1.1
  have c1 := fun A B C => (five_cells (row_alloc3 ht A B C)).1.2.1
  have c2 := fun A B C => (five_cells (row_alloc3 ht A B C)).1.2.2.1
  have c3 := fun A B C => (five_cells (row_alloc3 ht A B C)).1.2.2.2.1
  have c4 := fun A B C => (five_cells (row_alloc3 ht A B C)).1.2.2.2.2
  have f0 := fun A B C => (five_cells (row_alloc3 ht A B C)).2.1
  clear hk ht i0 i1 i2 i3 i4
  go_wp2_with fail
  clear c0 c1 c2 c3 c4 f0
  refine (print_any _ _ _ _ _ _ (HL.out.ext ((((HE.out.alloc _).alloc _).alloc _).setCell (p := ⟨w.heap.size, 0, none⟩) (Nat.le_refl _) _))).mono ?_
  rw [HP.out, HR.out]
  rintro r w4 ⟨A4, cp4, rfl, _, hk⟩
  have ht : w4.heap[w.heap.size]? = some (.cells #[.int .i64 6, .int .i64 b, .int .i64 c, .int .i64 d, .int .i64 e] 23 (0, 0)) := wrong_row HT.out hk
  have HE := Lib.hid (wrong_ext HE.out hk)
  clear hk
  obtain ⟨⟨i0, i1, i2, i3, i4⟩, _⟩ := five_cells ht
  clear ht
  go_wp2_with fail
  refine (may_any _ _ _ _ _ _ (HL.out.ext HE.out).t).mono ?_
  rw [HN.out]
  rintro r w5 ⟨rfl, hk⟩
  have HE := Lib.hid (HE.out.trans hk)
  clear hk i0 i1 i2 i3 i4
  go_wp2_with fail
  go_ret
  exact ⟨rfl, HE.out⟩

set_option maxRecDepth 100000 in
set_option maxHeartbeats 3200000 in
theorem tagWrong_03 (a b c d e : Int) (x y : Int) (w : World) (hL : LaidA w) (hm : mayB a b c d e = true) (hx0 : 0 ≤ x) (hx1 : x ≤ 255) (hy0 : 0 ≤ y) (hy1 : y ≤ 255) (hx : x % 5 = 0) (hy : y % 4 = 3) :
    Calls Tryd.prog 7 #[.agg #[.int .i64 a, .int .i64 b, .int .i64 c, .int .i64 d, .int .i64 e], .int .u8 x, .int .u8 y] w fun r w' => r = .returned (.bool true) ∧ Ext w w' := by
  have hE := (Ext.refl w).alloc (.cells #[.int .i64 a, .int .i64 b, .int .i64 c, .int .i64 d, .int .i64 e] 23)
  have HT := Lib.hid (heap_alloc_new w (.cells #[.int .i64 a, .int .i64 b, .int .i64 c, .int .i64 d, .int .i64 e] 23))
  have HL := Lib.hid hL
  have HE := Lib.hid hE
  have HM := Lib.hid hm
  have hn : mayB 7 b c d e = false := mayB_no (by have h := mayB_iff.1 hm; omega)
  have HN := Lib.hid hn
  have HP := Lib.hid (pl_len_no hn)
  have HR := Lib.hid (pr_no hn)
  clear hE hL hm hn
  go_enter Tryd.func7, Tryd.ntmps7
  go_wp2_with fail
  refine (tawake_any _ (HL.out.ext HE.out)).mono ?_
  rintro r w1 ⟨rfl, hk⟩
  have HE := Lib.hid (HE.out.trans hk)
  have ht := (hk.block _ (Array.getElem?_eq_some_iff.1 HT.out).1).trans HT.out
  have HT := Lib.hid ht
  clear hk ht
  obtain ⟨⟨i0, i1, i2, i3, i4⟩, _⟩ := five_cells HT.out
  go_wp2_with fail
  refine (may_any _ _ _ _ _ _ (HL.out.ext HE.out).t).mono ?_
  rw [HM.out]
  rintro r w2 ⟨rfl, hk⟩
  have HE := Lib.hid (HE.out.trans hk)
  have ht := (hk.block _ (Array.getElem?_eq_some_iff.1 HT.out).1).trans HT.out
  have HT := Lib.hid ht
  clear hk ht i0 i1 i2 i3 i4
  obtain ⟨⟨i0, i1, i2, i3, i4⟩, _⟩ := five_cells HT.out
  go_wp2_with fail
  refine (places_any _ _ (HL.out.ext HE.out).t).mono ?_
  rintro r w3 ⟨rfl, hk⟩
  have HE := Lib.hid (HE.out.trans hk)
  have ht := (hk.block _ (Array.getElem?_eq_some_iff.1 HT.out).1).trans HT.out
  have HT := Lib.hid ht
  have hpl := plc_le b
  have c0 := fun A B C => (five_cells (row_alloc3 ht A B C)).1.1
  have c1 := fun A B C => (five_cells (row_alloc3 ht A B C)).1.2.1
  have c2 := fun A B C => (five_cells (row_alloc3 ht A B C)).1.2.2.1
  have c3 := fun A B C => (five_cells (row_alloc3 ht A B C)).1.2.2.2.1
  have c4 := fun A B C => (five_cells (row_alloc3 ht A B C)).1.2.2.2.2
  have f0 := fun A B C => (five_cells (row_alloc3 ht A B C)).2.1
  clear hk ht i0 i1 i2 i3 i4
  go_wp2_with fail
  clear c0 c1 c2 c3 c4 f0
  refine (print_any _ _ _ _ _ _ (HL.out.ext ((((HE.out.alloc _).alloc _).alloc _).setCell (p := ⟨w.heap.size, 0, none⟩) (Nat.le_refl _) _))).mono ?_
  rw [HP.out, HR.out]
  rintro r w4 ⟨A4, cp4, rfl, _, hk⟩
  have ht : w4.heap[w.heap.size]? = some (.cells #[.int .i64 7, .int .i64 b, .int .i64 c, .int .i64 d, .int .i64 e] 23 (0, 0)) := wrong_row HT.out hk
  have HE := Lib.hid (wrong_ext HE.out hk)
  clear hk
  obtain ⟨⟨i0, i1, i2, i3, i4⟩, _⟩ := five_cells ht
  clear ht
  go_wp2_with fail
  refine (may_any _ _ _ _ _ _ (HL.out.ext HE.out).t).mono ?_
  rw [HN.out]
  rintro r w5 ⟨rfl, hk⟩
  have HE := Lib.hid (HE.out.trans hk)
  clear hk i0 i1 i2 i3 i4
  go_wp2_with fail
  go_ret
  exact ⟨rfl, HE.out⟩

set_option maxRecDepth 100000 in
set_option maxHeartbeats 3200000 in
theorem tagWrong_10 (a b c d e : Int) (x y : Int) (w : World) (hL : LaidA w) (hm : mayB a b c d e = true) (hx0 : 0 ≤ x) (hx1 : x ≤ 255) (hy0 : 0 ≤ y) (hy1 : y ≤ 255) (hx : x % 5 = 1) (hy : y % 4 = 0) :
    Calls Tryd.prog 7 #[.agg #[.int .i64 a, .int .i64 b, .int .i64 c, .int .i64 d, .int .i64 e], .int .u8 x, .int .u8 y] w fun r w' => r = .returned (.bool true) ∧ Ext w w' := by
  have hE := (Ext.refl w).alloc (.cells #[.int .i64 a, .int .i64 b, .int .i64 c, .int .i64 d, .int .i64 e] 23)
  have HT := Lib.hid (heap_alloc_new w (.cells #[.int .i64 a, .int .i64 b, .int .i64 c, .int .i64 d, .int .i64 e] 23))
  have HL := Lib.hid hL
  have HE := Lib.hid hE
  have HM := Lib.hid hm
  have hn : mayB a 0 0 d e = false := mayB_no (by have h := mayB_iff.1 hm; omega)
  have HN := Lib.hid hn
  have HP := Lib.hid (pl_len_no hn)
  have HR := Lib.hid (pr_no hn)
  clear hE hL hm hn
  go_enter Tryd.func7, Tryd.ntmps7
  go_wp2_with fail
  refine (tawake_any _ (HL.out.ext HE.out)).mono ?_
  rintro r w1 ⟨rfl, hk⟩
  have HE := Lib.hid (HE.out.trans hk)
  have ht := (hk.block _ (Array.getElem?_eq_some_iff.1 HT.out).1).trans HT.out
  have HT := Lib.hid ht
  clear hk ht
  obtain ⟨⟨i0, i1, i2, i3, i4⟩, _⟩ := five_cells HT.out
  go_wp2_with fail
  refine (may_any _ _ _ _ _ _ (HL.out.ext HE.out).t).mono ?_
  rw [HM.out]
  rintro r w2 ⟨rfl, hk⟩
  have HE := Lib.hid (HE.out.trans hk)
  have ht := (hk.block _ (Array.getElem?_eq_some_iff.1 HT.out).1).trans HT.out
  have HT := Lib.hid ht
  clear hk ht i0 i1 i2 i3 i4
  obtain ⟨⟨i0, i1, i2, i3, i4⟩, _⟩ := five_cells HT.out
  go_wp2_with fail
  refine (places_any _ _ (HL.out.ext HE.out).t).mono ?_
  rintro r w3 ⟨rfl, hk⟩
  have HE := Lib.hid (HE.out.trans hk)
  have ht := (hk.block _ (Array.getElem?_eq_some_iff.1 HT.out).1).trans HT.out
  have HT := Lib.hid ht
  have hpl := plc_le b
  have c0 := fun A B C => (five_cells (row_alloc3 ht A B C)).1.1
  have c1 := fun A B C => (five_cells (row_alloc3 ht A B C)).1.2.1
  have c2 := fun A B C => (five_cells (row_alloc3 ht A B C)).1.2.2.1
  have c3 := fun A B C => (five_cells (row_alloc3 ht A B C)).1.2.2.2.1
  have c4 := fun A B C => (five_cells (row_alloc3 ht A B C)).1.2.2.2.2
  have f1 := fun A B C => (five_cells (row_alloc3 ht A B C)).2.2.1
  have f2 := fun A B C => (five_cells (row_alloc3 ht A B C)).2.2.2.1
  clear hk ht i0 i1 i2 i3 i4
  go_wp2_with fail
  clear c0 c1 c2 c3 c4 f1 f2
  refine (print_any _ _ _ _ _ _ (HL.out.ext (((((HE.out.alloc _).alloc _).alloc _).setCell (p := ⟨w.heap.size, 1, none⟩) (Nat.le_refl _) _).setCell (p := ⟨w.heap.size, 2, none⟩) (Nat.le_refl _) _))).mono ?_
  rw [HP.out, HR.out]
  rintro r w4 ⟨A4, cp4, rfl, _, hk⟩
  have ht : w4.heap[w.heap.size]? = some (.cells #[.int .i64 a, .int .i64 0, .int .i64 0, .int .i64 d, .int .i64 e] 23 (0, 0)) := wrong_row2 HT.out hk
  have HE := Lib.hid (wrong_ext2 HE.out hk)
  clear hk
  obtain ⟨⟨i0, i1, i2, i3, i4⟩, _⟩ := five_cells ht
  clear ht
  go_wp2_with fail
  refine (may_any _ _ _ _ _ _ (HL.out.ext HE.out).t).mono ?_
  rw [HN.out]
  rintro r w5 ⟨rfl, hk⟩
  have HE := Lib.hid (HE.out.trans hk)
  clear hk i0 i1 i2 i3 i4
  go_wp2_with fail
  go_ret
  exact ⟨rfl, HE.out⟩

set_option maxRecDepth 100000 in
set_option maxHeartbeats 3200000 in
theorem tagWrong_11 (a b c d e : Int) (x y : Int) (w : World) (hL : LaidA w) (hm : mayB a b c d e = true) (hx0 : 0 ≤ x) (hx1 : x ≤ 255) (hy0 : 0 ≤ y) (hy1 : y ≤ 255) (hx : x % 5 = 1) (hy : y % 4 = 1) :
    Calls Tryd.prog 7 #[.agg #[.int .i64 a, .int .i64 b, .int .i64 c, .int .i64 d, .int .i64 e], .int .u8 x, .int .u8 y] w fun r w' => r = .returned (.bool true) ∧ Ext w w' := by
  have hE := (Ext.refl w).alloc (.cells #[.int .i64 a, .int .i64 b, .int .i64 c, .int .i64 d, .int .i64 e] 23)
  have HT := Lib.hid (heap_alloc_new w (.cells #[.int .i64 a, .int .i64 b, .int .i64 c, .int .i64 d, .int .i64 e] 23))
  have HL := Lib.hid hL
  have HE := Lib.hid hE
  have HM := Lib.hid hm
  have hn : mayB a 1 0 d e = true := mayB_iff.2 (by have h := mayB_iff.1 hm; have h1 : plc 1 = 2 := rfl; have h5 : plc 5 = 16 := rfl; omega)
  have HN := Lib.hid hn
  have HP := Lib.hid (pl_len_yes hn)
  have HR := Lib.hid (pr_yes hn)
  clear hE hL hm hn
  go_enter Tryd.func7, Tryd.ntmps7
  go_wp2_with fail
  refine (tawake_any _ (HL.out.ext HE.out)).mono ?_
  rintro r w1 ⟨rfl, hk⟩
  have HE := Lib.hid (HE.out.trans hk)
  have ht := (hk.block _ (Array.getElem?_eq_some_iff.1 HT.out).1).trans HT.out
  have HT := Lib.hid ht
  clear hk ht
  obtain ⟨⟨i0, i1, i2, i3, i4⟩, _⟩ := five_cells HT.out
  go_wp2_with fail
  refine (may_any _ _ _ _ _ _ (HL.out.ext HE.out).t).mono ?_
  rw [HM.out]
  rintro r w2 ⟨rfl, hk⟩
  have HE := Lib.hid (HE.out.trans hk)
  have ht := (hk.block _ (Array.getElem?_eq_some_iff.1 HT.out).1).trans HT.out
  have HT := Lib.hid ht
  clear hk ht i0 i1 i2 i3 i4
  obtain ⟨⟨i0, i1, i2, i3, i4⟩, _⟩ := five_cells HT.out
  go_wp2_with fail
  refine (places_any _ _ (HL.out.ext HE.out).t).mono ?_
  rintro r w3 ⟨rfl, hk⟩
  have HE := Lib.hid (HE.out.trans hk)
  have ht := (hk.block _ (Array.getElem?_eq_some_iff.1 HT.out).1).trans HT.out
  have HT := Lib.hid ht
  have hpl := plc_le b
  have c0 := fun A B C => (five_cells (row_alloc3 ht A B C)).1.1
  have c1 := fun A B C => (five_cells (row_alloc3 ht A B C)).1.2.1
  have c2 := fun A B C => (five_cells (row_alloc3 ht A B C)).1.2.2.1
  have c3 := fun A B C => (five_cells (row_alloc3 ht A B C)).1.2.2.2.1
  have c4 := fun A B C => (five_cells (row_alloc3 ht A B C)).1.2.2.2.2
  have f1 := fun A B C => (five_cells (row_alloc3 ht A B C)).2.2.1
  have f2 := fun A B C => (five_cells (row_alloc3 ht A B C)).2.2.2.1
  clear hk ht i0 i1 i2 i3 i4
  go_wp2_with fail
  clear c0 c1 c2 c3 c4 f1 f2
  refine (print_any _ _ _ _ _ _ (HL.out.ext (((((HE.out.alloc _).alloc _).alloc _).setCell (p := ⟨w.heap.size, 1, none⟩) (Nat.le_refl _) _).setCell (p := ⟨w.heap.size, 2, none⟩) (Nat.le_refl _) _))).mono ?_
  rw [HP.out, HR.out]
  rintro r w4 ⟨A4, cp4, rfl, _, hk⟩
  have ht : w4.heap[w.heap.size]? = some (.cells #[.int .i64 a, .int .i64 1, .int .i64 0, .int .i64 d, .int .i64 e] 23 (0, 0)) := wrong_row2 HT.out hk
  have HE := Lib.hid (wrong_ext2 HE.out hk)
  clear hk
  obtain ⟨⟨i0, i1, i2, i3, i4⟩, _⟩ := five_cells ht
  clear ht
  go_wp2_with fail
  refine (may_any _ _ _ _ _ _ (HL.out.ext HE.out).t).mono ?_
  rw [HN.out]
  rintro r w5 ⟨rfl, hk⟩
  have HE := Lib.hid (HE.out.trans hk)
  clear hk i0 i1 i2 i3 i4
  go_wp2_with fail
  go_ret
  exact ⟨rfl, HE.out⟩

set_option maxRecDepth 100000 in
set_option maxHeartbeats 3200000 in
theorem tagWrong_12 (a b c d e : Int) (x y : Int) (w : World) (hL : LaidA w) (hm : mayB a b c d e = true) (hx0 : 0 ≤ x) (hx1 : x ≤ 255) (hy0 : 0 ≤ y) (hy1 : y ≤ 255) (hx : x % 5 = 1) (hy : y % 4 = 2) :
    Calls Tryd.prog 7 #[.agg #[.int .i64 a, .int .i64 b, .int .i64 c, .int .i64 d, .int .i64 e], .int .u8 x, .int .u8 y] w fun r w' => r = .returned (.bool true) ∧ Ext w w' := by
  have hE := (Ext.refl w).alloc (.cells #[.int .i64 a, .int .i64 b, .int .i64 c, .int .i64 d, .int .i64 e] 23)
  have HT := Lib.hid (heap_alloc_new w (.cells #[.int .i64 a, .int .i64 b, .int .i64 c, .int .i64 d, .int .i64 e] 23))
  have HL := Lib.hid hL
  have HE := Lib.hid hE
  have HM := Lib.hid hm
  have hn : mayB a 5 0 d e = true := mayB_iff.2 (by have h := mayB_iff.1 hm; have h1 : plc 1 = 2 := rfl; have h5 : plc 5 = 16 := rfl; omega)
  have HN := Lib.hid hn
  have HP := Lib.hid (pl_len_yes hn)
  have HR := Lib.hid (pr_yes hn)
  clear hE hL hm hn
  go_enter Tryd.func7, Tryd.ntmps7
  go_wp2_with fail
  refine (tawake_any _ (HL.out.ext HE.out)).mono ?_
  rintro r w1 ⟨rfl, hk⟩
  have HE := Lib.hid (HE.out.trans hk)
  have ht := (hk.block _ (Array.getElem?_eq_some_iff.1 HT.out).1).trans HT.out
  have HT := Lib.hid ht
  clear hk ht
  obtain ⟨⟨i0, i1, i2, i3, i4⟩, _⟩ := five_cells HT.out
  go_wp2_with fail
  refine (may_any _ _ _ _ _ _ (HL.out.ext HE.out).t).mono ?_
  rw [HM.out]
  rintro r w2 ⟨rfl, hk⟩
  have HE := Lib.hid (HE.out.trans hk)
  have ht := (hk.block _ (Array.getElem?_eq_some_iff.1 HT.out).1).trans HT.out
  have HT := Lib.hid ht
  clear hk ht i0 i1 i2 i3 i4
  obtain ⟨⟨i0, i1, i2, i3, i4⟩, _⟩ := five_cells HT.out
  go_wp2_with fail
  refine (places_any _ _ (HL.out.ext HE.out).t).mono ?_
  rintro r w3 ⟨rfl, hk⟩
  have HE := Lib.hid (HE.out.trans hk)
  have ht := (hk.block _ (Array.getElem?_eq_some_iff.1 HT.out).1).trans HT.out
  have HT := Lib.hid ht
  have hpl := plc_le b
  have c0 := fun A B C => (five_cells (row_alloc3 ht A B C)).1.1
  have c1 := fun A B C => (five_cells (row_alloc3 ht A B C)).1.2.1
  have c2 := fun A B C => (five_cells (row_alloc3 ht A B C)).1.2.2.1
  have c3 := fun A B C => (five_cells (row_alloc3 ht A B C)).1.2.2.2.1
  have c4 := fun A B C => (five_cells (row_alloc3 ht A B C)).1.2.2.2.2
  have f1 := fun A B C => (five_cells (row_alloc3 ht A B C)).2.2.1
  have f2 := fun A B C => (five_cells (row_alloc3 ht A B C)).2.2.2.1
  clear hk ht i0 i1 i2 i3 i4
  go_wp2_with fail
  clear c0 c1 c2 c3 c4 f1 f2
  refine (print_any _ _ _ _ _ _ (HL.out.ext (((((HE.out.alloc _).alloc _).alloc _).setCell (p := ⟨w.heap.size, 1, none⟩) (Nat.le_refl _) _).setCell (p := ⟨w.heap.size, 2, none⟩) (Nat.le_refl _) _))).mono ?_
  rw [HP.out, HR.out]
  rintro r w4 ⟨A4, cp4, rfl, _, hk⟩
  have ht : w4.heap[w.heap.size]? = some (.cells #[.int .i64 a, .int .i64 5, .int .i64 0, .int .i64 d, .int .i64 e] 23 (0, 0)) := wrong_row2 HT.out hk
  have HE := Lib.hid (wrong_ext2 HE.out hk)
  clear hk
  obtain ⟨⟨i0, i1, i2, i3, i4⟩, _⟩ := five_cells ht
  clear ht
  go_wp2_with fail
  refine (may_any _ _ _ _ _ _ (HL.out.ext HE.out).t).mono ?_
  rw [HN.out]
  rintro r w5 ⟨rfl, hk⟩
  have HE := Lib.hid (HE.out.trans hk)
  clear hk i0 i1 i2 i3 i4
  go_wp2_with fail
  go_ret
  exact ⟨rfl, HE.out⟩

set_option maxRecDepth 100000 in
set_option maxHeartbeats 3200000 in
theorem tagWrong_13 (a b c d e : Int) (x y : Int) (w : World) (hL : LaidA w) (hm : mayB a b c d e = true) (hx0 : 0 ≤ x) (hx1 : x ≤ 255) (hy0 : 0 ≤ y) (hy1 : y ≤ 255) (hx : x % 5 = 1) (hy : y % 4 = 3) :
    Calls Tryd.prog 7 #[.agg #[.int .i64 a, .int .i64 b, .int .i64 c, .int .i64 d, .int .i64 e], .int .u8 x, .int .u8 y] w fun r w' => r = .returned (.bool true) ∧ Ext w w' := by
  have hE := (Ext.refl w).alloc (.cells #[.int .i64 a, .int .i64 b, .int .i64 c, .int .i64 d, .int .i64 e] 23)
  have HT := Lib.hid (heap_alloc_new w (.cells #[.int .i64 a, .int .i64 b, .int .i64 c, .int .i64 d, .int .i64 e] 23))
  have HL := Lib.hid hL
  have HE := Lib.hid hE
  have HM := Lib.hid hm
  have hn : mayB a 6 0 d e = false := mayB_no (by have h := mayB_iff.1 hm; omega)
  have HN := Lib.hid hn
  have HP := Lib.hid (pl_len_no hn)
  have HR := Lib.hid (pr_no hn)
  clear hE hL hm hn
  go_enter Tryd.func7, Tryd.ntmps7
  go_wp2_with fail
  refine (tawake_any _ (HL.out.ext HE.out)).mono ?_
  rintro r w1 ⟨rfl, hk⟩
  have HE := Lib.hid (HE.out.trans hk)
  have ht := (hk.block _ (Array.getElem?_eq_some_iff.1 HT.out).1).trans HT.out
  have HT := Lib.hid ht
  clear hk ht
  obtain ⟨⟨i0, i1, i2, i3, i4⟩, _⟩ := five_cells HT.out
  go_wp2_with fail
  refine (may_any _ _ _ _ _ _ (HL.out.ext HE.out).t).mono ?_
  rw [HM.out]
  rintro r w2 ⟨rfl, hk⟩
  have HE := Lib.hid (HE.out.trans hk)
  have ht := (hk.block _ (Array.getElem?_eq_some_iff.1 HT.out).1).trans HT.out
  have HT := Lib.hid ht
  clear hk ht i0 i1 i2 i3 i4
  obtain ⟨⟨i0, i1, i2, i3, i4⟩, _⟩ := five_cells HT.out
  go_wp2_with fail
  refine (places_any _ _ (HL.out.ext HE.out).t).mono ?_
  rintro r w3 ⟨rfl, hk⟩
  have HE := Lib.hid (HE.out.trans hk)
  have ht := (hk.block _ (Array.getElem?_eq_some_iff.1 HT.out).1).trans HT.out
  have HT := Lib.hid ht
  have hpl := plc_le b
  have c0 := fun A B C => (five_cells (row_alloc3 ht A B C)).1.1
  have c1 := fun A B C => (five_cells (row_alloc3 ht A B C)).1.2.1
  have c2 := fun A B C => (five_cells (row_alloc3 ht A B C)).1.2.2.1
  have c3 := fun A B C => (five_cells (row_alloc3 ht A B C)).1.2.2.2.1
  have c4 := fun A B C => (five_cells (row_alloc3 ht A B C)).1.2.2.2.2
  have f1 := fun A B C => (five_cells (row_alloc3 ht A B C)).2.2.1
  have f2 := fun A B C => (five_cells (row_alloc3 ht A B C)).2.2.2.1
  clear hk ht i0 i1 i2 i3 i4
  go_wp2_with fail
  clear c0 c1 c2 c3 c4 f1 f2
  refine (print_any _ _ _ _ _ _ (HL.out.ext (((((HE.out.alloc _).alloc _).alloc _).setCell (p := ⟨w.heap.size, 1, none⟩) (Nat.le_refl _) _).setCell (p := ⟨w.heap.size, 2, none⟩) (Nat.le_refl _) _))).mono ?_
  rw [HP.out, HR.out]
  rintro r w4 ⟨A4, cp4, rfl, _, hk⟩
  have ht : w4.heap[w.heap.size]? = some (.cells #[.int .i64 a, .int .i64 6, .int .i64 0, .int .i64 d, .int .i64 e] 23 (0, 0)) := wrong_row2 HT.out hk
  have HE := Lib.hid (wrong_ext2 HE.out hk)
  clear hk
  obtain ⟨⟨i0, i1, i2, i3, i4⟩, _⟩ := five_cells ht
  clear ht
  go_wp2_with fail
  refine (may_any _ _ _ _ _ _ (HL.out.ext HE.out).t).mono ?_
  rw [HN.out]
  rintro r w5 ⟨rfl, hk⟩
  have HE := Lib.hid (HE.out.trans hk)
  clear hk i0 i1 i2 i3 i4
  go_wp2_with fail
  go_ret
  exact ⟨rfl, HE.out⟩

set_option maxRecDepth 100000 in
set_option maxHeartbeats 3200000 in
theorem tagWrong_20 (a b c d e : Int) (x y : Int) (w : World) (hL : LaidA w) (hm : mayB a b c d e = true) (hx0 : 0 ≤ x) (hx1 : x ≤ 255) (hy0 : 0 ≤ y) (hy1 : y ≤ 255) (hx : x % 5 = 2) (hy : y % 4 = 0) :
    Calls Tryd.prog 7 #[.agg #[.int .i64 a, .int .i64 b, .int .i64 c, .int .i64 d, .int .i64 e], .int .u8 x, .int .u8 y] w fun r w' => r = .returned (.bool true) ∧ Ext w w' := by
  have hE := (Ext.refl w).alloc (.cells #[.int .i64 a, .int .i64 b, .int .i64 c, .int .i64 d, .int .i64 e] 23)
  have HT := Lib.hid (heap_alloc_new w (.cells #[.int .i64 a, .int .i64 b, .int .i64 c, .int .i64 d, .int .i64 e] 23))
  have HL := Lib.hid hL
  have HE := Lib.hid hE
  have HM := Lib.hid hm
  have hn : mayB a b (-1) d e = false := mayB_no (by have h := mayB_iff.1 hm; omega)
  have HN := Lib.hid hn
  have HP := Lib.hid (pl_len_no hn)
  have HR := Lib.hid (pr_no hn)
  clear hE hL hm hn
  go_enter Tryd.func7, Tryd.ntmps7
  go_wp2_with fail
  refine (tawake_any _ (HL.out.ext HE.out)).mono ?_
  rintro r w1 ⟨rfl, hk⟩
  have HE := Lib.hid (HE.out.trans hk)
  have ht := (hk.block _ (Array.getElem?_eq_some_iff.1 HT.out).1).trans HT.out
  have HT := Lib.hid ht
  clear hk ht
  obtain ⟨⟨i0, i1, i2, i3, i4⟩, _⟩ := five_cells HT.out
  go_wp2_with fail
  refine (may_any _ _ _ _ _ _ (HL.out.ext HE.out).t).mono ?_
  rw [HM.out]
  rintro r w2 ⟨rfl, hk⟩
  have HE := Lib.hid (HE.out.trans hk)
  have ht := (hk.block _ (Array.getElem?_eq_some_iff.1 HT.out).1).trans HT.out
  have HT := Lib.hid ht
  clear hk ht i0 i1 i2 i3 i4
  obtain ⟨⟨i0, i1, i2, i3, i4⟩, _⟩ := five_cells HT.out
  go_wp2_with fail
  refine (places_any _ _ (HL.out.ext HE.out).t).mono ?_
  rintro r w3 ⟨rfl, hk⟩
  have HE := Lib.hid (HE.out.trans hk)
  have ht := (hk.block _ (Array.getElem?_eq_some_iff.1 HT.out).1).trans HT.out
  have HT := Lib.hid ht
  have hpl := plc_le b
  have c0 := fun A B C => (five_cells (row_alloc3 ht A B C)).1.1
  have c1 := fun A B C => (five_cells (row_alloc3 ht A B C)).1.2.1
  have c2 := fun A B C => (five_cells (row_alloc3 ht A B C)).1.2.2.1
  have c3 := fun A B C => (five_cells (row_alloc3 ht A B C)).1.2.2.2.1
  have c4 := fun A B C => (five_cells (row_alloc3 ht A B C)).1.2.2.2.2
  have f2 := fun A B C => (five_cells (row_alloc3 ht A B C)).2.2.2.1
  clear hk ht i0 i1 i2 i3 i4
  go_wp2_with fail
  clear c0 c1 c2 c3 c4 f2
  refine (print_any _ _ _ _ _ _ (HL.out.ext ((((HE.out.alloc _).alloc _).alloc _).setCell (p := ⟨w.heap.size, 2, none⟩) (Nat.le_refl _) _))).mono ?_
  rw [HP.out, HR.out]
  rintro r w4 ⟨A4, cp4, rfl, _, hk⟩
  have ht : w4.heap[w.heap.size]? = some (.cells #[.int .i64 a, .int .i64 b, .int .i64 (-1), .int .i64 d, .int .i64 e] 23 (0, 0)) := wrong_row HT.out hk
  have HE := Lib.hid (wrong_ext HE.out hk)
  clear hk
  obtain ⟨⟨i0, i1, i2, i3, i4⟩, _⟩ := five_cells ht
  clear ht
  go_wp2_with fail
  refine (may_any _ _ _ _ _ _ (HL.out.ext HE.out).t).mono ?_
  rw [HN.out]
  rintro r w5 ⟨rfl, hk⟩
  have HE := Lib.hid (HE.out.trans hk)
  clear hk i0 i1 i2 i3 i4
  go_wp2_with fail
  go_ret
  exact ⟨rfl, HE.out⟩

set_option maxRecDepth 100000 in
set_option maxHeartbeats 3200000 in
theorem tagWrong_21 (a b c d e : Int) (x y : Int) (w : World) (hL : LaidA w) (hm : mayB a b c d e = true) (hx0 : 0 ≤ x) (hx1 : x ≤ 255) (hy0 : 0 ≤ y) (hy1 : y ≤ 255) (hx : x % 5 = 2) (hy : y % 4 = 1) :
    Calls Tryd.prog 7 #[.agg #[.int .i64 a, .int .i64 b, .int .i64 c, .int .i64 d, .int .i64 e], .int .u8 x, .int .u8 y] w fun r w' => r = .returned (.bool true) ∧ Ext w w' := by
  have hE := (Ext.refl w).alloc (.cells #[.int .i64 a, .int .i64 b, .int .i64 c, .int .i64 d, .int .i64 e] 23)
  have HT := Lib.hid (heap_alloc_new w (.cells #[.int .i64 a, .int .i64 b, .int .i64 c, .int .i64 d, .int .i64 e] 23))
  have HL := Lib.hid hL
  have HE := Lib.hid hE
  have HM := Lib.hid hm
  have hn : mayB a b 0 d e = true := mayB_iff.2 (by have h := mayB_iff.1 hm; omega)
  have HN := Lib.hid hn
  have HP := Lib.hid (pl_len_yes hn)
  have HR := Lib.hid (pr_yes hn)
  clear hE hL hm hn
  go_enter Tryd.func7, Tryd.ntmps7
  go_wp2_with fail
  refine (tawake_any _ (HL.out.ext HE.out)).mono ?_
  rintro r w1 ⟨rfl, hk⟩
  have HE := Lib.hid (HE.out.trans hk)
  have ht := (hk.block _ (Array.getElem?_eq_some_iff.1 HT.out).1).trans HT.out
  have HT := Lib.hid ht
  clear hk ht
  obtain ⟨⟨i0, i1, i2, i3, i4⟩, _⟩ := five_cells HT.out
  go_wp2_with fail
  refine (may_any _ _ _ _ _ _ (HL.out.ext HE.out).t).mono ?_
  rw [HM.out]
  rintro r w2 ⟨rfl, hk⟩
  have HE := Lib.hid (HE.out.trans hk)
  have ht := (hk.block _ (Array.getElem?_eq_some_iff.1 HT.out).1).trans HT.out
  have HT := Lib.hid ht
  clear hk ht i0 i1 i2 i3 i4
  obtain ⟨⟨i0, i1, i2, i3, i4⟩, _⟩ := five_cells HT.out
  go_wp2_with fail
  refine (places_any _ _ (HL.out.ext HE.out).t).mono ?_
  rintro r w3 ⟨rfl, hk⟩
  have HE := Lib.hid (HE.out.trans hk)
  have ht := (hk.block _ (Array.getElem?_eq_some_iff.1 HT.out).1).trans HT.out
  have HT := Lib.hid ht
  have hpl := plc_le b
  have c0 := fun A B C => (five_cells (row_alloc3 ht A B C)).1.1
  have c1 := fun A B C => (five_cells (row_alloc3 ht A B C)).1.2.1
  have c2 := fun A B C => (five_cells (row_alloc3 ht A B C)).1.2.2.1
  have c3 := fun A B C => (five_cells (row_alloc3 ht A B C)).1.2.2.2.1
  have c4 := fun A B C => (five_cells (row_alloc3 ht A B C)).1.2.2.2.2
  have f2 := fun A B C => (five_cells (row_alloc3 ht A B C)).2.2.2.1
  clear hk ht i0 i1 i2 i3 i4
  go_wp2_with fail
  clear c0 c1 c2 c3 c4 f2
  refine (print_any _ _ _ _ _ _ (HL.out.ext ((((HE.out.alloc _).alloc _).alloc _).setCell (p := ⟨w.heap.size, 2, none⟩) (Nat.le_refl _) _))).mono ?_
  rw [HP.out, HR.out]
  rintro r w4 ⟨A4, cp4, rfl, _, hk⟩
  have ht : w4.heap[w.heap.size]? = some (.cells #[.int .i64 a, .int .i64 b, .int .i64 0, .int .i64 d, .int .i64 e] 23 (0, 0)) := wrong_row HT.out hk
  have HE := Lib.hid (wrong_ext HE.out hk)
  clear hk
  obtain ⟨⟨i0, i1, i2, i3, i4⟩, _⟩ := five_cells ht
  clear ht
  go_wp2_with fail
  refine (may_any _ _ _ _ _ _ (HL.out.ext HE.out).t).mono ?_
  rw [HN.out]
  rintro r w5 ⟨rfl, hk⟩
  have HE := Lib.hid (HE.out.trans hk)
  clear hk i0 i1 i2 i3 i4
  go_wp2_with fail
  go_ret
  exact ⟨rfl, HE.out⟩

set_option maxRecDepth 100000 in
set_option maxHeartbeats 3200000 in
theorem tagWrong_22 (a b c d e : Int) (x y : Int) (w : World) (hL : LaidA w) (hm : mayB a b c d e = true) (hx0 : 0 ≤ x) (hx1 : x ≤ 255) (hy0 : 0 ≤ y) (hy1 : y ≤ 255) (hx : x % 5 = 2) (hy : y % 4 = 2) :
    Calls Tryd.prog 7 #[.agg #[.int .i64 a, .int .i64 b, .int .i64 c, .int .i64 d, .int .i64 e], .int .u8 x, .int .u8 y] w fun r w' => r = .returned (.bool true) ∧ Ext w w' := by
  have hE := (Ext.refl w).alloc (.cells #[.int .i64 a, .int .i64 b, .int .i64 c, .int .i64 d, .int .i64 e] 23)
  have HT := Lib.hid (heap_alloc_new w (.cells #[.int .i64 a, .int .i64 b, .int .i64 c, .int .i64 d, .int .i64 e] 23))
  have HL := Lib.hid hL
  have HE := Lib.hid hE
  have HM := Lib.hid hm
  have hn : mayB a b ((plc b : Int) - 1) d e = true := mayB_iff.2 (by have h := mayB_iff.1 hm; omega)
  have HN := Lib.hid hn
  have HP := Lib.hid (pl_len_yes hn)
  have HR := Lib.hid (pr_yes hn)
  clear hE hL hm hn
  go_enter Tryd.func7, Tryd.ntmps7
  go_wp2_with fail
  refine (tawake_any _ (HL.out.ext HE.out)).mono ?_
  rintro r w1 ⟨rfl, hk⟩
  have HE := Lib.hid (HE.out.trans hk)
  have ht := (hk.block _ (Array.getElem?_eq_some_iff.1 HT.out).1).trans HT.out
  have HT := Lib.hid ht
  clear hk ht
  obtain ⟨⟨i0, i1, i2, i3, i4⟩, _⟩ := five_cells HT.out
  go_wp2_with fail
  refine (may_any _ _ _ _ _ _ (HL.out.ext HE.out).t).mono ?_
  rw [HM.out]
  rintro r w2 ⟨rfl, hk⟩
  have HE := Lib.hid (HE.out.trans hk)
  have ht := (hk.block _ (Array.getElem?_eq_some_iff.1 HT.out).1).trans HT.out
  have HT := Lib.hid ht
  clear hk ht i0 i1 i2 i3 i4
  obtain ⟨⟨i0, i1, i2, i3, i4⟩, _⟩ := five_cells HT.out
  go_wp2_with fail
  refine (places_any _ _ (HL.out.ext HE.out).t).mono ?_
  rintro r w3 ⟨rfl, hk⟩
  have HE := Lib.hid (HE.out.trans hk)
  have ht := (hk.block _ (Array.getElem?_eq_some_iff.1 HT.out).1).trans HT.out
  have HT := Lib.hid ht
  have hpl := plc_le b
  have c0 := fun A B C => (five_cells (row_alloc3 ht A B C)).1.1
  have c1 := fun A B C => (five_cells (row_alloc3 ht A B C)).1.2.1
  have c2 := fun A B C => (five_cells (row_alloc3 ht A B C)).1.2.2.1
  have c3 := fun A B C => (five_cells (row_alloc3 ht A B C)).1.2.2.2.1
  have c4 := fun A B C => (five_cells (row_alloc3 ht A B C)).1.2.2.2.2
  have f2 := fun A B C => (five_cells (row_alloc3 ht A B C)).2.2.2.1
  clear hk ht i0 i1 i2 i3 i4
  go_wp2_with fail
  clear c0 c1 c2 c3 c4 f2
  refine (print_any _ _ _ _ _ _ (HL.out.ext ((((HE.out.alloc _).alloc _).alloc _).setCell (p := ⟨w.heap.size, 2, none⟩) (Nat.le_refl _) _))).mono ?_
  rw [HP.out, HR.out]
  rintro r w4 ⟨A4, cp4, rfl, _, hk⟩
  have ht : w4.heap[w.heap.size]? = some (.cells #[.int .i64 a, .int .i64 b, .int .i64 ((plc b : Int) - 1), .int .i64 d, .int .i64 e] 23 (0, 0)) := wrong_row HT.out hk
  have HE := Lib.hid (wrong_ext HE.out hk)
  clear hk
  obtain ⟨⟨i0, i1, i2, i3, i4⟩, _⟩ := five_cells ht
  clear ht
  go_wp2_with fail
  refine (may_any _ _ _ _ _ _ (HL.out.ext HE.out).t).mono ?_
  rw [HN.out]
  rintro r w5 ⟨rfl, hk⟩
  have HE := Lib.hid (HE.out.trans hk)
  clear hk i0 i1 i2 i3 i4
  go_wp2_with fail
  go_ret
  exact ⟨rfl, HE.out⟩

set_option maxRecDepth 100000 in
set_option maxHeartbeats 3200000 in
theorem tagWrong_23 (a b c d e : Int) (x y : Int) (w : World) (hL : LaidA w) (hm : mayB a b c d e = true) (hx0 : 0 ≤ x) (hx1 : x ≤ 255) (hy0 : 0 ≤ y) (hy1 : y ≤ 255) (hx : x % 5 = 2) (hy : y % 4 = 3) :
    Calls Tryd.prog 7 #[.agg #[.int .i64 a, .int .i64 b, .int .i64 c, .int .i64 d, .int .i64 e], .int .u8 x, .int .u8 y] w fun r w' => r = .returned (.bool true) ∧ Ext w w' := by
  have hE := (Ext.refl w).alloc (.cells #[.int .i64 a, .int .i64 b, .int .i64 c, .int .i64 d, .int .i64 e] 23)
  have HT := Lib.hid (heap_alloc_new w (.cells #[.int .i64 a, .int .i64 b, .int .i64 c, .int .i64 d, .int .i64 e] 23))
  have HL := Lib.hid hL
  have HE := Lib.hid hE
  have HM := Lib.hid hm
  have hn : mayB a b (plc b : Int) d e = false := mayB_no (by have h := mayB_iff.1 hm; omega)
  have HN := Lib.hid hn
  have HP := Lib.hid (pl_len_no hn)
  have HR := Lib.hid (pr_no hn)
  clear hE hL hm hn
  go_enter Tryd.func7, Tryd.ntmps7
  go_wp2_with fail
  refine (tawake_any _ (HL.out.ext HE.out)).mono ?_
  rintro r w1 ⟨rfl, hk⟩
  have HE := Lib.hid (HE.out.trans hk)
  have ht := (hk.block _ (Array.getElem?_eq_some_iff.1 HT.out).1).trans HT.out
  have HT := Lib.hid ht
  clear hk ht
  obtain ⟨⟨i0, i1, i2, i3, i4⟩, _⟩ := five_cells HT.out
  go_wp2_with fail
  refine (may_any _ _ _ _ _ _ (HL.out.ext HE.out).t).mono ?_
  rw [HM.out]
  rintro r w2 ⟨rfl, hk⟩
  have HE := Lib.hid (HE.out.trans hk)
  have ht := (hk.block _ (Array.getElem?_eq_some_iff.1 HT.out).1).trans HT.out
  have HT := Lib.hid ht
  clear hk ht i0 i1 i2 i3 i4
  obtain ⟨⟨i0, i1, i2, i3, i4⟩, _⟩ := five_cells HT.out
  go_wp2_with fail
  refine (places_any _ _ (HL.out.ext HE.out).t).mono ?_
  rintro r w3 ⟨rfl, hk⟩
  have HE := Lib.hid (HE.out.trans hk)
  have ht := (hk.block _ (Array.getElem?_eq_some_iff.1 HT.out).1).trans HT.out
  have HT := Lib.hid ht
  have hpl := plc_le b
  have c0 := fun A B C => (five_cells (row_alloc3 ht A B C)).1.1
  have c1 := fun A B C => (five_cells (row_alloc3 ht A B C)).1.2.1
  have c2 := fun A B C => (five_cells (row_alloc3 ht A B C)).1.2.2.1
  have c3 := fun A B C => (five_cells (row_alloc3 ht A B C)).1.2.2.2.1
  have c4 := fun A B C => (five_cells (row_alloc3 ht A B C)).1.2.2.2.2
  have f2 := fun A B C => (five_cells (row_alloc3 ht A B C)).2.2.2.1
  clear hk ht i0 i1 i2 i3 i4
  go_wp2_with fail
  clear c0 c1 c2 c3 c4 f2
  refine (print_any _ _ _ _ _ _ (HL.out.ext ((((HE.out.alloc _).alloc _).alloc _).setCell (p := ⟨w.heap.size, 2, none⟩) (Nat.le_refl _) _))).mono ?_
  rw [HP.out, HR.out]
  rintro r w4 ⟨A4, cp4, rfl, _, hk⟩
  have ht : w4.heap[w.heap.size]? = some (.cells #[.int .i64 a, .int .i64 b, .int .i64 (plc b : Int), .int .i64 d, .int .i64 e] 23 (0, 0)) := wrong_row HT.out hk
  have HE := Lib.hid (wrong_ext HE.out hk)
  clear hk
  obtain ⟨⟨i0, i1, i2, i3, i4⟩, _⟩ := five_cells ht
  clear ht
  go_wp2_with fail
  refine (may_any _ _ _ _ _ _ (HL.out.ext HE.out).t).mono ?_
  rw [HN.out]
  rintro r w5 ⟨rfl, hk⟩
  have HE := Lib.hid (HE.out.trans hk)
  clear hk i0 i1 i2 i3 i4
  go_wp2_with fail
  go_ret
  exact ⟨rfl, HE.out⟩

set_option maxRecDepth 100000 in
set_option maxHeartbeats 3200000 in
theorem tagWrong_30 (a b c d e : Int) (x y : Int) (w : World) (hL : LaidA w) (hm : mayB a b c d e = true) (hx0 : 0 ≤ x) (hx1 : x ≤ 255) (hy0 : 0 ≤ y) (hy1 : y ≤ 255) (hx : x % 5 = 3) (hy : y % 4 = 0) :
    Calls Tryd.prog 7 #[.agg #[.int .i64 a, .int .i64 b, .int .i64 c, .int .i64 d, .int .i64 e], .int .u8 x, .int .u8 y] w fun r w' => r = .returned (.bool true) ∧ Ext w w' := by
  have hE := (Ext.refl w).alloc (.cells #[.int .i64 a, .int .i64 b, .int .i64 c, .int .i64 d, .int .i64 e] 23)
  have HT := Lib.hid (heap_alloc_new w (.cells #[.int .i64 a, .int .i64 b, .int .i64 c, .int .i64 d, .int .i64 e] 23))
  have HL := Lib.hid hL
  have HE := Lib.hid hE
  have HM := Lib.hid hm
  have hn : mayB a b c (-1) e = false := mayB_no (by have h := mayB_iff.1 hm; omega)
  have HN := Lib.hid hn
  have HP := Lib.hid (pl_len_no hn)
  have HR := Lib.hid (pr_no hn)
  clear hE hL hm hn
  go_enter Tryd.func7, Tryd.ntmps7
  go_wp2_with fail
  refine (tawake_any _ (HL.out.ext HE.out)).mono ?_
  rintro r w1 ⟨rfl, hk⟩
  have HE := Lib.hid (HE.out.trans hk)
  have ht := (hk.block _ (Array.getElem?_eq_some_iff.1 HT.out).1).trans HT.out
  have HT := Lib.hid ht
  clear hk ht
  obtain ⟨⟨i0, i1, i2, i3, i4⟩, _⟩ := five_cells HT.out
  go_wp2_with fail
  refine (may_any _ _ _ _ _ _ (HL.out.ext HE.out).t).mono ?_
  rw [HM.out]
  rintro r w2 ⟨rfl, hk⟩
  have HE := Lib.hid (HE.out.trans hk)
  have ht := (hk.block _ (Array.getElem?_eq_some_iff.1 HT.out).1).trans HT.out
  have HT := Lib.hid ht
  clear hk ht i0 i1 i2 i3 i4
  obtain ⟨⟨i0, i1, i2, i3, i4⟩, _⟩ := five_cells HT.out
  go_wp2_with fail
  refine (places_any _ _ (HL.out.ext HE.out).t).mono ?_
  rintro r w3 ⟨rfl, hk⟩
  have HE := Lib.hid (HE.out.trans hk)
  have ht := (hk.block _ (Array.getElem?_eq_some_iff.1 HT.out).1).trans HT.out
  have HT := Lib.hid ht
  have hpl := plc_le b
  have c0 := fun A B C => (five_cells (row_alloc3 ht A B C)).1.1
  have c1 := fun A B C => (five_cells (row_alloc3 ht A B C)).1.2.1
  have c2 := fun A B C => (five_cells (row_alloc3 ht A B C)).1.2.2.1
  have c3 := fun A B C => (five_cells (row_alloc3 ht A B C)).1.2.2.2.1
  have c4 := fun A B C => (five_cells (row_alloc3 ht A B C)).1.2.2.2.2
  have f3 := fun A B C => (five_cells (row_alloc3 ht A B C)).2.2.2.2.1
  clear hk ht i0 i1 i2 i3 i4
  go_wp2_with fail
  clear c0 c1 c2 c3 c4 f3
  refine (print_any _ _ _ _ _ _ (HL.out.ext ((((HE.out.alloc _).alloc _).alloc _).setCell (p := ⟨w.heap.size, 3, none⟩) (Nat.le_refl _) _))).mono ?_
  rw [HP.out, HR.out]
  rintro r w4 ⟨A4, cp4, rfl, _, hk⟩
  have ht : w4.heap[w.heap.size]? = some (.cells #[.int .i64 a, .int .i64 b, .int .i64 c, .int .i64 (-1), .int .i64 e] 23 (0, 0)) := wrong_row HT.out hk
  have HE := Lib.hid (wrong_ext HE.out hk)
  clear hk
  obtain ⟨⟨i0, i1, i2, i3, i4⟩, _⟩ := five_cells ht
  clear ht
  go_wp2_with fail
  refine (may_any _ _ _ _ _ _ (HL.out.ext HE.out).t).mono ?_
  rw [HN.out]
  rintro r w5 ⟨rfl, hk⟩
  have HE := Lib.hid (HE.out.trans hk)
  clear hk i0 i1 i2 i3 i4
  go_wp2_with fail
  go_ret
  exact ⟨rfl, HE.out⟩

set_option maxRecDepth 100000 in
set_option maxHeartbeats 3200000 in
theorem tagWrong_31 (a b c d e : Int) (x y : Int) (w : World) (hL : LaidA w) (hm : mayB a b c d e = true) (hx0 : 0 ≤ x) (hx1 : x ≤ 255) (hy0 : 0 ≤ y) (hy1 : y ≤ 255) (hx : x % 5 = 3) (hy : y % 4 = 1) :
    Calls Tryd.prog 7 #[.agg #[.int .i64 a, .int .i64 b, .int .i64 c, .int .i64 d, .int .i64 e], .int .u8 x, .int .u8 y] w fun r w' => r = .returned (.bool true) ∧ Ext w w' := by
  have hE := (Ext.refl w).alloc (.cells #[.int .i64 a, .int .i64 b, .int .i64 c, .int .i64 d, .int .i64 e] 23)
  have HT := Lib.hid (heap_alloc_new w (.cells #[.int .i64 a, .int .i64 b, .int .i64 c, .int .i64 d, .int .i64 e] 23))
  have HL := Lib.hid hL
  have HE := Lib.hid hE
  have HM := Lib.hid hm
  have hn : mayB a b c 0 e = true := mayB_iff.2 (by have h := mayB_iff.1 hm; omega)
  have HN := Lib.hid hn
  have HP := Lib.hid (pl_len_yes hn)
  have HR := Lib.hid (pr_yes hn)
  clear hE hL hm hn
  go_enter Tryd.func7, Tryd.ntmps7
  go_wp2_with fail
  refine (tawake_any _ (HL.out.ext HE.out)).mono ?_
  rintro r w1 ⟨rfl, hk⟩
  have HE := Lib.hid (HE.out.trans hk)
  have ht := (hk.block _ (Array.getElem?_eq_some_iff.1 HT.out).1).trans HT.out
  have HT := Lib.hid ht
  clear hk ht
  obtain ⟨⟨i0, i1, i2, i3, i4⟩, _⟩ := five_cells HT.out
  go_wp2_with fail
  refine (may_any _ _ _ _ _ _ (HL.out.ext HE.out).t).mono ?_
  rw [HM.out]
  rintro r w2 ⟨rfl, hk⟩
  have HE := Lib.hid (HE.out.trans hk)
  have ht := (hk.block _ (Array.getElem?_eq_some_iff.1 HT.out).1).trans HT.out
  have HT := Lib.hid ht
  clear hk ht i0 i1 i2 i3 i4
  obtain ⟨⟨i0, i1, i2, i3, i4⟩, _⟩ := five_cells HT.out
  go_wp2_with fail
  refine (places_any _ _ (HL.out.ext HE.out).t).mono ?_
  rintro r w3 ⟨rfl, hk⟩
  have HE := Lib.hid (HE.out.trans hk)
  have ht := (hk.block _ (Array.getElem?_eq_some_iff.1 HT.out).1).trans HT.out
  have HT := Lib.hid ht
  have hpl := plc_le b
  have c0 := fun A B C => (five_cells (row_alloc3 ht A B C)).1.1
  have c1 := fun A B C => (five_cells (row_alloc3 ht A B C)).1.2.1
  have c2 := fun A B C => (five_cells (row_alloc3 ht A B C)).1.2.2.1
  have c3 := fun A B C => (five_cells (row_alloc3 ht A B C)).1.2.2.2.1
  have c4 := fun A B C => (five_cells (row_alloc3 ht A B C)).1.2.2.2.2
  have f3 := fun A B C => (five_cells (row_alloc3 ht A B C)).2.2.2.2.1
  clear hk ht i0 i1 i2 i3 i4
  go_wp2_with fail
  clear c0 c1 c2 c3 c4 f3
  refine (print_any _ _ _ _ _ _ (HL.out.ext ((((HE.out.alloc _).alloc _).alloc _).setCell (p := ⟨w.heap.size, 3, none⟩) (Nat.le_refl _) _))).mono ?_
  rw [HP.out, HR.out]
  rintro r w4 ⟨A4, cp4, rfl, _, hk⟩
  have ht : w4.heap[w.heap.size]? = some (.cells #[.int .i64 a, .int .i64 b, .int .i64 c, .int .i64 0, .int .i64 e] 23 (0, 0)) := wrong_row HT.out hk
  have HE := Lib.hid (wrong_ext HE.out hk)
  clear hk
  obtain ⟨⟨i0, i1, i2, i3, i4⟩, _⟩ := five_cells ht
  clear ht
  go_wp2_with fail
  refine (may_any _ _ _ _ _ _ (HL.out.ext HE.out).t).mono ?_
  rw [HN.out]
  rintro r w5 ⟨rfl, hk⟩
  have HE := Lib.hid (HE.out.trans hk)
  clear hk i0 i1 i2 i3 i4
  go_wp2_with fail
  go_ret
  exact ⟨rfl, HE.out⟩

set_option maxRecDepth 100000 in
set_option maxHeartbeats 3200000 in
theorem tagWrong_32 (a b c d e : Int) (x y : Int) (w : World) (hL : LaidA w) (hm : mayB a b c d e = true) (hx0 : 0 ≤ x) (hx1 : x ≤ 255) (hy0 : 0 ≤ y) (hy1 : y ≤ 255) (hx : x % 5 = 3) (hy : y % 4 = 2) :
    Calls Tryd.prog 7 #[.agg #[.int .i64 a, .int .i64 b, .int .i64 c, .int .i64 d, .int .i64 e], .int .u8 x, .int .u8 y] w fun r w' => r = .returned (.bool true) ∧ Ext w w' := by
  have hE := (Ext.refl w).alloc (.cells #[.int .i64 a, .int .i64 b, .int .i64 c, .int .i64 d, .int .i64 e] 23)
  have HT := Lib.hid (heap_alloc_new w (.cells #[.int .i64 a, .int .i64 b, .int .i64 c, .int .i64 d, .int .i64 e] 23))
  have HL := Lib.hid hL
  have HE := Lib.hid hE
  have HM := Lib.hid hm
  have hn : mayB a b c 1099511627776 e = true := mayB_iff.2 (by have h := mayB_iff.1 hm; omega)
  have HN := Lib.hid hn
  have HP := Lib.hid (pl_len_yes hn)
  have HR := Lib.hid (pr_yes hn)
  clear hE hL hm hn
  go_enter Tryd.func7, Tryd.ntmps7
  go_wp2_with fail
  refine (tawake_any _ (HL.out.ext HE.out)).mono ?_
  rintro r w1 ⟨rfl, hk⟩
  have HE := Lib.hid (HE.out.trans hk)
  have ht := (hk.block _ (Array.getElem?_eq_some_iff.1 HT.out).1).trans HT.out
  have HT := Lib.hid ht
  clear hk ht
  obtain ⟨⟨i0, i1, i2, i3, i4⟩, _⟩ := five_cells HT.out
  go_wp2_with fail
  refine (may_any _ _ _ _ _ _ (HL.out.ext HE.out).t).mono ?_
  rw [HM.out]
  rintro r w2 ⟨rfl, hk⟩
  have HE := Lib.hid (HE.out.trans hk)
  have ht := (hk.block _ (Array.getElem?_eq_some_iff.1 HT.out).1).trans HT.out
  have HT := Lib.hid ht
  clear hk ht i0 i1 i2 i3 i4
  obtain ⟨⟨i0, i1, i2, i3, i4⟩, _⟩ := five_cells HT.out
  go_wp2_with fail
  refine (places_any _ _ (HL.out.ext HE.out).t).mono ?_
  rintro r w3 ⟨rfl, hk⟩
  have HE := Lib.hid (HE.out.trans hk)
  have ht := (hk.block _ (Array.getElem?_eq_some_iff.1 HT.out).1).trans HT.out
  have HT := Lib.hid ht
  have hpl := plc_le b
  have c0 := fun A B C => (five_cells (row_alloc3 ht A B C)).1.1
  have c1 := fun A B C => (five_cells (row_alloc3 ht A B C)).1.2.1
  have c2 := fun A B C => (five_cells (row_alloc3 ht A B C)).1.2.2.1
  have c3 := fun A B C => (five_cells (row_alloc3 ht A B C)).1.2.2.2.1
  have c4 := fun A B C => (five_cells (row_alloc3 ht A B C)).1.2.2.2.2
  have f3 := fun A B C => (five_cells (row_alloc3 ht A B C)).2.2.2.2.1
  clear hk ht i0 i1 i2 i3 i4
  go_wp2_with fail
  clear c0 c1 c2 c3 c4 f3
  refine (print_any _ _ _ _ _ _ (HL.out.ext ((((HE.out.alloc _).alloc _).alloc _).setCell (p := ⟨w.heap.size, 3, none⟩) (Nat.le_refl _) _))).mono ?_
  rw [HP.out, HR.out]
  rintro r w4 ⟨A4, cp4, rfl, _, hk⟩
  have ht : w4.heap[w.heap.size]? = some (.cells #[.int .i64 a, .int .i64 b, .int .i64 c, .int .i64 1099511627776, .int .i64 e] 23 (0, 0)) := wrong_row HT.out hk
  have HE := Lib.hid (wrong_ext HE.out hk)
  clear hk
  obtain ⟨⟨i0, i1, i2, i3, i4⟩, _⟩ := five_cells ht
  clear ht
  go_wp2_with fail
  refine (may_any _ _ _ _ _ _ (HL.out.ext HE.out).t).mono ?_
  rw [HN.out]
  rintro r w5 ⟨rfl, hk⟩
  have HE := Lib.hid (HE.out.trans hk)
  clear hk i0 i1 i2 i3 i4
  go_wp2_with fail
  go_ret
  exact ⟨rfl, HE.out⟩

set_option maxRecDepth 100000 in
set_option maxHeartbeats 3200000 in
theorem tagWrong_33 (a b c d e : Int) (x y : Int) (w : World) (hL : LaidA w) (hm : mayB a b c d e = true) (hx0 : 0 ≤ x) (hx1 : x ≤ 255) (hy0 : 0 ≤ y) (hy1 : y ≤ 255) (hx : x % 5 = 3) (hy : y % 4 = 3) :
    Calls Tryd.prog 7 #[.agg #[.int .i64 a, .int .i64 b, .int .i64 c, .int .i64 d, .int .i64 e], .int .u8 x, .int .u8 y] w fun r w' => r = .returned (.bool true) ∧ Ext w w' := by
  have hE := (Ext.refl w).alloc (.cells #[.int .i64 a, .int .i64 b, .int .i64 c, .int .i64 d, .int .i64 e] 23)
  have HT := Lib.hid (heap_alloc_new w (.cells #[.int .i64 a, .int .i64 b, .int .i64 c, .int .i64 d, .int .i64 e] 23))
  have HL := Lib.hid hL
  have HE := Lib.hid hE
  have HM := Lib.hid hm
  have hn : mayB a b c 1099511627777 e = false := mayB_no (by have h := mayB_iff.1 hm; omega)
  have HN := Lib.hid hn
  have HP := Lib.hid (pl_len_no hn)
  have HR := Lib.hid (pr_no hn)
  clear hE hL hm hn
  go_enter Tryd.func7, Tryd.ntmps7
  go_wp2_with fail
  refine (tawake_any _ (HL.out.ext HE.out)).mono ?_
  rintro r w1 ⟨rfl, hk⟩
  have HE := Lib.hid (HE.out.trans hk)
  have ht := (hk.block _ (Array.getElem?_eq_some_iff.1 HT.out).1).trans HT.out
  have HT := Lib.hid ht
  clear hk ht
  obtain ⟨⟨i0, i1, i2, i3, i4⟩, _⟩ := five_cells HT.out
  go_wp2_with fail
  refine (may_any _ _ _ _ _ _ (HL.out.ext HE.out).t).mono ?_
  rw [HM.out]
  rintro r w2 ⟨rfl, hk⟩
  have HE := Lib.hid (HE.out.trans hk)
  have ht := (hk.block _ (Array.getElem?_eq_some_iff.1 HT.out).1).trans HT.out
  have HT := Lib.hid ht
  clear hk ht i0 i1 i2 i3 i4
  obtain ⟨⟨i0, i1, i2, i3, i4⟩, _⟩ := five_cells HT.out
  go_wp2_with fail
  refine (places_any _ _ (HL.out.ext HE.out).t).mono ?_
  rintro r w3 ⟨rfl, hk⟩
  have HE := Lib.hid (HE.out.trans hk)
  have ht := (hk.block _ (Array.getElem?_eq_some_iff.1 HT.out).1).trans HT.out
  have HT := Lib.hid ht
  have hpl := plc_le b
  have c0 := fun A B C => (five_cells (row_alloc3 ht A B C)).1.1
  have c1 := fun A B C => (five_cells (row_alloc3 ht A B C)).1.2.1
  have c2 := fun A B C => (five_cells (row_alloc3 ht A B C)).1.2.2.1
  have c3 := fun A B C => (five_cells (row_alloc3 ht A B C)).1.2.2.2.1
  have c4 := fun A B C => (five_cells (row_alloc3 ht A B C)).1.2.2.2.2
  have f3 := fun A B C => (five_cells (row_alloc3 ht A B C)).2.2.2.2.1
  clear hk ht i0 i1 i2 i3 i4
  go_wp2_with fail
  clear c0 c1 c2 c3 c4 f3
  refine (print_any _ _ _ _ _ _ (HL.out.ext ((((HE.out.alloc _).alloc _).alloc _).setCell (p := ⟨w.heap.size, 3, none⟩) (Nat.le_refl _) _))).mono ?_
  rw [HP.out, HR.out]
  rintro r w4 ⟨A4, cp4, rfl, _, hk⟩
  have ht : w4.heap[w.heap.size]? = some (.cells #[.int .i64 a, .int .i64 b, .int .i64 c, .int .i64 1099511627777, .int .i64 e] 23 (0, 0)) := wrong_row HT.out hk
  have HE := Lib.hid (wrong_ext HE.out hk)
  clear hk
  obtain ⟨⟨i0, i1, i2, i3, i4⟩, _⟩ := five_cells ht
  clear ht
  go_wp2_with fail
  refine (may_any _ _ _ _ _ _ (HL.out.ext HE.out).t).mono ?_
  rw [HN.out]
  rintro r w5 ⟨rfl, hk⟩
  have HE := Lib.hid (HE.out.trans hk)
  clear hk i0 i1 i2 i3 i4
  go_wp2_with fail
  go_ret
  exact ⟨rfl, HE.out⟩

set_option maxRecDepth 100000 in
set_option maxHeartbeats 3200000 in
theorem tagWrong_40 (a b c d e : Int) (x y : Int) (w : World) (hL : LaidA w) (hm : mayB a b c d e = true) (hx0 : 0 ≤ x) (hx1 : x ≤ 255) (hy0 : 0 ≤ y) (hy1 : y ≤ 255) (hx : x % 5 = 4) (hy : y % 4 = 0) :
    Calls Tryd.prog 7 #[.agg #[.int .i64 a, .int .i64 b, .int .i64 c, .int .i64 d, .int .i64 e], .int .u8 x, .int .u8 y] w fun r w' => r = .returned (.bool true) ∧ Ext w w' := by
  have hE := (Ext.refl w).alloc (.cells #[.int .i64 a, .int .i64 b, .int .i64 c, .int .i64 d, .int .i64 e] 23)
  have HT := Lib.hid (heap_alloc_new w (.cells #[.int .i64 a, .int .i64 b, .int .i64 c, .int .i64 d, .int .i64 e] 23))
  have HL := Lib.hid hL
  have HE := Lib.hid hE
  have HM := Lib.hid hm
  have hn : mayB a b c d 0 = false := mayB_no (by have h := mayB_iff.1 hm; omega)
  have HN := Lib.hid hn
  have HP := Lib.hid (pl_len_no hn)
  have HR := Lib.hid (pr_no hn)
  clear hE hL hm hn
  go_enter Tryd.func7, Tryd.ntmps7
  go_wp2_with fail
  refine (tawake_any _ (HL.out.ext HE.out)).mono ?_
  rintro r w1 ⟨rfl, hk⟩
  have HE := Lib.hid (HE.out.trans hk)
  have ht := (hk.block _ (Array.getElem?_eq_some_iff.1 HT.out).1).trans HT.out
  have HT := Lib.hid ht
  clear hk ht
  obtain ⟨⟨i0, i1, i2, i3, i4⟩, _⟩ := five_cells HT.out
  go_wp2_with fail
  refine (may_any _ _ _ _ _ _ (HL.out.ext HE.out).t).mono ?_
  rw [HM.out]
  rintro r w2 ⟨rfl, hk⟩
  have HE := Lib.hid (HE.out.trans hk)
  have ht := (hk.block _ (Array.getElem?_eq_some_iff.1 HT.out).1).trans HT.out
  have HT := Lib.hid ht
  clear hk ht i0 i1 i2 i3 i4
  obtain ⟨⟨i0, i1, i2, i3, i4⟩, _⟩ := five_cells HT.out
  go_wp2_with fail
  refine (places_any _ _ (HL.out.ext HE.out).t).mono ?_
  rintro r w3 ⟨rfl, hk⟩
  have HE := Lib.hid (HE.out.trans hk)
  have ht := (hk.block _ (Array.getElem?_eq_some_iff.1 HT.out).1).trans HT.out
  have HT := Lib.hid ht
  have hpl := plc_le b
  have c0 := fun A B C => (five_cells (row_alloc3 ht A B C)).1.1
  have c1 := fun A B C => (five_cells (row_alloc3 ht A B C)).1.2.1
  have c2 := fun A B C => (five_cells (row_alloc3 ht A B C)).1.2.2.1
  have c3 := fun A B C => (five_cells (row_alloc3 ht A B C)).1.2.2.2.1
  have c4 := fun A B C => (five_cells (row_alloc3 ht A B C)).1.2.2.2.2
  have f4 := fun A B C => (five_cells (row_alloc3 ht A B C)).2.2.2.2.2
  clear hk ht i0 i1 i2 i3 i4
  go_wp2_with fail
  clear c0 c1 c2 c3 c4 f4
  refine (print_any _ _ _ _ _ _ (HL.out.ext ((((HE.out.alloc _).alloc _).alloc _).setCell (p := ⟨w.heap.size, 4, none⟩) (Nat.le_refl _) _))).mono ?_
  rw [HP.out, HR.out]
  rintro r w4 ⟨A4, cp4, rfl, _, hk⟩
  have ht : w4.heap[w.heap.size]? = some (.cells #[.int .i64 a, .int .i64 b, .int .i64 c, .int .i64 d, .int .i64 0] 23 (0, 0)) := wrong_row HT.out hk
  have HE := Lib.hid (wrong_ext HE.out hk)
  clear hk
  obtain ⟨⟨i0, i1, i2, i3, i4⟩, _⟩ := five_cells ht
  clear ht
  go_wp2_with fail
  refine (may_any _ _ _ _ _ _ (HL.out.ext HE.out).t).mono ?_
  rw [HN.out]
  rintro r w5 ⟨rfl, hk⟩
  have HE := Lib.hid (HE.out.trans hk)
  clear hk i0 i1 i2 i3 i4
  go_wp2_with fail
  go_ret
  exact ⟨rfl, HE.out⟩

set_option maxRecDepth 100000 in
set_option maxHeartbeats 3200000 in
theorem tagWrong_41 (a b c d e : Int) (x y : Int) (w : World) (hL : LaidA w) (hm : mayB a b c d e = true) (hx0 : 0 ≤ x) (hx1 : x ≤ 255) (hy0 : 0 ≤ y) (hy1 : y ≤ 255) (hx : x % 5 = 4) (hy : y % 4 = 1) :
    Calls Tryd.prog 7 #[.agg #[.int .i64 a, .int .i64 b, .int .i64 c, .int .i64 d, .int .i64 e], .int .u8 x, .int .u8 y] w fun r w' => r = .returned (.bool true) ∧ Ext w w' := by
  have hE := (Ext.refl w).alloc (.cells #[.int .i64 a, .int .i64 b, .int .i64 c, .int .i64 d, .int .i64 e] 23)
  have HT := Lib.hid (heap_alloc_new w (.cells #[.int .i64 a, .int .i64 b, .int .i64 c, .int .i64 d, .int .i64 e] 23))
  have HL := Lib.hid hL
  have HE := Lib.hid hE
  have HM := Lib.hid hm
  have hn : mayB a b c d 1 = true := mayB_iff.2 (by have h := mayB_iff.1 hm; omega)
  have HN := Lib.hid hn
  have HP := Lib.hid (pl_len_yes hn)
  have HR := Lib.hid (pr_yes hn)
  clear hE hL hm hn
  go_enter Tryd.func7, Tryd.ntmps7
  go_wp2_with fail
  refine (tawake_any _ (HL.out.ext HE.out)).mono ?_
  rintro r w1 ⟨rfl, hk⟩
  have HE := Lib.hid (HE.out.trans hk)
  have ht := (hk.block _ (Array.getElem?_eq_some_iff.1 HT.out).1).trans HT.out
  have HT := Lib.hid ht
  clear hk ht
  obtain ⟨⟨i0, i1, i2, i3, i4⟩, _⟩ := five_cells HT.out
  go_wp2_with fail
  refine (may_any _ _ _ _ _ _ (HL.out.ext HE.out).t).mono ?_
  rw [HM.out]
  rintro r w2 ⟨rfl, hk⟩
  have HE := Lib.hid (HE.out.trans hk)
  have ht := (hk.block _ (Array.getElem?_eq_some_iff.1 HT.out).1).trans HT.out
  have HT := Lib.hid ht
  clear hk ht i0 i1 i2 i3 i4
  obtain ⟨⟨i0, i1, i2, i3, i4⟩, _⟩ := five_cells HT.out
  go_wp2_with fail
  refine (places_any _ _ (HL.out.ext HE.out).t).mono ?_
  rintro r w3 ⟨rfl, hk⟩
  have HE := Lib.hid (HE.out.trans hk)
  have ht := (hk.block _ (Array.getElem?_eq_some_iff.1 HT.out).1).trans HT.out
  have HT := Lib.hid ht
  have hpl := plc_le b
  have c0 := fun A B C => (five_cells (row_alloc3 ht A B C)).1.1
  have c1 := fun A B C => (five_cells (row_alloc3 ht A B C)).1.2.1
  have c2 := fun A B C => (five_cells (row_alloc3 ht A B C)).1.2.2.1
  have c3 := fun A B C => (five_cells (row_alloc3 ht A B C)).1.2.2.2.1
  have c4 := fun A B C => (five_cells (row_alloc3 ht A B C)).1.2.2.2.2
  have f4 := fun A B C => (five_cells (row_alloc3 ht A B C)).2.2.2.2.2
  clear hk ht i0 i1 i2 i3 i4
  go_wp2_with fail
  clear c0 c1 c2 c3 c4 f4
  refine (print_any _ _ _ _ _ _ (HL.out.ext ((((HE.out.alloc _).alloc _).alloc _).setCell (p := ⟨w.heap.size, 4, none⟩) (Nat.le_refl _) _))).mono ?_
  rw [HP.out, HR.out]
  rintro r w4 ⟨A4, cp4, rfl, _, hk⟩
  have ht : w4.heap[w.heap.size]? = some (.cells #[.int .i64 a, .int .i64 b, .int .i64 c, .int .i64 d, .int .i64 1] 23 (0, 0)) := wrong_row HT.out hk
  have HE := Lib.hid (wrong_ext HE.out hk)
  clear hk
  obtain ⟨⟨i0, i1, i2, i3, i4⟩, _⟩ := five_cells ht
  clear ht
  go_wp2_with fail
  refine (may_any _ _ _ _ _ _ (HL.out.ext HE.out).t).mono ?_
  rw [HN.out]
  rintro r w5 ⟨rfl, hk⟩
  have HE := Lib.hid (HE.out.trans hk)
  clear hk i0 i1 i2 i3 i4
  go_wp2_with fail
  go_ret
  exact ⟨rfl, HE.out⟩

set_option maxRecDepth 100000 in
set_option maxHeartbeats 3200000 in
theorem tagWrong_42 (a b c d e : Int) (x y : Int) (w : World) (hL : LaidA w) (hm : mayB a b c d e = true) (hx0 : 0 ≤ x) (hx1 : x ≤ 255) (hy0 : 0 ≤ y) (hy1 : y ≤ 255) (hx : x % 5 = 4) (hy : y % 4 = 2) :
    Calls Tryd.prog 7 #[.agg #[.int .i64 a, .int .i64 b, .int .i64 c, .int .i64 d, .int .i64 e], .int .u8 x, .int .u8 y] w fun r w' => r = .returned (.bool true) ∧ Ext w w' := by
  have hE := (Ext.refl w).alloc (.cells #[.int .i64 a, .int .i64 b, .int .i64 c, .int .i64 d, .int .i64 e] 23)
  have HT := Lib.hid (heap_alloc_new w (.cells #[.int .i64 a, .int .i64 b, .int .i64 c, .int .i64 d, .int .i64 e] 23))
  have HL := Lib.hid hL
  have HE := Lib.hid hE
  have HM := Lib.hid hm
  have hn : mayB a b c d 1099511627776 = true := mayB_iff.2 (by have h := mayB_iff.1 hm; omega)
  have HN := Lib.hid hn
  have HP := Lib.hid (pl_len_yes hn)
  have HR := Lib.hid (pr_yes hn)
  clear hE hL hm hn
  go_enter Tryd.func7, Tryd.ntmps7
  go_wp2_with fail
  refine (tawake_any _ (HL.out.ext HE.out)).mono ?_
  rintro r w1 ⟨rfl, hk⟩
  have HE := Lib.hid (HE.out.trans hk)
  have ht := (hk.block _ (Array.getElem?_eq_some_iff.1 HT.out).1).trans HT.out
  have HT := Lib.hid ht
  clear hk ht
  obtain ⟨⟨i0, i1, i2, i3, i4⟩, _⟩ := five_cells HT.out
  go_wp2_with fail
  refine (may_any _ _ _ _ _ _ (HL.out.ext HE.out).t).mono ?_
  rw [HM.out]
  rintro r w2 ⟨rfl, hk⟩
  have HE := Lib.hid (HE.out.trans hk)
  have ht := (hk.block _ (Array.getElem?_eq_some_iff.1 HT.out).1).trans HT.out
  have HT := Lib.hid ht
  clear hk ht i0 i1 i2 i3 i4
  obtain ⟨⟨i0, i1, i2, i3, i4⟩, _⟩ := five_cells HT.out
  go_wp2_with fail
  refine (places_any _ _ (HL.out.ext HE.out).t).mono ?_
  rintro r w3 ⟨rfl, hk⟩
  have HE := Lib.hid (HE.out.trans hk)
  have ht := (hk.block _ (Array.getElem?_eq_some_iff.1 HT.out).1).trans HT.out
  have HT := Lib.hid ht
  have hpl := plc_le b
  have c0 := fun A B C => (five_cells (row_alloc3 ht A B C)).1.1
  have c1 := fun A B C => (five_cells (row_alloc3 ht A B C)).1.2.1
  have c2 := fun A B C => (five_cells (row_alloc3 ht A B C)).1.2.2.1
  have c3 := fun A B C => (five_cells (row_alloc3 ht A B C)).1.2.2.2.1
  have c4 := fun A B C => (five_cells (row_alloc3 ht A B C)).1.2.2.2.2
  have f4 := fun A B C => (five_cells (row_alloc3 ht A B C)).2.2.2.2.2
  clear hk ht i0 i1 i2 i3 i4
  go_wp2_with fail
  clear c0 c1 c2 c3 c4 f4
  refine (print_any _ _ _ _ _ _ (HL.out.ext ((((HE.out.alloc _).alloc _).alloc _).setCell (p := ⟨w.heap.size, 4, none⟩) (Nat.le_refl _) _))).mono ?_
  rw [HP.out, HR.out]
  rintro r w4 ⟨A4, cp4, rfl, _, hk⟩
  have ht : w4.heap[w.heap.size]? = some (.cells #[.int .i64 a, .int .i64 b, .int .i64 c, .int .i64 d, .int .i64 1099511627776] 23 (0, 0)) := wrong_row HT.out hk
  have HE := Lib.hid (wrong_ext HE.out hk)
  clear hk
  obtain ⟨⟨i0, i1, i2, i3, i4⟩, _⟩ := five_cells ht
  clear ht
  go_wp2_with fail
  refine (may_any _ _ _ _ _ _ (HL.out.ext HE.out).t).mono ?_
  rw [HN.out]
  rintro r w5 ⟨rfl, hk⟩
  have HE := Lib.hid (HE.out.trans hk)
  clear hk i0 i1 i2 i3 i4
  go_wp2_with fail
  go_ret
  exact ⟨rfl, HE.out⟩

set_option maxRecDepth 100000 in
set_option maxHeartbeats 3200000 in
theorem tagWrong_43 (a b c d e : Int) (x y : Int) (w : World) (hL : LaidA w) (hm : mayB a b c d e = true) (hx0 : 0 ≤ x) (hx1 : x ≤ 255) (hy0 : 0 ≤ y) (hy1 : y ≤ 255) (hx : x % 5 = 4) (hy : y % 4 = 3) :
    Calls Tryd.prog 7 #[.agg #[.int .i64 a, .int .i64 b, .int .i64 c, .int .i64 d, .int .i64 e], .int .u8 x, .int .u8 y] w fun r w' => r = .returned (.bool true) ∧ Ext w w' := by
  have hE := (Ext.refl w).alloc (.cells #[.int .i64 a, .int .i64 b, .int .i64 c, .int .i64 d, .int .i64 e] 23)
  have HT := Lib.hid (heap_alloc_new w (.cells #[.int .i64 a, .int .i64 b, .int .i64 c, .int .i64 d, .int .i64 e] 23))
  have HL := Lib.hid hL
  have HE := Lib.hid hE
  have HM := Lib.hid hm
  have hn : mayB a b c d 1099511627777 = false := mayB_no (by have h := mayB_iff.1 hm; omega)
  have HN := Lib.hid hn
  have HP := Lib.hid (pl_len_no hn)
  have HR := Lib.hid (pr_no hn)
  clear hE hL hm hn
  go_enter Tryd.func7, Tryd.ntmps7
  go_wp2_with fail
  refine (tawake_any _ (HL.out.ext HE.out)).mono ?_
  rintro r w1 ⟨rfl, hk⟩
  have HE := Lib.hid (HE.out.trans hk)
  have ht := (hk.block _ (Array.getElem?_eq_some_iff.1 HT.out).1).trans HT.out
  have HT := Lib.hid ht
  clear hk ht
  obtain ⟨⟨i0, i1, i2, i3, i4⟩, _⟩ := five_cells HT.out
  go_wp2_with fail
  refine (may_any _ _ _ _ _ _ (HL.out.ext HE.out).t).mono ?_
  rw [HM.out]
  rintro r w2 ⟨rfl, hk⟩
  have HE := Lib.hid (HE.out.trans hk)
  have ht := (hk.block _ (Array.getElem?_eq_some_iff.1 HT.out).1).trans HT.out
  have HT := Lib.hid ht
  clear hk ht i0 i1 i2 i3 i4
  obtain ⟨⟨i0, i1, i2, i3, i4⟩, _⟩ := five_cells HT.out
  go_wp2_with fail
  refine (places_any _ _ (HL.out.ext HE.out).t).mono ?_
  rintro r w3 ⟨rfl, hk⟩
  have HE := Lib.hid (HE.out.trans hk)
  have ht := (hk.block _ (Array.getElem?_eq_some_iff.1 HT.out).1).trans HT.out
  have HT := Lib.hid ht
  have hpl := plc_le b
  have c0 := fun A B C => (five_cells (row_alloc3 ht A B C)).1.1
  have c1 := fun A B C => (five_cells (row_alloc3 ht A B C)).1.2.1
  have c2 := fun A B C => (five_cells (row_alloc3 ht A B C)).1.2.2.1
  have c3 := fun A B C => (five_cells (row_alloc3 ht A B C)).1.2.2.2.1
  have c4 := fun A B C => (five_cells (row_alloc3 ht A B C)).1.2.2.2.2
  have f4 := fun A B C => (five_cells (row_alloc3 ht A B C)).2.2.2.2.2
  clear hk ht i0 i1 i2 i3 i4
  go_wp2_with fail
  clear c0 c1 c2 c3 c4 f4
  refine (print_any _ _ _ _ _ _ (HL.out.ext ((((HE.out.alloc _).alloc _).alloc _).setCell (p := ⟨w.heap.size, 4, none⟩) (Nat.le_refl _) _))).mono ?_
  rw [HP.out, HR.out]
  rintro r w4 ⟨A4, cp4, rfl, _, hk⟩
  have ht : w4.heap[w.heap.size]? = some (.cells #[.int .i64 a, .int .i64 b, .int .i64 c, .int .i64 d, .int .i64 1099511627777] 23 (0, 0)) := wrong_row HT.out hk
  have HE := Lib.hid (wrong_ext HE.out hk)
  clear hk
  obtain ⟨⟨i0, i1, i2, i3, i4⟩, _⟩ := five_cells ht
  clear ht
  go_wp2_with fail
  refine (may_any _ _ _ _ _ _ (HL.out.ext HE.out).t).mono ?_
  rw [HN.out]
  rintro r w5 ⟨rfl, hk⟩
  have HE := Lib.hid (HE.out.trans hk)
  clear hk i0 i1 i2 i3 i4
  go_wp2_with fail
  go_ret
  exact ⟨rfl, HE.out⟩

set_option maxRecDepth 100000 in
theorem tagWrong_law (a b c d e : Int) (x y : Int) (w : World) (hx : (Lit.int .u8 x).wf = true) (hy : (Lit.int .u8 y).wf = true) (hL : LaidA w) :
    Calls Tryd.prog 7 #[.agg #[.int .i64 a, .int .i64 b, .int .i64 c, .int .i64 d, .int .i64 e], .int .u8 x, .int .u8 y] w fun r w' => r = .returned (.bool true) ∧ Below w.heap.size w w' := by
  show Calls Tryd.prog 7 #[.agg #[.int .i64 a, .int .i64 b, .int .i64 c, .int .i64 d, .int .i64 e], .int .u8 x, .int .u8 y] w fun r w' => r = .returned (.bool true) ∧ Ext w w'
  have bx := bounds_u8 hx
  have by_ := bounds_u8 hy
  by_cases hm : mayB a b c d e = true
  · have h5 : x % 5 = 0 ∨ x % 5 = 1 ∨ x % 5 = 2 ∨ x % 5 = 3 ∨ x % 5 = 4 := by omega
    have h4 : y % 4 = 0 ∨ y % 4 = 1 ∨ y % 4 = 2 ∨ y % 4 = 3 := by omega
    rcases h5 with h5 | h5 | h5 | h5 | h5 <;> rcases h4 with h4 | h4 | h4 | h4
    · exact tagWrong_00 a b c d e x y w hL hm bx.1 bx.2 by_.1 by_.2 h5 h4
    · exact tagWrong_01 a b c d e x y w hL hm bx.1 bx.2 by_.1 by_.2 h5 h4
    · exact tagWrong_02 a b c d e x y w hL hm bx.1 bx.2 by_.1 by_.2 h5 h4
    · exact tagWrong_03 a b c d e x y w hL hm bx.1 bx.2 by_.1 by_.2 h5 h4
    · exact tagWrong_10 a b c d e x y w hL hm bx.1 bx.2 by_.1 by_.2 h5 h4
    · exact tagWrong_11 a b c d e x y w hL hm bx.1 bx.2 by_.1 by_.2 h5 h4
    · exact tagWrong_12 a b c d e x y w hL hm bx.1 bx.2 by_.1 by_.2 h5 h4
    · exact tagWrong_13 a b c d e x y w hL hm bx.1 bx.2 by_.1 by_.2 h5 h4
    · exact tagWrong_20 a b c d e x y w hL hm bx.1 bx.2 by_.1 by_.2 h5 h4
    · exact tagWrong_21 a b c d e x y w hL hm bx.1 bx.2 by_.1 by_.2 h5 h4
    · exact tagWrong_22 a b c d e x y w hL hm bx.1 bx.2 by_.1 by_.2 h5 h4
    · exact tagWrong_23 a b c d e x y w hL hm bx.1 bx.2 by_.1 by_.2 h5 h4
    · exact tagWrong_30 a b c d e x y w hL hm bx.1 bx.2 by_.1 by_.2 h5 h4
    · exact tagWrong_31 a b c d e x y w hL hm bx.1 bx.2 by_.1 by_.2 h5 h4
    · exact tagWrong_32 a b c d e x y w hL hm bx.1 bx.2 by_.1 by_.2 h5 h4
    · exact tagWrong_33 a b c d e x y w hL hm bx.1 bx.2 by_.1 by_.2 h5 h4
    · exact tagWrong_40 a b c d e x y w hL hm bx.1 bx.2 by_.1 by_.2 h5 h4
    · exact tagWrong_41 a b c d e x y w hL hm bx.1 bx.2 by_.1 by_.2 h5 h4
    · exact tagWrong_42 a b c d e x y w hL hm bx.1 bx.2 by_.1 by_.2 h5 h4
    · exact tagWrong_43 a b c d e x y w hL hm bx.1 bx.2 by_.1 by_.2 h5 h4
  · have HM := Lib.hid (show mayB a b c d e = false by simpa using hm)
    have HL := Lib.hid hL
    have HT := Lib.hid (heap_alloc_new w (.cells #[.int .i64 a, .int .i64 b, .int .i64 c, .int .i64 d, .int .i64 e] 23))
    have HE := Lib.hid ((Ext.refl w).alloc (.cells #[.int .i64 a, .int .i64 b, .int .i64 c, .int .i64 d, .int .i64 e] 23))
    clear hm hL hx hy bx by_
    go_enter Tryd.func7, Tryd.ntmps7
    go_wp2_with fail
    refine (tawake_any _ (HL.out.ext HE.out)).mono ?_
    rintro r w1 ⟨rfl, hk⟩
    have HE := Lib.hid (HE.out.trans hk)
    have ht := (hk.block _ (Array.getElem?_eq_some_iff.1 HT.out).1).trans HT.out
    obtain ⟨⟨i0, i1, i2, i3, i4⟩, _⟩ := five_cells ht
    clear hk ht
    go_wp2_with fail
    refine (may_any _ _ _ _ _ _ (HL.out.ext HE.out).t).mono ?_
    rw [HM.out]
    rintro r w2 ⟨rfl, hk⟩
    have HE := Lib.hid (HE.out.trans hk)
    clear hk i0 i1 i2 i3 i4
    go_wp2_with fail
    go_ret
    exact ⟨rfl, HE.out⟩
end Go.Proofs.YtlfdagajfhikhaaDoor
