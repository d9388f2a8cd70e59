/-
  The contract of the program's May.
-/
import Derived.Test.YtlikhmhomkiadaaDoorTNear
namespace Go.Proofs.YtlikhmhomkiadaaDoor
set_option maxRecDepth 100000
open Go Go.RowKit

theorem may_eq (a b c d e : Int) : (a == nrA a && (b == nrR b && (c == nrC b c && (d == nrD d && e == nrE e)))) = mayB a b c d e := by
  rw [Bool.eq_iff_iff, ← near_iff]
  simp

theorem Ext.cell {a b : World} {p : Addr} {v : Value} (k : Ext a b) (h : a.cell? p = some v) : b.cell? p = some v := (Below.cell k (World.block_lt_of_cell? a _ h)).trans h

set_option maxRecDepth 100000 in
set_option maxHeartbeats 3200000 in
theorem may_any (a b c d e : Int) (w : World) (hL : LaidT w) :
    Calls Tryd.prog 70 #[.agg #[.int .i64 a, .int .i64 b, .int .i64 c, .int .i64 d, .int .i64 e]] w fun r w' => r = .returned (.bool (mayB a b c d e)) ∧ Ext w w' := by
  have hE := (Ext.refl w).alloc (.cells #[.int .i64 a, .int .i64 b, .int .i64 c, .int .i64 d, .int .i64 e] 97)
  have hL1 := hL.ext hE
  have hc := fun i => (cell_of_row _ w.heap.size i _ 97 (0, 0) (heap_alloc_new w (.cells #[.int .i64 a, .int .i64 b, .int .i64 c, .int .i64 d, .int .i64 e] 97)))
  have i0 : (w.alloc (.cells #[.int .i64 a, .int .i64 b, .int .i64 c, .int .i64 d, .int .i64 e] 97)).cell? ⟨w.heap.size, 0, none⟩ = some (.int .i64 a) := hc 0
  have i1 : (w.alloc (.cells #[.int .i64 a, .int .i64 b, .int .i64 c, .int .i64 d, .int .i64 e] 97)).cell? ⟨w.heap.size, 1, none⟩ = some (.int .i64 b) := hc 1
  have i2 : (w.alloc (.cells #[.int .i64 a, .int .i64 b, .int .i64 c, .int .i64 d, .int .i64 e] 97)).cell? ⟨w.heap.size, 2, none⟩ = some (.int .i64 c) := hc 2
  have i3 : (w.alloc (.cells #[.int .i64 a, .int .i64 b, .int .i64 c, .int .i64 d, .int .i64 e] 97)).cell? ⟨w.heap.size, 3, none⟩ = some (.int .i64 d) := hc 3
  have i4 : (w.alloc (.cells #[.int .i64 a, .int .i64 b, .int .i64 c, .int .i64 d, .int .i64 e] 97)).cell? ⟨w.heap.size, 4, none⟩ = some (.int .i64 e) := hc 4
  have HL := Lib.hid hL1
  have HE := Lib.hid hE
  have HM := Lib.hid (may_eq a b c d e)
  have hq := tag_eql a b c d e (nrA a) (nrR b) (nrC b c) (nrD d) (nrE e)
  have hg : Tryd.prog.eqGuardType Tryd.prog.depth 97 = false := by kernel_rfl
  clear hL hE hL1 hc
  go_enter Tryd.func70, Tryd.ntmps70
  go_wp2_with fail
  generalize (w.alloc (.cells #[.int .i64 a, .int .i64 b, .int .i64 c, .int .i64 d, .int .i64 e] 97)) = W at *
  generalize w.heap.size = g at *
  go_region_held3 (fun w' => w'.cell? ⟨g, 0, none⟩ = some (.int .i64 a) ∧ w'.cell? ⟨g, 1, none⟩ = some (.int .i64 b) ∧ w'.cell? ⟨g, 2, none⟩ = some (.int .i64 c) ∧ w'.cell? ⟨g, 3, none⟩ = some (.int .i64 d) ∧ w'.cell? ⟨g, 4, none⟩ = some (.int .i64 e))
    (first | with_reducible exact ⟨i0, i1, i2, i3, i4⟩ | exact ⟨Ext.cell hx i0, Ext.cell hx i1, Ext.cell hx i2, Ext.cell hx i3, Ext.cell hx i4⟩ | go_keep)
    (first
      | (go_at_call 81; ((with_reducible refine (nearest_any _ _ _ _ _ _ (HL.out.ext ((Ext.refl _).drew))).mono ?_); rintro r w' ⟨rfl, hx⟩)))
  rw [HM.out]
  have HE := Lib.hid (HE.out.trans (((Ext.refl W).drew).trans hx))
  clear hx hq hg i0 i1 i2 i3 i4
  go_wp2_with fail
  go_ret
  exact ⟨rfl, HE.out⟩
end Go.Proofs.YtlikhmhomkiadaaDoor
