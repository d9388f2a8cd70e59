/-
  The contracts of the program's nearest and May.
-/
import Derived.Test.YtlikhmhomkiadaaDoorTFind
import Derived.Deep.RegionHeld3
import Derived.Laws.Tables
import Derived.Laws.CopyOwn
import Derived.IntWalk
namespace Go.Proofs.YtlikhmhomkiadaaDoor
set_option maxRecDepth 100000
open Go Go.RowKit

theorem below_setRow' {w w1 : World} {g : Nat} (h : Ext w w1) (hg : w.heap.size ≤ g) (cs : Array Value) : Ext w (w1.setRow g cs) := below_setRow h hg cs
theorem LaidT.of_setRow {w : World} (h : LaidT w) (g : Nat) (hg : 2 ≠ g) (cs : Array Value) : LaidT (w.setRow g cs) := fun r hr => ⟨(cell_setRow_other w g cs _ hg).trans (h r hr).1, (cell_setRow_other w g cs _ hg).trans (h r hr).2⟩

/-- What holds while nearest makes its answer: the tag lies in its block g, the answer's block g + 1 has five cells. -/
def NearS (w : World) (g : Nat) (a b c d e : Int) (w' : World) : Prop :=
  w'.cell? ⟨g, 0, none⟩ = some (.int .i64 a) ∧ w'.cell? ⟨g, 1, none⟩ = some (.int .i64 b) ∧ w'.cell? ⟨g, 2, none⟩ = some (.int .i64 c) ∧ w'.cell? ⟨g, 3, none⟩ = some (.int .i64 d) ∧ w'.cell? ⟨g, 4, none⟩ = some (.int .i64 e) ∧
    Hid (LaidT w' ∧ Ext w w' ∧ w.heap.size ≤ g ∧ 2 < g ∧ ∃ X : Array Value, X.size = 5 ∧ w'.heap[g + 1]? = some (.cells X 97 (0, 0)))
theorem NearS.ext {w w' w1 : World} {g : Nat} {a b c d e : Int} (h : NearS w g a b c d e w') (k : Ext w' w1) : NearS w g a b c d e w1 := by
  obtain ⟨h0, h1, h2, h3, h4, ⟨hL, hE, hg, hg2, X, hX, hh⟩⟩ := h
  have hlt : g < w'.heap.size := by have := World.block_lt_of_cell? w' _ h0; simpa using this
  exact ⟨(Below.cell k (p := ⟨g, 0, none⟩) hlt).trans h0, (Below.cell k (p := ⟨g, 1, none⟩) hlt).trans h1, (Below.cell k (p := ⟨g, 2, none⟩) hlt).trans h2, (Below.cell k (p := ⟨g, 3, none⟩) hlt).trans h3, (Below.cell k (p := ⟨g, 4, none⟩) hlt).trans h4,
    ⟨hL.ext k, hE.trans k, hg, hg2, X, hX, (k.block (g + 1) (Array.getElem?_eq_some_iff.1 hh).1).trans hh⟩⟩
theorem NearS.drew {w w' : World} {g : Nat} {a b c d e : Int} (h : NearS w g a b c d e w') : NearS w g a b c d e w'.drew := h.ext ((Ext.refl w').drew)
theorem NearS.store {w w' : World} {g : Nat} {a b c d e : Int} (h : NearS w g a b c d e w') (cs : Array Value) (hcs : cs.size = 5) : NearS w g a b c d e (w'.setRow (g + 1) cs) := by
  obtain ⟨h0, h1, h2, h3, h4, ⟨hL, hE, hg, hg2, X, hX, hh⟩⟩ := h
  have hne : g ≠ g + 1 := by omega
  exact ⟨(cell_setRow_other w' (g + 1) cs _ hne).trans h0, (cell_setRow_other w' (g + 1) cs _ hne).trans h1, (cell_setRow_other w' (g + 1) cs _ hne).trans h2, (cell_setRow_other w' (g + 1) cs _ hne).trans h3, (cell_setRow_other w' (g + 1) cs _ hne).trans h4,
    ⟨hL.of_setRow _ (by omega) cs, below_setRow' hE (by omega) cs, hg, hg2, cs, hcs, setRow_heap w' (g + 1) X cs _ _ hh⟩⟩
theorem NearS.laid {w w' : World} {g : Nat} {a b c d e : Int} (h : NearS w g a b c d e w') : LaidT w' := h.2.2.2.2.2.out.1
theorem NearS.row {w w' : World} {g : Nat} {a b c d e : Int} (h : NearS w g a b c d e w') : ∃ X : Array Value, X.size = 5 ∧ w'.heap[g + 1]? = some (.cells X 97 (0, 0)) := h.2.2.2.2.2.out.2.2.2.2
theorem NearS.kept {w w' : World} {g : Nat} {a b c d e : Int} (h : NearS w g a b c d e w') : Ext w w' := h.2.2.2.2.2.out.2.1
theorem NearS.free {w w' : World} {g : Nat} {a b c d e : Int} (h : NearS w g a b c d e w') (i : Nat) (hi : i < 5) : (∃ v, w'.cell? ⟨g + 1, i, none⟩ = some v) ∧ w'.frozen? ⟨g + 1, i, none⟩ = false := by
  obtain ⟨X, hX, hh⟩ := h.row
  refine ⟨⟨X[i], ?_⟩, ?_⟩
  · rw [cell_of_row w' (g + 1) i X _ _ hh, Array.getElem?_eq_getElem (by omega)]
  · exact frozen_of_row w' (g + 1) i X _ hh
theorem NearS.all {w w' : World} {g : Nat} {a b c d e : Int} (h : NearS w g a b c d e w') : (w'.cell? ⟨g, 0, none⟩ = some (.int .i64 a) ∧ w'.cell? ⟨g, 1, none⟩ = some (.int .i64 b) ∧ w'.cell? ⟨g, 2, none⟩ = some (.int .i64 c) ∧ w'.cell? ⟨g, 3, none⟩ = some (.int .i64 d) ∧ w'.cell? ⟨g, 4, none⟩ = some (.int .i64 e)) ∧
    ∃ x0 x1 x2 x3 x4, w'.cell? ⟨g + 1, 0, none⟩ = some x0 ∧ w'.cell? ⟨g + 1, 1, none⟩ = some x1 ∧ w'.cell? ⟨g + 1, 2, none⟩ = some x2 ∧ w'.cell? ⟨g + 1, 3, none⟩ = some x3 ∧ w'.cell? ⟨g + 1, 4, none⟩ = some x4 ∧
      w'.frozen? ⟨g + 1, 0, none⟩ = false ∧ w'.frozen? ⟨g + 1, 1, none⟩ = false ∧ w'.frozen? ⟨g + 1, 2, none⟩ = false ∧ w'.frozen? ⟨g + 1, 3, none⟩ = false ∧ w'.frozen? ⟨g + 1, 4, none⟩ = false := by
  obtain ⟨⟨x0, c0⟩, f0⟩ := h.free 0 (by omega)
  obtain ⟨⟨x1, c1⟩, f1⟩ := h.free 1 (by omega)
  obtain ⟨⟨x2, c2⟩, f2⟩ := h.free 2 (by omega)
  obtain ⟨⟨x3, c3⟩, f3⟩ := h.free 3 (by omega)
  obtain ⟨⟨x4, c4⟩, f4⟩ := h.free 4 (by omega)
  exact ⟨⟨h.1, h.2.1, h.2.2.1, h.2.2.2.1, h.2.2.2.2.1⟩, x0, x1, x2, x3, x4, c0, c1, c2, c3, c4, f0, f1, f2, f3, f4⟩
theorem near_start (w : World) (hL : LaidT w) (a b c d e : Int) (Y : Array Value) (hY : Y.size = 5) : NearS w w.heap.size a b c d e ((w.alloc (.cells #[.int .i64 a, .int .i64 b, .int .i64 c, .int .i64 d, .int .i64 e] 97)).alloc (.cells Y 97)) := by
  have hE := ((Ext.refl w).alloc (.cells #[.int .i64 a, .int .i64 b, .int .i64 c, .int .i64 d, .int .i64 e] 97))
  have hE2 := (Ext.refl (w.alloc (.cells #[.int .i64 a, .int .i64 b, .int .i64 c, .int .i64 d, .int .i64 e] 97))).alloc (.cells Y 97)
  have hc := fun i => (Below.cell hE2 (p := ⟨w.heap.size, i, none⟩) (by simp)).trans (cell_of_row _ w.heap.size i _ 97 (0, 0) (heap_alloc_new w _))
  have hlt : 2 < w.heap.size := World.block_lt_of_cell? w _ (hL 0 (by omega)).1
  exact ⟨hc 0, hc 1, hc 2, hc 3, hc 4, ⟨hL.ext (hE.trans hE2), hE.trans hE2, Nat.le_refl _, hlt, Y, hY, heap_alloc2_new w _ _⟩⟩

theorem tag_size : (Tryd.prog.info? 97).map (·.size) = some 5 := by kernel_rfl

set_option maxRecDepth 100000 in
set_option maxHeartbeats 6400000 in
theorem nearest_any (a b c d e : Int) (w : World) (hL : LaidT w) :
    Calls Tryd.prog 81 #[.agg #[.int .i64 a, .int .i64 b, .int .i64 c, .int .i64 d, .int .i64 e]] w fun r w' => r = .returned (.agg #[.int .i64 (nrA a), .int .i64 (nrR b), .int .i64 (nrC b c), .int .i64 (nrD d), .int .i64 (nrE e)]) ∧ Ext w w' := by
  have HS := Lib.hid (near_start w hL a b c d e #[.int .i64 0, .int .i64 0, .int .i64 0, .int .i64 0, .int .i64 0] rfl)
  clear hL
  go_enter Tryd.func81, Tryd.ntmps81
  go_wp2_with fail
  refine (within_any _ _ _ _).mono ?_
  rintro e' w' ⟨rfl, rfl⟩
  go_wp2_with fail
  have hplc := plc_le (nrR b)
  have hsub : IntKind.i64.wrap ((plc (nrR b) : Int) - 1) = (plc (nrR b) : Int) - 1 := IntWalk.i64_in _ (by omega)
  clear hplc
  rw [show max 1 (min b 5) = nrR b from rfl]
  generalize ((w.alloc (.cells #[.int .i64 a, .int .i64 b, .int .i64 c, .int .i64 d, .int .i64 e] 97)).alloc (.cells #[.int .i64 0, .int .i64 0, .int .i64 0, .int .i64 0, .int .i64 0] 97)) = W at *
  have hS := HS.out.drew
  clear HS
  generalize w.heap.size = g at *
  have hS' := hS
  obtain ⟨i0, i1, i2, i3, i4, _⟩ := hS'
  go_region_held3 (fun w' => w'.cell? ⟨g, 0, none⟩ = some (.int .i64 a) ∧ w'.cell? ⟨g, 1, none⟩ = some (.int .i64 b) ∧ w'.cell? ⟨g, 2, none⟩ = some (.int .i64 c) ∧ w'.cell? ⟨g, 3, none⟩ = some (.int .i64 d) ∧ w'.cell? ⟨g, 4, none⟩ = some (.int .i64 e))
    (first | with_reducible exact ⟨i0, i1, i2, i3, i4⟩ | with_reducible exact ⟨j0, j1, j2, j3, j4⟩ | go_keep)
    (first
      | (go_at_call 88; ((with_reducible refine (within_any _ _ _ _).mono ?_); rintro e' w' ⟨rfl, rfl⟩))
      | (go_at_call 74; ((with_reducible refine (places_any _ _ hS.laid).mono ?_); rintro e' w' ⟨rfl, hx⟩; obtain ⟨⟨j0, j1, j2, j3, j4⟩, x0, x1, x2, x3, x4, c0, c1, c2, c3, c4, f0, f1, f2, f3, f4⟩ := NearS.all (NearS.ext hS hx))))
  have HE := Lib.hid (hS.kept.trans hx)
  have HG := Lib.hid hS.2.2.2.2.2.out.2.2.1
  clear hS i0 i1 i2 i3 i4 hx hsub j0 j1 j2 j3 j4
  go_wp2_with fail
  refine bodyPost_ret (v := .agg #[.int .i64 (nrA a), .int .i64 (nrR b), .int .i64 (nrC b c), .int .i64 (nrD d), .int .i64 (nrE e)]) ?_ rfl ⟨rfl, ?_⟩
  · simp [results, Tryd.results81, go_sem, c0, c1, c2, c3, c4]
    exact ⟨rfl, rfl, rfl, rfl⟩
  · have hg : w.heap.size ≤ g + 1 := Nat.le_succ_of_le HG.out
    exact ((((HE.out.setCell (p := ⟨g + 1, 0, none⟩) hg _).setCell (p := ⟨g + 1, 1, none⟩) hg _).setCell (p := ⟨g + 1, 2, none⟩) hg _).setCell (p := ⟨g + 1, 3, none⟩) hg _).setCell (p := ⟨g + 1, 4, none⟩) hg _

theorem tag_eql (a b c d e a' b' c' d' e' : Int) (w : World) : (binOp .eql 97 (.agg #[.int .i64 a, .int .i64 b, .int .i64 c, .int .i64 d, .int .i64 e]) (.agg #[.int .i64 a', .int .i64 b', .int .i64 c', .int .i64 d', .int .i64 e'])).run Tryd.prog w =
    .ok (.bool (a == a' && (b == b' && (c == c' && (d == d' && e == e'))))) w := by
  have hf : Tryd.prog.stoodInHeld 97 = false := by kernel_rfl
  have hu := Tryd.underlying97
  rw [run_eql_struct, run_equalIn_agg _ _ _ _ _ (by rw [Program.fieldsOf, hu]) hf, Program.fieldsOf, hu]
  simp [Op.eqFields, go_sem]
  by_cases h1 : a = a' <;> by_cases h2 : b = b' <;> by_cases h3 : c = c' <;> by_cases h4 : d = d' <;> by_cases h5 : e = e' <;> simp [h1, h2, h3, h4, h5]
end Go.Proofs.YtlikhmhomkiadaaDoor
