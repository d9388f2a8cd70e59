/-
  The contracts of the tag functions that look a region up: find, sectors, Places, Wide; and within.
  The contracts of the program's nearest and May.
  The contract of the program's May.
  The contract of Join (and of the library's Grow and Concat at bytes, which it calls): new memory that holds the lists one behind the other.
-/
import Derived.Test.YtbflofkcfhihcaaDoorQ01
import Derived.Test.YtbflofkcfhihcaaDoorQ11
import Derived.Test.YtbflofkcfhihcaaDoorQ12
import Derived.Test.YtbflofkcfhihcaaDoorProg
import Derived.WalkKit
import Derived.WalkSpells
import Derived.WalkLawsBesides
import Derived.BigQuiet
import Derived.Lib.Hide
import Derived.Outline
import Derived.Deep.RegionHeld3
import Derived.Laws.Tables
import Derived.Laws.CopyOwn
import Derived.IntWalk
import Derived.Lib.AppendZeros
import Derived.OwnWalk
namespace Go.Proofs.YtbflofkcfhihcaaDoor
set_option maxRecDepth 100000
open Go Go.RowKit

/-- What the table of regions holds. -/
def LaidT (w : World) : Prop := ∀ r : Nat, r < 6 → w.cell? ⟨0, r * 2, none⟩ = some (.int .i64 (plc r)) ∧ w.cell? ⟨0, r * 2 + 1, none⟩ = some (.int .i64 (wid r))
theorem LaidT.ext {a b : World} (h : LaidT a) (k : Ext a b) : LaidT b := by
  have hlt : 0 < a.heap.size := World.block_lt_of_cell? a _ (h 0 (by omega)).1
  exact fun r hr => ⟨(Below.cell k (p := ⟨_, _, none⟩) hlt).trans (h r hr).1, (Below.cell k (p := ⟨_, _, none⟩) hlt).trans (h r hr).2⟩

theorem within_any (a n b : Int) (w : World) :
    Calls Tryd.prog 71 #[.int .i64 a, .int .i64 n, .int .i64 b] w fun e w' => e = .returned (.int .i64 (max a (min n b))) ∧ w = w' := by
  have fin : ∀ x y : Int, x = y → Ending.returned (Value.int .i64 x) = .returned (.int .i64 y) := fun x y h => by rw [h]
  go_enter Tryd.func71, Tryd.ntmps71
  go_wp2
  all_goals (go_ret; refine ⟨fin _ _ ?_, rfl⟩; omega)

theorem find_case (r : Int) (k p q : Nat) (w : World) (hr : r = k) (hk : k < 6) (hp : p = plc r) (hq : q = wid r) (h0 : w.cell? ⟨0, k * 2, none⟩ = some (.int .i64 p)) (h1 : w.cell? ⟨0, k * 2 + 1, none⟩ = some (.int .i64 q)) :
    Calls Tryd.prog 49 #[.int .i64 r] w fun e w' => e = .returned (.agg #[.int .i64 p, .int .i64 q]) ∧ Ext w w' := by
  subst hr
  have HP := Lib.hid hp
  have HQ := Lib.hid hq
  have hb := World.block_lt_of_cell? w _ h0
  have g0 := (Below.cell ((Ext.refl w).alloc (.cells #[.int .i64 0, .int .i64 0] 88)) hb).trans h0
  have g1 := (Below.cell ((Ext.refl w).alloc (.cells #[.int .i64 0, .int .i64 0] 88)) (p := ⟨0, k * 2 + 1, none⟩) hb).trans h1
  clear hb h0 h1 hp hq
  go_enter Tryd.func49, Tryd.ntmps49
  go_wp2
  exact bodyPost_ret (v := .agg #[.int .i64 p, .int .i64 q]) (by simp [results, Tryd.results49, go_sem]) rfl ⟨rfl, (Ext.refl w).alloc _⟩

set_option maxHeartbeats 800000 in
theorem find_any (r : Int) (w : World) (hL : LaidT w) :
    Calls Tryd.prog 49 #[.int .i64 r] w fun e w' => e = .returned (.agg #[.int .i64 (plc r), .int .i64 (wid r)]) ∧ Ext w w' := by
  by_cases hn : r < 0
  · have H1 := Lib.hid (plc_out (r := r) (.inl (by omega)))
    have H2 := Lib.hid (wid_out (r := r) (.inl (by omega)))
    go_enter Tryd.func49, Tryd.ntmps49
    go_wp2
    exact bodyPost_ret (v := .agg #[.int .i64 0, .int .i64 0]) (by simp [results, Tryd.results49, go_sem]) rfl ⟨by rw [H1.out, H2.out]; rfl, (Ext.refl w).alloc _⟩
  by_cases hg : 6 ≤ r
  · have H1 := Lib.hid (plc_out (r := r) (.inr (by omega)))
    have H2 := Lib.hid (wid_out (r := r) (.inr (by omega)))
    go_enter Tryd.func49, Tryd.ntmps49
    go_wp2
    exact bodyPost_ret (v := .agg #[.int .i64 0, .int .i64 0]) (by simp [results, Tryd.results49, go_sem]) rfl ⟨by rw [H1.out, H2.out]; rfl, (Ext.refl w).alloc _⟩
  obtain ⟨r, rfl⟩ := Int.eq_ofNat_of_zero_le (show 0 ≤ r by omega)
  exact find_case r r _ _ w rfl (by omega) rfl rfl (hL r (by omega)).1 (hL r (by omega)).2

theorem area_field0 (x y : Value) (w : World) : (Instr.field 88 (.agg #[x, y]) 0).run Tryd.prog w = .ok x w := by kernel_rfl
theorem area_field1 (x y : Value) (w : World) : (Instr.field 88 (.agg #[x, y]) 1).run Tryd.prog w = .ok y w := by kernel_rfl
theorem places_any (r : Int) (w : World) (hL : LaidT w) :
    Calls Tryd.prog 34 #[.int .i64 r] w fun e w' => e = .returned (.int .i64 (plc r)) ∧ Ext w w' := by
  have HL := Lib.hid hL
  have hf := area_field0
  clear hL
  go_enter Tryd.func34, Tryd.ntmps34
  go_wp2_with fail
  refine (find_any r _ HL.out).mono ?_
  rintro e w1 ⟨rfl, hx⟩
  have HX := Lib.hid hx
  clear hx
  go_wp2_with fail
  go_ret
  exact ⟨rfl, HX.out⟩
end Go.Proofs.YtbflofkcfhihcaaDoor

namespace Go.Proofs.YtbflofkcfhihcaaDoor
set_option maxRecDepth 100000
open Go Go.RowKit

theorem below_setRow' {w w1 : World} {g : Nat} (h : Ext w w1) (hg : w.heap.size ≤ g) (cs : Array Value) : Ext w (w1.setRow g cs) := below_setRow h hg cs
theorem LaidT.of_setRow {w : World} (h : LaidT w) (g : Nat) (hg : 0 ≠ g) (cs : Array Value) : LaidT (w.setRow g cs) := fun r hr => ⟨(cell_setRow_other w g cs _ hg).trans (h r hr).1, (cell_setRow_other w g cs _ hg).trans (h r hr).2⟩

/-- What holds while nearest makes its answer: the tag lies in its block g, the answer's block g + 1 has five cells. -/
def NearS (w : World) (g : Nat) (a b c d e : Int) (w' : World) : Prop :=
  w'.cell? ⟨g, 0, none⟩ = some (.int .i64 a) ∧ w'.cell? ⟨g, 1, none⟩ = some (.int .i64 b) ∧ w'.cell? ⟨g, 2, none⟩ = some (.int .i64 c) ∧ w'.cell? ⟨g, 3, none⟩ = some (.int .i64 d) ∧ w'.cell? ⟨g, 4, none⟩ = some (.int .i64 e) ∧
    Hid (LaidT w' ∧ Ext w w' ∧ w.heap.size ≤ g ∧ 0 < g ∧ ∃ X : Array Value, X.size = 5 ∧ w'.heap[g + 1]? = some (.cells X 58 (0, 0)))
theorem NearS.ext {w w' w1 : World} {g : Nat} {a b c d e : Int} (h : NearS w g a b c d e w') (k : Ext w' w1) : NearS w g a b c d e w1 := by
  obtain ⟨h0, h1, h2, h3, h4, ⟨hL, hE, hg, hg2, X, hX, hh⟩⟩ := h
  have hlt : g < w'.heap.size := by have := World.block_lt_of_cell? w' _ h0; simpa using this
  exact ⟨(Below.cell k (p := ⟨g, 0, none⟩) hlt).trans h0, (Below.cell k (p := ⟨g, 1, none⟩) hlt).trans h1, (Below.cell k (p := ⟨g, 2, none⟩) hlt).trans h2, (Below.cell k (p := ⟨g, 3, none⟩) hlt).trans h3, (Below.cell k (p := ⟨g, 4, none⟩) hlt).trans h4,
    ⟨hL.ext k, hE.trans k, hg, hg2, X, hX, (k.block (g + 1) (Array.getElem?_eq_some_iff.1 hh).1).trans hh⟩⟩
theorem NearS.drew {w w' : World} {g : Nat} {a b c d e : Int} (h : NearS w g a b c d e w') : NearS w g a b c d e w'.drew := h.ext ((Ext.refl w').drew)
theorem NearS.store {w w' : World} {g : Nat} {a b c d e : Int} (h : NearS w g a b c d e w') (cs : Array Value) (hcs : cs.size = 5) : NearS w g a b c d e (w'.setRow (g + 1) cs) := by
  obtain ⟨h0, h1, h2, h3, h4, ⟨hL, hE, hg, hg2, X, hX, hh⟩⟩ := h
  have hne : g ≠ g + 1 := by omega
  exact ⟨(cell_setRow_other w' (g + 1) cs _ hne).trans h0, (cell_setRow_other w' (g + 1) cs _ hne).trans h1, (cell_setRow_other w' (g + 1) cs _ hne).trans h2, (cell_setRow_other w' (g + 1) cs _ hne).trans h3, (cell_setRow_other w' (g + 1) cs _ hne).trans h4,
    ⟨hL.of_setRow _ (by omega) cs, below_setRow' hE (by omega) cs, hg, hg2, cs, hcs, setRow_heap w' (g + 1) X cs _ _ hh⟩⟩
theorem NearS.laid {w w' : World} {g : Nat} {a b c d e : Int} (h : NearS w g a b c d e w') : LaidT w' := h.2.2.2.2.2.out.1
theorem NearS.row {w w' : World} {g : Nat} {a b c d e : Int} (h : NearS w g a b c d e w') : ∃ X : Array Value, X.size = 5 ∧ w'.heap[g + 1]? = some (.cells X 58 (0, 0)) := h.2.2.2.2.2.out.2.2.2.2
theorem NearS.kept {w w' : World} {g : Nat} {a b c d e : Int} (h : NearS w g a b c d e w') : Ext w w' := h.2.2.2.2.2.out.2.1
theorem NearS.free {w w' : World} {g : Nat} {a b c d e : Int} (h : NearS w g a b c d e w') (i : Nat) (hi : i < 5) : (∃ v, w'.cell? ⟨g + 1, i, none⟩ = some v) ∧ w'.frozen? ⟨g + 1, i, none⟩ = false := by
  obtain ⟨X, hX, hh⟩ := h.row
  refine ⟨⟨X[i], ?_⟩, ?_⟩
  · rw [cell_of_row w' (g + 1) i X _ _ hh, Array.getElem?_eq_getElem (by omega)]
  · exact frozen_of_row w' (g + 1) i X _ hh
theorem NearS.all {w w' : World} {g : Nat} {a b c d e : Int} (h : NearS w g a b c d e w') : (w'.cell? ⟨g, 0, none⟩ = some (.int .i64 a) ∧ w'.cell? ⟨g, 1, none⟩ = some (.int .i64 b) ∧ w'.cell? ⟨g, 2, none⟩ = some (.int .i64 c) ∧ w'.cell? ⟨g, 3, none⟩ = some (.int .i64 d) ∧ w'.cell? ⟨g, 4, none⟩ = some (.int .i64 e)) ∧
    ∃ x0 x1 x2 x3 x4, w'.cell? ⟨g + 1, 0, none⟩ = some x0 ∧ w'.cell? ⟨g + 1, 1, none⟩ = some x1 ∧ w'.cell? ⟨g + 1, 2, none⟩ = some x2 ∧ w'.cell? ⟨g + 1, 3, none⟩ = some x3 ∧ w'.cell? ⟨g + 1, 4, none⟩ = some x4 ∧
      w'.frozen? ⟨g + 1, 0, none⟩ = false ∧ w'.frozen? ⟨g + 1, 1, none⟩ = false ∧ w'.frozen? ⟨g + 1, 2, none⟩ = false ∧ w'.frozen? ⟨g + 1, 3, none⟩ = false ∧ w'.frozen? ⟨g + 1, 4, none⟩ = false := by
  obtain ⟨⟨x0, c0⟩, f0⟩ := h.free 0 (by omega)
  obtain ⟨⟨x1, c1⟩, f1⟩ := h.free 1 (by omega)
  obtain ⟨⟨x2, c2⟩, f2⟩ := h.free 2 (by omega)
  obtain ⟨⟨x3, c3⟩, f3⟩ := h.free 3 (by omega)
  obtain ⟨⟨x4, c4⟩, f4⟩ := h.free 4 (by omega)
  exact ⟨⟨h.1, h.2.1, h.2.2.1, h.2.2.2.1, h.2.2.2.2.1⟩, x0, x1, x2, x3, x4, c0, c1, c2, c3, c4, f0, f1, f2, f3, f4⟩
theorem near_start (w : World) (hL : LaidT w) (a b c d e : Int) (Y : Array Value) (hY : Y.size = 5) : NearS w w.heap.size a b c d e ((w.alloc (.cells #[.int .i64 a, .int .i64 b, .int .i64 c, .int .i64 d, .int .i64 e] 58)).alloc (.cells Y 58)) := by
  have hE := ((Ext.refl w).alloc (.cells #[.int .i64 a, .int .i64 b, .int .i64 c, .int .i64 d, .int .i64 e] 58))
  have hE2 := (Ext.refl (w.alloc (.cells #[.int .i64 a, .int .i64 b, .int .i64 c, .int .i64 d, .int .i64 e] 58))).alloc (.cells Y 58)
  have hc := fun i => (Below.cell hE2 (p := ⟨w.heap.size, i, none⟩) (by simp)).trans (cell_of_row _ w.heap.size i _ 58 (0, 0) (heap_alloc_new w _))
  have hlt : 0 < w.heap.size := World.block_lt_of_cell? w _ (hL 0 (by omega)).1
  exact ⟨hc 0, hc 1, hc 2, hc 3, hc 4, ⟨hL.ext (hE.trans hE2), hE.trans hE2, Nat.le_refl _, hlt, Y, hY, heap_alloc2_new w _ _⟩⟩

theorem tag_size : (Tryd.prog.info? 58).map (·.size) = some 5 := by kernel_rfl

set_option maxRecDepth 100000 in
set_option maxHeartbeats 6400000 in
theorem nearest_any (a b c d e : Int) (w : World) (hL : LaidT w) :
    Calls Tryd.prog 62 #[.agg #[.int .i64 a, .int .i64 b, .int .i64 c, .int .i64 d, .int .i64 e]] w fun r w' => r = .returned (.agg #[.int .i64 (nrA a), .int .i64 (nrR b), .int .i64 (nrC b c), .int .i64 (nrD d), .int .i64 (nrE e)]) ∧ Ext w w' := by
  have HS := Lib.hid (near_start w hL a b c d e #[.int .i64 0, .int .i64 0, .int .i64 0, .int .i64 0, .int .i64 0] rfl)
  clear hL
  go_enter Tryd.func62, Tryd.ntmps62
  go_wp2_with fail
  refine (within_any _ _ _ _).mono ?_
  rintro e' w' ⟨rfl, rfl⟩
  go_wp2_with fail
  have hplc := plc_le (nrR b)
  have hsub : IntKind.i64.wrap ((plc (nrR b) : Int) - 1) = (plc (nrR b) : Int) - 1 := IntWalk.i64_in _ (by omega)
  clear hplc
  rw [show max 1 (min b 5) = nrR b from rfl]
  generalize ((w.alloc (.cells #[.int .i64 a, .int .i64 b, .int .i64 c, .int .i64 d, .int .i64 e] 58)).alloc (.cells #[.int .i64 0, .int .i64 0, .int .i64 0, .int .i64 0, .int .i64 0] 58)) = W at *
  have hS := HS.out.drew
  clear HS
  generalize w.heap.size = g at *
  have hS' := hS
  obtain ⟨i0, i1, i2, i3, i4, _⟩ := hS'
  go_region_held3 (fun w' => w'.cell? ⟨g, 0, none⟩ = some (.int .i64 a) ∧ w'.cell? ⟨g, 1, none⟩ = some (.int .i64 b) ∧ w'.cell? ⟨g, 2, none⟩ = some (.int .i64 c) ∧ w'.cell? ⟨g, 3, none⟩ = some (.int .i64 d) ∧ w'.cell? ⟨g, 4, none⟩ = some (.int .i64 e))
    (first | with_reducible exact ⟨i0, i1, i2, i3, i4⟩ | with_reducible exact ⟨j0, j1, j2, j3, j4⟩ | go_keep)
    (first
      | (go_at_call 71; ((with_reducible refine (within_any _ _ _ _).mono ?_); rintro e' w' ⟨rfl, rfl⟩))
      | (go_at_call 34; ((with_reducible refine (places_any _ _ hS.laid).mono ?_); rintro e' w' ⟨rfl, hx⟩; obtain ⟨⟨j0, j1, j2, j3, j4⟩, x0, x1, x2, x3, x4, c0, c1, c2, c3, c4, f0, f1, f2, f3, f4⟩ := NearS.all (NearS.ext hS hx))))
  have HE := Lib.hid (hS.kept.trans hx)
  have HG := Lib.hid hS.2.2.2.2.2.out.2.2.1
  clear hS i0 i1 i2 i3 i4 hx hsub j0 j1 j2 j3 j4
  go_wp2_with fail
  refine bodyPost_ret (v := .agg #[.int .i64 (nrA a), .int .i64 (nrR b), .int .i64 (nrC b c), .int .i64 (nrD d), .int .i64 (nrE e)]) ?_ rfl ⟨rfl, ?_⟩
  · simp [results, Tryd.results62, go_sem, c0, c1, c2, c3, c4]
    exact ⟨rfl, rfl, rfl, rfl⟩
  · have hg : w.heap.size ≤ g + 1 := Nat.le_succ_of_le HG.out
    exact ((((HE.out.setCell (p := ⟨g + 1, 0, none⟩) hg _).setCell (p := ⟨g + 1, 1, none⟩) hg _).setCell (p := ⟨g + 1, 2, none⟩) hg _).setCell (p := ⟨g + 1, 3, none⟩) hg _).setCell (p := ⟨g + 1, 4, none⟩) hg _

theorem tag_eql (a b c d e a' b' c' d' e' : Int) (w : World) : (binOp .eql 58 (.agg #[.int .i64 a, .int .i64 b, .int .i64 c, .int .i64 d, .int .i64 e]) (.agg #[.int .i64 a', .int .i64 b', .int .i64 c', .int .i64 d', .int .i64 e'])).run Tryd.prog w =
    .ok (.bool (a == a' && (b == b' && (c == c' && (d == d' && e == e'))))) w := by
  have hf : Tryd.prog.stoodInHeld 58 = false := by kernel_rfl
  have hu := Tryd.underlying58
  rw [run_eql_struct, run_equalIn_agg _ _ _ _ _ (by rw [Program.fieldsOf, hu]) hf, Program.fieldsOf, hu]
  simp [Op.eqFields, go_sem]
  by_cases h1 : a = a' <;> by_cases h2 : b = b' <;> by_cases h3 : c = c' <;> by_cases h4 : d = d' <;> by_cases h5 : e = e' <;> simp [h1, h2, h3, h4, h5]
end Go.Proofs.YtbflofkcfhihcaaDoor

namespace Go.Proofs.YtbflofkcfhihcaaDoor
set_option maxRecDepth 100000
open Go Go.RowKit

theorem may_eq (a b c d e : Int) : (a == nrA a && (b == nrR b && (c == nrC b c && (d == nrD d && e == nrE e)))) = mayB a b c d e := by
  rw [Bool.eq_iff_iff, ← near_iff]
  simp

theorem Ext.cell {a b : World} {p : Addr} {v : Value} (k : Ext a b) (h : a.cell? p = some v) : b.cell? p = some v := (Below.cell k (World.block_lt_of_cell? a _ h)).trans h

set_option maxRecDepth 100000 in
set_option maxHeartbeats 3200000 in
theorem may_any (a b c d e : Int) (w : World) (hL : LaidT w) :
    Calls Tryd.prog 53 #[.agg #[.int .i64 a, .int .i64 b, .int .i64 c, .int .i64 d, .int .i64 e]] w fun r w' => r = .returned (.bool (mayB a b c d e)) ∧ Ext w w' := by
  have hE := (Ext.refl w).alloc (.cells #[.int .i64 a, .int .i64 b, .int .i64 c, .int .i64 d, .int .i64 e] 58)
  have hL1 := hL.ext hE
  have hc := fun i => (cell_of_row _ w.heap.size i _ 58 (0, 0) (heap_alloc_new w (.cells #[.int .i64 a, .int .i64 b, .int .i64 c, .int .i64 d, .int .i64 e] 58)))
  have i0 : (w.alloc (.cells #[.int .i64 a, .int .i64 b, .int .i64 c, .int .i64 d, .int .i64 e] 58)).cell? ⟨w.heap.size, 0, none⟩ = some (.int .i64 a) := hc 0
  have i1 : (w.alloc (.cells #[.int .i64 a, .int .i64 b, .int .i64 c, .int .i64 d, .int .i64 e] 58)).cell? ⟨w.heap.size, 1, none⟩ = some (.int .i64 b) := hc 1
  have i2 : (w.alloc (.cells #[.int .i64 a, .int .i64 b, .int .i64 c, .int .i64 d, .int .i64 e] 58)).cell? ⟨w.heap.size, 2, none⟩ = some (.int .i64 c) := hc 2
  have i3 : (w.alloc (.cells #[.int .i64 a, .int .i64 b, .int .i64 c, .int .i64 d, .int .i64 e] 58)).cell? ⟨w.heap.size, 3, none⟩ = some (.int .i64 d) := hc 3
  have i4 : (w.alloc (.cells #[.int .i64 a, .int .i64 b, .int .i64 c, .int .i64 d, .int .i64 e] 58)).cell? ⟨w.heap.size, 4, none⟩ = some (.int .i64 e) := hc 4
  have HL := Lib.hid hL1
  have HE := Lib.hid hE
  have HM := Lib.hid (may_eq a b c d e)
  have hq := tag_eql a b c d e (nrA a) (nrR b) (nrC b c) (nrD d) (nrE e)
  have hg : Tryd.prog.eqGuardType Tryd.prog.depth 58 = false := by kernel_rfl
  clear hL hE hL1 hc
  go_enter Tryd.func53, Tryd.ntmps53
  go_wp2_with fail
  generalize (w.alloc (.cells #[.int .i64 a, .int .i64 b, .int .i64 c, .int .i64 d, .int .i64 e] 58)) = W at *
  generalize w.heap.size = g at *
  go_region_held3 (fun w' => w'.cell? ⟨g, 0, none⟩ = some (.int .i64 a) ∧ w'.cell? ⟨g, 1, none⟩ = some (.int .i64 b) ∧ w'.cell? ⟨g, 2, none⟩ = some (.int .i64 c) ∧ w'.cell? ⟨g, 3, none⟩ = some (.int .i64 d) ∧ w'.cell? ⟨g, 4, none⟩ = some (.int .i64 e))
    (first | with_reducible exact ⟨i0, i1, i2, i3, i4⟩ | exact ⟨Ext.cell hx i0, Ext.cell hx i1, Ext.cell hx i2, Ext.cell hx i3, Ext.cell hx i4⟩ | go_keep)
    (first
      | (go_at_call 62; ((with_reducible refine (nearest_any _ _ _ _ _ _ (HL.out.ext ((Ext.refl _).drew))).mono ?_); rintro r w' ⟨rfl, hx⟩)))
  rw [HM.out]
  have HE := Lib.hid (HE.out.trans (((Ext.refl W).drew).trans hx))
  clear hx hq hg i0 i1 i2 i3 i4
  go_wp2_with fail
  go_ret
  exact ⟨rfl, HE.out⟩
end Go.Proofs.YtbflofkcfhihcaaDoor

namespace Go.Proofs.YtbflofkcfhihcaaDoor
set_option maxRecDepth 100000
open Go Go.RowKit

theorem size_zeroCells_one (n : Nat) (z : Value) : (Builtin.zeroCells #[z] n).size = n := by
  simp [Builtin.zeroCells]

set_option maxHeartbeats 800000 in
/-- slices.Grow of the nil slice of bytes. -/
theorem grow_nil (n : Nat) (w : World) (hn : n ≤ 140737488355328) :
    Calls Tryd.prog 73 #[.slice none 0 0, .int .i64 n] w fun e w' => ∃ v, e = .returned v ∧ w'.ownsRow w.heap.size 5 1 v 0 [] ∧ Below w.heap.size w w' := by
  obtain ⟨i0, hi, hz0, hz1, hz2⟩ := info_parts byte_info
  by_cases h0 : n = 0
  · subst h0
    go_enter Tryd.func73, Tryd.ntmps73
    go_wp2_with fail
    go_ret
    exact ⟨_, rfl, World.ownsRow_nil _ _ _ _, Below.refl _ _⟩
  · have hrun := fun ty => Lib.run_append_nil_zeros (P := Tryd.prog) w 22 3 ty 5 i0 (.int .u8 0) .i64 .i64 Tryd.underlying22 Tryd.underlying3 hi hz0 n (by omega) (by omega) (by omega) (by rw [hz2]; omega)
    have HR := Lib.hid hrun
    clear hrun
    have hcap := grownCap_le_maxLen w n 0 5 (by unfold maxLen; omega)
    have hge := grownCap_ge w n 0 5
    have hcs : (Builtin.zeroCells (Value.int .u8 0).cells n ++ Builtin.zeroCells (Value.int .u8 0).cells (grownCap w n 0 5 - n)).size = grownCap w n 0 5 * 1 := by
      have e : (Value.int IntKind.u8 0).cells = #[Value.int .u8 0] := rfl
      rw [e, Array.size_append, size_zeroCells_one, size_zeroCells_one]
      omega
    have HC := Lib.hid hcs
    clear hcs
    have hmx := hcap
    unfold maxLen at hmx
    generalize hgc : grownCap w n 0 5 = gc at *
    generalize hcells : (Builtin.zeroCells (Value.int .u8 0).cells n ++ Builtin.zeroCells (Value.int .u8 0).cells (gc - n)) = cells at *
    have HM := Lib.hid hcap
    clear hgc hcells hcap
    go_enter Tryd.func73, Tryd.ntmps73
    go_wp2_with (at_builtin; refine Lib.wpList_append_run _ rfl _ _ _ _ rfl _ _ rfl rfl _ _ (HR.out _) ?_)
    go_ret
    exact ⟨_, rfl, (World.ownsRow_made w cells gc (Nat.le_refl _) HM.out HC.out), ((Below.refl _ _).alloc (Nat.le_refl _) _).drew⟩

/-- The lists one behind the other. -/
def cat (ps : List (Value × List Nat)) : List Nat := ps.flatMap (·.2)
theorem cat_step {ps : List (Value × List Nat)} {k : Nat} {p : Value × List Nat} (h : ps[k]? = some p) : cat (ps.take (k + 1)) = cat (ps.take k) ++ p.2 := by
  unfold cat
  rw [List.take_add_one, h, Option.toList_some, List.flatMap_append]
  simp
theorem cat_take_le (ps : List (Value × List Nat)) (k : Nat) : (cat (ps.take k)).length ≤ (cat ps).length := by
  have e : cat ps = cat (ps.take k) ++ cat (ps.drop k) := by
    unfold cat
    rw [← List.flatMap_append, List.take_append_drop]
  rw [e, List.length_append]
  omega
/-- A row of slices of bytes, as Join takes it. -/
structure Parts (w : World) (B : Nat) (G : Option Addr) (m : Nat) (ps : List (Value × List Nat)) : Prop where
  len : ps.length = m
  at_ : 0 < m → ∃ g o, G = some ⟨g, o, none⟩ ∧ g < B ∧ ∀ j p, ps[j]? = some p → w.cell? ⟨g, o + j, none⟩ = some p.1
  each : ∀ p ∈ ps, ∃ A n c, p.1 = .slice A n c ∧ Bs w B A n c p.2
theorem Parts.below {w w' : World} {B : Nat} {G : Option Addr} {m : Nat} {ps : List (Value × List Nat)} (h : Parts w B G m ps) (hb : Below B w w') : Parts w' B G m ps := by
  refine ⟨h.len, fun hm => ?_, fun p hp => ?_⟩
  · obtain ⟨g, o, e, hg, hc⟩ := h.at_ hm
    exact ⟨g, o, e, hg, fun j p hp => (hb.cell (p := ⟨g, o + j, none⟩) hg).trans (hc j p hp)⟩
  · obtain ⟨A, n, c, e, hbs⟩ := h.each p hp
    exact ⟨A, n, c, e, hbs.below hb⟩
theorem Parts.get {w : World} {B : Nat} {G : Option Addr} {m : Nat} {ps : List (Value × List Nat)} (h : Parts w B G m ps) {k : Nat} (hk : k < m) :
    ∃ g o A n c l, G = some ⟨g, o, none⟩ ∧ g < B ∧ ps[k]? = some (.slice A n c, l) ∧ w.cell? ⟨g, o + k, none⟩ = some (.slice A n c) ∧ Bs w B A n c l := by
  obtain ⟨g, o, e, hg, hc⟩ := h.at_ (by omega)
  have hk' : k < ps.length := by rw [h.len]; exact hk
  obtain ⟨A, n, c, e1, hbs⟩ := h.each ps[k] (List.getElem_mem hk')
  have hp : ps[k]? = some (.slice A n c, ps[k].2) := by rw [List.getElem?_eq_getElem hk', ← e1]
  exact ⟨g, o, A, n, c, ps[k].2, e, hg, hp, hc k _ hp, hbs⟩
theorem cat_len_step {ps : List (Value × List Nat)} {k n : Nat} {v : Value} {l : List Nat} (h : ps[k]? = some (v, l)) (hl : l.length = n) : (cat (ps.take (k + 1))).length = (cat (ps.take k)).length + n := by
  rw [cat_step h, List.length_append, hl]

theorem concat_step {w wr w1 : World} {ps : List (Value × List Nat)} {k n : Nat} {v v1 u : Value} {l : List Nat} (hp : ps[k]? = some (u, l)) (hl : l.length = n)
    (hown : wr.ownsRow w.heap.size 5 1 v (cat (ps.take k)).length (vb (cat (ps.take k)))) (hbel : Below w.heap.size w wr)
    (hown1 : w1.ownsRow w.heap.size 5 1 v1 ((cat (ps.take k)).length + n) (vb (cat (ps.take k)) ++ vb l)) (hg : wr.grownBy w1 v.ownBlock) :
    w1.ownsRow w.heap.size 5 1 v1 (cat (ps.take (k + 1))).length (vb (cat (ps.take (k + 1)))) ∧ Below w.heap.size w w1 := by
  refine ⟨?_, ?_⟩
  · rw [cat_len_step hp hl, cat_step hp, vb_append]
    exact hown1
  · refine hbel.grown hg hbel.size ?_
    intro g hg'
    exact (hown.lt g hg').1

set_option maxHeartbeats 2000000 in
theorem concat_any (G : Option Addr) (m c : Nat) (ps : List (Value × List Nat)) (w : World) (hp : Parts w w.heap.size G m ps) (hm : m ≤ 9000000000000000000) (ht : (cat ps).length ≤ 140737488355328) :
    Calls Tryd.prog 64 #[.slice G m c] w fun e w' => ∃ A' c', e = .returned (.slice A' (cat ps).length c') ∧ w'.ownsRow w.heap.size 5 1 (.slice A' (cat ps).length c') (cat ps).length (vb (cat ps)) ∧ Below w.heap.size w w' := by
  obtain ⟨i0, hi, hz0, hz1, hz2⟩ := info_parts byte_info
  have HP := Lib.hid hp
  clear hp
  go_enter Tryd.func64, Tryd.ntmps64
  go_wp2_with fail
  go_loop [3, 11] (fun s i => ∃ k : Nat, k ≤ m ∧ i = .int .i64 k ∧ s = .int .i64 (((cat (ps.take k)).length : Nat) : Int)) (fun _ i => m - (intOf i).toNat)
  case atStart => exact ⟨0, Nat.zero_le _, rfl, rfl⟩
  case round =>
    obtain ⟨k, hk, rfl, rfl⟩ := hrel
    by_cases hlt : k < m
    · obtain ⟨g, o, A, n, c1, l, hG, _, hpk, hcell, hbs⟩ := HP.out.get hlt
      subst hG
      have HS := Lib.hid (cat_len_step hpk hbs.len)
      have hle : (cat (ps.take (k + 1))).length ≤ (cat ps).length := cat_take_le ps (k + 1)
      rw [HS.out] at hle
      clear hpk hbs
      generalize hsn : (cat (ps.take k)).length = sn at *
      clear hsn
      go_wp2_with fail
      go_round
      case rel => exact ⟨k + 1, by omega, by go_num, by rw [HS.out]; go_num⟩
      case measure => simp [intOf]; omega
    · have HK : Hid (k = m) := Lib.hid (by omega)
      have e0 : cat (ps.take k) = cat ps := by rw [HK.out, List.take_of_length_le (by rw [HP.out.len]; exact Nat.le_refl _)]
      rw [e0]
      clear e0
      go_wp2_with fail
      refine (grow_nil (cat ps).length _ ht).mono ?_
      rintro e w1 ⟨v1, rfl, hown1, hbel1⟩
      have HO1 := Lib.hid hown1
      have HB1 := Lib.hid hbel1
      clear hown1 hbel1 HK
      go_wp2_with fail
      go_loopw [6, 27] (fun v i wr => ∃ k : Nat, k ≤ m ∧ i = .int .i64 k ∧ Hid (wr.ownsRow w.heap.size 5 1 v (cat (ps.take k)).length (vb (cat (ps.take k)))) ∧ Hid (Below w.heap.size w wr)) (fun _ i _ => m - (intOf i).toNat)
      case atStart => exact ⟨0, Nat.zero_le _, rfl, HO1, HB1⟩
      case round =>
        obtain ⟨k, hk, rfl, HO, HB⟩ := hrel
        by_cases hlt : k < m
        · obtain ⟨g, o, A, n, c1, l, hG, _, hpk, hcell, hbs⟩ := (HP.out.below HB.out).get hlt
          subst hG
          have HBS := Lib.hid hbs
          have HPK := Lib.hid hpk
          have hle : (cat (ps.take (k + 1))).length ≤ (cat ps).length := cat_take_le ps (k + 1)
          rw [cat_len_step hpk hbs.len] at hle
          have hsz := HB.out.size
          clear hpk hbs
          rcases A with _ | ad
          · have hc0 : c1 = 0 := HBS.out.nil_ rfl
            subst hc0
            have hn0 : n = 0 := by have := HBS.out.cap; omega
            subst hn0
            have hl0 : l = [] := List.eq_nil_of_length_eq_zero HBS.out.len
            subst hl0
            go_wp2_with (at_builtin; refine wpList_append_own_none rfl _ _ 22 rfl w.heap.size 5 i0 1 Tryd.underlying22 hi _ _ _ rfl HO.out rfl ?_)
            go_roundw
            case rel => exact ⟨k + 1, by omega, by go_num, Lib.hid (by have h := HO.out; rw [cat_step HPK.out]; simpa using h), HB⟩
            case measure => simp [intOf]; omega
          · go_wp2_with (at_builtin; refine wpList_append_own _ rfl _ _ 22 rfl w.heap.size 5 i0 (.int .u8 0) 1 1 Tryd.underlying22 hi hz0 hz1 hz2 rfl (by decide) _ _ _ rfl HO.out ad n c1 (vb l) rfl ?c1 ?c2 ?c3 ?c4 ?c5 ?c6 ?_)
            case c1 => rw [vb_length, HBS.out.len]; omega
            case c2 =>
              intro j u hj
              rw [vb_get] at hj
              obtain ⟨x, hx, rfl⟩ := Option.map_eq_some_iff.1 hj
              have hjl : j < l.length := (List.getElem?_eq_some_iff.1 hx).1
              obtain ⟨g', o', y, hA, _, hy, _, hc⟩ := HBS.out.rd.at_ hjl
              injection hA with hA
              subst hA
              rw [hx] at hy
              injection hy with hy
              subst hy
              rw [Addr.add_lit, hc]
            case c3 => exact vb_one l
            case c4 => unfold maxLen; omega
            case c5 => omega
            case c6 => exact hsz
            intro v2 w2 hown hg _
            have R := concat_step HPK.out HBS.out.len HO.out HB.out hown hg
            have HO2 := Lib.hid R.1
            have HB2 := Lib.hid R.2
            clear hown hg R
            go_wp2_with fail
            go_roundw
            case rel => exact ⟨k + 1, by omega, by go_num, HO2, HB2⟩
            case measure => simp [intOf]; omega
        · have HK : Hid (k = m) := Lib.hid (by omega)
          have e0 : cat (ps.take k) = cat ps := by rw [HK.out, List.take_of_length_le (by rw [HP.out.len]; exact Nat.le_refl _)]
          have h1 := HO.out
          rw [e0] at h1
          obtain ⟨A', c', hv, _, _⟩ := own_form h1
          subst hv
          have HO3 := Lib.hid h1
          clear h1 e0
          go_wp2_with fail
          go_ret
          exact ⟨A', c', rfl, HO3.out, HB.out⟩

theorem join_any (G : Option Addr) (m c : Nat) (ps : List (Value × List Nat)) (w : World) (hp : Parts w w.heap.size G m ps) (hm : m ≤ 9000000000000000000) (ht : (cat ps).length ≤ 140737488355328) :
    Calls Tryd.prog 56 #[.slice G m c] w fun e w' => ∃ A' c', e = .returned (.slice A' (cat ps).length c') ∧ w'.ownsRow w.heap.size 5 1 (.slice A' (cat ps).length c') (cat ps).length (vb (cat ps)) ∧ Below w.heap.size w w' := by
  have HP := Lib.hid hp
  clear hp
  go_enter Tryd.func56, Tryd.ntmps56
  go_wp2_with fail
  refine (concat_any _ _ _ ps _ HP.out hm ht).mono ?_
  rintro e w1 ⟨A', c', rfl, hown, hbel⟩
  have HO := Lib.hid hown
  have HB := Lib.hid hbel
  clear hown hbel
  go_wp2_with fail
  go_ret
  exact ⟨A', c', rfl, HO.out, HB.out⟩
end Go.Proofs.YtbflofkcfhihcaaDoor
