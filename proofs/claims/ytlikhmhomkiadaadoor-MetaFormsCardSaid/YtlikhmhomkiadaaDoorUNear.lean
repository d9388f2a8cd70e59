/-
  The contracts of meta's small functions: within, nearest, May, isAbove.
-/
import Derived.Test.YtlikhmhomkiadaaDoorTMay
import Derived.Test.YtlikhmhomkiadaaDoorTNeq
import Derived.Test.YtlikhmhomkiadaaDoorUSpec
namespace Go.Proofs.YtlikhmhomkiadaaDoor
open Go Go.RowKit

theorem withinU (a n b : Int) (w : World) :
    Calls Tryd.prog 45 #[.int .i64 a, .int .i64 n, .int .i64 b] w fun e w' => e = .returned (.int .i64 (max a (min n b))) ∧ w = w' := by
  have fin : ∀ x y : Int, x = y → Ending.returned (Value.int .i64 x) = .returned (.int .i64 y) := fun x y h => by rw [h]
  go_enter Tryd.func45, Tryd.ntmps45
  go_wp2
  all_goals (go_ret; refine ⟨fin _ _ ?_, rfl⟩; omega)
theorem isAboveU (x y a b : Int) (w : World) :
    Calls Tryd.prog 33 #[.agg #[.int .i64 x, .int .i64 y], .agg #[.int .i64 a, .int .i64 b]] w fun e w' => e = .returned (.bool (abvB x y a b)) ∧ Ext w w' := by
  have fin : ∀ x y : Bool, x = y → Ending.returned (Value.bool x) = .returned (.bool y) := fun x y h => by rw [h]
  have hE := ((Ext.refl w).alloc (.cells #[.int .i64 x, .int .i64 y] 23)).alloc (.cells #[.int .i64 a, .int .i64 b] 23)
  have HE := Lib.hid hE
  have HA : Hid (x = a → abvB x y a b = decide (b < y)) := Lib.hid fun h => by unfold abvB; rw [if_pos h]
  have HB : Hid (x ≠ a → abvB x y a b = decide (a < x)) := Lib.hid fun h => by unfold abvB; rw [if_neg h]
  clear hE
  by_cases hxa : x = a
  · subst hxa
    rw [HA.out rfl]
    go_enter Tryd.func33, Tryd.ntmps33
    go_wp2_with fail
    go_ret
    exact ⟨rfl, HE.out⟩
  · have hne : (x == a) = false := by rw [beq_eq_false_iff_ne]; exact hxa
    rw [HB.out hxa]
    go_enter Tryd.func33, Tryd.ntmps33
    go_wp2_with fail
    go_ret
    exact ⟨rfl, HE.out⟩
theorem ballot_neq (a b : Int) (w : World) : (binOp .neq 23 (.agg #[.int .i64 a, .int .i64 b]) (.agg #[.int .i64 0, .int .i64 0])).run Tryd.prog w = .ok (.bool (!(a == 0 && b == 0))) w := by
  have hf : Tryd.prog.stoodInHeld 23 = false := by kernel_rfl
  have hu := Tryd.underlying23
  rw [run_neq_struct, run_equalIn_agg _ _ _ _ _ (by rw [Program.fieldsOf, hu]) hf, Program.fieldsOf, hu]
  simp [Op.eqFields, go_sem]
  by_cases h1 : a = 0 <;> by_cases h2 : b = 0 <;> simp [h1, h2]
theorem meta_eql (a b c a' b' c' : Int) (w : World) : (binOp .eql 25 (.agg #[.int .i64 a, .int .i64 b, .int .i64 c]) (.agg #[.int .i64 a', .int .i64 b', .int .i64 c'])).run Tryd.prog w = .ok (.bool (a == a' && (b == b' && c == c'))) w := by
  have hf : Tryd.prog.stoodInHeld 25 = false := by kernel_rfl
  have hu := Tryd.underlying25
  have hu2 := Tryd.underlying23
  rw [run_eql_struct, run_equalIn_agg _ _ _ _ _ (by rw [Program.fieldsOf, hu]) hf, Program.fieldsOf, hu]
  simp [Op.eqFields, go_sem]
  by_cases h1 : a = a' <;> by_cases h2 : b = b' <;> by_cases h3 : c = c' <;> simp [h1, h2, h3]

theorem three_cells {w : World} {g : Nat} {x0 x1 x2 : Value} {t : TypeId} (h : w.heap[g]? = some (.cells #[x0, x1, x2] t (0, 0))) :
    (w.cell? ⟨g, 0, none⟩ = some x0 ∧ w.cell? ⟨g, 1, none⟩ = some x1 ∧ w.cell? ⟨g, 2, none⟩ = some x2) ∧ (w.frozen? ⟨g, 0, none⟩ = false ∧ w.frozen? ⟨g, 1, none⟩ = false ∧ w.frozen? ⟨g, 2, none⟩ = false) :=
  ⟨⟨cell_of_row w g 0 _ _ _ h, cell_of_row w g 1 _ _ _ h, cell_of_row w g 2 _ _ _ h⟩, ⟨frozen_of_row w g 0 _ _ h, frozen_of_row w g 1 _ _ h, frozen_of_row w g 2 _ _ h⟩⟩
theorem three_ext {w w' : World} (h : Ext w w') {g : Nat} (hg : w.heap.size ≤ g) (x0 x1 x2 : Value) :
    Ext w (((w'.setCell ⟨g, 0, none⟩ x0).setCell ⟨g, 1, none⟩ x1).setCell ⟨g, 2, none⟩ x2) :=
  ((h.setCell (p := ⟨g, 0, none⟩) hg _).setCell (p := ⟨g, 1, none⟩) hg _).setCell (p := ⟨g, 2, none⟩) hg _
theorem three_row {w : World} {g : Nat} {x0 x1 x2 : Value} {t : TypeId} (h : w.heap[g]? = some (.cells #[x0, x1, x2] t (0, 0))) (y0 y1 y2 : Value) :
    (((w.setCell ⟨g, 0, none⟩ y0).setCell ⟨g, 1, none⟩ y1).setCell ⟨g, 2, none⟩ y2).heap[g]? = some (.cells #[y0, y1, y2] t (0, 0)) := by
  have h0 := setCell_eq_setRow w g 0 _ _ _ y0 h
  have r0 := setRow_heap w g _ (#[x0, x1, x2].setIfInBounds 0 y0) _ _ h
  have h1 := setCell_eq_setRow _ g 1 _ _ _ y1 (h0 ▸ r0)
  have r1 := setRow_heap _ g _ ((#[x0, x1, x2].setIfInBounds 0 y0).setIfInBounds 1 y1) _ _ (h0 ▸ r0)
  have h2 := setCell_eq_setRow _ g 2 _ _ _ y2 (h1 ▸ r1)
  have r2 := setRow_heap _ g _ (((#[x0, x1, x2].setIfInBounds 0 y0).setIfInBounds 1 y1).setIfInBounds 2 y2) _ _ (h1 ▸ r1)
  rw [h2]
  exact r2

set_option maxRecDepth 100000 in
set_option maxHeartbeats 1600000 in
theorem nearestU (a b c : Int) (w : World) :
    Calls Tryd.prog 30 #[.agg #[.int .i64 a, .int .i64 b, .int .i64 c]] w fun r w' => r = .returned (.agg #[.int .i64 (nuA a b), .int .i64 (nuB a b), .int .i64 (nuC c)]) ∧ Ext w w' := by
  have hbn := ballot_neq a b
  by_cases h : a = 0 ∧ b = 0
  · obtain ⟨rfl, rfl⟩ := h
    go_enter Tryd.func30, Tryd.ntmps30
    go_wp2_with fail
    refine (withinU _ _ _ _).mono ?_
    rintro e' w' ⟨rfl, rfl⟩
    go_wp2_with fail
    refine bodyPost_ret (v := .agg #[.int .i64 0, .int .i64 0, .int .i64 (max 1 (min c 1099511627776))]) ?_ rfl ⟨rfl, ((Ext.refl w).alloc _).alloc _⟩
    simp [results, Tryd.results30, go_sem]
  · have hq : (!(a == 0 && b == 0)) = true := by
      simp
      omega
    rw [hq] at hbn
    have hA : nuA a b = max 1 (min a 1099511627776) := by unfold nuA; rw [if_neg h]
    have hB : nuB a b = max 0 (min b 6) := by unfold nuB; rw [if_neg h]
    rw [hA, hB]
    clear hA hB hq h
    go_enter Tryd.func30, Tryd.ntmps30
    go_wp2_with fail
    refine (withinU _ _ _ _).mono ?_
    rintro e' w' ⟨rfl, rfl⟩
    go_wp2_with fail
    refine (withinU _ _ _ _).mono ?_
    rintro e' w' ⟨rfl, rfl⟩
    go_wp2_with fail
    refine (withinU _ _ _ _).mono ?_
    rintro e' w' ⟨rfl, rfl⟩
    go_wp2_with fail
    refine bodyPost_ret (v := .agg #[.int .i64 (max 1 (min a 1099511627776)), .int .i64 (max 0 (min b 6)), .int .i64 (max 1 (min c 1099511627776))]) ?_ rfl ⟨rfl, ((Ext.refl w).alloc _).alloc _⟩
    simp [results, Tryd.results30, go_sem]

set_option maxRecDepth 100000 in
set_option maxHeartbeats 1600000 in
theorem mayU_any (a b c : Int) (w : World) :
    Calls Tryd.prog 12 #[.agg #[.int .i64 a, .int .i64 b, .int .i64 c]] w fun r w' => r = .returned (.bool (mayU a b c)) ∧ Ext w w' := by
  have hE := (Ext.refl w).alloc (.cells #[.int .i64 a, .int .i64 b, .int .i64 c] 25)
  obtain ⟨⟨i0, i1, i2⟩, _⟩ := three_cells (heap_alloc_new w (.cells #[.int .i64 a, .int .i64 b, .int .i64 c] 25))
  have HE := Lib.hid hE
  have HM := Lib.hid (nearU_eq a b c)
  have hq := meta_eql a b c (nuA a b) (nuB a b) (nuC c)
  have hg : Tryd.prog.eqGuardType Tryd.prog.depth 25 = false := by kernel_rfl
  clear hE
  go_enter Tryd.func12, Tryd.ntmps12
  go_wp2_with fail
  generalize (w.alloc (.cells #[.int .i64 a, .int .i64 b, .int .i64 c] 25)) = W at *
  generalize w.heap.size = g at *
  go_region_held3 (fun w' => w'.cell? ⟨g, 0, none⟩ = some (.int .i64 a) ∧ w'.cell? ⟨g, 1, none⟩ = some (.int .i64 b) ∧ w'.cell? ⟨g, 2, none⟩ = some (.int .i64 c))
    (first | with_reducible exact ⟨i0, i1, i2⟩ | exact ⟨Ext.cell hx i0, Ext.cell hx i1, Ext.cell hx i2⟩ | go_keep)
    (first
      | (go_at_call 30; ((with_reducible refine (nearestU _ _ _ _).mono ?_); rintro r w' ⟨rfl, hx⟩)))
  rw [HM.out]
  have HE := Lib.hid (HE.out.trans (((Ext.refl W).drew).trans hx))
  clear hx hq hg i0 i1 i2
  go_wp2_with fail
  go_ret
  exact ⟨rfl, HE.out⟩

/-- Where the numbers lie, with their widths. -/
def fieldsV (g : Nat) : Value := .agg #[.pointer (some ⟨g, 0, none⟩), .int .i64 6, .pointer (some ⟨g, 1, none⟩), .int .i64 1, .pointer (some ⟨g, 2, none⟩), .int .i64 6]
set_option maxRecDepth 100000 in
theorem fieldsU (g : Nat) (x0 x1 x2 : Value) (w : World) (h : w.heap[g]? = some (.cells #[x0, x1, x2] 25 (0, 0))) :
    Calls Tryd.prog 24 #[.pointer (some ⟨g, 0, none⟩)] w fun r w' => r = .returned (fieldsV g) ∧ Ext w w' := by
  have hx := (Ext.refl w).alloc (.cells #[.pointer none, .int .i64 0, .pointer none, .int .i64 0, .pointer none, .int .i64 0] 61)
  obtain ⟨⟨c0, c1, c2⟩, _⟩ := three_cells ((hx.block g (Array.getElem?_eq_some_iff.1 h).1).trans h)
  clear h hx
  go_enter Tryd.func24, Tryd.ntmps24
  go_wp2_with fail
  go_region
  go_wp2_with fail
  refine bodyPost_ret (v := fieldsV g) ?_ rfl ⟨rfl, ((Ext.refl w).alloc _).drew⟩
  simp [results, Tryd.results24, go_sem, fieldsV]
end Go.Proofs.YtlikhmhomkiadaaDoor
