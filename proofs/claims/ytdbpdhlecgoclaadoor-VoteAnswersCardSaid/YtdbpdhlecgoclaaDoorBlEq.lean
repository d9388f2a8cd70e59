/-
  Ballots compared; ballots in blocks.
-/
import Derived.Test.YtdbpdhlecgoclaaDoorBlNext2
namespace Go.Proofs.YtdbpdhlecgoclaaDoor
set_option maxRecDepth 100000
open Go Go.RowKit

abbrev BC (w : World) (g : Nat) (x y : Int) : Prop := w.cell? ⟨g, 0, none⟩ = some (.int .i64 x) ∧ w.cell? ⟨g, 1, none⟩ = some (.int .i64 y)
theorem BC.ext {w w' : World} {g : Nat} {x y : Int} (hx : Ext w w') (h : BC w g x y) : BC w' g x y := ⟨ext_of_cellB hx h.1, ext_of_cellB hx h.2⟩
theorem BC.new (w : World) (x y : Int) (t : TypeId) : BC (w.alloc (.cells #[.int .i64 x, .int .i64 y] t)) w.heap.size x y := bal_one w x y t
abbrev S3 (w : World) (a : Nat) (x y : Int) (b : Nat) (x1 y1 : Int) (c : Nat) (x2 y2 : Int) : Prop := w.cell? ⟨a, 0, none⟩ = some (.int .i64 x) ∧ w.cell? ⟨a, 1, none⟩ = some (.int .i64 y) ∧ w.cell? ⟨b, 0, none⟩ = some (.int .i64 x1) ∧ w.cell? ⟨b, 1, none⟩ = some (.int .i64 y1) ∧ w.cell? ⟨c, 0, none⟩ = some (.int .i64 x2) ∧ w.cell? ⟨c, 1, none⟩ = some (.int .i64 y2)
theorem S3.ext {w w' : World} {a b c : Nat} {x y x1 y1 x2 y2 : Int} (hx : Ext w w') (h : S3 w a x y b x1 y1 c x2 y2) : S3 w' a x y b x1 y1 c x2 y2 := ⟨ext_of_cellB hx h.1, ext_of_cellB hx h.2.1, ext_of_cellB hx h.2.2.1, ext_of_cellB hx h.2.2.2.1, ext_of_cellB hx h.2.2.2.2.1, ext_of_cellB hx h.2.2.2.2.2⟩
abbrev S2B (w : World) (a : Nat) (x y : Int) (b : Nat) (x1 y1 : Int) : Prop := w.cell? ⟨a, 0, none⟩ = some (.int .i64 x) ∧ w.cell? ⟨a, 1, none⟩ = some (.int .i64 y) ∧ w.cell? ⟨b, 0, none⟩ = some (.int .i64 x1) ∧ w.cell? ⟨b, 1, none⟩ = some (.int .i64 y1)
theorem S2B.ext {w w' : World} {a b : Nat} {x y x1 y1 : Int} (hx : Ext w w') (h : S2B w a x y b x1 y1) : S2B w' a x y b x1 y1 := ⟨ext_of_cellB hx h.1, ext_of_cellB hx h.2.1, ext_of_cellB hx h.2.2.1, ext_of_cellB hx h.2.2.2⟩
theorem bal_eql (x y x' y' : Int) (w : World) : (binOp .eql 23 (.agg #[.int .i64 x, .int .i64 y]) (.agg #[.int .i64 x', .int .i64 y'])).run Tryd.prog w = .ok (.bool (decide (x = x' ∧ y = y'))) w := by
  have hf : Tryd.prog.stoodInHeld 23 = false := by kernel_rfl
  have hu := Tryd.underlying23
  rw [run_eql_struct, run_equalIn_agg _ _ _ _ _ (by rw [Program.fieldsOf, hu]) hf, Program.fieldsOf, hu]
  simp [Op.eqFields, go_sem]
  by_cases h1 : x = x'
  · by_cases h2 : y = y'
    · simp [h1, h2]
    · simp [h1, h2]
  · simp [h1]
theorem bal_neq (x y x' y' : Int) (w : World) : (binOp .neq 23 (.agg #[.int .i64 x, .int .i64 y]) (.agg #[.int .i64 x', .int .i64 y'])).run Tryd.prog w = .ok (.bool (!decide (x = x' ∧ y = y'))) w := by
  have hf : Tryd.prog.stoodInHeld 23 = false := by kernel_rfl
  have hu := Tryd.underlying23
  rw [run_neq_struct, run_equalIn_agg _ _ _ _ _ (by rw [Program.fieldsOf, hu]) hf, Program.fieldsOf, hu]
  simp [Op.eqFields, go_sem]
  by_cases h1 : x = x'
  · by_cases h2 : y = y'
    · simp [h1, h2]
    · simp [h1, h2]
  · simp [h1]
theorem ballot_guard : Tryd.prog.eqGuardType Tryd.prog.depth 23 = false := by kernel_rfl
end Go.Proofs.YtdbpdhlecgoclaaDoor
