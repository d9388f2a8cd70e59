/-
  The contracts of ballot's maySize, isWithin, isReplica, May, Next.
-/
import Derived.Test.YtdbpdhlecgoclaaDoorBlC
import Derived.Deep.DeepCutAuto
namespace Go.Proofs.YtdbpdhlecgoclaaDoor
set_option maxRecDepth 100000
open Go Go.RowKit

theorem bal_eql_zero (x y : Int) (w : World) : (binOp .eql 23 (.agg #[.int .i64 x, .int .i64 y]) (.agg #[.int .i64 0, .int .i64 0])).run Tryd.prog w = .ok (.bool (decide (x = 0 ∧ y = 0))) w := by
  have hf : Tryd.prog.stoodInHeld 23 = false := by kernel_rfl
  have hu := Tryd.underlying23
  rw [run_eql_struct, run_equalIn_agg _ _ _ _ _ (by rw [Program.fieldsOf, hu]) hf, Program.fieldsOf, hu]
  simp [Op.eqFields, go_sem]
  by_cases h1 : x = 0
  · by_cases h2 : y = 0
    · simp [h1, h2]
    · simp [h1, h2]
  · simp [h1]
def inB (a n b : Int) : Bool := decide (a ≤ n ∧ n ≤ b)
theorem inB_iff {a n b : Int} : inB a n b = true ↔ a ≤ n ∧ n ≤ b := decide_eq_true_iff
/-- Is it the number of a replica of n? -/
def repB (i n : Int) : Bool := crowdB n && inB 0 i (n - 1)
theorem repB_iff {i n : Int} : repB i n = true ↔ (n = 3 ∨ n = 5 ∨ n = 7) ∧ 0 ≤ i ∧ i < n := by
  unfold repB
  rw [Bool.and_eq_true, crowdB_iff, inB_iff]
  omega
theorem may_zero {x y n : Int} (h : x = 0 ∧ y = 0) : mayB_ ⟨x, y⟩ n = crowdB n := by
  unfold mayB_
  rw [decide_eq_true (p := (⟨x, y⟩ : Bal).x = 0 ∧ (⟨x, y⟩ : Bal).y = 0) h, Bool.true_or, Bool.and_true]
theorem may_else {x y n : Int} (h : ¬ (x = 0 ∧ y = 0)) : mayB_ ⟨x, y⟩ n = (repB y n && inB 1 x 1099511627776) := by
  rw [Bool.eq_iff_iff, mayB_iff, Bool.and_eq_true, repB_iff, inB_iff]
  dsimp only
  omega
theorem okB_rep {x y r n : Int} : okB ⟨x, y⟩ r n = (repB r n && mayB_ ⟨x, y⟩ n) := by
  rw [Bool.eq_iff_iff, Bool.and_eq_true, repB_iff, okB_iff, mayB_iff]
  dsimp only
  omega
end Go.Proofs.YtdbpdhlecgoclaaDoor
