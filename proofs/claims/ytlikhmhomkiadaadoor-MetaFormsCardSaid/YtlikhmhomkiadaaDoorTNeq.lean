/-
  What '!=' answers of two tags.
-/
import Derived.Test.YtlikhmhomkiadaaDoorTNear
namespace Go.Proofs.YtlikhmhomkiadaaDoor
open Go Go.RowKit

theorem tag_neq (a b c d e a' b' c' d' e' : Int) (w : World) : (binOp .neq 97 (.agg #[.int .i64 a, .int .i64 b, .int .i64 c, .int .i64 d, .int .i64 e]) (.agg #[.int .i64 a', .int .i64 b', .int .i64 c', .int .i64 d', .int .i64 e'])).run Tryd.prog w =
    .ok (.bool (!(a == a' && (b == b' && (c == c' && (d == d' && e == e')))))) w := by
  have hf : Tryd.prog.stoodInHeld 97 = false := by kernel_rfl
  have hu := Tryd.underlying97
  rw [run_neq_struct, run_equalIn_agg _ _ _ _ _ (by rw [Program.fieldsOf, hu]) hf, Program.fieldsOf, hu]
  simp [Op.eqFields, go_sem]
  by_cases h1 : a = a' <;> by_cases h2 : b = b' <;> by_cases h3 : c = c' <;> by_cases h4 : d = d' <;> by_cases h5 : e = e' <;> simp [h1, h2, h3, h4, h5]
end Go.Proofs.YtlikhmhomkiadaaDoor
