/-
  Entries and ballots compared with themselves.
-/
import Derived.Test.YtejejadbemkifaaLSmall
namespace Go.Proofs.Ytejejadbemkifaa
open Go Go.RowKit

theorem lent_eql_self (k : Nat) (cl sq : Int) (ok : Nat) (key old val : ByteArray) (w : World) :
    (binOp .eql 31 (.agg #[.int .u8 (k : Int), .int .i64 cl, .int .i64 sq, .int .u8 (ok : Int), .string key, .string old, .string val]) (.agg #[.int .u8 (k : Int), .int .i64 cl, .int .i64 sq, .int .u8 (ok : Int), .string key, .string old, .string val])).run Try.prog w = .ok (.bool true) w := by
  have hf : Try.prog.stoodInHeld 31 = false := by kernel_rfl
  have hu := Try.underlying31
  have hu2 := Try.underlying29
  rw [run_eql_struct, run_equalIn_agg _ _ _ _ _ (by rw [Program.fieldsOf, hu]) hf, Program.fieldsOf, hu]
  simp [Op.eqFields, go_sem]
theorem lbal_eql_self (x y : Int) (w : World) : (binOp .eql 25 (.agg #[.int .i64 x, .int .i64 y]) (.agg #[.int .i64 x, .int .i64 y])).run Try.prog w = .ok (.bool true) w := by
  have hf : Try.prog.stoodInHeld 25 = false := by kernel_rfl
  have hu := Try.underlying25
  rw [run_eql_struct, run_equalIn_agg _ _ _ _ _ (by rw [Program.fieldsOf, hu]) hf, Program.fieldsOf, hu]
  simp [Op.eqFields, go_sem]
theorem lbal_neq_self (x y : Int) (w : World) : (binOp .neq 25 (.agg #[.int .i64 x, .int .i64 y]) (.agg #[.int .i64 x, .int .i64 y])).run Try.prog w = .ok (.bool false) w := by
  have hf : Try.prog.stoodInHeld 25 = false := by kernel_rfl
  have hu := Try.underlying25
  rw [run_neq_struct, run_equalIn_agg _ _ _ _ _ (by rw [Program.fieldsOf, hu]) hf, Program.fieldsOf, hu]
  simp [Op.eqFields, go_sem]

end Go.Proofs.Ytejejadbemkifaa
