/-
  Records, two copies of frames, and bytes that came in, opened, by the program's own types.
-/
import Derived.Test.YtejejadbemkifaaLOpen
import Derived.Test.YtejejadbemkifaaOpen
import Derived.Test.YtejejadbemkifaaETy
import Derived.Test.YtejejadbemkifaaProg
namespace Go.Proofs.Ytejejadbemkifaa
set_option maxRecDepth 100000
open Go Go.RowKit Go.ChangeShapes Go.WideShapes Go.Deep

theorem rec_ty : RecTy Try.prog 27 5 3 25 := ⟨⟨_, _, _, _, Try.underlying27, ⟨rfl, rfl⟩, ⟨rfl, rfl⟩, ⟨rfl, rfl⟩, rfl, rfl⟩, by kernel_rfl, balE_ty, Try.underlying5, by kernel_rfl⟩
theorem cop_ty : CopTy Try.prog 33 5 3 25 31 29 9 := ⟨⟨_, _, _, _, Try.underlying33, ⟨rfl, rfl⟩, ⟨rfl, rfl⟩, ⟨rfl, rfl⟩, rfl, rfl⟩, by kernel_rfl, balE_ty, ent_ty⟩
theorem open_t27 {H : Type} {enc : TypeId × Value → H} {w : World} {base : Nat} {sp : Nat → Bool} {held : Bool} {r : Reach} {b0 : Nat} {v : Value} {d : DataW H} {p : List MemPlace}
    (hv : Value.okWide Try.prog w r b0 27 v) (h : DataW.Trod enc Try.prog w base sp held 27 v d p) : ∃ p : Rec, v = .agg #[.int .u8 (p.st : Int), .int .i64 p.ix, .int .i64 p.bx, .int .i64 p.yb, .int .i64 p.wh] ∧ p.Wf := open_rec rec_ty hv h
theorem open_t34 {H : Type} {enc : TypeId × Value → H} {w : World} {base : Nat} {sp : Nat → Bool} {held : Bool} {r : Reach} {b0 : Nat} {v : Value} {d : DataW H} {p : List MemPlace}
    (hv : Value.okWide Try.prog w r b0 34 v) (h : DataW.Trod enc Try.prog w base sp held 34 v d p) : ∃ c0 c1 : Cop, v = .agg #[.int .u8 (c0.st : Int), .int .i64 c0.ix, .int .i64 c0.bx, .int .i64 c0.yb, .int .u8 (c0.e.k : Int), .int .i64 c0.e.cl, .int .i64 c0.e.sq, .int .u8 (c0.e.ok : Int), .string c0.e.key, .string c0.e.old, .string c0.e.val, .int .u8 (c1.st : Int), .int .i64 c1.ix, .int .i64 c1.bx, .int .i64 c1.yb, .int .u8 (c1.e.k : Int), .int .i64 c1.e.cl, .int .i64 c1.e.sq, .int .u8 (c1.e.ok : Int), .string c1.e.key, .string c1.e.old, .string c1.e.val] ∧ c0.Wf ∧ c1.Wf := open_cop2 cop_ty Try.underlying34 (by kernel_rfl) hv h
end Go.Proofs.Ytejejadbemkifaa
