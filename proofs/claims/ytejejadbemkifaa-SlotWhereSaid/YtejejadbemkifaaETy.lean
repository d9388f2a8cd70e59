/-
  Entries, ballots and lists of entries that came in, opened, by the program's own types.
-/
import Derived.Test.YtejejadbemkifaaEOpen
import Derived.Test.YtejejadbemkifaaProg
namespace Go.Proofs.Ytejejadbemkifaa
set_option maxRecDepth 100000
set_option maxRecDepth 100000
open Go Go.RowKit Go.ChangeShapes Go.WideShapes Go.Deep

theorem balE_ty : BalTy Try.prog 25 3 := ⟨⟨_, _, Try.underlying25, ⟨rfl, rfl⟩, rfl, rfl⟩, by kernel_rfl, by kernel_rfl, Try.underlying3⟩
theorem op_ty : OpTy Try.prog 29 5 9 := ⟨⟨_, _, _, _, Try.underlying29, ⟨rfl, rfl⟩, ⟨rfl, rfl⟩, ⟨rfl, rfl⟩, rfl, rfl⟩, by kernel_rfl, Try.underlying5, Try.underlying9, by kernel_rfl, by kernel_rfl⟩
theorem ent_ty : EntTy Try.prog 31 5 3 29 9 := ⟨⟨_, _, _, _, Try.underlying31, ⟨rfl, rfl⟩, ⟨rfl, rfl⟩, ⟨rfl, rfl⟩, rfl, rfl⟩, by kernel_rfl, op_ty, Try.underlying3, by kernel_rfl⟩
/-- An entry that came in, opened (the name is the frame's: open_t and the type's number). -/
theorem open_t31 {H : Type} {enc : TypeId × Value → H} {w : World} {base : Nat} {sp : Nat → Bool} {held : Bool} {r : Reach} {b0 : Nat} {v : Value} {d : DataW H} {p : List MemPlace}
    (hv : Value.okWide Try.prog w r b0 31 v) (h : DataW.Trod enc Try.prog w base sp held 31 v d p) :
    ∃ e : Ent, v = .agg #[.int .u8 (e.k : Nat), .int .i64 e.cl, .int .i64 e.sq, .int .u8 (e.ok : Nat), .string e.key, .string e.old, .string e.val] ∧ e.Wf := open_ent ent_ty hv h
theorem open_t25 {H : Type} {enc : TypeId × Value → H} {w : World} {base : Nat} {sp : Nat → Bool} {held : Bool} {r : Reach} {b0 : Nat} {v : Value} {d : DataW H} {p : List MemPlace}
    (hv : Value.okWide Try.prog w r b0 25 v) (h : DataW.Trod enc Try.prog w base sp held 25 v d p) : ∃ a b : Int, v = .agg #[.int .i64 a, .int .i64 b] := open_balE balE_ty hv h
end Go.Proofs.Ytejejadbemkifaa
