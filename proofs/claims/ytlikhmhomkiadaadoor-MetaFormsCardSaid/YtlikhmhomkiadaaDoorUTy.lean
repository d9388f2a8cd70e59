/-
  Metadata, ballots and steps that came in, opened, by the program's own types.
-/
import Derived.Test.YtlikhmhomkiadaaDoorULists
import Derived.Test.YtlikhmhomkiadaaDoorProg
namespace Go.Proofs.YtlikhmhomkiadaaDoor
set_option maxRecDepth 100000
open Go Go.RowKit Go.ChangeShapes Go.WideShapes Go.Deep

theorem bal_ty : BalTy Tryd.prog 23 3 := ⟨⟨_, _, Tryd.underlying23, ⟨rfl, rfl⟩, rfl, rfl⟩, by kernel_rfl, by kernel_rfl, Tryd.underlying3⟩
theorem meta_ty : MetaTy Tryd.prog 25 23 3 := ⟨⟨_, _, Tryd.underlying25, ⟨rfl, rfl⟩, rfl, rfl⟩, by kernel_rfl, bal_ty⟩
/-- Metadata that came in, opened (the name is the frame's: open_t and the type's number). -/
theorem open_t25 {H : Type} {enc : TypeId × Value → H} {w : World} {base : Nat} {sp : Nat → Bool} {held : Bool} {r : Reach} {b0 : Nat} {v : Value} {d : DataW H} {p : List MemPlace}
    (hv : Value.okWide Tryd.prog w r b0 25 v) (h : DataW.Trod enc Tryd.prog w base sp held 25 v d p) : ∃ a b c : Int, v = .agg #[.int .i64 a, .int .i64 b, .int .i64 c] := open_meta meta_ty hv h
end Go.Proofs.YtlikhmhomkiadaaDoor
