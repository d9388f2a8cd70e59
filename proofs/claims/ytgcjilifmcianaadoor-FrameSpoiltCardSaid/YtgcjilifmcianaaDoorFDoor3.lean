/-
  The frame's door, with three numbers of 16 bits that come in as an array.
-/
import Derived.Test.YtgcjilifmcianaaDoorFDoor
import Derived.Test.YtgcjilifmcianaaDoorArr
namespace Go.Proofs.YtgcjilifmcianaaDoor
open Go Go.RowKit Go.ChangeShapes Go.WideShapes

/-- Three numbers that came in, opened (the name is the frame's: open_t and the type's number). -/
theorem open_t42 {H : Type} {enc : TypeId × Value → H} {w : World} {base : Nat} {sp : Nat → Bool} {held : Bool} {r : Reach} {b0 : Nat} {v : Value} {d : DataW H} {p : List MemPlace}
    (hv : Value.okWide Tryd.prog w r b0 42 v) (h : DataW.Trod enc Tryd.prog w base sp held 42 v d p) : ∃ x y z : Int, v = .agg #[.int .u16 x, .int .u16 y, .int .u16 z] ∧ (Lit.int .u16 x).wf = true ∧ (Lit.int .u16 y).wf = true ∧ (Lit.int .u16 z).wf = true :=
  open_arr3 Tryd.underlying42 Tryd.underlying41 (by kernel_rfl) (by kernel_rfl) hv h
end Go.Proofs.YtgcjilifmcianaaDoor
