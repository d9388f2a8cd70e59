/-
  Bools that came in, opened.
-/
import Derived.Test.YtmohjofjfekjfaaProg
import Derived.Test.YtmohjofjfekjfaaActs
namespace Go.Proofs.Ytmohjofjfekjfaa
open Go Go.RowKit Go.ChangeShapes Go.WideShapes

/-- Bools that came in, opened (the name is the frame's: open_t and the type's number). -/
theorem open_t49 {H : Type} {enc : TypeId × Value → H} {w : World} {base : Nat} {held : Bool} {r : Reach} {b0 : Nat} {v : Value} {d : DataW H} {p : List MemPlace}
    (hv : Value.okWide Try.prog w r b0 49 v) (h : DataW.Trod enc Try.prog w base (fun _ => true) held 49 v d p) : ∃ (A : Option Addr) (n c : Nat) (l : List Bool), v = .slice A n c ∧ Vs w w.heap.size A n c (l.map .bool) :=
  open_bools Try.underlying49 Try.underlying4 (by kernel_rfl) hv h
end Go.Proofs.Ytmohjofjfekjfaa
