/-
  Ballots, and lists of ballots, that came in, opened, by the program's own types.
-/
import Derived.Test.YtdbpdhlecgoclaaDoorULists
import Derived.Test.YtdbpdhlecgoclaaDoorProg
namespace Go.Proofs.YtdbpdhlecgoclaaDoor
set_option maxRecDepth 100000
set_option maxRecDepth 100000
open Go Go.RowKit Go.ChangeShapes Go.WideShapes Go.Deep

theorem bal_tyB : BalTy Tryd.prog 23 3 := ⟨⟨_, _, Tryd.underlying23, ⟨rfl, rfl⟩, rfl, rfl⟩, by kernel_rfl, by kernel_rfl, Tryd.underlying3⟩
theorem open_balB {H : Type} {enc : TypeId × Value → H} {P : Program} {w : World} {base : Nat} {spare : Nat → Bool} {held : Bool} {e ti : TypeId} (T : BalTy P e ti) {r : Reach} {b0 : Nat} {v : Value} {d : DataW H} {p : List MemPlace} (hv : Value.okWide P w r b0 e v) (h : DataW.Trod enc P w base spare held e v d p) : ∃ a b : Int, v = .agg #[.int .i64 a, .int .i64 b] := by
  obtain ⟨f0, f1, hs, _⟩ := T.fs
  obtain ⟨cs, rfl, _⟩ := okWide_struct hs hv
  obtain ⟨fuel, hf⟩ := h
  obtain ⟨a, b, hcs, _⟩ := trod_bal T hf
  refine ⟨a, b, ?_⟩
  have e : (Value.cells (.agg cs)).toList = cs.toList := rfl
  rw [e] at hcs
  obtain ⟨cs⟩ := cs
  simp at hcs
  rw [hcs]
/-- A ballot that came in, opened (the name is the frame's: open_t and the type's number). -/
theorem open_t23 {H : Type} {enc : TypeId × Value → H} {w : World} {base : Nat} {sp : Nat → Bool} {held : Bool} {r : Reach} {b0 : Nat} {v : Value} {d : DataW H} {p : List MemPlace}
    (hv : Value.okWide Tryd.prog w r b0 23 v) (h : DataW.Trod enc Tryd.prog w base sp held 23 v d p) : ∃ a b : Int, v = .agg #[.int .i64 a, .int .i64 b] := open_balB bal_tyB hv h
end Go.Proofs.YtdbpdhlecgoclaaDoor
