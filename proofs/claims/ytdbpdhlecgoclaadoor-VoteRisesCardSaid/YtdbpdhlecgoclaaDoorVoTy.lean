/-
  Requests that came in, opened.
-/
import Derived.Test.YtdbpdhlecgoclaaDoorULists
import Derived.Test.YtdbpdhlecgoclaaDoorBlTy
namespace Go.Proofs.YtdbpdhlecgoclaaDoor
set_option maxRecDepth 100000
open Go Go.RowKit Go.ChangeShapes Go.WideShapes Go.Deep

/-- A request: a ballot, an index. -/
structure AskV where
  x : Int := 0
  y : Int := 0
  i : Int := 0
instance : Inhabited AskV := ⟨{}⟩
def AskV.cells (a : AskV) : List Value := [.int .i64 a.x, .int .i64 a.y, .int .i64 a.i]
theorem askV_ty : MetaTy Tryd.prog 39 23 3 := ⟨⟨_, _, Tryd.underlying39, ⟨rfl, rfl⟩, rfl, rfl⟩, by kernel_rfl, bal_tyB⟩
theorem open_t36 {H : Type} {enc : TypeId × Value → H} {w : World} {base : Nat} {held : Bool} {r : Reach} {b0 : Nat} {v : Value} {d : DataW H} {p : List MemPlace}
    (hv : Value.okWide Tryd.prog w r b0 36 v) (h : DataW.Trod enc Tryd.prog w base (fun _ => true) held 36 v d p) : ∃ (A : Option Addr) (n c : Nat) (l : List AskV), v = .slice A n c ∧ Ls AskV.cells 3 w w.heap.size A n c l ∧ ∀ a ∈ l, True :=
  open_list (cells := AskV.cells) (N := 3) (Ok := fun _ => True) (fun _ => rfl) (by omega) Tryd.underlying36 (by kernel_rfl) (fun h => by
    obtain ⟨a, b, c, e⟩ := trod_meta askV_ty h
    exact ⟨⟨a, b, c⟩, e, trivial⟩) hv h
end Go.Proofs.YtdbpdhlecgoclaaDoor
