/-
  Entries, ballots and lists of entries that came in, opened, by the program's own types.
-/
import Derived.Test.YtoapjgkfggggmaaDoorEOpen
import Derived.Test.YtoapjgkfggggmaaDoorProg
namespace Go.Proofs.YtoapjgkfggggmaaDoor
set_option maxRecDepth 100000
set_option maxRecDepth 100000
open Go Go.RowKit Go.ChangeShapes Go.WideShapes Go.Deep

theorem balE_ty : BalTy Tryd.prog 23 3 := ⟨⟨_, _, Tryd.underlying23, ⟨rfl, rfl⟩, rfl, rfl⟩, by kernel_rfl, by kernel_rfl, Tryd.underlying3⟩
theorem op_ty : OpTy Tryd.prog 25 5 9 := ⟨⟨_, _, _, _, Tryd.underlying25, ⟨rfl, rfl⟩, ⟨rfl, rfl⟩, ⟨rfl, rfl⟩, rfl, rfl⟩, by kernel_rfl, Tryd.underlying5, Tryd.underlying9, by kernel_rfl, by kernel_rfl⟩
theorem ent_ty : EntTy Tryd.prog 27 5 3 25 9 := ⟨⟨_, _, _, _, Tryd.underlying27, ⟨rfl, rfl⟩, ⟨rfl, rfl⟩, ⟨rfl, rfl⟩, rfl, rfl⟩, by kernel_rfl, op_ty, Tryd.underlying3, by kernel_rfl⟩
/-- An entry that came in, opened (the name is the frame's: open_t and the type's number). -/
theorem open_t27 {H : Type} {enc : TypeId × Value → H} {w : World} {base : Nat} {sp : Nat → Bool} {held : Bool} {r : Reach} {b0 : Nat} {v : Value} {d : DataW H} {p : List MemPlace}
    (hv : Value.okWide Tryd.prog w r b0 27 v) (h : DataW.Trod enc Tryd.prog w base sp held 27 v d p) :
    ∃ e : Ent, v = .agg #[.int .u8 (e.k : Nat), .int .i64 e.cl, .int .i64 e.sq, .int .u8 (e.ok : Nat), .string e.key, .string e.old, .string e.val] ∧ e.Wf := open_ent ent_ty hv h
theorem open_t23 {H : Type} {enc : TypeId × Value → H} {w : World} {base : Nat} {sp : Nat → Bool} {held : Bool} {r : Reach} {b0 : Nat} {v : Value} {d : DataW H} {p : List MemPlace}
    (hv : Value.okWide Tryd.prog w r b0 23 v) (h : DataW.Trod enc Tryd.prog w base sp held 23 v d p) : ∃ a b : Int, v = .agg #[.int .i64 a, .int .i64 b] := open_balE balE_ty hv h
theorem open_t52 {H : Type} {enc : TypeId × Value → H} {w : World} {base : Nat} {held : Bool} {r : Reach} {b0 : Nat} {v : Value} {d : DataW H} {p : List MemPlace}
    (hv : Value.okWide Tryd.prog w r b0 52 v) (h : DataW.Trod enc Tryd.prog w base (fun _ => true) held 52 v d p) : ∃ (A : Option Addr) (n c : Nat) (l : List Ent), v = .slice A n c ∧ Ls Ent.cells 7 w w.heap.size A n c l ∧ ∀ a ∈ l, a.Wf :=
  open_list (cells := Ent.cells) (N := 7) (Ok := fun e => e.Wf) (fun _ => rfl) (by omega) Tryd.underlying52 (by kernel_rfl) (fun h => trod_ent ent_ty h) hv h
end Go.Proofs.YtoapjgkfggggmaaDoor
