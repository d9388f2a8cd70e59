/-
  The disk's door: lists of bools, of acts, and an act, that came in, opened.
-/
import Derived.Test.YtldgamgdbneneaaActs
import Derived.Test.YtldgamgdbneneaaKDisk
namespace Go.Proofs.Ytldgamgdbneneaa
set_option maxRecDepth 100000
open Go Go.RowKit Go.ChangeShapes Go.WideShapes

/-- Bools that came in, opened (the name is the frame's: open_t and the type's number). -/
theorem open_t34 {H : Type} {enc : TypeId × Value → H} {w : World} {base : Nat} {held : Bool} {r : Reach} {b0 : Nat} {v : Value} {d : DataW H} {p : List MemPlace}
    (hv : Value.okWide Try.prog w r b0 34 v) (h : DataW.Trod enc Try.prog w base (fun _ => true) held 34 v d p) : ∃ (A : Option Addr) (n c : Nat) (l : List Bool), v = .slice A n c ∧ Vs w w.heap.size A n c (l.map .bool) :=
  open_bools Try.underlying34 Try.underlying4 (by kernel_rfl) hv h
theorem act_ty : ActTy Try.prog 36 5 3 33 34 5 4 :=
  ⟨⟨_, _, _, _, _, Try.underlying36, ⟨rfl, rfl⟩, ⟨rfl, rfl⟩, ⟨rfl, rfl⟩, ⟨rfl, rfl⟩, rfl, rfl⟩, by kernel_rfl, ⟨by kernel_rfl, by kernel_rfl, by kernel_rfl, by kernel_rfl, by kernel_rfl⟩, Try.underlying5, Try.underlying3, ⟨Try.underlying33, Try.underlying5, by kernel_rfl⟩, ⟨Try.underlying34, Try.underlying4⟩⟩
/-- Acts that came in, opened. -/
theorem open_t22 {H : Type} {enc : TypeId × Value → H} {w : World} {base : Nat} {held : Bool} {r : Reach} {b0 : Nat} {v : Value} {d : DataW H} {p : List MemPlace}
    (hv : Value.okWide Try.prog w r b0 22 v) (h : DataW.Trod enc Try.prog w base (fun _ => true) held 22 v d p) : ∃ (A : Option Addr) (n c : Nat) (l : List Act5), v = .slice A n c ∧ Acts w w.heap.size A n c l :=
  open_acts Try.underlying22 act_ty hv h
/-- An act that came in, opened. -/
theorem open_t36 {H : Type} {enc : TypeId × Value → H} {w : World} {base : Nat} {held : Bool} {r : Reach} {b0 : Nat} {v : Value} {d : DataW H} {p : List MemPlace}
    (hv : Value.okWide Try.prog w r b0 36 v) (h : DataW.Trod enc Try.prog w base (fun _ => true) held 36 v d p) : ∃ a : Act5, v = .agg #[.int .u8 (a.kind : Int), .int .i64 a.sec, .int .i64 a.num, .slice a.bA a.bn a.bc, .slice a.kA a.kn a.kc] ∧ a.Ok w w.heap.size :=
  open_act act_ty hv h
end Go.Proofs.Ytldgamgdbneneaa
