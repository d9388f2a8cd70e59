/-
  Pairs and acts of a tally that came in, opened, by the program's own types.
-/
import Derived.Test.YtmnldkfkcfnkdaaULists
import Derived.Test.YtmnldkfkcfnkdaaProg
namespace Go.Proofs.Ytmnldkfkcfnkdaa
set_option maxRecDepth 100000
open Go Go.RowKit Go.ChangeShapes Go.WideShapes Go.Deep

/-- A slot, and a replica that accepted there. -/
structure PairT where
  i : Int := 0
  r : Int := 0
instance : Inhabited PairT := ⟨{}⟩
def PairT.cells (a : PairT) : List Value := [.int .i64 a.i, .int .i64 a.r]
/-- An act: its kind, the slot, the replica. -/
structure ActT where
  k : Nat := 0
  i : Int := 0
  r : Int := 0
instance : Inhabited ActT := ⟨{}⟩
def ActT.cells (a : ActT) : List Value := [.int .u8 (a.k : Int), .int .i64 a.i, .int .i64 a.r]
structure ActT.Wf (a : ActT) : Prop where
  k : a.k < 256
  i : (Lit.int .i64 a.i).wf = true
  r : (Lit.int .i64 a.r).wf = true
theorem pairt_fs : ∃ f0 f1 : Field, Try.prog.underlying 48 = some (.struct #[f0, f1]) ∧ (f0.type = 3 ∧ f0.offset = 0) ∧ (f1.type = 3 ∧ f1.offset = 1) := ⟨_, _, Try.underlying48, ⟨rfl, rfl⟩, rfl, rfl⟩
theorem actt_fs : ∃ f0 f1 f2 : Field, Try.prog.underlying 30 = some (.struct #[f0, f1, f2]) ∧ (f0.type = 5 ∧ f0.offset = 0) ∧ (f1.type = 3 ∧ f1.offset = 1) ∧ (f2.type = 3 ∧ f2.offset = 2) := ⟨_, _, _, Try.underlying30, ⟨rfl, rfl⟩, ⟨rfl, rfl⟩, rfl, rfl⟩
theorem pairt_cells : Try.prog.cellsOf 48 = 2 ∧ Try.prog.cellsOf 3 = 1 := ⟨by kernel_rfl, by kernel_rfl⟩
theorem actt_cells : Try.prog.cellsOf 30 = 3 ∧ Try.prog.cellsOf 5 = 1 := ⟨by kernel_rfl, by kernel_rfl⟩
theorem trod_pairt {H : Type} {enc : TypeId × Value → H} {w : World} {base : Nat} {spare : Nat → Bool} {held : Bool} {fuel : Nat} {cs : List Value} {x : DataW H × List MemPlace} (h : DataW.trod enc Try.prog w base spare held fuel 48 cs = some x) : ∃ a : PairT, cs = a.cells ∧ (Lit.int .i64 a.i).wf = true ∧ (Lit.int .i64 a.r).wf = true := by
  obtain ⟨f0, f1, hs, ⟨y0, o0⟩, y1, o1⟩ := pairt_fs
  obtain ⟨xs, n, _, _, hcl, hxl, hg⟩ := DataW.trod_struct hs h
  rw [pairt_cells.1] at hcl
  match cs, hcl, xs, hxl with
  | [c0, c1], _, [x0, x1], _ =>
    have g0 := hg 0 f0 rfl
    have g1 := hg 1 f1 rfl
    rw [y0, o0, pairt_cells.2] at g0
    rw [y1, o1, pairt_cells.2] at g1
    obtain ⟨z0, e0, _, w0⟩ := DataW.trod_int Try.underlying3 (show DataW.trod enc Try.prog w base spare held n 3 [c0] = some x0 from g0)
    obtain ⟨z1, e1, _, w1⟩ := DataW.trod_int Try.underlying3 (show DataW.trod enc Try.prog w base spare held n 3 [c1] = some x1 from g1)
    injection e0 with e0 _
    injection e1 with e1 _
    refine ⟨⟨z0, z1⟩, ?_, w0, w1⟩
    rw [e0, e1]
    rfl
theorem trod_actt {H : Type} {enc : TypeId × Value → H} {w : World} {base : Nat} {spare : Nat → Bool} {held : Bool} {fuel : Nat} {cs : List Value} {x : DataW H × List MemPlace} (h : DataW.trod enc Try.prog w base spare held fuel 30 cs = some x) : ∃ a : ActT, cs = a.cells ∧ a.Wf := by
  obtain ⟨f0, f1, f2, hs, ⟨y0, o0⟩, ⟨y1, o1⟩, y2, o2⟩ := actt_fs
  obtain ⟨xs, n, _, _, hcl, hxl, hg⟩ := DataW.trod_struct hs h
  rw [actt_cells.1] at hcl
  match cs, hcl, xs, hxl with
  | [c0, c1, c2], _, [x0, x1, x2], _ =>
    have g0 := hg 0 f0 rfl
    have g1 := hg 1 f1 rfl
    have g2 := hg 2 f2 rfl
    rw [y0, o0, actt_cells.2] at g0
    rw [y1, o1, pairt_cells.2] at g1
    rw [y2, o2, pairt_cells.2] at g2
    obtain ⟨z0, e0, _, w0⟩ := DataW.trod_int Try.underlying5 (show DataW.trod enc Try.prog w base spare held n 5 [c0] = some x0 from g0)
    obtain ⟨z1, e1, _, w1⟩ := DataW.trod_int Try.underlying3 (show DataW.trod enc Try.prog w base spare held n 3 [c1] = some x1 from g1)
    obtain ⟨z2, e2, _, w2⟩ := DataW.trod_int Try.underlying3 (show DataW.trod enc Try.prog w base spare held n 3 [c2] = some x2 from g2)
    have b0 := bounds_u8 w0
    obtain ⟨k0, rfl⟩ := Int.eq_ofNat_of_zero_le (show 0 ≤ z0 by omega)
    injection e0 with e0 _
    injection e1 with e1 _
    injection e2 with e2 _
    refine ⟨⟨k0, z1, z2⟩, ?_, ⟨by dsimp only; omega, w1, w2⟩⟩
    rw [e0, e1, e2]
    rfl
/-- Lists of pairs and of acts that came in, opened (the names are the frame's: open_t and the type's number). -/
theorem open_t41 {H : Type} {enc : TypeId × Value → H} {w : World} {base : Nat} {held : Bool} {r : Reach} {b0 : Nat} {v : Value} {d : DataW H} {p : List MemPlace}
    (hv : Value.okWide Try.prog w r b0 41 v) (h : DataW.Trod enc Try.prog w base (fun _ => true) held 41 v d p) : ∃ (A : Option Addr) (n c : Nat) (l : List PairT), v = .slice A n c ∧ Ls PairT.cells 2 w w.heap.size A n c l ∧ ∀ a ∈ l, (Lit.int .i64 a.i).wf = true ∧ (Lit.int .i64 a.r).wf = true :=
  open_list (cells := PairT.cells) (N := 2) (Ok := fun a => (Lit.int .i64 a.i).wf = true ∧ (Lit.int .i64 a.r).wf = true) (fun _ => rfl) (by omega) Try.underlying41 (by kernel_rfl) (fun h => trod_pairt h) hv h
theorem open_t22 {H : Type} {enc : TypeId × Value → H} {w : World} {base : Nat} {held : Bool} {r : Reach} {b0 : Nat} {v : Value} {d : DataW H} {p : List MemPlace}
    (hv : Value.okWide Try.prog w r b0 22 v) (h : DataW.Trod enc Try.prog w base (fun _ => true) held 22 v d p) : ∃ (A : Option Addr) (n c : Nat) (l : List ActT), v = .slice A n c ∧ Ls ActT.cells 3 w w.heap.size A n c l ∧ ∀ a ∈ l, a.Wf :=
  open_list (cells := ActT.cells) (N := 3) (Ok := fun a => a.Wf) (fun _ => rfl) (by omega) Try.underlying22 (by kernel_rfl) (fun h => trod_actt h) hv h
end Go.Proofs.Ytmnldkfkcfnkdaa
