/-
  Entries that came in, opened: what their cells hold; lists of entries. Whatever the program's types are.
-/
import Derived.Test.YtejejadbemkifaaESpec
import Derived.Test.YtejejadbemkifaaULists
import Derived.ChangeMaps5
namespace Go.Proofs.Ytejejadbemkifaa
set_option maxRecDepth 100000
open Go Go.RowKit Go.ChangeShapes Go.WideShapes Go.Deep

/-- An entry's cells. -/
def Ent.cells (e : Ent) : List Value := [.int .u8 (e.k : Nat), .int .i64 e.cl, .int .i64 e.sq, .int .u8 (e.ok : Nat), .string e.key, .string e.old, .string e.val]
/-- What an entry's cells are within. -/
structure Ent.Wf (e : Ent) : Prop where
  k : e.k < 256
  ok : e.ok < 256
  cl : (Lit.int .i64 e.cl).wf = true
  sq : (Lit.int .i64 e.sq).wf = true
  key : e.key.size ≤ maxLen
  old : e.old.size ≤ maxLen
  val : e.val.size ≤ maxLen
section
variable {H : Type} {enc : TypeId × Value → H} {P : Program} {w : World} {base : Nat} {spare : Nat → Bool} {held : Bool}
/-- An operation. -/
structure OpTy (P : Program) (e t8 ts : TypeId) : Prop where
  fs : ∃ f0 f1 f2 f3 : Field, P.underlying e = some (.struct #[f0, f1, f2, f3]) ∧ (f0.type = t8 ∧ f0.offset = 0) ∧ (f1.type = ts ∧ f1.offset = 1) ∧ (f2.type = ts ∧ f2.offset = 2) ∧ (f3.type = ts ∧ f3.offset = 3)
  cells : P.cellsOf e = 4
  u8 : P.underlying t8 = some (.int .u8)
  str : P.underlying ts = some .string
  one : P.cellsOf t8 = 1 ∧ P.cellsOf ts = 1
theorem trod_opE {e t8 ts : TypeId} (T : OpTy P e t8 ts) {fuel : Nat} {cs : List Value} {x : DataW H × List MemPlace} (h : DataW.trod enc P w base spare held fuel e cs = some x) :
    ∃ (k : Nat) (a b c : ByteArray), cs = [.int .u8 (k : Nat), .string a, .string b, .string c] ∧ k < 256 ∧ a.size ≤ maxLen ∧ b.size ≤ maxLen ∧ c.size ≤ maxLen := by
  obtain ⟨f0, f1, f2, f3, hs, ⟨y0, o0⟩, ⟨y1, o1⟩, ⟨y2, o2⟩, y3, o3⟩ := T.fs
  obtain ⟨xs, n, _, _, hcl, hxl, hg⟩ := DataW.trod_struct hs h
  rw [T.cells] at hcl
  match cs, hcl, xs, hxl with
  | [c0, c1, c2, c3], _, [x0, x1, x2, x3], _ =>
    have g0 := hg 0 f0 rfl
    have g1 := hg 1 f1 rfl
    have g2 := hg 2 f2 rfl
    have g3 := hg 3 f3 rfl
    rw [y0, o0, T.one.1] at g0
    rw [y1, o1, T.one.2] at g1
    rw [y2, o2, T.one.2] at g2
    rw [y3, o3, T.one.2] at g3
    obtain ⟨z, e0, _, w0⟩ := DataW.trod_int T.u8 (show DataW.trod enc P w base spare held n t8 [c0] = some x0 from g0)
    obtain ⟨a, e1, _, w1⟩ := DataW.trod_string T.str (show DataW.trod enc P w base spare held n ts [c1] = some x1 from g1)
    obtain ⟨b, e2, _, w2⟩ := DataW.trod_string T.str (show DataW.trod enc P w base spare held n ts [c2] = some x2 from g2)
    obtain ⟨c, e3, _, w3⟩ := DataW.trod_string T.str (show DataW.trod enc P w base spare held n ts [c3] = some x3 from g3)
    have hz := bounds_u8 w0
    obtain ⟨k, rfl⟩ := Int.eq_ofNat_of_zero_le (show 0 ≤ z by omega)
    injection e0 with e0 _
    injection e1 with e1 _
    injection e2 with e2 _
    injection e3 with e3 _
    exact ⟨k, a, b, c, by rw [e0, e1, e2, e3], by omega, w1, w2, w3⟩
/-- An entry. -/
structure EntTy (P : Program) (e t8 ti to ts : TypeId) : Prop where
  fs : ∃ f0 f1 f2 f3 : Field, P.underlying e = some (.struct #[f0, f1, f2, f3]) ∧ (f0.type = t8 ∧ f0.offset = 0) ∧ (f1.type = ti ∧ f1.offset = 1) ∧ (f2.type = ti ∧ f2.offset = 2) ∧ (f3.type = to ∧ f3.offset = 3)
  cells : P.cellsOf e = 7
  op : OpTy P to t8 ts
  i64 : P.underlying ti = some (.int .i64)
  one : P.cellsOf ti = 1
theorem trod_ent {e t8 ti to ts : TypeId} (T : EntTy P e t8 ti to ts) {fuel : Nat} {cs : List Value} {x : DataW H × List MemPlace} (h : DataW.trod enc P w base spare held fuel e cs = some x) :
    ∃ e : Ent, cs = e.cells ∧ e.Wf := by
  obtain ⟨f0, f1, f2, f3, hs, ⟨y0, o0⟩, ⟨y1, o1⟩, ⟨y2, o2⟩, y3, o3⟩ := T.fs
  obtain ⟨xs, n, _, _, hcl, hxl, hg⟩ := DataW.trod_struct hs h
  rw [T.cells] at hcl
  match cs, hcl, xs, hxl with
  | [c0, c1, c2, c3, c4, c5, c6], _, [x0, x1, x2, x3], _ =>
    have g0 := hg 0 f0 rfl
    have g1 := hg 1 f1 rfl
    have g2 := hg 2 f2 rfl
    have g3 := hg 3 f3 rfl
    rw [y0, o0, T.op.one.1] at g0
    rw [y1, o1, T.one] at g1
    rw [y2, o2, T.one] at g2
    rw [y3, o3, T.op.cells] at g3
    obtain ⟨z, e0, _, w0⟩ := DataW.trod_int T.op.u8 (show DataW.trod enc P w base spare held n t8 [c0] = some x0 from g0)
    obtain ⟨cl, e1, _, w1⟩ := DataW.trod_int T.i64 (show DataW.trod enc P w base spare held n ti [c1] = some x1 from g1)
    obtain ⟨sq, e2, _, w2⟩ := DataW.trod_int T.i64 (show DataW.trod enc P w base spare held n ti [c2] = some x2 from g2)
    obtain ⟨ok, a, b, c, e3, k3, ka, kb, kc⟩ := trod_opE T.op (show DataW.trod enc P w base spare held n to [c3, c4, c5, c6] = some x3 from g3)
    have hz := bounds_u8 w0
    obtain ⟨k, rfl⟩ := Int.eq_ofNat_of_zero_le (show 0 ≤ z by omega)
    injection e0 with e0 _
    injection e1 with e1 _
    injection e2 with e2 _
    refine ⟨⟨k, cl, sq, ok, a, b, c⟩, ?_, ⟨by dsimp only; omega, k3, w1, w2, ka, kb, kc⟩⟩
    rw [e0, e1, e2, e3]
    rfl
theorem open_ent {e t8 ti to ts : TypeId} (T : EntTy P e t8 ti to ts) {r : Reach} {b0 : Nat} {v : Value} {d : DataW H} {p : List MemPlace} (hv : Value.okWide P w r b0 e v) (h : DataW.Trod enc P w base spare held e v d p) :
    ∃ e : Ent, v = .agg #[.int .u8 (e.k : Nat), .int .i64 e.cl, .int .i64 e.sq, .int .u8 (e.ok : Nat), .string e.key, .string e.old, .string e.val] ∧ e.Wf := by
  obtain ⟨f0, f1, f2, f3, hs, _⟩ := T.fs
  obtain ⟨cs, rfl, _⟩ := okWide_struct hs hv
  obtain ⟨fuel, hf⟩ := h
  obtain ⟨a, hcs, hw⟩ := trod_ent T hf
  refine ⟨a, ?_, hw⟩
  have e : (Value.cells (.agg cs)).toList = cs.toList := rfl
  rw [e] at hcs
  obtain ⟨cs⟩ := cs
  simp at hcs
  rw [hcs]
  rfl
theorem open_balE {e ti : TypeId} (T : BalTy P e ti) {r : Reach} {b0 : Nat} {v : Value} {d : DataW H} {p : List MemPlace} (hv : Value.okWide P w r b0 e v) (h : DataW.Trod enc P w base spare held e v d p) : ∃ a b : Int, v = .agg #[.int .i64 a, .int .i64 b] := by
  obtain ⟨f0, f1, hs, _⟩ := T.fs
  obtain ⟨cs, rfl, _⟩ := okWide_struct hs hv
  obtain ⟨fuel, hf⟩ := h
  obtain ⟨a, b, hcs, _⟩ := trod_bal T hf
  refine ⟨a, b, ?_⟩
  have e : (Value.cells (.agg cs)).toList = cs.toList := rfl
  rw [e] at hcs
  obtain ⟨cs⟩ := cs
  simp at hcs
  rw [hcs]
end
end Go.Proofs.Ytejejadbemkifaa
