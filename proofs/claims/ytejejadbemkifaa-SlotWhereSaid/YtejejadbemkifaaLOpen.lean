/-
  Records, and two copies of frames, that came in by value, opened. Whatever the program's types are.
-/
import Derived.Test.YtejejadbemkifaaLSpec
import Derived.Test.YtejejadbemkifaaEOpen
namespace Go.Proofs.Ytejejadbemkifaa
set_option maxRecDepth 100000
open Go Go.RowKit Go.ChangeShapes Go.WideShapes Go.Deep

structure Rec.Wf (p : Rec) : Prop where
  st : p.st < 256
  ix : (Lit.int .i64 p.ix).wf = true
  bx : (Lit.int .i64 p.bx).wf = true
  yb : (Lit.int .i64 p.yb).wf = true
  wh : (Lit.int .i64 p.wh).wf = true
structure Cop.Wf (c : Cop) : Prop where
  st : c.st < 256
  ix : (Lit.int .i64 c.ix).wf = true
  bx : (Lit.int .i64 c.bx).wf = true
  yb : (Lit.int .i64 c.yb).wf = true
  e : c.e.Wf
def Cop.cells (c : Cop) : List Value := [.int .u8 (c.st : Nat), .int .i64 c.ix, .int .i64 c.bx, .int .i64 c.yb, .int .u8 (c.e.k : Nat), .int .i64 c.e.cl, .int .i64 c.e.sq, .int .u8 (c.e.ok : Nat), .string c.e.key, .string c.e.old, .string c.e.val]
section
variable {H : Type} {enc : TypeId × Value → H} {P : Program} {w : World} {base : Nat} {spare : Nat → Bool} {held : Bool}
/-- A record's type. -/
structure RecTy (P : Program) (e t8 ti tb : TypeId) : Prop where
  fs : ∃ f0 f1 f2 f3 : Field, P.underlying e = some (.struct #[f0, f1, f2, f3]) ∧ (f0.type = t8 ∧ f0.offset = 0) ∧ (f1.type = ti ∧ f1.offset = 1) ∧ (f2.type = tb ∧ f2.offset = 2) ∧ (f3.type = ti ∧ f3.offset = 4)
  cells : P.cellsOf e = 5
  bal : BalTy P tb ti
  u8 : P.underlying t8 = some (.int .u8)
  one : P.cellsOf t8 = 1
theorem trod_rec {e t8 ti tb : TypeId} (T : RecTy P e t8 ti tb) {fuel : Nat} {cs : List Value} {x : DataW H × List MemPlace} (h : DataW.trod enc P w base spare held fuel e cs = some x) :
    ∃ p : Rec, cs = [.int .u8 (p.st : Nat), .int .i64 p.ix, .int .i64 p.bx, .int .i64 p.yb, .int .i64 p.wh] ∧ p.Wf := by
  obtain ⟨f0, f1, f2, f3, hs, ⟨y0, o0⟩, ⟨y1, o1⟩, ⟨y2, o2⟩, y3, o3⟩ := T.fs
  obtain ⟨xs, n, _, _, hcl, hxl, hg⟩ := DataW.trod_struct hs h
  rw [T.cells] at hcl
  match cs, hcl, xs, hxl with
  | [c0, c1, c2, c3, c4], _, [x0, x1, x2, x3], _ =>
    have g0 := hg 0 f0 rfl
    have g1 := hg 1 f1 rfl
    have g2 := hg 2 f2 rfl
    have g3 := hg 3 f3 rfl
    rw [y0, o0, T.one] at g0
    rw [y1, o1, T.bal.one] at g1
    rw [y2, o2, T.bal.cells] at g2
    rw [y3, o3, T.bal.one] at g3
    obtain ⟨z, e0, _, w0⟩ := DataW.trod_int T.u8 (show DataW.trod enc P w base spare held n t8 [c0] = some x0 from g0)
    obtain ⟨ix, e1, _, w1⟩ := DataW.trod_int T.bal.i64 (show DataW.trod enc P w base spare held n ti [c1] = some x1 from g1)
    obtain ⟨bx, yb, e2, w2, w2'⟩ := trod_bal T.bal (show DataW.trod enc P w base spare held n tb [c2, c3] = some x2 from g2)
    obtain ⟨wh, e3, _, w3⟩ := DataW.trod_int T.bal.i64 (show DataW.trod enc P w base spare held n ti [c4] = some x3 from g3)
    have hz := bounds_u8 w0
    obtain ⟨st, rfl⟩ := Int.eq_ofNat_of_zero_le (show 0 ≤ z by omega)
    injection e0 with e0 _
    injection e1 with e1 _
    injection e2 with e2 e2'
    injection e2' with e2' _
    injection e3 with e3 _
    exact ⟨⟨st, ix, bx, yb, wh⟩, by rw [e0, e1, e2, e2', e3], ⟨by dsimp only; omega, w1, w2, w2', w3⟩⟩
theorem open_rec {e t8 ti tb : TypeId} (T : RecTy P e t8 ti tb) {r : Reach} {b0 : Nat} {v : Value} {d : DataW H} {p : List MemPlace} (hv : Value.okWide P w r b0 e v) (h : DataW.Trod enc P w base spare held e v d p) :
    ∃ p : Rec, v = .agg #[.int .u8 (p.st : Nat), .int .i64 p.ix, .int .i64 p.bx, .int .i64 p.yb, .int .i64 p.wh] ∧ p.Wf := by
  obtain ⟨f0, f1, f2, f3, hs, _⟩ := T.fs
  obtain ⟨cs, rfl, _⟩ := okWide_struct hs hv
  obtain ⟨fuel, hf⟩ := h
  obtain ⟨a, hcs, hw⟩ := trod_rec T hf
  refine ⟨a, ?_, hw⟩
  have e : (Value.cells (.agg cs)).toList = cs.toList := rfl
  rw [e] at hcs
  obtain ⟨cs⟩ := cs
  simp at hcs
  rw [hcs]
/-- A frame's copy. -/
structure CopTy (P : Program) (e t8 ti tb te to ts : TypeId) : Prop where
  fs : ∃ f0 f1 f2 f3 : Field, P.underlying e = some (.struct #[f0, f1, f2, f3]) ∧ (f0.type = t8 ∧ f0.offset = 0) ∧ (f1.type = ti ∧ f1.offset = 1) ∧ (f2.type = tb ∧ f2.offset = 2) ∧ (f3.type = te ∧ f3.offset = 4)
  cells : P.cellsOf e = 11
  bal : BalTy P tb ti
  ent : EntTy P te t8 ti to ts
theorem trod_cop {e t8 ti tb te to ts : TypeId} (T : CopTy P e t8 ti tb te to ts) {fuel : Nat} {cs : List Value} {x : DataW H × List MemPlace} (h : DataW.trod enc P w base spare held fuel e cs = some x) : ∃ c : Cop, cs = c.cells ∧ c.Wf := by
  obtain ⟨f0, f1, f2, f3, hs, ⟨y0, o0⟩, ⟨y1, o1⟩, ⟨y2, o2⟩, y3, o3⟩ := T.fs
  obtain ⟨xs, n, _, _, hcl, hxl, hg⟩ := DataW.trod_struct hs h
  rw [T.cells] at hcl
  match cs, hcl, xs, hxl with
  | [c0, c1, c2, c3, c4, c5, c6, c7, c8, c9, c10], _, [x0, x1, x2, x3], _ =>
    have g0 := hg 0 f0 rfl
    have g1 := hg 1 f1 rfl
    have g2 := hg 2 f2 rfl
    have g3 := hg 3 f3 rfl
    rw [y0, o0, T.ent.op.one.1] at g0
    rw [y1, o1, T.bal.one] at g1
    rw [y2, o2, T.bal.cells] at g2
    rw [y3, o3, T.ent.cells] at g3
    obtain ⟨z, e0, _, w0⟩ := DataW.trod_int T.ent.op.u8 (show DataW.trod enc P w base spare held n t8 [c0] = some x0 from g0)
    obtain ⟨ix, e1, _, w1⟩ := DataW.trod_int T.bal.i64 (show DataW.trod enc P w base spare held n ti [c1] = some x1 from g1)
    obtain ⟨bx, yb, e2, w2, w2'⟩ := trod_bal T.bal (show DataW.trod enc P w base spare held n tb [c2, c3] = some x2 from g2)
    obtain ⟨en, e3, w3⟩ := trod_ent T.ent (show DataW.trod enc P w base spare held n te [c4, c5, c6, c7, c8, c9, c10] = some x3 from g3)
    have hz := bounds_u8 w0
    obtain ⟨st, rfl⟩ := Int.eq_ofNat_of_zero_le (show 0 ≤ z by omega)
    injection e0 with e0 _
    injection e1 with e1 _
    injection e2 with e2 e2'
    injection e2' with e2' _
    refine ⟨⟨st, ix, bx, yb, en⟩, ?_, ⟨by dsimp only; omega, w1, w2, w2', w3⟩⟩
    rw [e0, e1, e2, e2', e3]
    rfl
/-- Two copies by value. -/
theorem open_cop2 {t e t8 ti tb te to ts : TypeId} (T : CopTy P e t8 ti tb te to ts) (ht : P.underlying t = some (.array 2 e)) (hC : P.cellsOf t = 22) {r : Reach} {b0 : Nat} {v : Value} {d : DataW H} {p : List MemPlace}
    (hv : Value.okWide P w r b0 t v) (h : DataW.Trod enc P w base spare held t v d p) : ∃ c0 c1 : Cop, v = .agg (c0.cells ++ c1.cells).toArray ∧ c0.Wf ∧ c1.Wf := by
  simp only [Value.okWide, ht] at hv
  obtain ⟨cs, rfl, hsz, _⟩ := hv
  obtain ⟨fuel, hf⟩ := h
  have hcv : (Value.cells (.agg cs)).toList = cs.toList := rfl
  rw [hcv] at hf
  obtain ⟨xs, m, _, _, hl, hxl, hg⟩ := DataW.trod_array ht hf
  rw [hC] at hl
  match xs, hxl with
  | [x0, x1], _ =>
    have g0 := hg 0 (by omega)
    have g1 := hg 1 (by omega)
    rw [T.cells] at g0 g1
    obtain ⟨c0, e0, w0⟩ := trod_cop T (show DataW.trod enc P w base spare held m e ((cs.toList.drop (0 * 11)).take 11) = some x0 from g0)
    obtain ⟨c1, e1, w1⟩ := trod_cop T (show DataW.trod enc P w base spare held m e ((cs.toList.drop (1 * 11)).take 11) = some x1 from g1)
    refine ⟨c0, c1, ?_, w0, w1⟩
    have hd : (cs.toList.drop (1 * 11)).take 11 = cs.toList.drop 11 := List.take_of_length_le (by rw [List.length_drop, hl]; omega)
    rw [hd] at e1
    simp only [Nat.zero_mul, List.drop_zero] at e0
    have hh : cs.toList = c0.cells ++ c1.cells := by rw [← e0, ← e1, List.take_append_drop]
    rw [← hh]
end
end Go.Proofs.Ytejejadbemkifaa
