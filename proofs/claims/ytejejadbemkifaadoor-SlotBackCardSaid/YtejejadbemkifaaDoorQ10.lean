/-
  Entries that came in, opened: what their cells hold; lists of entries. Whatever the program's types are.
  Entries, ballots and lists of entries that came in, opened, by the program's own types.
  The door of the statements on records' bodies: what the row's listing of the two tables gives the walks, that the program's own start meets it, and ballots and bytes that came in, opened.
  The contracts of slot's compare, and of the closures that rules and looks for bad or later frames are made of.
-/
import Derived.Test.YtejejadbemkifaaDoorQ03
import Derived.Test.YtejejadbemkifaaDoorQ05
import Derived.Test.YtejejadbemkifaaDoorQ08
import Derived.Test.YtejejadbemkifaaDoorQ09
import Derived.ChangeMaps5
import Derived.Test.YtejejadbemkifaaDoorProg
import Derived.Test.YtejejadbemkifaaDoorRows
import Derived.ProofKit
import Derived.LaidMore
import Derived.Lib.LaidTab
import Derived.Stop.Joined
import Derived.Stop.LaidErr
import Derived.Lib.Hide
namespace Go.Proofs.YtejejadbemkifaaDoor
open Go Go.RowKit Go.ChangeShapes Go.WideShapes Go.Deep

/-- An entry's cells. -/
def Ent.cells (e : Ent) : List Value := [.int .u8 (e.k : Nat), .int .i64 e.cl, .int .i64 e.sq, .int .u8 (e.ok : Nat), .string e.key, .string e.old, .string e.val]
/-- What an entry's cells are within. -/
structure Ent.Wf (e : Ent) : Prop where
  k : e.k < 256
  ok : e.ok < 256
  cl : (Lit.int .i64 e.cl).wf = true
  sq : (Lit.int .i64 e.sq).wf = true
  key : e.key.size ≤ maxLen
  old : e.old.size ≤ maxLen
  val : e.val.size ≤ maxLen
section
variable {H : Type} {enc : TypeId × Value → H} {P : Program} {w : World} {base : Nat} {spare : Nat → Bool} {held : Bool}
/-- An operation. -/
structure OpTy (P : Program) (e t8 ts : TypeId) : Prop where
  fs : ∃ f0 f1 f2 f3 : Field, P.underlying e = some (.struct #[f0, f1, f2, f3]) ∧ (f0.type = t8 ∧ f0.offset = 0) ∧ (f1.type = ts ∧ f1.offset = 1) ∧ (f2.type = ts ∧ f2.offset = 2) ∧ (f3.type = ts ∧ f3.offset = 3)
  cells : P.cellsOf e = 4
  u8 : P.underlying t8 = some (.int .u8)
  str : P.underlying ts = some .string
  one : P.cellsOf t8 = 1 ∧ P.cellsOf ts = 1
theorem trod_opE {e t8 ts : TypeId} (T : OpTy P e t8 ts) {fuel : Nat} {cs : List Value} {x : DataW H × List MemPlace} (h : DataW.trod enc P w base spare held fuel e cs = some x) :
    ∃ (k : Nat) (a b c : ByteArray), cs = [.int .u8 (k : Nat), .string a, .string b, .string c] ∧ k < 256 ∧ a.size ≤ maxLen ∧ b.size ≤ maxLen ∧ c.size ≤ maxLen := by
  obtain ⟨f0, f1, f2, f3, hs, ⟨y0, o0⟩, ⟨y1, o1⟩, ⟨y2, o2⟩, y3, o3⟩ := T.fs
  obtain ⟨xs, n, _, _, hcl, hxl, hg⟩ := DataW.trod_struct hs h
  rw [T.cells] at hcl
  match cs, hcl, xs, hxl with
  | [c0, c1, c2, c3], _, [x0, x1, x2, x3], _ =>
    have g0 := hg 0 f0 rfl
    have g1 := hg 1 f1 rfl
    have g2 := hg 2 f2 rfl
    have g3 := hg 3 f3 rfl
    rw [y0, o0, T.one.1] at g0
    rw [y1, o1, T.one.2] at g1
    rw [y2, o2, T.one.2] at g2
    rw [y3, o3, T.one.2] at g3
    obtain ⟨z, e0, _, w0⟩ := DataW.trod_int T.u8 (show DataW.trod enc P w base spare held n t8 [c0] = some x0 from g0)
    obtain ⟨a, e1, _, w1⟩ := DataW.trod_string T.str (show DataW.trod enc P w base spare held n ts [c1] = some x1 from g1)
    obtain ⟨b, e2, _, w2⟩ := DataW.trod_string T.str (show DataW.trod enc P w base spare held n ts [c2] = some x2 from g2)
    obtain ⟨c, e3, _, w3⟩ := DataW.trod_string T.str (show DataW.trod enc P w base spare held n ts [c3] = some x3 from g3)
    have hz := bounds_u8 w0
    obtain ⟨k, rfl⟩ := Int.eq_ofNat_of_zero_le (show 0 ≤ z by omega)
    injection e0 with e0 _
    injection e1 with e1 _
    injection e2 with e2 _
    injection e3 with e3 _
    exact ⟨k, a, b, c, by rw [e0, e1, e2, e3], by omega, w1, w2, w3⟩
/-- An entry. -/
structure EntTy (P : Program) (e t8 ti tO ts : TypeId) : Prop where
  fs : ∃ f0 f1 f2 f3 : Field, P.underlying e = some (.struct #[f0, f1, f2, f3]) ∧ (f0.type = t8 ∧ f0.offset = 0) ∧ (f1.type = ti ∧ f1.offset = 1) ∧ (f2.type = ti ∧ f2.offset = 2) ∧ (f3.type = tO ∧ f3.offset = 3)
  cells : P.cellsOf e = 7
  op : OpTy P tO t8 ts
  i64 : P.underlying ti = some (.int .i64)
  one : P.cellsOf ti = 1
theorem trod_ent {e t8 ti tO ts : TypeId} (T : EntTy P e t8 ti tO ts) {fuel : Nat} {cs : List Value} {x : DataW H × List MemPlace} (h : DataW.trod enc P w base spare held fuel e cs = some x) :
    ∃ e : Ent, cs = e.cells ∧ e.Wf := by
  obtain ⟨f0, f1, f2, f3, hs, ⟨y0, o0⟩, ⟨y1, o1⟩, ⟨y2, o2⟩, y3, o3⟩ := T.fs
  obtain ⟨xs, n, _, _, hcl, hxl, hg⟩ := DataW.trod_struct hs h
  rw [T.cells] at hcl
  match cs, hcl, xs, hxl with
  | [c0, c1, c2, c3, c4, c5, c6], _, [x0, x1, x2, x3], _ =>
    have g0 := hg 0 f0 rfl
    have g1 := hg 1 f1 rfl
    have g2 := hg 2 f2 rfl
    have g3 := hg 3 f3 rfl
    rw [y0, o0, T.op.one.1] at g0
    rw [y1, o1, T.one] at g1
    rw [y2, o2, T.one] at g2
    rw [y3, o3, T.op.cells] at g3
    obtain ⟨z, e0, _, w0⟩ := DataW.trod_int T.op.u8 (show DataW.trod enc P w base spare held n t8 [c0] = some x0 from g0)
    obtain ⟨cl, e1, _, w1⟩ := DataW.trod_int T.i64 (show DataW.trod enc P w base spare held n ti [c1] = some x1 from g1)
    obtain ⟨sq, e2, _, w2⟩ := DataW.trod_int T.i64 (show DataW.trod enc P w base spare held n ti [c2] = some x2 from g2)
    obtain ⟨ok, a, b, c, e3, k3, ka, kb, kc⟩ := trod_opE T.op (show DataW.trod enc P w base spare held n tO [c3, c4, c5, c6] = some x3 from g3)
    have hz := bounds_u8 w0
    obtain ⟨k, rfl⟩ := Int.eq_ofNat_of_zero_le (show 0 ≤ z by omega)
    injection e0 with e0 _
    injection e1 with e1 _
    injection e2 with e2 _
    refine ⟨⟨k, cl, sq, ok, a, b, c⟩, ?_, ⟨by dsimp only; omega, k3, w1, w2, ka, kb, kc⟩⟩
    rw [e0, e1, e2, e3]
    rfl
theorem open_ent {e t8 ti tO ts : TypeId} (T : EntTy P e t8 ti tO ts) {r : Reach} {b0 : Nat} {v : Value} {d : DataW H} {p : List MemPlace} (hv : Value.okWide P w r b0 e v) (h : DataW.Trod enc P w base spare held e v d p) :
    ∃ e : Ent, v = .agg #[.int .u8 (e.k : Nat), .int .i64 e.cl, .int .i64 e.sq, .int .u8 (e.ok : Nat), .string e.key, .string e.old, .string e.val] ∧ e.Wf := by
  obtain ⟨f0, f1, f2, f3, hs, _⟩ := T.fs
  obtain ⟨cs, rfl, _⟩ := okWide_struct hs hv
  obtain ⟨fuel, hf⟩ := h
  obtain ⟨a, hcs, hw⟩ := trod_ent T hf
  refine ⟨a, ?_, hw⟩
  have e : (Value.cells (.agg cs)).toList = cs.toList := rfl
  rw [e] at hcs
  obtain ⟨cs⟩ := cs
  simp at hcs
  rw [hcs]
  rfl
theorem open_balE {e ti : TypeId} (T : BalTy P e ti) {r : Reach} {b0 : Nat} {v : Value} {d : DataW H} {p : List MemPlace} (hv : Value.okWide P w r b0 e v) (h : DataW.Trod enc P w base spare held e v d p) : ∃ a b : Int, v = .agg #[.int .i64 a, .int .i64 b] := by
  obtain ⟨f0, f1, hs, _⟩ := T.fs
  obtain ⟨cs, rfl, _⟩ := okWide_struct hs hv
  obtain ⟨fuel, hf⟩ := h
  obtain ⟨a, b, hcs, _⟩ := trod_bal T hf
  refine ⟨a, b, ?_⟩
  have e : (Value.cells (.agg cs)).toList = cs.toList := rfl
  rw [e] at hcs
  obtain ⟨cs⟩ := cs
  simp at hcs
  rw [hcs]
end
end Go.Proofs.YtejejadbemkifaaDoor

namespace Go.Proofs.YtejejadbemkifaaDoor
set_option maxRecDepth 100000
set_option maxRecDepth 100000
open Go Go.RowKit Go.ChangeShapes Go.WideShapes Go.Deep

theorem balE_ty : BalTy Tryd.prog 23 3 := ⟨⟨_, _, Tryd.underlying23, ⟨rfl, rfl⟩, rfl, rfl⟩, by kernel_rfl, by kernel_rfl, Tryd.underlying3⟩
theorem op_ty : OpTy Tryd.prog 49 5 9 := ⟨⟨_, _, _, _, Tryd.underlying49, ⟨rfl, rfl⟩, ⟨rfl, rfl⟩, ⟨rfl, rfl⟩, rfl, rfl⟩, by kernel_rfl, Tryd.underlying5, Tryd.underlying9, by kernel_rfl, by kernel_rfl⟩
theorem ent_ty : EntTy Tryd.prog 51 5 3 49 9 := ⟨⟨_, _, _, _, Tryd.underlying51, ⟨rfl, rfl⟩, ⟨rfl, rfl⟩, ⟨rfl, rfl⟩, rfl, rfl⟩, by kernel_rfl, op_ty, Tryd.underlying3, by kernel_rfl⟩
/-- An entry that came in, opened (the name is the frame's: open_t and the type's number). -/
theorem open_t51 {H : Type} {enc : TypeId × Value → H} {w : World} {base : Nat} {sp : Nat → Bool} {held : Bool} {r : Reach} {b0 : Nat} {v : Value} {d : DataW H} {p : List MemPlace}
    (hv : Value.okWide Tryd.prog w r b0 51 v) (h : DataW.Trod enc Tryd.prog w base sp held 51 v d p) :
    ∃ e : Ent, v = .agg #[.int .u8 (e.k : Nat), .int .i64 e.cl, .int .i64 e.sq, .int .u8 (e.ok : Nat), .string e.key, .string e.old, .string e.val] ∧ e.Wf := open_ent ent_ty hv h
theorem open_t23 {H : Type} {enc : TypeId × Value → H} {w : World} {base : Nat} {sp : Nat → Bool} {held : Bool} {r : Reach} {b0 : Nat} {v : Value} {d : DataW H} {p : List MemPlace}
    (hv : Value.okWide Tryd.prog w r b0 23 v) (h : DataW.Trod enc Tryd.prog w base sp held 23 v d p) : ∃ a b : Int, v = .agg #[.int .i64 a, .int .i64 b] := open_balE balE_ty hv h
end Go.Proofs.YtejejadbemkifaaDoor

namespace Go.Proofs.YtejejadbemkifaaDoor
set_option maxRecDepth 100000
open Go Go.ChangeShapes Go.WideShapes Go.ChangeAt Go.WideMaps Go.WideElems Go.RowKit

def laidList : List (String × DataW Unit) := [("sexton/octet.bounds", Rows.laid_sexton_octet_bounds), ("sexton/slot.widths", Rows.laid_sexton_slot_widths)]

theorem door_met (os : Os) (args : Array Value) : laidMetH Tryd.prog laidList ((World.doorLaid Tryd.prog 400 os).forCall (fun _ _ => 0) ⟨#[], args, []⟩).memory :=
  laidMetH_of_parts3 (fuel := 8) (laidMet_of_run' 8 (by kernel_rfl) (by kernel_rfl)) (by kernel_rfl) (by kernel_rfl)

theorem laid_o {W : World} {rest : List (String × DataW Unit)} (h : laidMet Tryd.prog (("sexton/octet.bounds", Rows.laid_sexton_octet_bounds) :: rest) W) : Laid W := by
  have hg : Tryd.prog.globalNamed "sexton/octet.bounds" = some 1 := by kernel_rfl
  have ht : (Tryd.prog.globals[1]?).map (·.type) = some 71 := by kernel_rfl
  have hv : W.var? Tryd.prog "sexton/octet.bounds" = some (([0, 256, 65536, 0, 4294967296, 0, 281474976710656] : List Int).map fun z => Value.int .i64 z).toArray :=
    Lib.tabIs_of_head hg ht Tryd.underlying71 Tryd.underlying3 (by kernel_rfl) (by kernel_rfl) h
  have hc := fun i => World.var?_cell hg hv i
  exact ⟨hc 0, hc 1, hc 2, hc 3, hc 4, hc 5, hc 6⟩
theorem laid_of {W : World} (h : laidMetH Tryd.prog laidList W) : LaidS W := by
  rw [MakeChecks.laidMetH_plain _ _ _ (by kernel_rfl)] at h
  have hg : Tryd.prog.globalNamed "sexton/slot.widths" = some 0 := by kernel_rfl
  have ht : (Tryd.prog.globals[0]?).map (·.type) = some 39 := by kernel_rfl
  have hv : W.var? Tryd.prog "sexton/slot.widths" = some (([6, 1, 1] : List Int).map fun z => Value.int .i64 z).toArray :=
    Lib.tabIs_of_head hg ht Tryd.underlying39 Tryd.underlying3 (by kernel_rfl) (by kernel_rfl) h.tail
  have hc := fun i => World.var?_cell hg hv i
  exact ⟨laid_o h, ⟨hc 0, hc 1, hc 2⟩⟩
end Go.Proofs.YtejejadbemkifaaDoor

namespace Go.Proofs.YtejejadbemkifaaDoor
set_option maxRecDepth 100000
open Go Go.RowKit

theorem bal_cells {w : World} {g : Nat} {x y : Int} {t : TypeId} (h : w.heap[g]? = some (.cells #[.int .i64 x, .int .i64 y] t (0, 0))) : w.cell? ⟨g, 0, none⟩ = some (.int .i64 x) ∧ w.cell? ⟨g, 1, none⟩ = some (.int .i64 y) := ⟨cell_of_row w g 0 _ _ _ h, cell_of_row w g 1 _ _ _ h⟩
theorem keep_row {u w' : World} {g : Nat} {ob : Obj} (k : Ext u w') (h : u.heap[g]? = some ob) : w'.heap[g]? = some ob := (k.block g (Array.getElem?_eq_some_iff.1 h).1).trans h
theorem cell_new {w : World} {cs : Array Value} {t : TypeId} {g i : Nat} {v : Value} (hg : g = w.heap.size) (hv : cs[i]? = some v) : (w.alloc (.cells cs t)).cell? ⟨g, i, none⟩ = some v := by
  subst hg
  exact cell_of_row _ _ i _ _ _ (heap_alloc_new w _) |>.trans hv
theorem ext_cell {w w' : World} {g i : Nat} {v : Value} (h : Ext w w') (hc : w.cell? ⟨g, i, none⟩ = some v) : w'.cell? ⟨g, i, none⟩ = some v := (Below.cell h (p := ⟨g, i, none⟩) (World.block_lt_of_cell? w _ hc)).trans hc
/-- The greater of two ballots, told by a number. -/
def balI (x y a b : Int) : Int := orI (cmpI x a) (cmpI y b)
theorem balI_pos {x y a b : Int} : 0 < balI x y a b ↔ gtL x y a b := by
  unfold balI orI gtL
  rcases cmpI_cases x a with ⟨h, k⟩ | ⟨h, k⟩ | ⟨h, k⟩ <;> rcases cmpI_cases y b with ⟨h2, k2⟩ | ⟨h2, k2⟩ | ⟨h2, k2⟩ <;> rw [h, h2] <;> simp <;> omega
theorem balI_ge {x y a b : Int} : 0 ≤ balI x y a b ↔ ¬ gtL a b x y := by
  unfold balI orI gtL
  rcases cmpI_cases x a with ⟨h, k⟩ | ⟨h, k⟩ | ⟨h, k⟩ <;> rcases cmpI_cases y b with ⟨h2, k2⟩ | ⟨h2, k2⟩ | ⟨h2, k2⟩ <;> rw [h, h2] <;> simp <;> omega
set_option maxRecDepth 100000 in
set_option maxHeartbeats 600000 in
theorem bal_of (x y a b : Int) (w : World) : Calls Tryd.prog 44 #[.agg #[.int .i64 x, .int .i64 y], .agg #[.int .i64 a, .int .i64 b]] w fun e w' => e = .returned (.int .i64 (balI x y a b)) ∧ Ext w w' := by
  have hE := ((Ext.refl w).alloc (.cells #[.int .i64 x, .int .i64 y] 23)).alloc (.cells #[.int .i64 a, .int .i64 b] 23)
  have hT : ((w.alloc (.cells #[.int .i64 x, .int .i64 y] 23)).alloc (.cells #[.int .i64 a, .int .i64 b] 23)).heap[w.heap.size]? = some (.cells #[.int .i64 x, .int .i64 y] 23 (0, 0)) := keep_row ((Ext.refl _).alloc _) (heap_alloc_new w _)
  have hU : ((w.alloc (.cells #[.int .i64 x, .int .i64 y] 23)).alloc (.cells #[.int .i64 a, .int .i64 b] 23)).heap[w.heap.size + 1]? = some (.cells #[.int .i64 a, .int .i64 b] 23 (0, 0)) := by
    rw [show w.heap.size + 1 = (w.alloc (.cells #[.int .i64 x, .int .i64 y] 23)).heap.size from by simp]
    exact heap_alloc_new _ _
  have HT := Lib.hid hT
  have HU := Lib.hid hU
  have HE := Lib.hid hE
  obtain ⟨i0, i1⟩ := bal_cells hT
  obtain ⟨j0, j1⟩ := bal_cells hU
  clear hT hU hE
  go_enter Tryd.func44, Tryd.ntmps44
  go_wp2_with fail
  go_region_held3 (fun w' => w'.cell? ⟨w.heap.size, 0, none⟩ = some (.int .i64 x) ∧ w'.cell? ⟨w.heap.size, 1, none⟩ = some (.int .i64 y) ∧ w'.cell? ⟨w.heap.size + 1, 0, none⟩ = some (.int .i64 a) ∧ w'.cell? ⟨w.heap.size + 1, 1, none⟩ = some (.int .i64 b))
    (first | with_reducible exact ⟨i0, i1, j0, j1⟩ | (refine (fun k => ⟨(bal_cells (keep_row k HT.out)).1, (bal_cells (keep_row k HT.out)).2, (bal_cells (keep_row k HU.out)).1, (bal_cells (keep_row k HU.out)).2⟩) ?_; repeat (first | exact Ext.refl _ | refine Ext.drew ?_ | refine Ext.alloc ?_ _)))
    (first
      | (go_at_call 54; ((with_reducible refine (compare_of _ _ _).mono ?_); rintro e w1 ⟨rfl, rfl⟩))
      | (go_at_call 53; ((refine (or_of _ _ (cmpI x a) (cmpI y b) _ ?_ ?_).mono ?_); (first | exact cell_new (by simp) rfl | (show (World.drew _).cell? _ = _; exact cell_new (by simp) rfl)); (first | exact cell_new (by simp) rfl | (show (World.drew _).cell? _ = _; exact cell_new (by simp) rfl)); rintro e w1 ⟨rfl, rfl⟩)))
  all_goals
    clear i0 i1 j0 j1
    go_wp2_with fail
    go_ret
    exact ⟨rfl, by repeat (first | exact HE.out | refine Ext.drew ?_ | refine Ext.alloc ?_ _)⟩

/-- Is a frame of index i? -/
theorem isForIndex_of (c : Cop) (g : Nat) (i : Int) (w : World) (hg : w.cell? ⟨g, 0, none⟩ = some (.int .i64 i)) :
    Calls Tryd.prog 38 #[.agg #[.int .u8 (c.st : Int), .int .i64 c.ix, .int .i64 c.bx, .int .i64 c.yb, .int .u8 (c.e.k : Int), .int .i64 c.e.cl, .int .i64 c.e.sq, .int .u8 (c.e.ok : Int), .string c.e.key, .string c.e.old, .string c.e.val], .pointer (some ⟨g, 0, none⟩)] w fun e w' => e = .returned (.bool ((c.st : Int) == 1 && c.ix == i)) ∧ Ext w w' := by
  have hE := (Ext.refl w).alloc (.cells #[.int .u8 (c.st : Int), .int .i64 c.ix, .int .i64 c.bx, .int .i64 c.yb, .int .u8 (c.e.k : Int), .int .i64 c.e.cl, .int .i64 c.e.sq, .int .u8 (c.e.ok : Int), .string c.e.key, .string c.e.old, .string c.e.val] 53)
  have hg2 := ext_cell ((Ext.refl w).alloc (.cells #[.int .u8 (c.st : Int), .int .i64 c.ix, .int .i64 c.bx, .int .i64 c.yb, .int .u8 (c.e.k : Int), .int .i64 c.e.cl, .int .i64 c.e.sq, .int .u8 (c.e.ok : Int), .string c.e.key, .string c.e.old, .string c.e.val] 53)) hg
  have HE := Lib.hid hE
  have HF := Lib.hid isFor_of
  clear hE hg
  go_enter Tryd.func38, Tryd.ntmps38
  go_wp2_with fail
  refine (HF.out _ _ _ _).mono ?_
  rintro e w1 ⟨rfl, rfl⟩
  go_wp2_with fail
  go_ret
  exact ⟨rfl, HE.out⟩
/-- Is a frame bad? -/
theorem isBad1_of (c : Cop) (w : World) :
    Calls Tryd.prog 41 #[.agg #[.int .u8 (c.st : Int), .int .i64 c.ix, .int .i64 c.bx, .int .i64 c.yb, .int .u8 (c.e.k : Int), .int .i64 c.e.cl, .int .i64 c.e.sq, .int .u8 (c.e.ok : Int), .string c.e.key, .string c.e.old, .string c.e.val]] w fun e w' => e = .returned (.bool ((c.st : Int) != 0 && (c.st : Int) != 1)) ∧ Ext w w' := by
  have hE := (Ext.refl w).alloc (.cells #[.int .u8 (c.st : Int), .int .i64 c.ix, .int .i64 c.bx, .int .i64 c.yb, .int .u8 (c.e.k : Int), .int .i64 c.e.cl, .int .i64 c.e.sq, .int .u8 (c.e.ok : Int), .string c.e.key, .string c.e.old, .string c.e.val] 53)
  have HE := Lib.hid hE
  have HF := Lib.hid isBad_of
  clear hE
  go_enter Tryd.func41, Tryd.ntmps41
  go_wp2_with fail
  refine (HF.out _ _).mono ?_
  rintro e w1 ⟨rfl, rfl⟩
  go_wp2_with fail
  go_ret
  exact ⟨rfl, HE.out⟩
theorem isNone_of (c : Cop) (w : World) :
    Calls Tryd.prog 47 #[.agg #[.int .u8 (c.st : Int), .int .i64 c.ix, .int .i64 c.bx, .int .i64 c.yb, .int .u8 (c.e.k : Int), .int .i64 c.e.cl, .int .i64 c.e.sq, .int .u8 (c.e.ok : Int), .string c.e.key, .string c.e.old, .string c.e.val]] w fun e w' => e = .returned (.bool false) ∧ Ext w w' := by
  have hE := (Ext.refl w).alloc (.cells #[.int .u8 (c.st : Int), .int .i64 c.ix, .int .i64 c.bx, .int .i64 c.yb, .int .u8 (c.e.k : Int), .int .i64 c.e.cl, .int .i64 c.e.sq, .int .u8 (c.e.ok : Int), .string c.e.key, .string c.e.old, .string c.e.val] 53)
  have HE := Lib.hid hE
  clear hE
  go_enter Tryd.func47, Tryd.ntmps47
  go_wp2_with fail
  go_ret
  exact ⟨rfl, HE.out⟩
/-- Is a frame of a greater index? -/
theorem isLater_of (c : Cop) (g : Nat) (i : Int) (w : World) (hg : w.cell? ⟨g, 0, none⟩ = some (.int .i64 i)) :
    Calls Tryd.prog 55 #[.agg #[.int .u8 (c.st : Int), .int .i64 c.ix, .int .i64 c.bx, .int .i64 c.yb, .int .u8 (c.e.k : Int), .int .i64 c.e.cl, .int .i64 c.e.sq, .int .u8 (c.e.ok : Int), .string c.e.key, .string c.e.old, .string c.e.val], .pointer (some ⟨g, 0, none⟩)] w fun e w' => e = .returned (.bool ((c.st : Int) == 1 && decide (i < c.ix))) ∧ Ext w w' := by
  have hE := (Ext.refl w).alloc (.cells #[.int .u8 (c.st : Int), .int .i64 c.ix, .int .i64 c.bx, .int .i64 c.yb, .int .u8 (c.e.k : Int), .int .i64 c.e.cl, .int .i64 c.e.sq, .int .u8 (c.e.ok : Int), .string c.e.key, .string c.e.old, .string c.e.val] 53)
  have hg2 := ext_cell ((Ext.refl w).alloc (.cells #[.int .u8 (c.st : Int), .int .i64 c.ix, .int .i64 c.bx, .int .i64 c.yb, .int .u8 (c.e.k : Int), .int .i64 c.e.cl, .int .i64 c.e.sq, .int .u8 (c.e.ok : Int), .string c.e.key, .string c.e.old, .string c.e.val] 53)) hg
  have HE := Lib.hid hE
  clear hE hg
  obtain ⟨b, hb⟩ : ∃ b, ((c.st : Int) == 1) = b := ⟨_, rfl⟩
  obtain ⟨d, hd⟩ : ∃ d, decide (i < c.ix) = d := ⟨_, rfl⟩
  rw [hb, hd]
  cases b <;>
  · go_enter Tryd.func55, Tryd.ntmps55
    go_wp2_with fail
    go_ret
    exact ⟨rfl, HE.out⟩
/-- May a slot be intact by a frame, by a record of its index? -/
theorem isRecent_of (c : Cop) (p : Rec) (g5 g7 g3 : Nat) (i : Int) (w : World) (h5 : w.cell? ⟨g5, 0, none⟩ = some (.int .i64 i)) (h7 : w.cell? ⟨g7, 0, none⟩ = some (.func (.func 38) #[] #[.pointer (some ⟨g5, 0, none⟩)]))
    (hx : w.cell? ⟨g3, 2, none⟩ = some (.int .i64 p.bx)) (hy : w.cell? ⟨g3, 3, none⟩ = some (.int .i64 p.yb)) :
    Calls Tryd.prog 43 #[.agg #[.int .u8 (c.st : Int), .int .i64 c.ix, .int .i64 c.bx, .int .i64 c.yb, .int .u8 (c.e.k : Int), .int .i64 c.e.cl, .int .i64 c.e.sq, .int .u8 (c.e.ok : Int), .string c.e.key, .string c.e.old, .string c.e.val], .pointer (some ⟨g7, 0, none⟩), .pointer (some ⟨g3, 0, none⟩)] w fun e w' => e = .returned (.bool (((c.st : Int) == 1 && c.ix == i) && decide (0 ≤ balI c.bx c.yb p.bx p.yb))) ∧ Ext w w' := by
  have hE := (Ext.refl w).alloc (.cells #[.int .u8 (c.st : Int), .int .i64 c.ix, .int .i64 c.bx, .int .i64 c.yb, .int .u8 (c.e.k : Int), .int .i64 c.e.cl, .int .i64 c.e.sq, .int .u8 (c.e.ok : Int), .string c.e.key, .string c.e.old, .string c.e.val] 53)
  have HE := Lib.hid hE
  have HI := Lib.hid (isForIndex_of c g5 i _ (ext_cell ((Ext.refl w).alloc (.cells #[.int .u8 (c.st : Int), .int .i64 c.ix, .int .i64 c.bx, .int .i64 c.yb, .int .u8 (c.e.k : Int), .int .i64 c.e.cl, .int .i64 c.e.sq, .int .u8 (c.e.ok : Int), .string c.e.key, .string c.e.old, .string c.e.val] 53)) h5))
  have HB := Lib.hid (bal_of c.bx c.yb p.bx p.yb)
  have k7 := ext_cell ((Ext.refl w).alloc (.cells #[.int .u8 (c.st : Int), .int .i64 c.ix, .int .i64 c.bx, .int .i64 c.yb, .int .u8 (c.e.k : Int), .int .i64 c.e.cl, .int .i64 c.e.sq, .int .u8 (c.e.ok : Int), .string c.e.key, .string c.e.old, .string c.e.val] 53)) h7
  have kx := ext_cell ((Ext.refl w).alloc (.cells #[.int .u8 (c.st : Int), .int .i64 c.ix, .int .i64 c.bx, .int .i64 c.yb, .int .u8 (c.e.k : Int), .int .i64 c.e.cl, .int .i64 c.e.sq, .int .u8 (c.e.ok : Int), .string c.e.key, .string c.e.old, .string c.e.val] 53)) hx
  have ky := ext_cell ((Ext.refl w).alloc (.cells #[.int .u8 (c.st : Int), .int .i64 c.ix, .int .i64 c.bx, .int .i64 c.yb, .int .u8 (c.e.k : Int), .int .i64 c.e.cl, .int .i64 c.e.sq, .int .u8 (c.e.ok : Int), .string c.e.key, .string c.e.old, .string c.e.val] 53)) hy
  have hT := heap_alloc_new w (.cells #[.int .u8 (c.st : Int), .int .i64 c.ix, .int .i64 c.bx, .int .i64 c.yb, .int .u8 (c.e.k : Int), .int .i64 c.e.cl, .int .i64 c.e.sq, .int .u8 (c.e.ok : Int), .string c.e.key, .string c.e.old, .string c.e.val] 53)
  have c2 := cell_of_row _ _ 2 _ _ _ hT
  have c3 := cell_of_row _ _ 3 _ _ _ hT
  have KX := Lib.hid kx
  have KY := Lib.hid ky
  have C2 := Lib.hid c2
  have C3 := Lib.hid c3
  clear hE h5 h7 hx hy hT c2 c3 kx ky
  obtain ⟨b, hb⟩ : ∃ b, ((c.st : Int) == 1 && c.ix == i) = b := ⟨_, rfl⟩
  obtain ⟨z, hz⟩ : ∃ z, balI c.bx c.yb p.bx p.yb = z := ⟨_, rfl⟩
  rw [hb] at HI ⊢
  rw [hz] at HB ⊢
  clear hb hz
  cases b with
  | false =>
    go_enter Tryd.func43, Tryd.ntmps43
    go_wp2_with fail
    refine HI.out.mono ?_
    rintro e w1 ⟨rfl, hx⟩
    have HX := Lib.hid (HE.out.trans hx)
    clear hx
    go_wp2_with fail
    go_ret
    exact ⟨rfl, HX.out⟩
  | true =>
    go_enter Tryd.func43, Tryd.ntmps43
    go_wp2_with fail
    refine HI.out.mono ?_
    rintro e w1 ⟨rfl, hx⟩
    have HX := Lib.hid (HE.out.trans hx)
    have kx := ext_cell hx KX.out
    have ky := ext_cell hx KY.out
    have k2 := ext_cell hx C2.out
    have k3 := ext_cell hx C3.out
    clear hx
    go_wp2_with fail
    refine (HB.out _).mono ?_
    rintro e w2 ⟨rfl, hx⟩
    have HX := Lib.hid (HX.out.trans hx)
    clear hx kx ky k2 k3
    go_wp2_with fail
    go_ret
    exact ⟨rfl, HX.out⟩
end Go.Proofs.YtejejadbemkifaaDoor
