/-
  The contracts of readRecord and readFrame: what is read of a record, of a frame.
  Regions walked by hand: two loads that may come up in either order, though what they read is written later; whole stores; results that lie in two cells.
  The contracts of slices' IndexFunc and ContainsFunc over two copies, of isCovered and named.
  The contracts of slot's named and isCovered.
  What slot's applying stands on; which rule applies, in plain words.
  The contract of a rule's use: by which frame a slot is intact. (The drawn regions are walked operation by operation: tools/genluse.py.)
  A rule's use where frame 0 is looked at first.
  A rule's use where frame 0 is looked at first.
  A rule's use where frame 1 is looked at first.
  A rule's use where frame 1 is looked at first.
  The contract of a rule's use, in one form.
  What slot's What stands on.
  What a slot is, by no frame.
  What a slot is, by frame 0.
  What a slot is, by frame 1.
  Which rule applies: a record of the index.
  Which rule applies: something good of a greater index, or a bad record beside a bad frame.
  Which rule applies: nothing but frames of the index, or none.
  What a slot is, in one form.
  Over which frame the next put of a slot goes.
  What a put's tail stands on.
  The contract of read: what is read of the record and the frames of an index.
  The contracts of cmp.Or at errors, of two and of three.
  A whole array stored into the block that was made last: the block then holds it.
  Plain facts on logs: a put leaves the other slots as they were, whatever comes of it; one that is whole is read back.
-/
import Derived.Test.YtmacebglfniegaaGreatDoorQ12
import Derived.Deep.RegionHeld
import Derived.Shelf.Abstract
import Derived.Deep.DeepCutAuto
import Derived.Laws.EntriesVeiled
import Derived.Deep.MidRow
namespace Go.Proofs.YtmacebglfniegaaGreatDoor
open Go Go.RowKit

theorem free11W {w : World} {g : Nat} {t : TypeId} {y0 y1 y2 y3 y4 y5 y6 y7 y8 y9 y10 : Value} (h : w.heap[g]? = some (.cells #[y0, y1, y2, y3, y4, y5, y6, y7, y8, y9, y10] t (0, 0))) : (w.cell? ⟨g, 0, none⟩ = some y0 ∧ w.cell? ⟨g, 1, none⟩ = some y1 ∧ w.cell? ⟨g, 2, none⟩ = some y2 ∧ w.cell? ⟨g, 3, none⟩ = some y3 ∧ w.cell? ⟨g, 4, none⟩ = some y4 ∧ w.cell? ⟨g, 5, none⟩ = some y5 ∧ w.cell? ⟨g, 6, none⟩ = some y6 ∧ w.cell? ⟨g, 7, none⟩ = some y7 ∧ w.cell? ⟨g, 8, none⟩ = some y8 ∧ w.cell? ⟨g, 9, none⟩ = some y9 ∧ w.cell? ⟨g, 10, none⟩ = some y10) ∧ w.frozen? ⟨g, 0, none⟩ = false ∧ w.frozen? ⟨g, 1, none⟩ = false ∧ w.frozen? ⟨g, 2, none⟩ = false ∧ w.frozen? ⟨g, 3, none⟩ = false ∧ w.frozen? ⟨g, 4, none⟩ = false ∧ w.frozen? ⟨g, 5, none⟩ = false ∧ w.frozen? ⟨g, 6, none⟩ = false ∧ w.frozen? ⟨g, 7, none⟩ = false ∧ w.frozen? ⟨g, 8, none⟩ = false ∧ w.frozen? ⟨g, 9, none⟩ = false ∧ w.frozen? ⟨g, 10, none⟩ = false := ⟨⟨cell_of_row w g 0 _ _ _ h, cell_of_row w g 1 _ _ _ h, cell_of_row w g 2 _ _ _ h, cell_of_row w g 3 _ _ _ h, cell_of_row w g 4 _ _ _ h, cell_of_row w g 5 _ _ _ h, cell_of_row w g 6 _ _ _ h, cell_of_row w g 7 _ _ _ h, cell_of_row w g 8 _ _ _ h, cell_of_row w g 9 _ _ _ h, cell_of_row w g 10 _ _ _ h⟩, frozen_of_row w g 0 _ _ h, frozen_of_row w g 1 _ _ h, frozen_of_row w g 2 _ _ h, frozen_of_row w g 3 _ _ h, frozen_of_row w g 4 _ _ h, frozen_of_row w g 5 _ _ h, frozen_of_row w g 6 _ _ h, frozen_of_row w g 7 _ _ h, frozen_of_row w g 8 _ _ h, frozen_of_row w g 9 _ _ h, frozen_of_row w g 10 _ _ h⟩
section
variable {w : World} {g d s : Nat} {r inc : Int} {F : Nat → Prop} {m : DM}
end
end Go.Proofs.YtmacebglfniegaaGreatDoor

namespace Go.Proofs.YtmacebglfniegaaGreatDoor
set_option maxRecDepth 100000
open Go Go.RowKit

theorem setCells_eq (g : Nat) : ∀ (vs : List Value) (w : World) (o : Nat), w.setCells g o vs = setL w g o vs
  | [], _, _ => rfl
  | _ :: vs, _, o => setCells_eq g vs _ (o + 1)
theorem row_setCells {w : World} {g : Nat} {cs : Array Value} {t : TypeId} (h : w.heap[g]? = some (.cells cs t (0, 0))) (o : Nat) (vs : List Value) : (w.setCells g o vs).heap[g]? = some (.cells (setA cs o vs) t (0, 0)) := by
  rw [setCells_eq]
  exact row_setL vs w o cs h
theorem off_setCells {w : World} {g k : Nat} {ob : Obj} (h : w.heap[k]? = some ob) (hk : k ≠ g) (o : Nat) (vs : List Value) : (w.setCells g o vs).heap[k]? = some ob := by
  rw [setCells_eq]
  exact off_setL h hk vs o
theorem ext_setCells {a w : World} (h : Ext a w) {g : Nat} (hg : a.heap.size ≤ g) (o : Nat) (vs : List Value) : Ext a (w.setCells g o vs) := by
  rw [setCells_eq]
  exact ext_setL h hg vs o
end Go.Proofs.YtmacebglfniegaaGreatDoor

namespace Go.Proofs.YtmacebglfniegaaGreatDoor
set_option maxRecDepth 100000
open Go Go.RowKit

/-- A block that holds two copies. -/
def TwoL (w : World) (g : Nat) (f0 f1 : CopL) : Prop := w.heap[g]? = some (.cells #[.int .u8 (f0.st : Int), .int .i64 f0.ix, .int .i64 f0.bx, .int .i64 f0.yb, .int .u8 (f0.e.k : Int), .int .i64 f0.e.cl, .int .i64 f0.e.sq, .int .u8 (f0.e.ok : Int), .string f0.e.key, .string f0.e.old, .string f0.e.val, .int .u8 (f1.st : Int), .int .i64 f1.ix, .int .i64 f1.bx, .int .i64 f1.yb, .int .u8 (f1.e.k : Int), .int .i64 f1.e.cl, .int .i64 f1.e.sq, .int .u8 (f1.e.ok : Int), .string f1.e.key, .string f1.e.old, .string f1.e.val] 121 (0, 0))
theorem TwoL.ext {w w' : World} {g : Nat} {f0 f1 : CopL} (h : TwoL w g f0 f1) (k : Ext w w') : TwoL w' g f0 f1 := keep_row k h
theorem TwoL.first {w : World} {g : Nat} {f0 f1 : CopL} (h : TwoL w g f0 f1) : w.cell? ⟨g, 0, none⟩ = some (.int .u8 (f0.st : Int)) ∧ w.cell? ⟨g, 1, none⟩ = some (.int .i64 f0.ix) ∧ w.cell? ⟨g, 2, none⟩ = some (.int .i64 f0.bx) ∧ w.cell? ⟨g, 3, none⟩ = some (.int .i64 f0.yb) ∧ w.cell? ⟨g, 4, none⟩ = some (.int .u8 (f0.e.k : Int)) ∧ w.cell? ⟨g, 5, none⟩ = some (.int .i64 f0.e.cl) ∧ w.cell? ⟨g, 6, none⟩ = some (.int .i64 f0.e.sq) ∧ w.cell? ⟨g, 7, none⟩ = some (.int .u8 (f0.e.ok : Int)) ∧ w.cell? ⟨g, 8, none⟩ = some (.string f0.e.key) ∧ w.cell? ⟨g, 9, none⟩ = some (.string f0.e.old) ∧ w.cell? ⟨g, 10, none⟩ = some (.string f0.e.val) :=
  ⟨cell_of_row w g 0 _ _ _ h, cell_of_row w g 1 _ _ _ h, cell_of_row w g 2 _ _ _ h, cell_of_row w g 3 _ _ _ h, cell_of_row w g 4 _ _ _ h, cell_of_row w g 5 _ _ _ h, cell_of_row w g 6 _ _ _ h, cell_of_row w g 7 _ _ _ h, cell_of_row w g 8 _ _ _ h, cell_of_row w g 9 _ _ _ h, cell_of_row w g 10 _ _ _ h⟩
theorem TwoL.new (w : World) (f0 f1 : CopL) : TwoL (w.alloc (.cells #[.int .u8 (f0.st : Int), .int .i64 f0.ix, .int .i64 f0.bx, .int .i64 f0.yb, .int .u8 (f0.e.k : Int), .int .i64 f0.e.cl, .int .i64 f0.e.sq, .int .u8 (f0.e.ok : Int), .string f0.e.key, .string f0.e.old, .string f0.e.val, .int .u8 (f1.st : Int), .int .i64 f1.ix, .int .i64 f1.bx, .int .i64 f1.yb, .int .u8 (f1.e.k : Int), .int .i64 f1.e.cl, .int .i64 f1.e.sq, .int .u8 (f1.e.ok : Int), .string f1.e.key, .string f1.e.old, .string f1.e.val] 121)) w.heap.size f0 f1 := heap_alloc_new w _
/-- What a function value that is handed over answers of a copy, now and later. -/
def Asks (w : World) (F : Nat) (caps : Array Value) (f : CopL) (b : Bool) : Prop := ∀ W, Ext w W → Calls Tryz.prog F (#[.agg #[.int .u8 (f.st : Int), .int .i64 f.ix, .int .i64 f.bx, .int .i64 f.yb, .int .u8 (f.e.k : Int), .int .i64 f.e.cl, .int .i64 f.e.sq, .int .u8 (f.e.ok : Int), .string f.e.key, .string f.e.old, .string f.e.val]] ++ caps) W fun e W' => e = .returned (.bool b) ∧ Ext W W'
theorem Asks.ext {w w' : World} {F : Nat} {caps : Array Value} {f : CopL} {b : Bool} (h : Asks w F caps f b) (k : Ext w w') : Asks w' F caps f b := fun W hx => h W (k.trans hx)
end Go.Proofs.YtmacebglfniegaaGreatDoor

namespace Go.Proofs.YtmacebglfniegaaGreatDoor
set_option maxRecDepth 100000
open Go Go.RowKit

/-- A block that holds a record. -/
def RecAt (w : World) (g : Nat) (p : Rec) : Prop := w.heap[g]? = some (.cells #[.int .u8 (p.st : Int), .int .i64 p.ix, .int .i64 p.bx, .int .i64 p.yb, .int .i64 p.wh] 118 (0, 0))
theorem RecAt.ext {w w' : World} {g : Nat} {p : Rec} (h : RecAt w g p) (k : Ext w w') : RecAt w' g p := keep_row k h
theorem RecAt.cells {w : World} {g : Nat} {p : Rec} (h : RecAt w g p) : w.cell? ⟨g, 0, none⟩ = some (.int .u8 (p.st : Int)) ∧ w.cell? ⟨g, 1, none⟩ = some (.int .i64 p.ix) ∧ w.cell? ⟨g, 2, none⟩ = some (.int .i64 p.bx) ∧ w.cell? ⟨g, 3, none⟩ = some (.int .i64 p.yb) ∧ w.cell? ⟨g, 4, none⟩ = some (.int .i64 p.wh) := ⟨cell_of_row w g 0 _ _ _ h, cell_of_row w g 1 _ _ _ h, cell_of_row w g 2 _ _ _ h, cell_of_row w g 3 _ _ _ h, cell_of_row w g 4 _ _ _ h⟩
theorem RecAt.new (w : World) (p : Rec) : RecAt (w.alloc (.cells #[.int .u8 (p.st : Int), .int .i64 p.ix, .int .i64 p.bx, .int .i64 p.yb, .int .i64 p.wh] 118)) w.heap.size p := heap_alloc_new w _
end Go.Proofs.YtmacebglfniegaaGreatDoor

namespace Go.Proofs.YtmacebglfniegaaGreatDoor
set_option maxRecDepth 100000
open Go Go.RowKit

def badB (n : Nat) : Bool := (n : Int) != 0 && (n : Int) != 1
/-- What applying has made when it begins. -/
structure ApS (w W : World) (p : Rec) (f0 f1 : CopL) (i : Int) (g g1 g2 g3 g4 : Nat) : Prop where
  rec_ : RecAt W g p
  two : TwoL W g1 f0 f1
  ix : W.heap[g2]? = some (.cells #[.int .i64 i] 3 (0, 0))
  rule : W.heap[g3]? = some (.cells #[.nilFunc, .int .i64 0, .int .u8 0, .int .i64 0, .int .u8 0, .int .i64 0, .int .i64 0, .int .u8 0, .int .i64 0, .int .i64 0, .int .u8 0, .string ⟨#[]⟩, .string ⟨#[]⟩, .string ⟨#[]⟩] 221 (0, 0))
  fn : W.heap[g4]? = some (.cells #[.func (.func 181) #[] #[.pointer (some ⟨g2, 0, none⟩)]] 219 (0, 0))
  ext : Ext w W
  ne : g ≠ g3 ∧ g2 ≠ g3 ∧ g4 ≠ g3 ∧ w.heap.size ≤ g3
theorem ApS.mono {w W W' : World} {p : Rec} {f0 f1 : CopL} {i : Int} {g g1 g2 g3 g4 : Nat} (h : ApS w W p f0 f1 i g g1 g2 g3 g4) (k : Ext W W') : ApS w W' p f0 f1 i g g1 g2 g3 g4 :=
  ⟨h.rec_.ext k, h.two.ext k, keep_row k h.ix, keep_row k h.rule, keep_row k h.fn, h.ext.trans k, h.ne⟩
end Go.Proofs.YtmacebglfniegaaGreatDoor

namespace Go.Proofs.YtmacebglfniegaaGreatDoor
set_option maxRecDepth 100000
open Go Go.RowKit

end Go.Proofs.YtmacebglfniegaaGreatDoor

namespace Go.Proofs.YtmacebglfniegaaGreatDoor
set_option maxRecDepth 100000
open Go Go.RowKit

end Go.Proofs.YtmacebglfniegaaGreatDoor

namespace Go.Proofs.YtmacebglfniegaaGreatDoor
set_option maxRecDepth 100000
open Go Go.RowKit

end Go.Proofs.YtmacebglfniegaaGreatDoor

namespace Go.Proofs.YtmacebglfniegaaGreatDoor
set_option maxRecDepth 100000
open Go Go.RowKit

end Go.Proofs.YtmacebglfniegaaGreatDoor

namespace Go.Proofs.YtmacebglfniegaaGreatDoor
set_option maxRecDepth 100000
open Go Go.RowKit

end Go.Proofs.YtmacebglfniegaaGreatDoor

namespace Go.Proofs.YtmacebglfniegaaGreatDoor
set_option maxRecDepth 100000
open Go Go.RowKit

end Go.Proofs.YtmacebglfniegaaGreatDoor

namespace Go.Proofs.YtmacebglfniegaaGreatDoor
set_option maxRecDepth 100000
open Go Go.RowKit

/-- What What has made when it begins. -/
structure WhS (w W : World) (p : Rec) (f0 f1 : CopL) (g g1 g2 : Nat) (rp : Array Value) : Prop where
  rec_ : RecAt W g p
  two : TwoL W g1 f0 f1
  rep : W.heap[g2]? = some (.cells rp 78 (0, 0))
  ext : Ext w W
  ne : g ≠ g2 ∧ g1 ≠ g2 ∧ w.heap.size ≤ g2
theorem WhS.mono {w W W' : World} {p : Rec} {f0 f1 : CopL} {g g1 g2 : Nat} {rp : Array Value} (h : WhS w W p f0 f1 g g1 g2 rp) (k : Ext W W') : WhS w W' p f0 f1 g g1 g2 rp :=
  ⟨h.rec_.ext k, h.two.ext k, keep_row k h.rep, h.ext.trans k, h.ne⟩
theorem row_range {w : World} {g : Nat} {t : TypeId} (l : List Value) (h : w.heap[g]? = some (.cells l.toArray t (0, 0))) (o : Nat) : w.rangeAt g o (l.drop o) := fun j v hv => by
  rw [cell_of_row w g (o + j) _ _ _ h, List.getElem?_toArray, ← List.getElem?_drop]
  exact hv
/-- A report stored into its block. -/
theorem WhS.put {w W : World} {p : Rec} {f0 f1 : CopL} {g g1 g2 : Nat} {z0 z1 z2 z3 z4 z5 z6 z7 z8 z9 z10 : Value} (h : WhS w W p f0 f1 g g1 g2 #[z0, z1, z2, z3, z4, z5, z6, z7, z8, z9, z10]) (x0 x1 x2 x3 x4 x5 x6 x7 x8 x9 x10 : Value) :
    WhS w ((((((((((((W.setCell ⟨g2, 0, none⟩ (x0)).setCell ⟨g2, 1, none⟩ (x1)).setCell ⟨g2, 2, none⟩ (x2)).setCell ⟨g2, 3, none⟩ (x3)).setCell ⟨g2, 4, none⟩ (x4)).setCell ⟨g2, 5, none⟩ (x5)).setCell ⟨g2, 6, none⟩ (x6)).setCell ⟨g2, 7, none⟩ (x7)).setCell ⟨g2, 8, none⟩ (x8)).setCell ⟨g2, 9, none⟩ (x9)).setCell ⟨g2, 10, none⟩ (x10))) p f0 f1 g g1 g2 #[x0, x1, x2, x3, x4, x5, x6, x7, x8, x9, x10] :=
  ⟨off11 h.rec_ h.ne.1 _ _ _ _ _ _ _ _ _ _ _, off11 h.two h.ne.2.1 _ _ _ _ _ _ _ _ _ _ _, row11 h.rep _ _ _ _ _ _ _ _ _ _ _, ext11 h.ext h.ne.2.2 _ _ _ _ _ _ _ _ _ _ _, h.ne⟩
end Go.Proofs.YtmacebglfniegaaGreatDoor

namespace Go.Proofs.YtmacebglfniegaaGreatDoor
set_option maxRecDepth 100000
open Go Go.RowKit

end Go.Proofs.YtmacebglfniegaaGreatDoor

namespace Go.Proofs.YtmacebglfniegaaGreatDoor
set_option maxRecDepth 100000
open Go Go.RowKit

end Go.Proofs.YtmacebglfniegaaGreatDoor

namespace Go.Proofs.YtmacebglfniegaaGreatDoor
set_option maxRecDepth 100000
open Go Go.RowKit

end Go.Proofs.YtmacebglfniegaaGreatDoor

namespace Go.Proofs.YtmacebglfniegaaGreatDoor
set_option maxRecDepth 100000
open Go Go.RowKit

end Go.Proofs.YtmacebglfniegaaGreatDoor

namespace Go.Proofs.YtmacebglfniegaaGreatDoor
set_option maxRecDepth 100000
open Go Go.RowKit

end Go.Proofs.YtmacebglfniegaaGreatDoor

namespace Go.Proofs.YtmacebglfniegaaGreatDoor
set_option maxRecDepth 100000
open Go Go.RowKit

end Go.Proofs.YtmacebglfniegaaGreatDoor

namespace Go.Proofs.YtmacebglfniegaaGreatDoor
set_option maxRecDepth 100000
open Go Go.RowKit

end Go.Proofs.YtmacebglfniegaaGreatDoor

namespace Go.Proofs.YtmacebglfniegaaGreatDoor
set_option maxRecDepth 100000
open Go Go.RowKit

end Go.Proofs.YtmacebglfniegaaGreatDoor

namespace Go.Proofs.YtmacebglfniegaaGreatDoor
set_option maxRecDepth 100000
open Go Go.RowKit

/-- What tail has made when it begins. -/
structure TlS (w W : World) (g g1 g2 g3 g4 : Nat) (rv tv zr zt : Array Value) (r : Int) : Prop where
  rec_ : W.heap[g]? = some (.cells rv 118 (0, 0))
  two : W.heap[g1]? = some (.cells tv 121 (0, 0))
  bal : W.heap[g2]? = some (.cells #[.int .i64 r, .int .i64 1] 38 (0, 0))
  z3 : W.heap[g3]? = some (.cells zr 118 (0, 0))
  z4 : W.heap[g4]? = some (.cells zt 121 (0, 0))
  ext : Ext w W
  ne : (g < g1 ∧ g1 < g2 ∧ g2 < g3 ∧ g3 < g4) ∧ w.heap.size ≤ g
section
variable {w W W' : World} {g g1 g2 g3 g4 : Nat} {rv tv zr zt : Array Value} {r : Int}
theorem TlS.mono (h : TlS w W g g1 g2 g3 g4 rv tv zr zt r) (k : Ext W W') : TlS w W' g g1 g2 g3 g4 rv tv zr zt r :=
  ⟨keep_row k h.rec_, keep_row k h.two, keep_row k h.bal, keep_row k h.z3, keep_row k h.z4, h.ext.trans k, h.ne⟩
theorem TlS.put3 (h : TlS w W g g1 g2 g3 g4 rv tv zr zt r) (o : Nat) (xs : List Value) : TlS w (W.setCells g3 o xs) g g1 g2 g3 g4 rv tv (setA zr o xs) zt r :=
  ⟨off_setCells h.rec_ (by have := h.ne; omega) o xs, off_setCells h.two (by have := h.ne; omega) o xs, off_setCells h.bal (by have := h.ne; omega) o xs, row_setCells h.z3 o xs, off_setCells h.z4 (by have := h.ne; omega) o xs, ext_setCells h.ext (by have := h.ne; omega) o xs, h.ne⟩
theorem TlS.put4 (h : TlS w W g g1 g2 g3 g4 rv tv zr zt r) (o : Nat) (xs : List Value) : TlS w (W.setCells g4 o xs) g g1 g2 g3 g4 rv tv zr (setA zt o xs) r :=
  ⟨off_setCells h.rec_ (by have := h.ne; omega) o xs, off_setCells h.two (by have := h.ne; omega) o xs, off_setCells h.bal (by have := h.ne; omega) o xs, off_setCells h.z3 (by have := h.ne; omega) o xs, row_setCells h.z4 o xs, ext_setCells h.ext (by have := h.ne; omega) o xs, h.ne⟩
end
theorem TlS.fin {w W : World} {g g1 g2 g3 g4 : Nat} {z0 z1 z2 z3 z4 x0 x1 x2 x3 x4 y0 y1 y2 y3 y4 y5 y6 y7 y8 y9 y10 y11 y12 y13 y14 y15 y16 y17 y18 y19 y20 y21 v0 v1 v2 v3 v4 v5 v6 v7 v8 v9 v10 v11 v12 v13 v14 v15 v16 v17 v18 v19 v20 v21 : Value} {rv tv : Array Value} {r : Int} (h : TlS w W g g1 g2 g3 g4 rv tv #[z0, z1, z2, z3, z4] #[v0, v1, v2, v3, v4, v5, v6, v7, v8, v9, v10, v11, v12, v13, v14, v15, v16, v17, v18, v19, v20, v21] r) (i3 : (Tryz.prog.info? 118).map (·.size) = some 5) (i4 : (Tryz.prog.info? 121).map (·.size) = some 22) :
    let V := (W.setCells g3 0 [x0, x1, x2, x3, x4]).setCells g4 0 [y0, y1, y2, y3, y4, y5, y6, y7, y8, y9, y10, y11, y12, y13, y14, y15, y16, y17, y18, y19, y20, y21]
    (loadVar 118 ⟨g3, 0, none⟩).run Tryz.prog V = .ok (.agg #[x0, x1, x2, x3, x4]) V ∧ (loadVar 121 ⟨g4, 0, none⟩).run Tryz.prog V = .ok (.agg #[y0, y1, y2, y3, y4, y5, y6, y7, y8, y9, y10, y11, y12, y13, y14, y15, y16, y17, y18, y19, y20, y21]) V ∧ Ext w V := by
  intro V
  have hT := (h.put3 0 [x0, x1, x2, x3, x4]).put4 0 [y0, y1, y2, y3, y4, y5, y6, y7, y8, y9, y10, y11, y12, y13, y14, y15, y16, y17, y18, y19, y20, y21]
  rw [arr5, arr22] at hT
  exact ⟨run_loadVar_mid V g3 0 118 [x0, x1, x2, x3, x4] _ (row_range [x0, x1, x2, x3, x4] hT.z3 0) Tryz.underlying118 rfl i3, run_loadVar_mid V g4 0 121 [y0, y1, y2, y3, y4, y5, y6, y7, y8, y9, y10, y11, y12, y13, y14, y15, y16, y17, y18, y19, y20, y21] _ (row_range [y0, y1, y2, y3, y4, y5, y6, y7, y8, y9, y10, y11, y12, y13, y14, y15, y16, y17, y18, y19, y20, y21] hT.z4 0) Tryz.underlying121 rfl i4, hT.ext⟩
end Go.Proofs.YtmacebglfniegaaGreatDoor

namespace Go.Proofs.YtmacebglfniegaaGreatDoor
open Go Go.RowKit

/-- What read has made: the results' blocks, and the frames that were read so far. -/
structure WRdS (w W : World) (b : Nat) (zr zt ht : Array Value) : Prop where
  z4 : W.heap[b]? = some (.cells zr 118 (0, 0))
  z5 : W.heap[b + 1]? = some (.cells zt 121 (0, 0))
  two : W.heap[b + 1 + 1]? = some (.cells ht 121 (0, 0))
  ext : Ext w W
  le : w.heap.size ≤ b
section
variable {w W : World} {b : Nat} {zr zt ht : Array Value}
theorem WRdS.mono {W' : World} (h : WRdS w W b zr zt ht) (hx : Ext W W') : WRdS w W' b zr zt ht := ⟨keep_row hx h.z4, keep_row hx h.z5, keep_row hx h.two, h.ext.trans hx, h.le⟩
theorem WRdS.put4 (h : WRdS w W b zr zt ht) (o : Nat) (xs : List Value) : WRdS w (W.setCells b o xs) b (setA zr o xs) zt ht :=
  ⟨row_setCells h.z4 o xs, off_setCells h.z5 (by omega) o xs, off_setCells h.two (by omega) o xs, ext_setCells h.ext h.le o xs, h.le⟩
theorem WRdS.put5 (h : WRdS w W b zr zt ht) (o : Nat) (xs : List Value) : WRdS w (W.setCells (b + 1) o xs) b zr (setA zt o xs) ht :=
  ⟨off_setCells h.z4 (by omega) o xs, row_setCells h.z5 o xs, off_setCells h.two (by omega) o xs, ext_setCells h.ext (by have := h.le; omega) o xs, h.le⟩
end
theorem WRdS.fin {w W : World} {b : Nat} {x0 x1 x2 x3 x4 y0 y1 y2 y3 y4 y5 y6 y7 y8 y9 y10 y11 y12 y13 y14 y15 y16 y17 y18 y19 y20 y21 z0 z1 z2 z3 z4 v0 v1 v2 v3 v4 v5 v6 v7 v8 v9 v10 v11 v12 v13 v14 v15 v16 v17 v18 v19 v20 v21 : Value} {ht : Array Value} (h : WRdS w W b #[z0, z1, z2, z3, z4] #[v0, v1, v2, v3, v4, v5, v6, v7, v8, v9, v10, v11, v12, v13, v14, v15, v16, v17, v18, v19, v20, v21] ht) (i3 : (Tryz.prog.info? 118).map (·.size) = some 5) (i4 : (Tryz.prog.info? 121).map (·.size) = some 22) :
    let V := (W.setCells b 0 [x0, x1, x2, x3, x4]).setCells (b + 1) 0 [y0, y1, y2, y3, y4, y5, y6, y7, y8, y9, y10, y11, y12, y13, y14, y15, y16, y17, y18, y19, y20, y21]
    (loadVar 118 ⟨b, 0, none⟩).run Tryz.prog V = .ok (.agg #[x0, x1, x2, x3, x4]) V ∧ (loadVar 121 ⟨b + 1, 0, none⟩).run Tryz.prog V = .ok (.agg #[y0, y1, y2, y3, y4, y5, y6, y7, y8, y9, y10, y11, y12, y13, y14, y15, y16, y17, y18, y19, y20, y21]) V ∧ Ext w V := by
  intro V
  have hT := (h.put4 0 [x0, x1, x2, x3, x4]).put5 0 [y0, y1, y2, y3, y4, y5, y6, y7, y8, y9, y10, y11, y12, y13, y14, y15, y16, y17, y18, y19, y20, y21]
  rw [arr5, arr22] at hT
  exact ⟨run_loadVar_mid V b 0 118 [x0, x1, x2, x3, x4] _ (row_range [x0, x1, x2, x3, x4] hT.z4 0) Tryz.underlying118 rfl i3, run_loadVar_mid V (b + 1) 0 121 [y0, y1, y2, y3, y4, y5, y6, y7, y8, y9, y10, y11, y12, y13, y14, y15, y16, y17, y18, y19, y20, y21] _ (row_range [y0, y1, y2, y3, y4, y5, y6, y7, y8, y9, y10, y11, y12, y13, y14, y15, y16, y17, y18, y19, y20, y21] hT.z5 0) Tryz.underlying121 rfl i4, hT.ext⟩

end Go.Proofs.YtmacebglfniegaaGreatDoor

namespace Go.Proofs.YtmacebglfniegaaGreatDoor
open Go Go.RowKit

theorem or2E (g cp : Nat) (a b : Int) (w : World) (h0 : w.cell? ⟨g, 0, none⟩ = some (.int .i64 a)) (h1 : w.cell? ⟨g, 1, none⟩ = some (.int .i64 b)) :
    Calls Tryz.prog 45 #[.slice (some ⟨g, 0, none⟩) 2 cp] w fun e w' => e = .returned (.int .i64 (orI a b)) ∧ w' = w := by
  by_cases k0 : a = 0
  case neg =>
    have ha : (a != 0) = true := by simpa using k0
    have he : orI a b = a := by simp [orI, k0]
    rw [he]
    go_enter Tryz.func45, Tryz.ntmps45
    go_wp2_with fail
    refine wp_loop_rounds 3 ?_
    rw [rounds_succ]
    go_wp2_with fail
    go_ret
    exact ⟨rfl, rfl⟩
  by_cases k1 : b = 0
  case neg =>
    have ha : (b != 0) = true := by simpa using k1
    have he : orI a b = b := by subst k0; simp [orI]
    rw [he]
    subst k0
    go_enter Tryz.func45, Tryz.ntmps45
    go_wp2_with fail
    refine wp_loop_rounds 3 ?_
    rw [rounds_succ]
    go_wp2_with fail
    rw [rounds_succ]
    go_wp2_with fail
    go_ret
    exact ⟨rfl, rfl⟩
  have he : orI a b = 0 := by simp [orI, k0, k1]
  rw [he]
  subst k0
  subst k1
  · skip
    go_enter Tryz.func45, Tryz.ntmps45
    go_wp2_with fail
    refine wp_loop_rounds 3 ?_
    rw [rounds_succ]
    go_wp2_with fail
    rw [rounds_succ]
    go_wp2_with fail
    rw [rounds_succ]
    go_wp2_with fail
    go_ret
    exact ⟨rfl, rfl⟩
theorem or3E (g cp : Nat) (a b c : Int) (w : World) (h0 : w.cell? ⟨g, 0, none⟩ = some (.int .i64 a)) (h1 : w.cell? ⟨g, 1, none⟩ = some (.int .i64 b)) (h2 : w.cell? ⟨g, 2, none⟩ = some (.int .i64 c)) :
    Calls Tryz.prog 45 #[.slice (some ⟨g, 0, none⟩) 3 cp] w fun e w' => e = .returned (.int .i64 (orI a (orI b c))) ∧ w' = w := by
  by_cases k0 : a = 0
  case neg =>
    have ha : (a != 0) = true := by simpa using k0
    have he : orI a (orI b c) = a := by simp [orI, k0]
    rw [he]
    go_enter Tryz.func45, Tryz.ntmps45
    go_wp2_with fail
    refine wp_loop_rounds 4 ?_
    rw [rounds_succ]
    go_wp2_with fail
    go_ret
    exact ⟨rfl, rfl⟩
  by_cases k1 : b = 0
  case neg =>
    have ha : (b != 0) = true := by simpa using k1
    have he : orI a (orI b c) = b := by subst k0; simp [orI, k1]
    rw [he]
    subst k0
    go_enter Tryz.func45, Tryz.ntmps45
    go_wp2_with fail
    refine wp_loop_rounds 4 ?_
    rw [rounds_succ]
    go_wp2_with fail
    rw [rounds_succ]
    go_wp2_with fail
    go_ret
    exact ⟨rfl, rfl⟩
  by_cases k2 : c = 0
  case neg =>
    have ha : (c != 0) = true := by simpa using k2
    have he : orI a (orI b c) = c := by subst k0 k1; simp [orI]
    rw [he]
    subst k0
    subst k1
    go_enter Tryz.func45, Tryz.ntmps45
    go_wp2_with fail
    refine wp_loop_rounds 4 ?_
    rw [rounds_succ]
    go_wp2_with fail
    rw [rounds_succ]
    go_wp2_with fail
    rw [rounds_succ]
    go_wp2_with fail
    go_ret
    exact ⟨rfl, rfl⟩
  have he : orI a (orI b c) = 0 := by simp [orI, k0, k1, k2]
  rw [he]
  subst k0
  subst k1
  subst k2
  · skip
    go_enter Tryz.func45, Tryz.ntmps45
    go_wp2_with fail
    refine wp_loop_rounds 4 ?_
    rw [rounds_succ]
    go_wp2_with fail
    rw [rounds_succ]
    go_wp2_with fail
    rw [rounds_succ]
    go_wp2_with fail
    rw [rounds_succ]
    go_wp2_with fail
    go_ret
    exact ⟨rfl, rfl⟩
end Go.Proofs.YtmacebglfniegaaGreatDoor

namespace Go.Proofs.YtmacebglfniegaaGreatDoor
open Go Go.RowKit

variable {P : Program}
end Go.Proofs.YtmacebglfniegaaGreatDoor

namespace Go.Proofs.YtmacebglfniegaaGreatDoor
set_option maxRecDepth 100000

/-! ### Whatever comes of writes and flushes, other sectors stay -/
structure Tch (m : DM) (T : Nat → Prop) (h0 : Nat → List Nat) : Prop where
  ok : m.Ok
  size : m.size = 156
  down : m.down = false
  waits : ∀ x ∈ m.waits, T x.1
  hold : ∀ t, ¬ T t → m.hold t = h0 t
section
variable {m : DM} {T : Nat → Prop} {h0 : Nat → List Nat}
theorem Tch.of_eq {m' : DM} (h : Tch m T h0) (hok : m'.Ok) (hs : m'.size = m.size) (hd : m'.down = m.down) (hw : m'.waits = m.waits) (h1 : m'.rest = m.rest) (h2 : m'.lost = m.lost) : Tch m' T h0 :=
  ⟨hok, hs.trans h.size, hd.trans h.down, by rw [hw]; exact h.waits, fun t ht => by rw [← h.hold t ht]; unfold DM.hold; rw [h1, h2]⟩
theorem Tch.write (h : Tch m T h0) {s : Nat} (hs : T s) {L : List Nat} (hb : ∀ x ∈ L, x < 256) : Tch (m.write (s : Int) L).2 T h0 := by
  have hok := DM.write_ok h.ok (s : Int) hb
  unfold DM.write at hok ⊢
  split
  · exact h
  · split
    · exact h
    · split
      · exact h.of_eq ⟨h.ok.meant, h.ok.lost, h.ok.rests, h.ok.means, h.ok.waits, h.ok.power⟩ rfl rfl rfl rfl rfl
      · rename_i h1 h2 h3
        rw [if_neg h1, if_neg h2, if_neg h3] at hok
        refine ⟨hok, h.size, h.down, fun x hx => ?_, h.hold⟩
        rcases List.mem_append.1 hx with hx | hx
        · exact h.waits x hx
        · simp only [List.mem_singleton] at hx
          subst hx
          exact hs
theorem Tch.comes (h : Tch m T h0) {l : List (Nat × List Nat)} (hl : ∀ x ∈ l, x ∈ m.waits) : ∀ t, ¬ T t → (m.comes l).hold t = h0 t := fun t ht => by
  have hn : lastW l t = none := lastW_none fun x hx he => ht (by rw [← he]; exact h.waits x (hl x hx))
  rw [hold_comes h.ok fun x hx => (h.ok.waits x (hl x hx)).1, hn]
  exact h.hold t ht
theorem Tch.flush (h : Tch m T h0) : Tch m.flush.2 T h0 := by
  have hok := DM.flush_ok h.ok
  unfold DM.flush at hok ⊢
  split
  · exact h
  · split
    · exact h.of_eq ⟨h.ok.meant, h.ok.lost, h.ok.rests, h.ok.means, h.ok.waits, h.ok.power⟩ rfl rfl rfl rfl rfl
    · rename_i h1 h2
      rw [if_neg h1, if_neg h2] at hok
      have h' : Tch ({ m with power := lessP m.power } : DM) T h0 := h.of_eq ⟨h.ok.meant, h.ok.lost, h.ok.rests, h.ok.means, h.ok.waits, lessP_le h.ok.power⟩ rfl rfl rfl rfl rfl
      obtain ⟨w1, w2, w3, w4⟩ := DM.comes_waits m.waits ({ m with power := lessP m.power } : DM)
      refine ⟨hok, ?_, w2.trans h.down, fun x hx => (by cases hx), h'.comes fun x hx => hx⟩
      show (DM.comes _ _).size = 156
      rw [DM.comes_size]
      exact h.size
theorem Tch.putC (h : Tch m T h0) {s : Nat} (hs : T s) {L : List Nat} (hb : ∀ x ∈ L, x < 256) : Tch (m.putC (s : Int) L).2 T h0 := by
  unfold DM.putC
  split
  · exact h.write hs hb
  · exact (h.write hs hb).flush
theorem Tch.put2C (h : Tch m T h0) {s : Nat} (hs : T s) (hs1 : T (s + 1)) {L : List Nat} (hb : ∀ x ∈ L, x < 256) : Tch (m.put2C (s : Int) L).2 T h0 := by
  have h1 := h.write hs (L := L.take 64) fun x hx => hb x (List.mem_of_mem_take hx)
  have h2 := h1.write hs1 (L := L.drop 64) fun x hx => hb x (List.mem_of_mem_drop hx)
  rw [show ((s + 1 : Nat) : Int) = (s : Int) + 1 from by omega] at h2
  unfold DM.put2C
  split
  · exact h1
  · split
    · exact h2
    · exact h2.flush
/-- The sectors that a put of a slot may write. -/
def putT (q p : Nat) (t : Nat) : Prop := t = sR q ∨ t = sF p ∨ t = sF p + 1
theorem Tch.putK {q p : Nat} (hq : q < 24) (hp : p < 48) {r inc i k x y : Int} {e : Ent} (hpk : 2 * (q : Int) + k = (p : Int)) (h : Tch m (putT q p) h0) (hb : ∀ z ∈ frmW r inc i (p : Int) x y e, z < 256) (hc : ∀ z ∈ recW r inc i (q : Int) x y k, z < 256) :
    Tch (m.putK r inc i (q : Int) k x y e).2 (putT q p) h0 := by
  unfold DM.putK
  rw [hpk, first4 hp, first3 hq]
  have h1 := h.put2C (s := sF p) (.inr (.inl rfl)) (.inr (.inr rfl)) hb
  split
  · exact h1
  · exact h1.putC (s := sR q) (.inl rfl) hc
end
/-! ### A put that is whole -/
theorem NInv.flush {m : DM} (h : NInv m) : NInv m.flush.2 := by
  have := h.act 0 0 0 (bytes := []) (fun _ hx => by cases hx) [] (by omega)
  exact this
section
variable {m : DM} {s : Nat} {L : List Nat}
theorem CD.put2C (h : CD m (-1)) (hs : s + 1 < 156) (h1 : Sect (L.take 64)) (h2 : Sect (L.drop 64)) : ∃ m', m.put2C (s : Int) L = (0, m') ∧ CD m' (-1) ∧ (NInv m → NInv m') ∧ ∀ t, m'.hold t = if t = s + 1 then L.drop 64 else if t = s then L.take 64 else m.hold t := by
  have hw1 : m.write (s : Int) (L.take 64) = (0, { m with power := -1, waits := [(s, L.take 64)] }) := by
    rw [h.write1 (by omega) (by omega) h1]; rfl
  obtain ⟨m1, hm1⟩ : ∃ m1 : DM, m1 = { m with power := -1, waits := [(s, L.take 64)] } := ⟨_, rfl⟩
  rw [← hm1] at hw1
  have hu : m1.up = true := by rw [hm1]; unfold DM.up; show (!(m.down || m.dead)) = true; rw [h.b.down, h.dead]; rfl
  have hh : m1.has ((s : Int) + 1) = true := DM.has_iff.2 ⟨by omega, by rw [hm1]; show (s : Int) + 1 < (m.size : Int); rw [h.b.size]; omega⟩
  have hw2 : m1.write ((s : Int) + 1) (L.drop 64) = (0, { m with power := -1, waits := [(s, L.take 64), (s + 1, L.drop 64)] }) := by
    unfold DM.write
    rw [if_neg (by rw [hu]; simp), if_neg (by rw [hh, h2.1]; simp), if_neg (by rw [hm1]; show ¬ (-1 : Int) = 0; omega), hm1]
    show _ = _
    rw [show ((s : Int) + 1).toNat = s + 1 from by omega]
    rfl
  obtain ⟨m2, hm2⟩ : ∃ m2 : DM, m2 = { m with power := -1, waits := [(s, L.take 64), (s + 1, L.drop 64)] } := ⟨_, rfl⟩
  rw [← hm2] at hw2
  have hok2 : m2.Ok := by
    have := DM.write_ok (DM.write_ok h.b.ok (s : Int) h1.2) ((s : Int) + 1) h2.2
    rw [hw1, hw2] at this
    exact this
  have hu2 : m2.up = true := by rw [hm2]; unfold DM.up; show (!(m.down || m.dead)) = true; rw [h.b.down, h.dead]; rfl
  have hf : m2.flush = (0, { (m2.comes m2.waits) with waits := [] }) := by
    unfold DM.flush
    rw [if_neg (by rw [hu2]; simp), if_neg (by rw [hm2]; show ¬ (-1 : Int) = 0; omega)]
    rw [hm2]
    rfl
  obtain ⟨w1, w2, w3, w4⟩ := DM.comes_waits m2.waits m2
  refine ⟨{ (m2.comes m2.waits) with waits := [] }, ?_, ⟨⟨?_, ?_, rfl, ?_⟩, ?_, ?_⟩, fun hn => ?_, fun t => ?_⟩
  · unfold DM.put2C
    rw [hw1, if_neg (by simp)]
    show (if (m1.write ((s : Int) + 1) (L.drop 64)).1 ≠ 0 then _ else _) = _
    rw [hw2, if_neg (by simp)]
    exact hf
  · have := DM.flush_ok hok2; rw [hf] at this; exact this
  · show (m2.comes m2.waits).size = 156
    rw [DM.comes_size, hm2]
    exact h.b.size
  · exact w2.trans (by rw [hm2]; exact h.b.down)
  · exact w3.trans (by rw [hm2]; exact h.dead)
  · exact w4.trans (by rw [hm2])
  · have := ((hn.write (s : Int) h1.2).write ((s : Int) + 1) h2.2).flush
    rw [hw1] at this
    dsimp only at this
    rw [hw2] at this
    dsimp only at this
    rw [hf] at this
    exact this
  · show (m2.comes m2.waits).hold t = _
    rw [hold_comes hok2 fun x hx => (hok2.waits x hx).1, hm2]
    show (lastW ([(s, L.take 64)] ++ [(s + 1, L.drop 64)]) t).getD (m.hold t) = _
    rw [lastW_snoc]
    dsimp only
    by_cases ht : t = s + 1
    · rw [if_pos ht.symm, if_pos ht]; rfl
    · rw [if_neg (fun e => ht e.symm), if_neg ht]
      show (lastW ([] ++ [(s, L.take 64)]) t).getD (m.hold t) = _
      rw [lastW_snoc]
      dsimp only
      by_cases hts : t = s
      · rw [if_pos hts.symm, if_pos hts]; rfl
      · rw [if_neg (fun e => hts e.symm), if_neg hts]; rfl
theorem NInv.putC (h : NInv m) (hb : ∀ x ∈ L, x < 256) (t : Int) : NInv (m.putC t L).2 := by
  unfold DM.putC
  split
  · exact h.write t hb
  · exact (h.write t hb).flush
/-- A put behind which nothing went wrong. -/
theorem CD.putK {q p : Nat} (hq : q < 24) (hp : p < 48) {r inc i k x y : Int} {e : Ent} (hpk : 2 * (q : Int) + k = (p : Int)) (h : CD m (-1)) (h1 : Sect ((frmW r inc i (p : Int) x y e).take 64)) (h2 : Sect ((frmW r inc i (p : Int) x y e).drop 64)) (h3 : Sect (recW r inc i (q : Int) x y k)) :
    ∃ m', m.putK r inc i (q : Int) k x y e = (0, m') ∧ CD m' (-1) ∧ (NInv m → NInv m') ∧ ∀ t, m'.hold t = if t = sR q then recW r inc i (q : Int) x y k else if t = sF p + 1 then (frmW r inc i (p : Int) x y e).drop 64 else if t = sF p then (frmW r inc i (p : Int) x y e).take 64 else m.hold t := by
  obtain ⟨m1, e1, c1, n1, g1⟩ := h.put2C (s := sF p) (sF_lt hp) h1 h2
  obtain ⟨m2, e2, c2, g2⟩ := c1.put2 (s := sR q) (.inl rfl) (sR_lt hq) h3
  refine ⟨m2, ?_, c2, fun hn => ?_, fun t => ?_⟩
  · unfold DM.putK
    rw [hpk, first4 hp, first3 hq, e1, if_neg (by simp)]
    exact e2
  · have := (n1 hn).putC h3.2 (sR q : Int)
    rw [e2] at this
    exact this
  · rw [g2 t, g1 t]
end

/-! ### What is read -/
section
variable {m : DM} {pw : Int}
theorem CD.recM (h : CD m pw) {q : Nat} (hq : q < 24) (r : Int) : m.recM r (q : Int) = recQ r (q : Int) (m.hold (sR q)) := by
  unfold DM.recM DM.cb
  rw [first3 hq, h.read (sR_lt hq)]
theorem CD.copM (h : CD m pw) {p : Nat} (hp : p < 48) (r : Int) : m.copM r (p : Int) = copQ r (p : Int) (pair2 (m.hold (sF p)) (m.hold (sF p + 1))) := by
  unfold DM.copM DM.fb
  rw [first4 hp, h.read (by have := sF_lt hp; omega), show ((sF p : Nat) : Int) + 1 = ((sF p + 1 : Nat) : Int) from by omega, h.read (sF_lt hp)]
/-- A slot's record and frames, as they are read of what the sectors hold. -/
theorem slot_same {m m' : DM} {pw pw' : Int} (h : CD m pw) (h' : CD m' pw') {q : Nat} (hq : q < 24) (r : Int) (ht : ∀ t, (t = sR q ∨ t = sF (2 * q) ∨ t = sF (2 * q) + 1 ∨ t = sF (2 * q + 1) ∨ t = sF (2 * q + 1) + 1) → m'.hold t = m.hold t) :
    m'.recM r (q : Int) = m.recM r (q : Int) ∧ m'.copM r ((2 * q : Nat) : Int) = m.copM r ((2 * q : Nat) : Int) ∧ m'.copM r ((2 * q + 1 : Nat) : Int) = m.copM r ((2 * q + 1 : Nat) : Int) := by
  refine ⟨?_, ?_, ?_⟩
  · rw [h.recM hq, h'.recM hq, ht _ (.inl rfl)]
  · rw [h.copM (by omega), h'.copM (by omega), ht _ (.inr (.inl rfl)), ht _ (.inr (.inr (.inl rfl)))]
  · rw [h.copM (by omega), h'.copM (by omega), ht _ (.inr (.inr (.inr (.inl rfl)))), ht _ (.inr (.inr (.inr (.inr rfl))))]
/-- A put leaves the other slots' sectors alone. -/
theorem putT_far {q q' p : Nat} (hq : q < 24) (hq' : q' < 24) (hne : q' ≠ q) (hp : p = 2 * q ∨ p = 2 * q + 1) {t : Nat} (ht : t = sR q' ∨ t = sF (2 * q') ∨ t = sF (2 * q') + 1 ∨ t = sF (2 * q' + 1) ∨ t = sF (2 * q' + 1) + 1) : ¬ putT q p t := by
  unfold putT sR sF at *
  omega
theorem new_recM {q : Nat} (hq : q < 24) (r : Int) : (DM.new 156).recM r (q : Int) = {} := by rw [CD.new.recM hq, new_hold (sR_lt hq), recQ_blank]
theorem new_copM {p : Nat} (hp : p < 48) (r : Int) : (DM.new 156).copM r (p : Int) = {} := by
  have := sF_lt hp
  rw [CD.new.copM hp, new_hold (by omega), new_hold this, copQ_blank]
end
end Go.Proofs.YtmacebglfniegaaGreatDoor
