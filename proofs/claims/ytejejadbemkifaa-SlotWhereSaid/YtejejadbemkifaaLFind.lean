/-
  The contracts of slices' IndexFunc and ContainsFunc over two copies, of isCovered and named.
-/
import Derived.Test.YtejejadbemkifaaLClos
import Derived.Shelf.Abstract
namespace Go.Proofs.Ytejejadbemkifaa
open Go Go.RowKit

/-- A block that holds two copies. -/
def Two (w : World) (g : Nat) (f0 f1 : Cop) : Prop := w.heap[g]? = some (.cells #[.int .u8 (f0.st : Int), .int .i64 f0.ix, .int .i64 f0.bx, .int .i64 f0.yb, .int .u8 (f0.e.k : Int), .int .i64 f0.e.cl, .int .i64 f0.e.sq, .int .u8 (f0.e.ok : Int), .string f0.e.key, .string f0.e.old, .string f0.e.val, .int .u8 (f1.st : Int), .int .i64 f1.ix, .int .i64 f1.bx, .int .i64 f1.yb, .int .u8 (f1.e.k : Int), .int .i64 f1.e.cl, .int .i64 f1.e.sq, .int .u8 (f1.e.ok : Int), .string f1.e.key, .string f1.e.old, .string f1.e.val] 34 (0, 0))
theorem Two.ext {w w' : World} {g : Nat} {f0 f1 : Cop} (h : Two w g f0 f1) (k : Ext w w') : Two w' g f0 f1 := keep_row k h
theorem Two.first {w : World} {g : Nat} {f0 f1 : Cop} (h : Two w g f0 f1) : w.cell? ⟨g, 0, none⟩ = some (.int .u8 (f0.st : Int)) ∧ w.cell? ⟨g, 1, none⟩ = some (.int .i64 f0.ix) ∧ w.cell? ⟨g, 2, none⟩ = some (.int .i64 f0.bx) ∧ w.cell? ⟨g, 3, none⟩ = some (.int .i64 f0.yb) ∧ w.cell? ⟨g, 4, none⟩ = some (.int .u8 (f0.e.k : Int)) ∧ w.cell? ⟨g, 5, none⟩ = some (.int .i64 f0.e.cl) ∧ w.cell? ⟨g, 6, none⟩ = some (.int .i64 f0.e.sq) ∧ w.cell? ⟨g, 7, none⟩ = some (.int .u8 (f0.e.ok : Int)) ∧ w.cell? ⟨g, 8, none⟩ = some (.string f0.e.key) ∧ w.cell? ⟨g, 9, none⟩ = some (.string f0.e.old) ∧ w.cell? ⟨g, 10, none⟩ = some (.string f0.e.val) :=
  ⟨cell_of_row w g 0 _ _ _ h, cell_of_row w g 1 _ _ _ h, cell_of_row w g 2 _ _ _ h, cell_of_row w g 3 _ _ _ h, cell_of_row w g 4 _ _ _ h, cell_of_row w g 5 _ _ _ h, cell_of_row w g 6 _ _ _ h, cell_of_row w g 7 _ _ _ h, cell_of_row w g 8 _ _ _ h, cell_of_row w g 9 _ _ _ h, cell_of_row w g 10 _ _ _ h⟩
theorem Two.second {w : World} {g : Nat} {f0 f1 : Cop} (h : Two w g f0 f1) : w.cell? ⟨g, 11, none⟩ = some (.int .u8 (f1.st : Int)) ∧ w.cell? ⟨g, 12, none⟩ = some (.int .i64 f1.ix) ∧ w.cell? ⟨g, 13, none⟩ = some (.int .i64 f1.bx) ∧ w.cell? ⟨g, 14, none⟩ = some (.int .i64 f1.yb) ∧ w.cell? ⟨g, 15, none⟩ = some (.int .u8 (f1.e.k : Int)) ∧ w.cell? ⟨g, 16, none⟩ = some (.int .i64 f1.e.cl) ∧ w.cell? ⟨g, 17, none⟩ = some (.int .i64 f1.e.sq) ∧ w.cell? ⟨g, 18, none⟩ = some (.int .u8 (f1.e.ok : Int)) ∧ w.cell? ⟨g, 19, none⟩ = some (.string f1.e.key) ∧ w.cell? ⟨g, 20, none⟩ = some (.string f1.e.old) ∧ w.cell? ⟨g, 21, none⟩ = some (.string f1.e.val) :=
  ⟨cell_of_row w g 11 _ _ _ h, cell_of_row w g 12 _ _ _ h, cell_of_row w g 13 _ _ _ h, cell_of_row w g 14 _ _ _ h, cell_of_row w g 15 _ _ _ h, cell_of_row w g 16 _ _ _ h, cell_of_row w g 17 _ _ _ h, cell_of_row w g 18 _ _ _ h, cell_of_row w g 19 _ _ _ h, cell_of_row w g 20 _ _ _ h, cell_of_row w g 21 _ _ _ h⟩
theorem Two.new (w : World) (f0 f1 : Cop) : Two (w.alloc (.cells #[.int .u8 (f0.st : Int), .int .i64 f0.ix, .int .i64 f0.bx, .int .i64 f0.yb, .int .u8 (f0.e.k : Int), .int .i64 f0.e.cl, .int .i64 f0.e.sq, .int .u8 (f0.e.ok : Int), .string f0.e.key, .string f0.e.old, .string f0.e.val, .int .u8 (f1.st : Int), .int .i64 f1.ix, .int .i64 f1.bx, .int .i64 f1.yb, .int .u8 (f1.e.k : Int), .int .i64 f1.e.cl, .int .i64 f1.e.sq, .int .u8 (f1.e.ok : Int), .string f1.e.key, .string f1.e.old, .string f1.e.val] 34)) w.heap.size f0 f1 := heap_alloc_new w _
/-- What a function value that is handed over answers of a copy, now and later. -/
def Asks (w : World) (F : Nat) (caps : Array Value) (f : Cop) (b : Bool) : Prop := ∀ W, Ext w W → Calls Try.prog F (#[.agg #[.int .u8 (f.st : Int), .int .i64 f.ix, .int .i64 f.bx, .int .i64 f.yb, .int .u8 (f.e.k : Int), .int .i64 f.e.cl, .int .i64 f.e.sq, .int .u8 (f.e.ok : Int), .string f.e.key, .string f.e.old, .string f.e.val]] ++ caps) W fun e W' => e = .returned (.bool b) ∧ Ext W W'
theorem Asks.ext {w w' : World} {F : Nat} {caps : Array Value} {f : Cop} {b : Bool} (h : Asks w F caps f b) (k : Ext w w') : Asks w' F caps f b := fun W hx => h W (k.trans hx)
def firstI (a b : Bool) : Int := if a then 0 else if b then 1 else -1

set_option maxRecDepth 100000 in
set_option maxHeartbeats 600000 in
theorem index_of (F : Nat) (caps : Array Value) (f0 f1 : Cop) (b0 b1 : Bool) (g c : Nat) (w : World) (hgo : Enters Try.prog F) (hT : Two w g f0 f1) (h0 : Asks w F caps f0 b0) (h1 : Asks w F caps f1 b1) :
    Calls Try.prog 27 #[.slice (some ⟨g, 0, none⟩) 2 c, .func (.func F) #[] caps] w fun e w' => e = .returned (.int .i64 (firstI b0 b1)) ∧ Ext w w' := by
  have HT := Lib.hid hT
  have H0 := Lib.hid h0
  have H1 := Lib.hid h1
  obtain ⟨i0, i1, i2, i3, i4, i5, i6, i7, i8, i9, i10⟩ := hT.first
  clear hT h0 h1
  unfold Enters at hgo
  cases b0 with
  | true =>
    go_enter Try.func27, Try.ntmps27
    go_wp2_with fail
    refine wp_loop_rounds 3 ?_
    rw [rounds_succ]
    go_wp2_with fail
    refine (H0.out _ (Ext.refl _)).mono ?_
    rintro e w1 ⟨rfl, hx⟩
    have HX := Lib.hid hx
    clear hx i0 i1 i2 i3 i4 i5 i6 i7 i8 i9 i10
    go_wp2_with fail
    go_ret
    exact ⟨rfl, HX.out⟩
  | false =>
    cases b1 with
    | true =>
      go_enter Try.func27, Try.ntmps27
      go_wp2_with fail
      refine wp_loop_rounds 3 ?_
      rw [rounds_succ]
      go_wp2_with fail
      refine (H0.out _ (Ext.refl _)).mono ?_
      rintro e w1 ⟨rfl, hx⟩
      have HX := Lib.hid hx
      clear i0 i1 i2 i3 i4 i5 i6 i7 i8 i9 i10
      obtain ⟨j0, j1, j2, j3, j4, j5, j6, j7, j8, j9, j10⟩ := (HT.out.ext hx).second
      clear hx
      go_wp2_with fail
      rw [rounds_succ]
      go_wp2_with fail
      refine (H1.out _ HX.out).mono ?_
      rintro e w2 ⟨rfl, hx⟩
      have HX := Lib.hid (HX.out.trans hx)
      clear hx j0 j1 j2 j3 j4 j5 j6 j7 j8 j9 j10
      go_wp2_with fail
      go_ret
      exact ⟨rfl, HX.out⟩
    | false =>
      go_enter Try.func27, Try.ntmps27
      go_wp2_with fail
      refine wp_loop_rounds 3 ?_
      rw [rounds_succ]
      go_wp2_with fail
      refine (H0.out _ (Ext.refl _)).mono ?_
      rintro e w1 ⟨rfl, hx⟩
      have HX := Lib.hid hx
      clear i0 i1 i2 i3 i4 i5 i6 i7 i8 i9 i10
      obtain ⟨j0, j1, j2, j3, j4, j5, j6, j7, j8, j9, j10⟩ := (HT.out.ext hx).second
      clear hx
      go_wp2_with fail
      rw [rounds_succ]
      go_wp2_with fail
      refine (H1.out _ HX.out).mono ?_
      rintro e w2 ⟨rfl, hx⟩
      have HX := Lib.hid (HX.out.trans hx)
      clear hx j0 j1 j2 j3 j4 j5 j6 j7 j8 j9 j10
      go_wp2_with fail
      rw [rounds_succ]
      go_wp2_with fail
      go_ret
      exact ⟨rfl, HX.out⟩
theorem contains_of (F : Nat) (caps : Array Value) (f0 f1 : Cop) (b0 b1 : Bool) (g c : Nat) (w : World) (hgo : Enters Try.prog F) (hT : Two w g f0 f1) (h0 : Asks w F caps f0 b0) (h1 : Asks w F caps f1 b1) :
    Calls Try.prog 19 #[.slice (some ⟨g, 0, none⟩) 2 c, .func (.func F) #[] caps] w fun e w' => e = .returned (.bool (b0 || b1)) ∧ Ext w w' := by
  have HI := Lib.hid (index_of F caps f0 f1 b0 b1 g c w hgo hT h0 h1)
  clear hT h0 h1
  have hz : decide (0 ≤ firstI b0 b1) = (b0 || b1) := by cases b0 <;> cases b1 <;> rfl
  generalize firstI b0 b1 = z at HI hz
  generalize (b0 || b1) = r at hz ⊢
  clear hgo
  go_enter Try.func19, Try.ntmps19
  go_wp2_with fail
  refine HI.out.mono ?_
  rintro e w1 ⟨rfl, hx⟩
  have HX := Lib.hid hx
  clear hx
  go_wp2_with fail
  go_ret
  exact ⟨rfl, HX.out⟩
end Go.Proofs.Ytejejadbemkifaa
