/-
  The contracts of the statements' own is and good.
-/
import Derived.Test.YtejejadbemkifaaLWhat
namespace Go.Proofs.Ytejejadbemkifaa
open Go Go.RowKit

theorem goodv_of (i r y : Int) (w : World) : Calls Try.prog 6 #[.int .i64 i, .int .i64 r, .int .i64 y] w fun e w' => e = .returned (.agg #[.int .u8 1, .int .i64 i, .int .i64 r, .int .i64 y, .int .u8 1, .int .i64 0, .int .i64 0, .int .u8 0, .string ⟨#[]⟩, .string ⟨#[]⟩, .string ⟨#[]⟩]) ∧ Ext w w' := by
  have HE := Lib.hid ((Ext.refl w).alloc (.cells #[.int .u8 1, .int .i64 i, .int .i64 r, .int .i64 y, .int .u8 1, .int .i64 0, .int .i64 0, .int .u8 0, .string ⟨#[]⟩, .string ⟨#[]⟩, .string ⟨#[]⟩] 33))
  go_enter Try.func6, Try.ntmps6
  go_wp2_with fail
  have hT := heap_alloc_new w (.cells #[.int .u8 1, .int .i64 i, .int .i64 r, .int .i64 y, .int .u8 1, .int .i64 0, .int .i64 0, .int .u8 0, .string ⟨#[]⟩, .string ⟨#[]⟩, .string ⟨#[]⟩] 33)
  have z0 := cell_of_row _ w.heap.size 0 _ _ _ (hT)
  have z1 := cell_of_row _ w.heap.size 1 _ _ _ (hT)
  have z2 := cell_of_row _ w.heap.size 2 _ _ _ (hT)
  have z3 := cell_of_row _ w.heap.size 3 _ _ _ (hT)
  have z4 := cell_of_row _ w.heap.size 4 _ _ _ (hT)
  have z5 := cell_of_row _ w.heap.size 5 _ _ _ (hT)
  have z6 := cell_of_row _ w.heap.size 6 _ _ _ (hT)
  have z7 := cell_of_row _ w.heap.size 7 _ _ _ (hT)
  have z8 := cell_of_row _ w.heap.size 8 _ _ _ (hT)
  have z9 := cell_of_row _ w.heap.size 9 _ _ _ (hT)
  have z10 := cell_of_row _ w.heap.size 10 _ _ _ (hT)
  generalize (w.alloc (.cells #[.int .u8 1, .int .i64 i, .int .i64 r, .int .i64 y, .int .u8 1, .int .i64 0, .int .i64 0, .int .u8 0, .string ⟨#[]⟩, .string ⟨#[]⟩, .string ⟨#[]⟩] 33)) = w1 at *
  refine bodyPost_ret (v := .agg #[.int .u8 1, .int .i64 i, .int .i64 r, .int .i64 y, .int .u8 1, .int .i64 0, .int .i64 0, .int .u8 0, .string ⟨#[]⟩, .string ⟨#[]⟩, .string ⟨#[]⟩]) (by simp [results, Try.results6, go_sem, z0, z1, z2, z3, z4, z5, z6, z7, z8, z9, z10]) rfl ⟨rfl, HE.out⟩
set_option maxRecDepth 100000 in
set_option maxHeartbeats 600000 in
theorem is_of (p : Rec) (a b : Cop) (w : World) (hp : p.st ≤ 2) (h0 : a.st ≤ 2) (h1 : b.st ≤ 2) (hw : p.wh = 0 ∨ p.wh = 1) (cl st wh : Int) (hcl : (classL p a b 5 : Nat) = cl) (hst : (stateL p a b 5 : Nat) = st) (hwh : whereL p a b 5 = wh) :
    Calls Try.prog 12 #[.agg #[.int .u8 (p.st : Int), .int .i64 p.ix, .int .i64 p.bx, .int .i64 p.yb, .int .i64 p.wh], .agg #[.int .u8 (a.st : Int), .int .i64 a.ix, .int .i64 a.bx, .int .i64 a.yb, .int .u8 (a.e.k : Int), .int .i64 a.e.cl, .int .i64 a.e.sq, .int .u8 (a.e.ok : Int), .string a.e.key, .string a.e.old, .string a.e.val], .agg #[.int .u8 (b.st : Int), .int .i64 b.ix, .int .i64 b.bx, .int .i64 b.yb, .int .u8 (b.e.k : Int), .int .i64 b.e.cl, .int .i64 b.e.sq, .int .u8 (b.e.ok : Int), .string b.e.key, .string b.e.old, .string b.e.val], .int .u8 cl, .int .u8 st, .int .i64 wh] w fun e w' => e = .returned (.bool true) ∧ Ext w w' := by
  have HWH := Lib.hid (fun V => what_of p a b 5 V hp h0 h1 hw)
  rw [hcl, hst, hwh] at HWH
  have HE := Lib.hid (((((Ext.refl w).alloc (.cells #[.int .u8 (p.st : Int), .int .i64 p.ix, .int .i64 p.bx, .int .i64 p.yb, .int .i64 p.wh] 27)).alloc (.cells #[.int .u8 (a.st : Int), .int .i64 a.ix, .int .i64 a.bx, .int .i64 a.yb, .int .u8 (a.e.k : Int), .int .i64 a.e.cl, .int .i64 a.e.sq, .int .u8 (a.e.ok : Int), .string a.e.key, .string a.e.old, .string a.e.val] 33)).alloc (.cells #[.int .u8 (b.st : Int), .int .i64 b.ix, .int .i64 b.bx, .int .i64 b.yb, .int .u8 (b.e.k : Int), .int .i64 b.e.cl, .int .i64 b.e.sq, .int .u8 (b.e.ok : Int), .string b.e.key, .string b.e.old, .string b.e.val] 33)))
  clear hp h0 h1 hw hcl hst hwh
  go_enter Try.func12, Try.ntmps12
  go_wp2_with fail
  refine (HWH.out _).mono ?_
  rintro e w1 ⟨rfl, hx⟩
  have HX := Lib.hid ((HE.out.trans hx).alloc (.cells #[.int .i64 5, .int .u8 st, .int .i64 (repX p a b 5), .int .i64 (repY p a b 5), .int .u8 ((repE p a b 5).k : Int), .int .i64 (repE p a b 5).cl, .int .i64 (repE p a b 5).sq, .int .u8 ((repE p a b 5).ok : Int), .string (repE p a b 5).key, .string (repE p a b 5).old, .string (repE p a b 5).val] 37))
  clear hx
  go_upto_region 2 with (fail)
  have i0 := cell_of_row _ _ 0 _ _ _ (heap_alloc_new w1 (.cells #[.int .i64 5, .int .u8 st, .int .i64 (repX p a b 5), .int .i64 (repY p a b 5), .int .u8 ((repE p a b 5).k : Int), .int .i64 (repE p a b 5).cl, .int .i64 (repE p a b 5).sq, .int .u8 ((repE p a b 5).ok : Int), .string (repE p a b 5).key, .string (repE p a b 5).old, .string (repE p a b 5).val] 37))
  have i1 := cell_of_row _ _ 1 _ _ _ (heap_alloc_new w1 (.cells #[.int .i64 5, .int .u8 st, .int .i64 (repX p a b 5), .int .i64 (repY p a b 5), .int .u8 ((repE p a b 5).k : Int), .int .i64 (repE p a b 5).cl, .int .i64 (repE p a b 5).sq, .int .u8 ((repE p a b 5).ok : Int), .string (repE p a b 5).key, .string (repE p a b 5).old, .string (repE p a b 5).val] 37))
  generalize (w1.alloc (.cells #[.int .i64 5, .int .u8 st, .int .i64 (repX p a b 5), .int .i64 (repY p a b 5), .int .u8 ((repE p a b 5).k : Int), .int .i64 (repE p a b 5).cl, .int .i64 (repE p a b 5).sq, .int .u8 ((repE p a b 5).ok : Int), .string (repE p a b 5).key, .string (repE p a b 5).old, .string (repE p a b 5).val] 37)) = w2 at *
  generalize w1.heap.size = gr at *
  go_wp2_with fail
  go_ret
  exact ⟨rfl, HX.out⟩
end Go.Proofs.Ytejejadbemkifaa
