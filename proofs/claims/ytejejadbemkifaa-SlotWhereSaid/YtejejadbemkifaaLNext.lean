/-
  Over which frame the next put of a slot goes.
-/
import Derived.Test.YtejejadbemkifaaLWhat
namespace Go.Proofs.Ytejejadbemkifaa
open Go Go.RowKit

theorem next_pre (w : World) (p : Rec) (f0 f1 : Cop) : RecAt ((w.alloc (.cells #[.int .u8 (p.st : Int), .int .i64 p.ix, .int .i64 p.bx, .int .i64 p.yb, .int .i64 p.wh] 27)).alloc (.cells #[.int .u8 (f0.st : Int), .int .i64 f0.ix, .int .i64 f0.bx, .int .i64 f0.yb, .int .u8 (f0.e.k : Int), .int .i64 f0.e.cl, .int .i64 f0.e.sq, .int .u8 (f0.e.ok : Int), .string f0.e.key, .string f0.e.old, .string f0.e.val, .int .u8 (f1.st : Int), .int .i64 f1.ix, .int .i64 f1.bx, .int .i64 f1.yb, .int .u8 (f1.e.k : Int), .int .i64 f1.e.cl, .int .i64 f1.e.sq, .int .u8 (f1.e.ok : Int), .string f1.e.key, .string f1.e.old, .string f1.e.val] 34)) w.heap.size p ∧ Two ((w.alloc (.cells #[.int .u8 (p.st : Int), .int .i64 p.ix, .int .i64 p.bx, .int .i64 p.yb, .int .i64 p.wh] 27)).alloc (.cells #[.int .u8 (f0.st : Int), .int .i64 f0.ix, .int .i64 f0.bx, .int .i64 f0.yb, .int .u8 (f0.e.k : Int), .int .i64 f0.e.cl, .int .i64 f0.e.sq, .int .u8 (f0.e.ok : Int), .string f0.e.key, .string f0.e.old, .string f0.e.val, .int .u8 (f1.st : Int), .int .i64 f1.ix, .int .i64 f1.bx, .int .i64 f1.yb, .int .u8 (f1.e.k : Int), .int .i64 f1.e.cl, .int .i64 f1.e.sq, .int .u8 (f1.e.ok : Int), .string f1.e.key, .string f1.e.old, .string f1.e.val] 34)) (w.heap.size + 1) f0 f1 ∧ Ext w ((w.alloc (.cells #[.int .u8 (p.st : Int), .int .i64 p.ix, .int .i64 p.bx, .int .i64 p.yb, .int .i64 p.wh] 27)).alloc (.cells #[.int .u8 (f0.st : Int), .int .i64 f0.ix, .int .i64 f0.bx, .int .i64 f0.yb, .int .u8 (f0.e.k : Int), .int .i64 f0.e.cl, .int .i64 f0.e.sq, .int .u8 (f0.e.ok : Int), .string f0.e.key, .string f0.e.old, .string f0.e.val, .int .u8 (f1.st : Int), .int .i64 f1.ix, .int .i64 f1.bx, .int .i64 f1.yb, .int .u8 (f1.e.k : Int), .int .i64 f1.e.cl, .int .i64 f1.e.sq, .int .u8 (f1.e.ok : Int), .string f1.e.key, .string f1.e.old, .string f1.e.val] 34)) := by
  refine ⟨(RecAt.new w p).ext ((Ext.refl _).alloc _), ?_, ((Ext.refl w).alloc _).alloc _⟩
  have h := Two.new (w.alloc (.cells #[.int .u8 (p.st : Int), .int .i64 p.ix, .int .i64 p.bx, .int .i64 p.yb, .int .i64 p.wh] 27)) f0 f1
  rw [World.size_alloc] at h
  exact h

set_option maxRecDepth 100000 in
set_option maxHeartbeats 400000 in
theorem next_0 (p : Rec) (f0 f1 : Cop) (i : Int) (w : World) (hp : p.st ≤ 2) (h0 : f0.st ≤ 2) (h1 : f1.st ≤ 2) (hw : p.wh = 0 ∨ p.wh = 1) (hk : whereL p f0 f1 i = 0) :
    Calls Try.prog 11 #[.agg #[.int .u8 (p.st : Int), .int .i64 p.ix, .int .i64 p.bx, .int .i64 p.yb, .int .i64 p.wh], .agg #[.int .u8 (f0.st : Int), .int .i64 f0.ix, .int .i64 f0.bx, .int .i64 f0.yb, .int .u8 (f0.e.k : Int), .int .i64 f0.e.cl, .int .i64 f0.e.sq, .int .u8 (f0.e.ok : Int), .string f0.e.key, .string f0.e.old, .string f0.e.val, .int .u8 (f1.st : Int), .int .i64 f1.ix, .int .i64 f1.bx, .int .i64 f1.yb, .int .u8 (f1.e.k : Int), .int .i64 f1.e.cl, .int .i64 f1.e.sq, .int .u8 (f1.e.ok : Int), .string f1.e.key, .string f1.e.old, .string f1.e.val], .int .i64 i] w fun e w' => e = .returned (.int .i64 1) ∧ Ext w w' := by
  have HWH := Lib.hid (fun V => what_of p f0 f1 i V hp h0 h1 hw)
  have HP := Lib.hid (next_pre w p f0 f1)
  have HNA := Lib.hid (named_of p hw)
  have HO := Lib.hid other_of
  rw [hk] at HWH
  clear hp h0 h1 hw hk
  go_enter Try.func11, Try.ntmps11
  go_upto_region 1 with (fail)
  generalize ((w.alloc (.cells #[.int .u8 (p.st : Int), .int .i64 p.ix, .int .i64 p.bx, .int .i64 p.yb, .int .i64 p.wh] 27)).alloc (.cells #[.int .u8 (f0.st : Int), .int .i64 f0.ix, .int .i64 f0.bx, .int .i64 f0.yb, .int .u8 (f0.e.k : Int), .int .i64 f0.e.cl, .int .i64 f0.e.sq, .int .u8 (f0.e.ok : Int), .string f0.e.key, .string f0.e.old, .string f0.e.val, .int .u8 (f1.st : Int), .int .i64 f1.ix, .int .i64 f1.bx, .int .i64 f1.yb, .int .u8 (f1.e.k : Int), .int .i64 f1.e.cl, .int .i64 f1.e.sq, .int .u8 (f1.e.ok : Int), .string f1.e.key, .string f1.e.old, .string f1.e.val] 34)) = W at *
  generalize w.heap.size + 1 = g1 at *
  generalize hg : w.heap.size = g at *
  have HG := Lib.hid hg
  clear hg
  have c0 := cell_of_row W g 0 _ _ _ (HP.out.1)
  have c1 := cell_of_row W g 1 _ _ _ (HP.out.1)
  have c2 := cell_of_row W g 2 _ _ _ (HP.out.1)
  have c3 := cell_of_row W g 3 _ _ _ (HP.out.1)
  have c4 := cell_of_row W g 4 _ _ _ (HP.out.1)
  obtain ⟨N, hN, hsz⟩ := size_two
  have hld := load_two hN HP.out.2.1
  have HNN := Lib.hid hN
  clear hN
  go_wp2_with fail
  refine (HWH.out W).mono ?_
  rintro e w1 ⟨rfl, hx⟩
  have HX := Lib.hid (((HP.out.2.2.trans hx).alloc (.cells #[.int .i64 i, .int .u8 (stateL p f0 f1 i : Nat), .int .i64 (repX p f0 f1 i), .int .i64 (repY p f0 f1 i), .int .u8 ((repE p f0 f1 i).k : Int), .int .i64 (repE p f0 f1 i).cl, .int .i64 (repE p f0 f1 i).sq, .int .u8 ((repE p f0 f1 i).ok : Int), .string (repE p f0 f1 i).key, .string (repE p f0 f1 i).old, .string (repE p f0 f1 i).val] 37)))
  have HR := Lib.hid ((HP.out.1.ext hx).ext ((Ext.refl w1).alloc (.cells #[.int .i64 i, .int .u8 (stateL p f0 f1 i : Nat), .int .i64 (repX p f0 f1 i), .int .i64 (repY p f0 f1 i), .int .u8 ((repE p f0 f1 i).k : Int), .int .i64 (repE p f0 f1 i).cl, .int .i64 (repE p f0 f1 i).sq, .int .u8 ((repE p f0 f1 i).ok : Int), .string (repE p f0 f1 i).key, .string (repE p f0 f1 i).old, .string (repE p f0 f1 i).val] 37)))
  clear hx hsz hld HNN c0 c1 c2 c3 c4
  go_upto_region 2 with (fail)
  generalize (w1.alloc (.cells #[.int .i64 i, .int .u8 (stateL p f0 f1 i : Nat), .int .i64 (repX p f0 f1 i), .int .i64 (repY p f0 f1 i), .int .u8 ((repE p f0 f1 i).k : Int), .int .i64 (repE p f0 f1 i).cl, .int .i64 (repE p f0 f1 i).sq, .int .u8 ((repE p f0 f1 i).ok : Int), .string (repE p f0 f1 i).key, .string (repE p f0 f1 i).old, .string (repE p f0 f1 i).val] 37)) = w2 at *
  go_wp2_with fail
  refine (HO.out _ (by simp) _).mono ?_
  rintro e w3 ⟨rfl, rfl⟩
  go_wp2_with fail
  go_ret
  exact ⟨rfl, HX.out⟩

set_option maxRecDepth 100000 in
set_option maxHeartbeats 400000 in
theorem next_1 (p : Rec) (f0 f1 : Cop) (i : Int) (w : World) (hp : p.st ≤ 2) (h0 : f0.st ≤ 2) (h1 : f1.st ≤ 2) (hw : p.wh = 0 ∨ p.wh = 1) (hk : whereL p f0 f1 i = 1) :
    Calls Try.prog 11 #[.agg #[.int .u8 (p.st : Int), .int .i64 p.ix, .int .i64 p.bx, .int .i64 p.yb, .int .i64 p.wh], .agg #[.int .u8 (f0.st : Int), .int .i64 f0.ix, .int .i64 f0.bx, .int .i64 f0.yb, .int .u8 (f0.e.k : Int), .int .i64 f0.e.cl, .int .i64 f0.e.sq, .int .u8 (f0.e.ok : Int), .string f0.e.key, .string f0.e.old, .string f0.e.val, .int .u8 (f1.st : Int), .int .i64 f1.ix, .int .i64 f1.bx, .int .i64 f1.yb, .int .u8 (f1.e.k : Int), .int .i64 f1.e.cl, .int .i64 f1.e.sq, .int .u8 (f1.e.ok : Int), .string f1.e.key, .string f1.e.old, .string f1.e.val], .int .i64 i] w fun e w' => e = .returned (.int .i64 0) ∧ Ext w w' := by
  have HWH := Lib.hid (fun V => what_of p f0 f1 i V hp h0 h1 hw)
  have HP := Lib.hid (next_pre w p f0 f1)
  have HNA := Lib.hid (named_of p hw)
  have HO := Lib.hid other_of
  rw [hk] at HWH
  clear hp h0 h1 hw hk
  go_enter Try.func11, Try.ntmps11
  go_upto_region 1 with (fail)
  generalize ((w.alloc (.cells #[.int .u8 (p.st : Int), .int .i64 p.ix, .int .i64 p.bx, .int .i64 p.yb, .int .i64 p.wh] 27)).alloc (.cells #[.int .u8 (f0.st : Int), .int .i64 f0.ix, .int .i64 f0.bx, .int .i64 f0.yb, .int .u8 (f0.e.k : Int), .int .i64 f0.e.cl, .int .i64 f0.e.sq, .int .u8 (f0.e.ok : Int), .string f0.e.key, .string f0.e.old, .string f0.e.val, .int .u8 (f1.st : Int), .int .i64 f1.ix, .int .i64 f1.bx, .int .i64 f1.yb, .int .u8 (f1.e.k : Int), .int .i64 f1.e.cl, .int .i64 f1.e.sq, .int .u8 (f1.e.ok : Int), .string f1.e.key, .string f1.e.old, .string f1.e.val] 34)) = W at *
  generalize w.heap.size + 1 = g1 at *
  generalize hg : w.heap.size = g at *
  have HG := Lib.hid hg
  clear hg
  have c0 := cell_of_row W g 0 _ _ _ (HP.out.1)
  have c1 := cell_of_row W g 1 _ _ _ (HP.out.1)
  have c2 := cell_of_row W g 2 _ _ _ (HP.out.1)
  have c3 := cell_of_row W g 3 _ _ _ (HP.out.1)
  have c4 := cell_of_row W g 4 _ _ _ (HP.out.1)
  obtain ⟨N, hN, hsz⟩ := size_two
  have hld := load_two hN HP.out.2.1
  have HNN := Lib.hid hN
  clear hN
  go_wp2_with fail
  refine (HWH.out W).mono ?_
  rintro e w1 ⟨rfl, hx⟩
  have HX := Lib.hid (((HP.out.2.2.trans hx).alloc (.cells #[.int .i64 i, .int .u8 (stateL p f0 f1 i : Nat), .int .i64 (repX p f0 f1 i), .int .i64 (repY p f0 f1 i), .int .u8 ((repE p f0 f1 i).k : Int), .int .i64 (repE p f0 f1 i).cl, .int .i64 (repE p f0 f1 i).sq, .int .u8 ((repE p f0 f1 i).ok : Int), .string (repE p f0 f1 i).key, .string (repE p f0 f1 i).old, .string (repE p f0 f1 i).val] 37)))
  have HR := Lib.hid ((HP.out.1.ext hx).ext ((Ext.refl w1).alloc (.cells #[.int .i64 i, .int .u8 (stateL p f0 f1 i : Nat), .int .i64 (repX p f0 f1 i), .int .i64 (repY p f0 f1 i), .int .u8 ((repE p f0 f1 i).k : Int), .int .i64 (repE p f0 f1 i).cl, .int .i64 (repE p f0 f1 i).sq, .int .u8 ((repE p f0 f1 i).ok : Int), .string (repE p f0 f1 i).key, .string (repE p f0 f1 i).old, .string (repE p f0 f1 i).val] 37)))
  clear hx hsz hld HNN c0 c1 c2 c3 c4
  go_upto_region 2 with (fail)
  generalize (w1.alloc (.cells #[.int .i64 i, .int .u8 (stateL p f0 f1 i : Nat), .int .i64 (repX p f0 f1 i), .int .i64 (repY p f0 f1 i), .int .u8 ((repE p f0 f1 i).k : Int), .int .i64 (repE p f0 f1 i).cl, .int .i64 (repE p f0 f1 i).sq, .int .u8 ((repE p f0 f1 i).ok : Int), .string (repE p f0 f1 i).key, .string (repE p f0 f1 i).old, .string (repE p f0 f1 i).val] 37)) = w2 at *
  go_wp2_with fail
  refine (HO.out _ (by simp) _).mono ?_
  rintro e w3 ⟨rfl, rfl⟩
  go_wp2_with fail
  go_ret
  exact ⟨rfl, HX.out⟩

set_option maxRecDepth 100000 in
set_option maxHeartbeats 400000 in
theorem next_n0 (p : Rec) (f0 f1 : Cop) (i : Int) (w : World) (hp : p.st ≤ 2) (h0 : f0.st ≤ 2) (h1 : f1.st ≤ 2) (hw : p.wh = 0 ∨ p.wh = 1) (hk : whereL p f0 f1 i = -1) (hn : namedL p = 0):
    Calls Try.prog 11 #[.agg #[.int .u8 (p.st : Int), .int .i64 p.ix, .int .i64 p.bx, .int .i64 p.yb, .int .i64 p.wh], .agg #[.int .u8 (f0.st : Int), .int .i64 f0.ix, .int .i64 f0.bx, .int .i64 f0.yb, .int .u8 (f0.e.k : Int), .int .i64 f0.e.cl, .int .i64 f0.e.sq, .int .u8 (f0.e.ok : Int), .string f0.e.key, .string f0.e.old, .string f0.e.val, .int .u8 (f1.st : Int), .int .i64 f1.ix, .int .i64 f1.bx, .int .i64 f1.yb, .int .u8 (f1.e.k : Int), .int .i64 f1.e.cl, .int .i64 f1.e.sq, .int .u8 (f1.e.ok : Int), .string f1.e.key, .string f1.e.old, .string f1.e.val], .int .i64 i] w fun e w' => e = .returned (.int .i64 1) ∧ Ext w w' := by
  have HWH := Lib.hid (fun V => what_of p f0 f1 i V hp h0 h1 hw)
  have HP := Lib.hid (next_pre w p f0 f1)
  have HNA := Lib.hid (named_of p hw)
  have HO := Lib.hid other_of
  rw [hk] at HWH
  rw [hn] at HNA
  clear hp h0 h1 hw hk hn
  go_enter Try.func11, Try.ntmps11
  go_upto_region 1 with (fail)
  generalize ((w.alloc (.cells #[.int .u8 (p.st : Int), .int .i64 p.ix, .int .i64 p.bx, .int .i64 p.yb, .int .i64 p.wh] 27)).alloc (.cells #[.int .u8 (f0.st : Int), .int .i64 f0.ix, .int .i64 f0.bx, .int .i64 f0.yb, .int .u8 (f0.e.k : Int), .int .i64 f0.e.cl, .int .i64 f0.e.sq, .int .u8 (f0.e.ok : Int), .string f0.e.key, .string f0.e.old, .string f0.e.val, .int .u8 (f1.st : Int), .int .i64 f1.ix, .int .i64 f1.bx, .int .i64 f1.yb, .int .u8 (f1.e.k : Int), .int .i64 f1.e.cl, .int .i64 f1.e.sq, .int .u8 (f1.e.ok : Int), .string f1.e.key, .string f1.e.old, .string f1.e.val] 34)) = W at *
  generalize w.heap.size + 1 = g1 at *
  generalize hg : w.heap.size = g at *
  have HG := Lib.hid hg
  clear hg
  have c0 := cell_of_row W g 0 _ _ _ (HP.out.1)
  have c1 := cell_of_row W g 1 _ _ _ (HP.out.1)
  have c2 := cell_of_row W g 2 _ _ _ (HP.out.1)
  have c3 := cell_of_row W g 3 _ _ _ (HP.out.1)
  have c4 := cell_of_row W g 4 _ _ _ (HP.out.1)
  obtain ⟨N, hN, hsz⟩ := size_two
  have hld := load_two hN HP.out.2.1
  have HNN := Lib.hid hN
  clear hN
  go_wp2_with fail
  refine (HWH.out W).mono ?_
  rintro e w1 ⟨rfl, hx⟩
  have HX := Lib.hid (((HP.out.2.2.trans hx).alloc (.cells #[.int .i64 i, .int .u8 (stateL p f0 f1 i : Nat), .int .i64 (repX p f0 f1 i), .int .i64 (repY p f0 f1 i), .int .u8 ((repE p f0 f1 i).k : Int), .int .i64 (repE p f0 f1 i).cl, .int .i64 (repE p f0 f1 i).sq, .int .u8 ((repE p f0 f1 i).ok : Int), .string (repE p f0 f1 i).key, .string (repE p f0 f1 i).old, .string (repE p f0 f1 i).val] 37)))
  have HR := Lib.hid ((HP.out.1.ext hx).ext ((Ext.refl w1).alloc (.cells #[.int .i64 i, .int .u8 (stateL p f0 f1 i : Nat), .int .i64 (repX p f0 f1 i), .int .i64 (repY p f0 f1 i), .int .u8 ((repE p f0 f1 i).k : Int), .int .i64 (repE p f0 f1 i).cl, .int .i64 (repE p f0 f1 i).sq, .int .u8 ((repE p f0 f1 i).ok : Int), .string (repE p f0 f1 i).key, .string (repE p f0 f1 i).old, .string (repE p f0 f1 i).val] 37)))
  clear hx hsz hld HNN c0 c1 c2 c3 c4
  go_upto_region 2 with (fail)
  generalize (w1.alloc (.cells #[.int .i64 i, .int .u8 (stateL p f0 f1 i : Nat), .int .i64 (repX p f0 f1 i), .int .i64 (repY p f0 f1 i), .int .u8 ((repE p f0 f1 i).k : Int), .int .i64 (repE p f0 f1 i).cl, .int .i64 (repE p f0 f1 i).sq, .int .u8 ((repE p f0 f1 i).ok : Int), .string (repE p f0 f1 i).key, .string (repE p f0 f1 i).old, .string (repE p f0 f1 i).val] 37)) = w2 at *
  have c0 := cell_of_row w2 g 0 _ _ _ (HR.out)
  have c1 := cell_of_row w2 g 1 _ _ _ (HR.out)
  have c2 := cell_of_row w2 g 2 _ _ _ (HR.out)
  have c3 := cell_of_row w2 g 3 _ _ _ (HR.out)
  have c4 := cell_of_row w2 g 4 _ _ _ (HR.out)
  go_wp2_with fail
  refine (HNA.out _).mono ?_
  rintro e w3 ⟨rfl, hx⟩
  have HX := Lib.hid (HX.out.trans hx)
  clear hx
  go_wp2_with fail
  refine (HO.out _ (by simp) _).mono ?_
  rintro e w4 ⟨rfl, rfl⟩
  go_wp2_with fail
  go_ret
  exact ⟨rfl, HX.out⟩

set_option maxRecDepth 100000 in
set_option maxHeartbeats 400000 in
theorem next_n1 (p : Rec) (f0 f1 : Cop) (i : Int) (w : World) (hp : p.st ≤ 2) (h0 : f0.st ≤ 2) (h1 : f1.st ≤ 2) (hw : p.wh = 0 ∨ p.wh = 1) (hk : whereL p f0 f1 i = -1) (hn : namedL p = 1):
    Calls Try.prog 11 #[.agg #[.int .u8 (p.st : Int), .int .i64 p.ix, .int .i64 p.bx, .int .i64 p.yb, .int .i64 p.wh], .agg #[.int .u8 (f0.st : Int), .int .i64 f0.ix, .int .i64 f0.bx, .int .i64 f0.yb, .int .u8 (f0.e.k : Int), .int .i64 f0.e.cl, .int .i64 f0.e.sq, .int .u8 (f0.e.ok : Int), .string f0.e.key, .string f0.e.old, .string f0.e.val, .int .u8 (f1.st : Int), .int .i64 f1.ix, .int .i64 f1.bx, .int .i64 f1.yb, .int .u8 (f1.e.k : Int), .int .i64 f1.e.cl, .int .i64 f1.e.sq, .int .u8 (f1.e.ok : Int), .string f1.e.key, .string f1.e.old, .string f1.e.val], .int .i64 i] w fun e w' => e = .returned (.int .i64 0) ∧ Ext w w' := by
  have HWH := Lib.hid (fun V => what_of p f0 f1 i V hp h0 h1 hw)
  have HP := Lib.hid (next_pre w p f0 f1)
  have HNA := Lib.hid (named_of p hw)
  have HO := Lib.hid other_of
  rw [hk] at HWH
  rw [hn] at HNA
  clear hp h0 h1 hw hk hn
  go_enter Try.func11, Try.ntmps11
  go_upto_region 1 with (fail)
  generalize ((w.alloc (.cells #[.int .u8 (p.st : Int), .int .i64 p.ix, .int .i64 p.bx, .int .i64 p.yb, .int .i64 p.wh] 27)).alloc (.cells #[.int .u8 (f0.st : Int), .int .i64 f0.ix, .int .i64 f0.bx, .int .i64 f0.yb, .int .u8 (f0.e.k : Int), .int .i64 f0.e.cl, .int .i64 f0.e.sq, .int .u8 (f0.e.ok : Int), .string f0.e.key, .string f0.e.old, .string f0.e.val, .int .u8 (f1.st : Int), .int .i64 f1.ix, .int .i64 f1.bx, .int .i64 f1.yb, .int .u8 (f1.e.k : Int), .int .i64 f1.e.cl, .int .i64 f1.e.sq, .int .u8 (f1.e.ok : Int), .string f1.e.key, .string f1.e.old, .string f1.e.val] 34)) = W at *
  generalize w.heap.size + 1 = g1 at *
  generalize hg : w.heap.size = g at *
  have HG := Lib.hid hg
  clear hg
  have c0 := cell_of_row W g 0 _ _ _ (HP.out.1)
  have c1 := cell_of_row W g 1 _ _ _ (HP.out.1)
  have c2 := cell_of_row W g 2 _ _ _ (HP.out.1)
  have c3 := cell_of_row W g 3 _ _ _ (HP.out.1)
  have c4 := cell_of_row W g 4 _ _ _ (HP.out.1)
  obtain ⟨N, hN, hsz⟩ := size_two
  have hld := load_two hN HP.out.2.1
  have HNN := Lib.hid hN
  clear hN
  go_wp2_with fail
  refine (HWH.out W).mono ?_
  rintro e w1 ⟨rfl, hx⟩
  have HX := Lib.hid (((HP.out.2.2.trans hx).alloc (.cells #[.int .i64 i, .int .u8 (stateL p f0 f1 i : Nat), .int .i64 (repX p f0 f1 i), .int .i64 (repY p f0 f1 i), .int .u8 ((repE p f0 f1 i).k : Int), .int .i64 (repE p f0 f1 i).cl, .int .i64 (repE p f0 f1 i).sq, .int .u8 ((repE p f0 f1 i).ok : Int), .string (repE p f0 f1 i).key, .string (repE p f0 f1 i).old, .string (repE p f0 f1 i).val] 37)))
  have HR := Lib.hid ((HP.out.1.ext hx).ext ((Ext.refl w1).alloc (.cells #[.int .i64 i, .int .u8 (stateL p f0 f1 i : Nat), .int .i64 (repX p f0 f1 i), .int .i64 (repY p f0 f1 i), .int .u8 ((repE p f0 f1 i).k : Int), .int .i64 (repE p f0 f1 i).cl, .int .i64 (repE p f0 f1 i).sq, .int .u8 ((repE p f0 f1 i).ok : Int), .string (repE p f0 f1 i).key, .string (repE p f0 f1 i).old, .string (repE p f0 f1 i).val] 37)))
  clear hx hsz hld HNN c0 c1 c2 c3 c4
  go_upto_region 2 with (fail)
  generalize (w1.alloc (.cells #[.int .i64 i, .int .u8 (stateL p f0 f1 i : Nat), .int .i64 (repX p f0 f1 i), .int .i64 (repY p f0 f1 i), .int .u8 ((repE p f0 f1 i).k : Int), .int .i64 (repE p f0 f1 i).cl, .int .i64 (repE p f0 f1 i).sq, .int .u8 ((repE p f0 f1 i).ok : Int), .string (repE p f0 f1 i).key, .string (repE p f0 f1 i).old, .string (repE p f0 f1 i).val] 37)) = w2 at *
  have c0 := cell_of_row w2 g 0 _ _ _ (HR.out)
  have c1 := cell_of_row w2 g 1 _ _ _ (HR.out)
  have c2 := cell_of_row w2 g 2 _ _ _ (HR.out)
  have c3 := cell_of_row w2 g 3 _ _ _ (HR.out)
  have c4 := cell_of_row w2 g 4 _ _ _ (HR.out)
  go_wp2_with fail
  refine (HNA.out _).mono ?_
  rintro e w3 ⟨rfl, hx⟩
  have HX := Lib.hid (HX.out.trans hx)
  clear hx
  go_wp2_with fail
  refine (HO.out _ (by simp) _).mono ?_
  rintro e w4 ⟨rfl, rfl⟩
  go_wp2_with fail
  go_ret
  exact ⟨rfl, HX.out⟩

set_option maxRecDepth 100000 in
set_option maxHeartbeats 400000 in
theorem next_nn (p : Rec) (f0 f1 : Cop) (i : Int) (w : World) (hp : p.st ≤ 2) (h0 : f0.st ≤ 2) (h1 : f1.st ≤ 2) (hw : p.wh = 0 ∨ p.wh = 1) (hk : whereL p f0 f1 i = -1) (hn : namedL p = -1):
    Calls Try.prog 11 #[.agg #[.int .u8 (p.st : Int), .int .i64 p.ix, .int .i64 p.bx, .int .i64 p.yb, .int .i64 p.wh], .agg #[.int .u8 (f0.st : Int), .int .i64 f0.ix, .int .i64 f0.bx, .int .i64 f0.yb, .int .u8 (f0.e.k : Int), .int .i64 f0.e.cl, .int .i64 f0.e.sq, .int .u8 (f0.e.ok : Int), .string f0.e.key, .string f0.e.old, .string f0.e.val, .int .u8 (f1.st : Int), .int .i64 f1.ix, .int .i64 f1.bx, .int .i64 f1.yb, .int .u8 (f1.e.k : Int), .int .i64 f1.e.cl, .int .i64 f1.e.sq, .int .u8 (f1.e.ok : Int), .string f1.e.key, .string f1.e.old, .string f1.e.val], .int .i64 i] w fun e w' => e = .returned (.int .i64 0) ∧ Ext w w' := by
  have HWH := Lib.hid (fun V => what_of p f0 f1 i V hp h0 h1 hw)
  have HP := Lib.hid (next_pre w p f0 f1)
  have HNA := Lib.hid (named_of p hw)
  have HO := Lib.hid other_of
  rw [hk] at HWH
  rw [hn] at HNA
  clear hp h0 h1 hw hk hn
  go_enter Try.func11, Try.ntmps11
  go_upto_region 1 with (fail)
  generalize ((w.alloc (.cells #[.int .u8 (p.st : Int), .int .i64 p.ix, .int .i64 p.bx, .int .i64 p.yb, .int .i64 p.wh] 27)).alloc (.cells #[.int .u8 (f0.st : Int), .int .i64 f0.ix, .int .i64 f0.bx, .int .i64 f0.yb, .int .u8 (f0.e.k : Int), .int .i64 f0.e.cl, .int .i64 f0.e.sq, .int .u8 (f0.e.ok : Int), .string f0.e.key, .string f0.e.old, .string f0.e.val, .int .u8 (f1.st : Int), .int .i64 f1.ix, .int .i64 f1.bx, .int .i64 f1.yb, .int .u8 (f1.e.k : Int), .int .i64 f1.e.cl, .int .i64 f1.e.sq, .int .u8 (f1.e.ok : Int), .string f1.e.key, .string f1.e.old, .string f1.e.val] 34)) = W at *
  generalize w.heap.size + 1 = g1 at *
  generalize hg : w.heap.size = g at *
  have HG := Lib.hid hg
  clear hg
  have c0 := cell_of_row W g 0 _ _ _ (HP.out.1)
  have c1 := cell_of_row W g 1 _ _ _ (HP.out.1)
  have c2 := cell_of_row W g 2 _ _ _ (HP.out.1)
  have c3 := cell_of_row W g 3 _ _ _ (HP.out.1)
  have c4 := cell_of_row W g 4 _ _ _ (HP.out.1)
  obtain ⟨N, hN, hsz⟩ := size_two
  have hld := load_two hN HP.out.2.1
  have HNN := Lib.hid hN
  clear hN
  go_wp2_with fail
  refine (HWH.out W).mono ?_
  rintro e w1 ⟨rfl, hx⟩
  have HX := Lib.hid (((HP.out.2.2.trans hx).alloc (.cells #[.int .i64 i, .int .u8 (stateL p f0 f1 i : Nat), .int .i64 (repX p f0 f1 i), .int .i64 (repY p f0 f1 i), .int .u8 ((repE p f0 f1 i).k : Int), .int .i64 (repE p f0 f1 i).cl, .int .i64 (repE p f0 f1 i).sq, .int .u8 ((repE p f0 f1 i).ok : Int), .string (repE p f0 f1 i).key, .string (repE p f0 f1 i).old, .string (repE p f0 f1 i).val] 37)))
  have HR := Lib.hid ((HP.out.1.ext hx).ext ((Ext.refl w1).alloc (.cells #[.int .i64 i, .int .u8 (stateL p f0 f1 i : Nat), .int .i64 (repX p f0 f1 i), .int .i64 (repY p f0 f1 i), .int .u8 ((repE p f0 f1 i).k : Int), .int .i64 (repE p f0 f1 i).cl, .int .i64 (repE p f0 f1 i).sq, .int .u8 ((repE p f0 f1 i).ok : Int), .string (repE p f0 f1 i).key, .string (repE p f0 f1 i).old, .string (repE p f0 f1 i).val] 37)))
  clear hx hsz hld HNN c0 c1 c2 c3 c4
  go_upto_region 2 with (fail)
  generalize (w1.alloc (.cells #[.int .i64 i, .int .u8 (stateL p f0 f1 i : Nat), .int .i64 (repX p f0 f1 i), .int .i64 (repY p f0 f1 i), .int .u8 ((repE p f0 f1 i).k : Int), .int .i64 (repE p f0 f1 i).cl, .int .i64 (repE p f0 f1 i).sq, .int .u8 ((repE p f0 f1 i).ok : Int), .string (repE p f0 f1 i).key, .string (repE p f0 f1 i).old, .string (repE p f0 f1 i).val] 37)) = w2 at *
  have c0 := cell_of_row w2 g 0 _ _ _ (HR.out)
  have c1 := cell_of_row w2 g 1 _ _ _ (HR.out)
  have c2 := cell_of_row w2 g 2 _ _ _ (HR.out)
  have c3 := cell_of_row w2 g 3 _ _ _ (HR.out)
  have c4 := cell_of_row w2 g 4 _ _ _ (HR.out)
  go_wp2_with fail
  refine (HNA.out _).mono ?_
  rintro e w3 ⟨rfl, hx⟩
  have HX := Lib.hid (HX.out.trans hx)
  clear hx
  go_wp2_with fail
  go_ret
  exact ⟨rfl, HX.out⟩

theorem next_of (p : Rec) (f0 f1 : Cop) (i : Int) (w : World) (hp : p.st ≤ 2) (h0 : f0.st ≤ 2) (h1 : f1.st ≤ 2) (hw : p.wh = 0 ∨ p.wh = 1) :
    Calls Try.prog 11 #[.agg #[.int .u8 (p.st : Int), .int .i64 p.ix, .int .i64 p.bx, .int .i64 p.yb, .int .i64 p.wh], .agg #[.int .u8 (f0.st : Int), .int .i64 f0.ix, .int .i64 f0.bx, .int .i64 f0.yb, .int .u8 (f0.e.k : Int), .int .i64 f0.e.cl, .int .i64 f0.e.sq, .int .u8 (f0.e.ok : Int), .string f0.e.key, .string f0.e.old, .string f0.e.val, .int .u8 (f1.st : Int), .int .i64 f1.ix, .int .i64 f1.bx, .int .i64 f1.yb, .int .u8 (f1.e.k : Int), .int .i64 f1.e.cl, .int .i64 f1.e.sq, .int .u8 (f1.e.ok : Int), .string f1.e.key, .string f1.e.old, .string f1.e.val], .int .i64 i] w fun e w' => e = .returned (.int .i64 (nextL p f0 f1 i)) ∧ Ext w w' := by
  rcases whereL_of (p := p) (f0 := f0) (f1 := f1) (i := i) with h | ⟨h, _⟩ | ⟨h, _⟩
  · by_cases hs : p.st = 1
    · have hn : namedL p = p.wh := if_pos hs
      rcases hw with hz | hz
      · rw [show nextL p f0 f1 i = 1 from by unfold nextL; rw [h, if_neg (by omega), if_pos ⟨hs, hz⟩]]
        exact next_n0 p f0 f1 i w hp h0 h1 (.inl hz) h (hn.trans hz)
      · rw [show nextL p f0 f1 i = 0 from by unfold nextL; rw [h, if_neg (by omega), if_neg (by omega)]]
        exact next_n1 p f0 f1 i w hp h0 h1 (.inr hz) h (hn.trans hz)
    · rw [show nextL p f0 f1 i = 0 from by unfold nextL; rw [h, if_neg (by omega), if_neg (by omega)]]
      exact next_nn p f0 f1 i w hp h0 h1 hw h (if_neg hs)
  · rw [show nextL p f0 f1 i = 1 from by unfold nextL; rw [h]; rfl]
    exact next_0 p f0 f1 i w hp h0 h1 hw h
  · rw [show nextL p f0 f1 i = 0 from by unfold nextL; rw [h]; rfl]
    exact next_1 p f0 f1 i w hp h0 h1 hw h
end Go.Proofs.Ytejejadbemkifaa
