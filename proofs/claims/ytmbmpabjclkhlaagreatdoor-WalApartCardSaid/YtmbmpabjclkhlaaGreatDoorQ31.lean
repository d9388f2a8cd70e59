/-
  Which rule applies: nothing but frames of the index, or none.
-/
import Derived.Test.YtmbmpabjclkhlaaGreatDoorQ00
import Derived.Test.YtmbmpabjclkhlaaGreatDoorQ22
namespace Go.Proofs.YtmbmpabjclkhlaaGreatDoor
set_option maxRecDepth 100000
section
open Go Go.RowKit
set_option maxHeartbeats 400000 in
theorem apply_torn (p : Rec) (f0 f1 : CopL) (i : Int) (w : World) (ho : isR p i = false) (hc : covB p f0 f1 i = false) (hp : badB p.st = false) (hb : hasB f0 f1 = true) :
    Calls Tryz.prog 220 #[.agg #[.int .u8 (p.st : Int), .int .i64 p.ix, .int .i64 p.bx, .int .i64 p.yb, .int .i64 p.wh], .agg #[.int .u8 (f0.st : Int), .int .i64 f0.ix, .int .i64 f0.bx, .int .i64 f0.yb, .int .u8 (f0.e.k : Int), .int .i64 f0.e.cl, .int .i64 f0.e.sq, .int .u8 (f0.e.ok : Int), .string f0.e.key, .string f0.e.old, .string f0.e.val, .int .u8 (f1.st : Int), .int .i64 f1.ix, .int .i64 f1.bx, .int .i64 f1.yb, .int .u8 (f1.e.k : Int), .int .i64 f1.e.cl, .int .i64 f1.e.sq, .int .u8 (f1.e.ok : Int), .string f1.e.key, .string f1.e.old, .string f1.e.val], .int .i64 i] w fun e w' => ∃ (F : Nat) (caps : Array Value), e = .returned (.agg #[.func (.func F) #[] caps, .int .i64 0, .int .u8 1, .int .i64 0, .int .u8 1, .int .i64 0, .int .i64 0, .int .u8 0, .int .i64 0, .int .i64 0, .int .u8 0, .string ⟨#[]⟩, .string ⟨#[]⟩, .string ⟨#[]⟩]) ∧ Ext w w' ∧ Enters Tryz.prog F ∧ ∀ c, Asks w' F caps c (isB c i) := by
  have hmf : ∀ (fn : Fn) (first cap : Array Value) (w : World), (Instr.makeFunc fn first cap).run Tryz.prog w = .ok (.func fn first cap) w := fun _ _ _ _ => rfl
  have HA := Lib.hid (ApS.make w p f0 f1 i)
  have HF := Lib.hid (isFor_of (p.st : Int) p.ix i)
  have HV := Lib.hid (isCovered_of p f0 f1 i)
  have HB := Lib.hid (isBadL_of (p.st : Int))
  have hqo : isR p i = false := ho
  unfold isR at hqo
  rw [hqo] at HF
  clear hqo ho
  rw [show covB p f0 f1 i = false from hc] at HV
  clear hc
  rw [show ((p.st : Int) != 0 && (p.st : Int) != 1) = false from hp] at HB
  clear hp
  go_enter Tryz.func220, Tryz.ntmps220
  go_upto_region 2 with (fail)
  generalize (((((w.alloc (.cells #[.int .u8 (p.st : Int), .int .i64 p.ix, .int .i64 p.bx, .int .i64 p.yb, .int .i64 p.wh] 147)).alloc (.cells #[.int .u8 (f0.st : Int), .int .i64 f0.ix, .int .i64 f0.bx, .int .i64 f0.yb, .int .u8 (f0.e.k : Int), .int .i64 f0.e.cl, .int .i64 f0.e.sq, .int .u8 (f0.e.ok : Int), .string f0.e.key, .string f0.e.old, .string f0.e.val, .int .u8 (f1.st : Int), .int .i64 f1.ix, .int .i64 f1.bx, .int .i64 f1.yb, .int .u8 (f1.e.k : Int), .int .i64 f1.e.cl, .int .i64 f1.e.sq, .int .u8 (f1.e.ok : Int), .string f1.e.key, .string f1.e.old, .string f1.e.val] 150)).alloc (.cells #[.int .i64 i] 3)).alloc (.cells #[.nilFunc, .int .i64 0, .int .u8 0, .int .i64 0, .int .u8 0, .int .i64 0, .int .i64 0, .int .u8 0, .int .i64 0, .int .i64 0, .int .u8 0, .string ⟨#[]⟩, .string ⟨#[]⟩, .string ⟨#[]⟩] 300)).alloc (.cells #[.func (.func 260) #[] #[.pointer (some ⟨w.heap.size + 1 + 1, 0, none⟩)]] 298)) = W at *
  generalize w.heap.size + 1 + 1 + 1 + 1 = g4 at *
  generalize w.heap.size + 1 + 1 + 1 = g3 at *
  generalize w.heap.size + 1 + 1 = g2 at *
  generalize w.heap.size + 1 = g1 at *
  generalize hg : w.heap.size = g at *
  have HG := Lib.hid hg
  clear hg
  have HC := Lib.hid (contains_of 263 #[] f0 f1 (badB f0.st) (badB f1.st) g1 2 W bad_go HA.out.two (fun V _ => isBad1_of f0 V) (fun V _ => isBad1_of f1 V))
  rw [show (badB f0.st || badB f1.st) = true from hb] at HC
  clear hb
  go_wp2_with fail
  refine HC.out.mono ?_
  rintro e w1 ⟨rfl, hx⟩
  have HA := Lib.hid (HA.out.mono hx)
  clear hx HC
  have c0 := cell_of_row w1 g 0 _ _ _ (HA.out.rec_)
  have c1 := cell_of_row w1 g 1 _ _ _ (HA.out.rec_)
  have c2 := cell_of_row w1 g 2 _ _ _ (HA.out.rec_)
  have c3 := cell_of_row w1 g 3 _ _ _ (HA.out.rec_)
  have c4 := cell_of_row w1 g 4 _ _ _ (HA.out.rec_)
  have d0 := cell_of_row w1 g1 0 _ _ _ (HA.out.two)
  have d1 := cell_of_row w1 g1 1 _ _ _ (HA.out.two)
  have d2 := cell_of_row w1 g1 2 _ _ _ (HA.out.two)
  have d3 := cell_of_row w1 g1 3 _ _ _ (HA.out.two)
  have d4 := cell_of_row w1 g1 4 _ _ _ (HA.out.two)
  have d5 := cell_of_row w1 g1 5 _ _ _ (HA.out.two)
  have d6 := cell_of_row w1 g1 6 _ _ _ (HA.out.two)
  have d7 := cell_of_row w1 g1 7 _ _ _ (HA.out.two)
  have d8 := cell_of_row w1 g1 8 _ _ _ (HA.out.two)
  have d9 := cell_of_row w1 g1 9 _ _ _ (HA.out.two)
  have d10 := cell_of_row w1 g1 10 _ _ _ (HA.out.two)
  have d11 := cell_of_row w1 g1 11 _ _ _ (HA.out.two)
  have d12 := cell_of_row w1 g1 12 _ _ _ (HA.out.two)
  have d13 := cell_of_row w1 g1 13 _ _ _ (HA.out.two)
  have d14 := cell_of_row w1 g1 14 _ _ _ (HA.out.two)
  have d15 := cell_of_row w1 g1 15 _ _ _ (HA.out.two)
  have d16 := cell_of_row w1 g1 16 _ _ _ (HA.out.two)
  have d17 := cell_of_row w1 g1 17 _ _ _ (HA.out.two)
  have d18 := cell_of_row w1 g1 18 _ _ _ (HA.out.two)
  have d19 := cell_of_row w1 g1 19 _ _ _ (HA.out.two)
  have d20 := cell_of_row w1 g1 20 _ _ _ (HA.out.two)
  have d21 := cell_of_row w1 g1 21 _ _ _ (HA.out.two)
  have k2 := cell_of_row w1 g2 0 _ _ _ HA.out.ix
  have k4 := cell_of_row w1 g4 0 _ _ _ HA.out.fn
  go_wp2_with fail
  refine (HF.out _).mono ?_
  rintro e w2 ⟨rfl, rfl⟩
  clear k4 d0 d1 d2 d3 d4 d5 d6 d7 d8 d9 d10 d11 d12 d13 d14 d15 d16 d17 d18 d19 d20 d21
  obtain ⟨N, hN, hsz⟩ := size_two
  have hld := load_two hN HA.out.two
  have HNN := Lib.hid hN
  clear hN
  go_wp2_with fail
  refine (HV.out _).mono ?_
  rintro e w3 ⟨rfl, hx⟩
  have HA := Lib.hid (HA.out.mono hx)
  clear hx HV c0 c1 c2 c3 c4 k2 hsz hld HNN
  have c0 := cell_of_row w3 g 0 _ _ _ HA.out.rec_
  have k4 := cell_of_row w3 g4 0 _ _ _ HA.out.fn
  go_wp2_with fail
  refine (HB.out _).mono ?_
  rintro e w4 ⟨rfl, rfl⟩
  have z0 := cell_of_row w4 g3 0 _ _ _ (HA.out.rule)
  have z1 := cell_of_row w4 g3 1 _ _ _ (HA.out.rule)
  have z2 := cell_of_row w4 g3 2 _ _ _ (HA.out.rule)
  have z3 := cell_of_row w4 g3 3 _ _ _ (HA.out.rule)
  have z4 := cell_of_row w4 g3 4 _ _ _ (HA.out.rule)
  have z5 := cell_of_row w4 g3 5 _ _ _ (HA.out.rule)
  have z6 := cell_of_row w4 g3 6 _ _ _ (HA.out.rule)
  have z7 := cell_of_row w4 g3 7 _ _ _ (HA.out.rule)
  have z8 := cell_of_row w4 g3 8 _ _ _ (HA.out.rule)
  have z9 := cell_of_row w4 g3 9 _ _ _ (HA.out.rule)
  have z10 := cell_of_row w4 g3 10 _ _ _ (HA.out.rule)
  have z11 := cell_of_row w4 g3 11 _ _ _ (HA.out.rule)
  have z12 := cell_of_row w4 g3 12 _ _ _ (HA.out.rule)
  have z13 := cell_of_row w4 g3 13 _ _ _ (HA.out.rule)
  have y0 := frozen_of_row w4 g3 0 _ _ (HA.out.rule)
  have y1 := frozen_of_row w4 g3 1 _ _ (HA.out.rule)
  have y2 := frozen_of_row w4 g3 2 _ _ (HA.out.rule)
  have y3 := frozen_of_row w4 g3 3 _ _ (HA.out.rule)
  have y4 := frozen_of_row w4 g3 4 _ _ (HA.out.rule)
  have y5 := frozen_of_row w4 g3 5 _ _ (HA.out.rule)
  have y6 := frozen_of_row w4 g3 6 _ _ (HA.out.rule)
  have y7 := frozen_of_row w4 g3 7 _ _ (HA.out.rule)
  have y8 := frozen_of_row w4 g3 8 _ _ (HA.out.rule)
  have y9 := frozen_of_row w4 g3 9 _ _ (HA.out.rule)
  have y10 := frozen_of_row w4 g3 10 _ _ (HA.out.rule)
  have y11 := frozen_of_row w4 g3 11 _ _ (HA.out.rule)
  have y12 := frozen_of_row w4 g3 12 _ _ (HA.out.rule)
  have y13 := frozen_of_row w4 g3 13 _ _ (HA.out.rule)
  have HRW : Hid ((((((((((((((((w4.setCell ⟨g3, 0, none⟩ (.func (.func 260) #[] #[.pointer (some ⟨g2, 0, none⟩)])).setCell ⟨g3, 1, none⟩ (.int .i64 0)).setCell ⟨g3, 2, none⟩ (.int .u8 1)).setCell ⟨g3, 3, none⟩ (.int .i64 0)).setCell ⟨g3, 4, none⟩ (.int .u8 1)).setCell ⟨g3, 5, none⟩ (.int .i64 0)).setCell ⟨g3, 6, none⟩ (.int .i64 0)).setCell ⟨g3, 7, none⟩ (.int .u8 0)).setCell ⟨g3, 8, none⟩ (.int .i64 0)).setCell ⟨g3, 9, none⟩ (.int .i64 0)).setCell ⟨g3, 10, none⟩ (.int .u8 0)).setCell ⟨g3, 11, none⟩ (.string ⟨#[]⟩)).setCell ⟨g3, 12, none⟩ (.string ⟨#[]⟩)).setCell ⟨g3, 13, none⟩ (.string ⟨#[]⟩))).heap[g3]? = some (.cells #[.func (.func 260) #[] #[.pointer (some ⟨g2, 0, none⟩)], .int .i64 0, .int .u8 1, .int .i64 0, .int .u8 1, .int .i64 0, .int .i64 0, .int .u8 0, .int .i64 0, .int .i64 0, .int .u8 0, .string ⟨#[]⟩, .string ⟨#[]⟩, .string ⟨#[]⟩] 300 (0, 0))) := Lib.hid (row14 HA.out.rule _ _ _ _ _ _ _ _ _ _ _ _ _ _)
  have HEW : Hid (Ext w (((((((((((((((w4.setCell ⟨g3, 0, none⟩ (.func (.func 260) #[] #[.pointer (some ⟨g2, 0, none⟩)])).setCell ⟨g3, 1, none⟩ (.int .i64 0)).setCell ⟨g3, 2, none⟩ (.int .u8 1)).setCell ⟨g3, 3, none⟩ (.int .i64 0)).setCell ⟨g3, 4, none⟩ (.int .u8 1)).setCell ⟨g3, 5, none⟩ (.int .i64 0)).setCell ⟨g3, 6, none⟩ (.int .i64 0)).setCell ⟨g3, 7, none⟩ (.int .u8 0)).setCell ⟨g3, 8, none⟩ (.int .i64 0)).setCell ⟨g3, 9, none⟩ (.int .i64 0)).setCell ⟨g3, 10, none⟩ (.int .u8 0)).setCell ⟨g3, 11, none⟩ (.string ⟨#[]⟩)).setCell ⟨g3, 12, none⟩ (.string ⟨#[]⟩)).setCell ⟨g3, 13, none⟩ (.string ⟨#[]⟩)))) := Lib.hid (ext14 HA.out.ext HA.out.ne.2.2.2 _ _ _ _ _ _ _ _ _ _ _ _ _ _)
  have HIX : Hid ((((((((((((((((w4.setCell ⟨g3, 0, none⟩ (.func (.func 260) #[] #[.pointer (some ⟨g2, 0, none⟩)])).setCell ⟨g3, 1, none⟩ (.int .i64 0)).setCell ⟨g3, 2, none⟩ (.int .u8 1)).setCell ⟨g3, 3, none⟩ (.int .i64 0)).setCell ⟨g3, 4, none⟩ (.int .u8 1)).setCell ⟨g3, 5, none⟩ (.int .i64 0)).setCell ⟨g3, 6, none⟩ (.int .i64 0)).setCell ⟨g3, 7, none⟩ (.int .u8 0)).setCell ⟨g3, 8, none⟩ (.int .i64 0)).setCell ⟨g3, 9, none⟩ (.int .i64 0)).setCell ⟨g3, 10, none⟩ (.int .u8 0)).setCell ⟨g3, 11, none⟩ (.string ⟨#[]⟩)).setCell ⟨g3, 12, none⟩ (.string ⟨#[]⟩)).setCell ⟨g3, 13, none⟩ (.string ⟨#[]⟩))).heap[g2]? = some (.cells #[.int .i64 i] 3 (0, 0))) := Lib.hid (off14 HA.out.ix HA.out.ne.2.1 _ _ _ _ _ _ _ _ _ _ _ _ _ _)
  have HFN : Hid ((((((((((((((((w4.setCell ⟨g3, 0, none⟩ (.func (.func 260) #[] #[.pointer (some ⟨g2, 0, none⟩)])).setCell ⟨g3, 1, none⟩ (.int .i64 0)).setCell ⟨g3, 2, none⟩ (.int .u8 1)).setCell ⟨g3, 3, none⟩ (.int .i64 0)).setCell ⟨g3, 4, none⟩ (.int .u8 1)).setCell ⟨g3, 5, none⟩ (.int .i64 0)).setCell ⟨g3, 6, none⟩ (.int .i64 0)).setCell ⟨g3, 7, none⟩ (.int .u8 0)).setCell ⟨g3, 8, none⟩ (.int .i64 0)).setCell ⟨g3, 9, none⟩ (.int .i64 0)).setCell ⟨g3, 10, none⟩ (.int .u8 0)).setCell ⟨g3, 11, none⟩ (.string ⟨#[]⟩)).setCell ⟨g3, 12, none⟩ (.string ⟨#[]⟩)).setCell ⟨g3, 13, none⟩ (.string ⟨#[]⟩))).heap[g4]? = some (.cells #[.func (.func 260) #[] #[.pointer (some ⟨g2, 0, none⟩)]] 298 (0, 0))) := Lib.hid (off14 HA.out.fn HA.out.ne.2.2.1 _ _ _ _ _ _ _ _ _ _ _ _ _ _)
  have HRC : Hid (RecAt (((((((((((((((w4.setCell ⟨g3, 0, none⟩ (.func (.func 260) #[] #[.pointer (some ⟨g2, 0, none⟩)])).setCell ⟨g3, 1, none⟩ (.int .i64 0)).setCell ⟨g3, 2, none⟩ (.int .u8 1)).setCell ⟨g3, 3, none⟩ (.int .i64 0)).setCell ⟨g3, 4, none⟩ (.int .u8 1)).setCell ⟨g3, 5, none⟩ (.int .i64 0)).setCell ⟨g3, 6, none⟩ (.int .i64 0)).setCell ⟨g3, 7, none⟩ (.int .u8 0)).setCell ⟨g3, 8, none⟩ (.int .i64 0)).setCell ⟨g3, 9, none⟩ (.int .i64 0)).setCell ⟨g3, 10, none⟩ (.int .u8 0)).setCell ⟨g3, 11, none⟩ (.string ⟨#[]⟩)).setCell ⟨g3, 12, none⟩ (.string ⟨#[]⟩)).setCell ⟨g3, 13, none⟩ (.string ⟨#[]⟩))) g p) := Lib.hid (off14 HA.out.rec_ HA.out.ne.1 _ _ _ _ _ _ _ _ _ _ _ _ _ _)
  go_wp2_with fail
  generalize ((((((((((((((w4.setCell ⟨g3, 0, none⟩ (.func (.func 260) #[] #[.pointer (some ⟨g2, 0, none⟩)])).setCell ⟨g3, 1, none⟩ (.int .i64 0)).setCell ⟨g3, 2, none⟩ (.int .u8 1)).setCell ⟨g3, 3, none⟩ (.int .i64 0)).setCell ⟨g3, 4, none⟩ (.int .u8 1)).setCell ⟨g3, 5, none⟩ (.int .i64 0)).setCell ⟨g3, 6, none⟩ (.int .i64 0)).setCell ⟨g3, 7, none⟩ (.int .u8 0)).setCell ⟨g3, 8, none⟩ (.int .i64 0)).setCell ⟨g3, 9, none⟩ (.int .i64 0)).setCell ⟨g3, 10, none⟩ (.int .u8 0)).setCell ⟨g3, 11, none⟩ (.string ⟨#[]⟩)).setCell ⟨g3, 12, none⟩ (.string ⟨#[]⟩)).setCell ⟨g3, 13, none⟩ (.string ⟨#[]⟩)) = V at *
  clear z0 z1 z2 z3 z4 z5 z6 z7 z8 z9 z10 z11 z12 z13 y0 y1 y2 y3 y4 y5 y6 y7 y8 y9 y10 y11 y12 y13
  have z0 := cell_of_row V g3 0 _ _ _ (HRW.out)
  have z1 := cell_of_row V g3 1 _ _ _ (HRW.out)
  have z2 := cell_of_row V g3 2 _ _ _ (HRW.out)
  have z3 := cell_of_row V g3 3 _ _ _ (HRW.out)
  have z4 := cell_of_row V g3 4 _ _ _ (HRW.out)
  have z5 := cell_of_row V g3 5 _ _ _ (HRW.out)
  have z6 := cell_of_row V g3 6 _ _ _ (HRW.out)
  have z7 := cell_of_row V g3 7 _ _ _ (HRW.out)
  have z8 := cell_of_row V g3 8 _ _ _ (HRW.out)
  have z9 := cell_of_row V g3 9 _ _ _ (HRW.out)
  have z10 := cell_of_row V g3 10 _ _ _ (HRW.out)
  have z11 := cell_of_row V g3 11 _ _ _ (HRW.out)
  have z12 := cell_of_row V g3 12 _ _ _ (HRW.out)
  have z13 := cell_of_row V g3 13 _ _ _ (HRW.out)
  refine bodyPost_ret (v := .agg #[.func (.func 260) #[] #[.pointer (some ⟨g2, 0, none⟩)], .int .i64 0, .int .u8 1, .int .i64 0, .int .u8 1, .int .i64 0, .int .i64 0, .int .u8 0, .int .i64 0, .int .i64 0, .int .u8 0, .string ⟨#[]⟩, .string ⟨#[]⟩, .string ⟨#[]⟩]) (by simp [results, Tryz.results220, go_sem, z0, z1, z2, z3, z4, z5, z6, z7, z8, z9, z10, z11, z12, z13]) rfl ⟨_, _, rfl, HEW.out, index_go, ?_⟩
  exact fun c V2 hv => isForIndex_of c g2 i V2 (cell_of_row _ _ 0 _ _ _ (keep_row hv HIX.out))
set_option maxHeartbeats 400000 in
theorem apply_absT (p : Rec) (f0 f1 : CopL) (i : Int) (w : World) (ho : isR p i = false) (hc : covB p f0 f1 i = false) (hp : badB p.st = true) (hb : hasB f0 f1 = false) :
    Calls Tryz.prog 220 #[.agg #[.int .u8 (p.st : Int), .int .i64 p.ix, .int .i64 p.bx, .int .i64 p.yb, .int .i64 p.wh], .agg #[.int .u8 (f0.st : Int), .int .i64 f0.ix, .int .i64 f0.bx, .int .i64 f0.yb, .int .u8 (f0.e.k : Int), .int .i64 f0.e.cl, .int .i64 f0.e.sq, .int .u8 (f0.e.ok : Int), .string f0.e.key, .string f0.e.old, .string f0.e.val, .int .u8 (f1.st : Int), .int .i64 f1.ix, .int .i64 f1.bx, .int .i64 f1.yb, .int .u8 (f1.e.k : Int), .int .i64 f1.e.cl, .int .i64 f1.e.sq, .int .u8 (f1.e.ok : Int), .string f1.e.key, .string f1.e.old, .string f1.e.val], .int .i64 i] w fun e w' => ∃ (F : Nat) (caps : Array Value), e = .returned (.agg #[.func (.func F) #[] caps, .int .i64 0, .int .u8 0, .int .i64 0, .int .u8 1, .int .i64 0, .int .i64 0, .int .u8 0, .int .i64 0, .int .i64 0, .int .u8 0, .string ⟨#[]⟩, .string ⟨#[]⟩, .string ⟨#[]⟩]) ∧ Ext w w' ∧ Enters Tryz.prog F ∧ ∀ c, Asks w' F caps c (isB c i) := by
  have hmf : ∀ (fn : Fn) (first cap : Array Value) (w : World), (Instr.makeFunc fn first cap).run Tryz.prog w = .ok (.func fn first cap) w := fun _ _ _ _ => rfl
  have HA := Lib.hid (ApS.make w p f0 f1 i)
  have HF := Lib.hid (isFor_of (p.st : Int) p.ix i)
  have HV := Lib.hid (isCovered_of p f0 f1 i)
  have HB := Lib.hid (isBadL_of (p.st : Int))
  have hqo : isR p i = false := ho
  unfold isR at hqo
  rw [hqo] at HF
  clear hqo ho
  rw [show covB p f0 f1 i = false from hc] at HV
  clear hc
  rw [show ((p.st : Int) != 0 && (p.st : Int) != 1) = true from hp] at HB
  clear hp
  go_enter Tryz.func220, Tryz.ntmps220
  go_upto_region 2 with (fail)
  generalize (((((w.alloc (.cells #[.int .u8 (p.st : Int), .int .i64 p.ix, .int .i64 p.bx, .int .i64 p.yb, .int .i64 p.wh] 147)).alloc (.cells #[.int .u8 (f0.st : Int), .int .i64 f0.ix, .int .i64 f0.bx, .int .i64 f0.yb, .int .u8 (f0.e.k : Int), .int .i64 f0.e.cl, .int .i64 f0.e.sq, .int .u8 (f0.e.ok : Int), .string f0.e.key, .string f0.e.old, .string f0.e.val, .int .u8 (f1.st : Int), .int .i64 f1.ix, .int .i64 f1.bx, .int .i64 f1.yb, .int .u8 (f1.e.k : Int), .int .i64 f1.e.cl, .int .i64 f1.e.sq, .int .u8 (f1.e.ok : Int), .string f1.e.key, .string f1.e.old, .string f1.e.val] 150)).alloc (.cells #[.int .i64 i] 3)).alloc (.cells #[.nilFunc, .int .i64 0, .int .u8 0, .int .i64 0, .int .u8 0, .int .i64 0, .int .i64 0, .int .u8 0, .int .i64 0, .int .i64 0, .int .u8 0, .string ⟨#[]⟩, .string ⟨#[]⟩, .string ⟨#[]⟩] 300)).alloc (.cells #[.func (.func 260) #[] #[.pointer (some ⟨w.heap.size + 1 + 1, 0, none⟩)]] 298)) = W at *
  generalize w.heap.size + 1 + 1 + 1 + 1 = g4 at *
  generalize w.heap.size + 1 + 1 + 1 = g3 at *
  generalize w.heap.size + 1 + 1 = g2 at *
  generalize w.heap.size + 1 = g1 at *
  generalize hg : w.heap.size = g at *
  have HG := Lib.hid hg
  clear hg
  have HC := Lib.hid (contains_of 263 #[] f0 f1 (badB f0.st) (badB f1.st) g1 2 W bad_go HA.out.two (fun V _ => isBad1_of f0 V) (fun V _ => isBad1_of f1 V))
  rw [show (badB f0.st || badB f1.st) = false from hb] at HC
  clear hb
  go_wp2_with fail
  refine HC.out.mono ?_
  rintro e w1 ⟨rfl, hx⟩
  have HA := Lib.hid (HA.out.mono hx)
  clear hx HC
  have c0 := cell_of_row w1 g 0 _ _ _ (HA.out.rec_)
  have c1 := cell_of_row w1 g 1 _ _ _ (HA.out.rec_)
  have c2 := cell_of_row w1 g 2 _ _ _ (HA.out.rec_)
  have c3 := cell_of_row w1 g 3 _ _ _ (HA.out.rec_)
  have c4 := cell_of_row w1 g 4 _ _ _ (HA.out.rec_)
  have d0 := cell_of_row w1 g1 0 _ _ _ (HA.out.two)
  have d1 := cell_of_row w1 g1 1 _ _ _ (HA.out.two)
  have d2 := cell_of_row w1 g1 2 _ _ _ (HA.out.two)
  have d3 := cell_of_row w1 g1 3 _ _ _ (HA.out.two)
  have d4 := cell_of_row w1 g1 4 _ _ _ (HA.out.two)
  have d5 := cell_of_row w1 g1 5 _ _ _ (HA.out.two)
  have d6 := cell_of_row w1 g1 6 _ _ _ (HA.out.two)
  have d7 := cell_of_row w1 g1 7 _ _ _ (HA.out.two)
  have d8 := cell_of_row w1 g1 8 _ _ _ (HA.out.two)
  have d9 := cell_of_row w1 g1 9 _ _ _ (HA.out.two)
  have d10 := cell_of_row w1 g1 10 _ _ _ (HA.out.two)
  have d11 := cell_of_row w1 g1 11 _ _ _ (HA.out.two)
  have d12 := cell_of_row w1 g1 12 _ _ _ (HA.out.two)
  have d13 := cell_of_row w1 g1 13 _ _ _ (HA.out.two)
  have d14 := cell_of_row w1 g1 14 _ _ _ (HA.out.two)
  have d15 := cell_of_row w1 g1 15 _ _ _ (HA.out.two)
  have d16 := cell_of_row w1 g1 16 _ _ _ (HA.out.two)
  have d17 := cell_of_row w1 g1 17 _ _ _ (HA.out.two)
  have d18 := cell_of_row w1 g1 18 _ _ _ (HA.out.two)
  have d19 := cell_of_row w1 g1 19 _ _ _ (HA.out.two)
  have d20 := cell_of_row w1 g1 20 _ _ _ (HA.out.two)
  have d21 := cell_of_row w1 g1 21 _ _ _ (HA.out.two)
  have k2 := cell_of_row w1 g2 0 _ _ _ HA.out.ix
  have k4 := cell_of_row w1 g4 0 _ _ _ HA.out.fn
  go_wp2_with fail
  refine (HF.out _).mono ?_
  rintro e w2 ⟨rfl, rfl⟩
  clear k4 d0 d1 d2 d3 d4 d5 d6 d7 d8 d9 d10 d11 d12 d13 d14 d15 d16 d17 d18 d19 d20 d21
  obtain ⟨N, hN, hsz⟩ := size_two
  have hld := load_two hN HA.out.two
  have HNN := Lib.hid hN
  clear hN
  go_wp2_with fail
  refine (HV.out _).mono ?_
  rintro e w3 ⟨rfl, hx⟩
  have HA := Lib.hid (HA.out.mono hx)
  clear hx HV c0 c1 c2 c3 c4 k2 hsz hld HNN
  have c0 := cell_of_row w3 g 0 _ _ _ HA.out.rec_
  have k4 := cell_of_row w3 g4 0 _ _ _ HA.out.fn
  go_wp2_with fail
  refine (HB.out _).mono ?_
  rintro e w4 ⟨rfl, rfl⟩
  have z0 := cell_of_row w4 g3 0 _ _ _ (HA.out.rule)
  have z1 := cell_of_row w4 g3 1 _ _ _ (HA.out.rule)
  have z2 := cell_of_row w4 g3 2 _ _ _ (HA.out.rule)
  have z3 := cell_of_row w4 g3 3 _ _ _ (HA.out.rule)
  have z4 := cell_of_row w4 g3 4 _ _ _ (HA.out.rule)
  have z5 := cell_of_row w4 g3 5 _ _ _ (HA.out.rule)
  have z6 := cell_of_row w4 g3 6 _ _ _ (HA.out.rule)
  have z7 := cell_of_row w4 g3 7 _ _ _ (HA.out.rule)
  have z8 := cell_of_row w4 g3 8 _ _ _ (HA.out.rule)
  have z9 := cell_of_row w4 g3 9 _ _ _ (HA.out.rule)
  have z10 := cell_of_row w4 g3 10 _ _ _ (HA.out.rule)
  have z11 := cell_of_row w4 g3 11 _ _ _ (HA.out.rule)
  have z12 := cell_of_row w4 g3 12 _ _ _ (HA.out.rule)
  have z13 := cell_of_row w4 g3 13 _ _ _ (HA.out.rule)
  have y0 := frozen_of_row w4 g3 0 _ _ (HA.out.rule)
  have y1 := frozen_of_row w4 g3 1 _ _ (HA.out.rule)
  have y2 := frozen_of_row w4 g3 2 _ _ (HA.out.rule)
  have y3 := frozen_of_row w4 g3 3 _ _ (HA.out.rule)
  have y4 := frozen_of_row w4 g3 4 _ _ (HA.out.rule)
  have y5 := frozen_of_row w4 g3 5 _ _ (HA.out.rule)
  have y6 := frozen_of_row w4 g3 6 _ _ (HA.out.rule)
  have y7 := frozen_of_row w4 g3 7 _ _ (HA.out.rule)
  have y8 := frozen_of_row w4 g3 8 _ _ (HA.out.rule)
  have y9 := frozen_of_row w4 g3 9 _ _ (HA.out.rule)
  have y10 := frozen_of_row w4 g3 10 _ _ (HA.out.rule)
  have y11 := frozen_of_row w4 g3 11 _ _ (HA.out.rule)
  have y12 := frozen_of_row w4 g3 12 _ _ (HA.out.rule)
  have y13 := frozen_of_row w4 g3 13 _ _ (HA.out.rule)
  have HRW : Hid ((((((((((((((((w4.setCell ⟨g3, 0, none⟩ (.func (.func 260) #[] #[.pointer (some ⟨g2, 0, none⟩)])).setCell ⟨g3, 1, none⟩ (.int .i64 0)).setCell ⟨g3, 2, none⟩ (.int .u8 0)).setCell ⟨g3, 3, none⟩ (.int .i64 0)).setCell ⟨g3, 4, none⟩ (.int .u8 1)).setCell ⟨g3, 5, none⟩ (.int .i64 0)).setCell ⟨g3, 6, none⟩ (.int .i64 0)).setCell ⟨g3, 7, none⟩ (.int .u8 0)).setCell ⟨g3, 8, none⟩ (.int .i64 0)).setCell ⟨g3, 9, none⟩ (.int .i64 0)).setCell ⟨g3, 10, none⟩ (.int .u8 0)).setCell ⟨g3, 11, none⟩ (.string ⟨#[]⟩)).setCell ⟨g3, 12, none⟩ (.string ⟨#[]⟩)).setCell ⟨g3, 13, none⟩ (.string ⟨#[]⟩))).heap[g3]? = some (.cells #[.func (.func 260) #[] #[.pointer (some ⟨g2, 0, none⟩)], .int .i64 0, .int .u8 0, .int .i64 0, .int .u8 1, .int .i64 0, .int .i64 0, .int .u8 0, .int .i64 0, .int .i64 0, .int .u8 0, .string ⟨#[]⟩, .string ⟨#[]⟩, .string ⟨#[]⟩] 300 (0, 0))) := Lib.hid (row14 HA.out.rule _ _ _ _ _ _ _ _ _ _ _ _ _ _)
  have HEW : Hid (Ext w (((((((((((((((w4.setCell ⟨g3, 0, none⟩ (.func (.func 260) #[] #[.pointer (some ⟨g2, 0, none⟩)])).setCell ⟨g3, 1, none⟩ (.int .i64 0)).setCell ⟨g3, 2, none⟩ (.int .u8 0)).setCell ⟨g3, 3, none⟩ (.int .i64 0)).setCell ⟨g3, 4, none⟩ (.int .u8 1)).setCell ⟨g3, 5, none⟩ (.int .i64 0)).setCell ⟨g3, 6, none⟩ (.int .i64 0)).setCell ⟨g3, 7, none⟩ (.int .u8 0)).setCell ⟨g3, 8, none⟩ (.int .i64 0)).setCell ⟨g3, 9, none⟩ (.int .i64 0)).setCell ⟨g3, 10, none⟩ (.int .u8 0)).setCell ⟨g3, 11, none⟩ (.string ⟨#[]⟩)).setCell ⟨g3, 12, none⟩ (.string ⟨#[]⟩)).setCell ⟨g3, 13, none⟩ (.string ⟨#[]⟩)))) := Lib.hid (ext14 HA.out.ext HA.out.ne.2.2.2 _ _ _ _ _ _ _ _ _ _ _ _ _ _)
  have HIX : Hid ((((((((((((((((w4.setCell ⟨g3, 0, none⟩ (.func (.func 260) #[] #[.pointer (some ⟨g2, 0, none⟩)])).setCell ⟨g3, 1, none⟩ (.int .i64 0)).setCell ⟨g3, 2, none⟩ (.int .u8 0)).setCell ⟨g3, 3, none⟩ (.int .i64 0)).setCell ⟨g3, 4, none⟩ (.int .u8 1)).setCell ⟨g3, 5, none⟩ (.int .i64 0)).setCell ⟨g3, 6, none⟩ (.int .i64 0)).setCell ⟨g3, 7, none⟩ (.int .u8 0)).setCell ⟨g3, 8, none⟩ (.int .i64 0)).setCell ⟨g3, 9, none⟩ (.int .i64 0)).setCell ⟨g3, 10, none⟩ (.int .u8 0)).setCell ⟨g3, 11, none⟩ (.string ⟨#[]⟩)).setCell ⟨g3, 12, none⟩ (.string ⟨#[]⟩)).setCell ⟨g3, 13, none⟩ (.string ⟨#[]⟩))).heap[g2]? = some (.cells #[.int .i64 i] 3 (0, 0))) := Lib.hid (off14 HA.out.ix HA.out.ne.2.1 _ _ _ _ _ _ _ _ _ _ _ _ _ _)
  have HFN : Hid ((((((((((((((((w4.setCell ⟨g3, 0, none⟩ (.func (.func 260) #[] #[.pointer (some ⟨g2, 0, none⟩)])).setCell ⟨g3, 1, none⟩ (.int .i64 0)).setCell ⟨g3, 2, none⟩ (.int .u8 0)).setCell ⟨g3, 3, none⟩ (.int .i64 0)).setCell ⟨g3, 4, none⟩ (.int .u8 1)).setCell ⟨g3, 5, none⟩ (.int .i64 0)).setCell ⟨g3, 6, none⟩ (.int .i64 0)).setCell ⟨g3, 7, none⟩ (.int .u8 0)).setCell ⟨g3, 8, none⟩ (.int .i64 0)).setCell ⟨g3, 9, none⟩ (.int .i64 0)).setCell ⟨g3, 10, none⟩ (.int .u8 0)).setCell ⟨g3, 11, none⟩ (.string ⟨#[]⟩)).setCell ⟨g3, 12, none⟩ (.string ⟨#[]⟩)).setCell ⟨g3, 13, none⟩ (.string ⟨#[]⟩))).heap[g4]? = some (.cells #[.func (.func 260) #[] #[.pointer (some ⟨g2, 0, none⟩)]] 298 (0, 0))) := Lib.hid (off14 HA.out.fn HA.out.ne.2.2.1 _ _ _ _ _ _ _ _ _ _ _ _ _ _)
  have HRC : Hid (RecAt (((((((((((((((w4.setCell ⟨g3, 0, none⟩ (.func (.func 260) #[] #[.pointer (some ⟨g2, 0, none⟩)])).setCell ⟨g3, 1, none⟩ (.int .i64 0)).setCell ⟨g3, 2, none⟩ (.int .u8 0)).setCell ⟨g3, 3, none⟩ (.int .i64 0)).setCell ⟨g3, 4, none⟩ (.int .u8 1)).setCell ⟨g3, 5, none⟩ (.int .i64 0)).setCell ⟨g3, 6, none⟩ (.int .i64 0)).setCell ⟨g3, 7, none⟩ (.int .u8 0)).setCell ⟨g3, 8, none⟩ (.int .i64 0)).setCell ⟨g3, 9, none⟩ (.int .i64 0)).setCell ⟨g3, 10, none⟩ (.int .u8 0)).setCell ⟨g3, 11, none⟩ (.string ⟨#[]⟩)).setCell ⟨g3, 12, none⟩ (.string ⟨#[]⟩)).setCell ⟨g3, 13, none⟩ (.string ⟨#[]⟩))) g p) := Lib.hid (off14 HA.out.rec_ HA.out.ne.1 _ _ _ _ _ _ _ _ _ _ _ _ _ _)
  go_wp2_with fail
  generalize ((((((((((((((w4.setCell ⟨g3, 0, none⟩ (.func (.func 260) #[] #[.pointer (some ⟨g2, 0, none⟩)])).setCell ⟨g3, 1, none⟩ (.int .i64 0)).setCell ⟨g3, 2, none⟩ (.int .u8 0)).setCell ⟨g3, 3, none⟩ (.int .i64 0)).setCell ⟨g3, 4, none⟩ (.int .u8 1)).setCell ⟨g3, 5, none⟩ (.int .i64 0)).setCell ⟨g3, 6, none⟩ (.int .i64 0)).setCell ⟨g3, 7, none⟩ (.int .u8 0)).setCell ⟨g3, 8, none⟩ (.int .i64 0)).setCell ⟨g3, 9, none⟩ (.int .i64 0)).setCell ⟨g3, 10, none⟩ (.int .u8 0)).setCell ⟨g3, 11, none⟩ (.string ⟨#[]⟩)).setCell ⟨g3, 12, none⟩ (.string ⟨#[]⟩)).setCell ⟨g3, 13, none⟩ (.string ⟨#[]⟩)) = V at *
  clear z0 z1 z2 z3 z4 z5 z6 z7 z8 z9 z10 z11 z12 z13 y0 y1 y2 y3 y4 y5 y6 y7 y8 y9 y10 y11 y12 y13
  have z0 := cell_of_row V g3 0 _ _ _ (HRW.out)
  have z1 := cell_of_row V g3 1 _ _ _ (HRW.out)
  have z2 := cell_of_row V g3 2 _ _ _ (HRW.out)
  have z3 := cell_of_row V g3 3 _ _ _ (HRW.out)
  have z4 := cell_of_row V g3 4 _ _ _ (HRW.out)
  have z5 := cell_of_row V g3 5 _ _ _ (HRW.out)
  have z6 := cell_of_row V g3 6 _ _ _ (HRW.out)
  have z7 := cell_of_row V g3 7 _ _ _ (HRW.out)
  have z8 := cell_of_row V g3 8 _ _ _ (HRW.out)
  have z9 := cell_of_row V g3 9 _ _ _ (HRW.out)
  have z10 := cell_of_row V g3 10 _ _ _ (HRW.out)
  have z11 := cell_of_row V g3 11 _ _ _ (HRW.out)
  have z12 := cell_of_row V g3 12 _ _ _ (HRW.out)
  have z13 := cell_of_row V g3 13 _ _ _ (HRW.out)
  refine bodyPost_ret (v := .agg #[.func (.func 260) #[] #[.pointer (some ⟨g2, 0, none⟩)], .int .i64 0, .int .u8 0, .int .i64 0, .int .u8 1, .int .i64 0, .int .i64 0, .int .u8 0, .int .i64 0, .int .i64 0, .int .u8 0, .string ⟨#[]⟩, .string ⟨#[]⟩, .string ⟨#[]⟩]) (by simp [results, Tryz.results220, go_sem, z0, z1, z2, z3, z4, z5, z6, z7, z8, z9, z10, z11, z12, z13]) rfl ⟨_, _, rfl, HEW.out, index_go, ?_⟩
  exact fun c V2 hv => isForIndex_of c g2 i V2 (cell_of_row _ _ 0 _ _ _ (keep_row hv HIX.out))
set_option maxHeartbeats 400000 in
theorem apply_absF (p : Rec) (f0 f1 : CopL) (i : Int) (w : World) (ho : isR p i = false) (hc : covB p f0 f1 i = false) (hp : badB p.st = false) (hb : hasB f0 f1 = false) :
    Calls Tryz.prog 220 #[.agg #[.int .u8 (p.st : Int), .int .i64 p.ix, .int .i64 p.bx, .int .i64 p.yb, .int .i64 p.wh], .agg #[.int .u8 (f0.st : Int), .int .i64 f0.ix, .int .i64 f0.bx, .int .i64 f0.yb, .int .u8 (f0.e.k : Int), .int .i64 f0.e.cl, .int .i64 f0.e.sq, .int .u8 (f0.e.ok : Int), .string f0.e.key, .string f0.e.old, .string f0.e.val, .int .u8 (f1.st : Int), .int .i64 f1.ix, .int .i64 f1.bx, .int .i64 f1.yb, .int .u8 (f1.e.k : Int), .int .i64 f1.e.cl, .int .i64 f1.e.sq, .int .u8 (f1.e.ok : Int), .string f1.e.key, .string f1.e.old, .string f1.e.val], .int .i64 i] w fun e w' => ∃ (F : Nat) (caps : Array Value), e = .returned (.agg #[.func (.func F) #[] caps, .int .i64 0, .int .u8 0, .int .i64 0, .int .u8 1, .int .i64 0, .int .i64 0, .int .u8 0, .int .i64 0, .int .i64 0, .int .u8 0, .string ⟨#[]⟩, .string ⟨#[]⟩, .string ⟨#[]⟩]) ∧ Ext w w' ∧ Enters Tryz.prog F ∧ ∀ c, Asks w' F caps c (isB c i) := by
  have hmf : ∀ (fn : Fn) (first cap : Array Value) (w : World), (Instr.makeFunc fn first cap).run Tryz.prog w = .ok (.func fn first cap) w := fun _ _ _ _ => rfl
  have HA := Lib.hid (ApS.make w p f0 f1 i)
  have HF := Lib.hid (isFor_of (p.st : Int) p.ix i)
  have HV := Lib.hid (isCovered_of p f0 f1 i)
  have HB := Lib.hid (isBadL_of (p.st : Int))
  have hqo : isR p i = false := ho
  unfold isR at hqo
  rw [hqo] at HF
  clear hqo ho
  rw [show covB p f0 f1 i = false from hc] at HV
  clear hc
  rw [show ((p.st : Int) != 0 && (p.st : Int) != 1) = false from hp] at HB
  clear hp
  go_enter Tryz.func220, Tryz.ntmps220
  go_upto_region 2 with (fail)
  generalize (((((w.alloc (.cells #[.int .u8 (p.st : Int), .int .i64 p.ix, .int .i64 p.bx, .int .i64 p.yb, .int .i64 p.wh] 147)).alloc (.cells #[.int .u8 (f0.st : Int), .int .i64 f0.ix, .int .i64 f0.bx, .int .i64 f0.yb, .int .u8 (f0.e.k : Int), .int .i64 f0.e.cl, .int .i64 f0.e.sq, .int .u8 (f0.e.ok : Int), .string f0.e.key, .string f0.e.old, .string f0.e.val, .int .u8 (f1.st : Int), .int .i64 f1.ix, .int .i64 f1.bx, .int .i64 f1.yb, .int .u8 (f1.e.k : Int), .int .i64 f1.e.cl, .int .i64 f1.e.sq, .int .u8 (f1.e.ok : Int), .string f1.e.key, .string f1.e.old, .string f1.e.val] 150)).alloc (.cells #[.int .i64 i] 3)).alloc (.cells #[.nilFunc, .int .i64 0, .int .u8 0, .int .i64 0, .int .u8 0, .int .i64 0, .int .i64 0, .int .u8 0, .int .i64 0, .int .i64 0, .int .u8 0, .string ⟨#[]⟩, .string ⟨#[]⟩, .string ⟨#[]⟩] 300)).alloc (.cells #[.func (.func 260) #[] #[.pointer (some ⟨w.heap.size + 1 + 1, 0, none⟩)]] 298)) = W at *
  generalize w.heap.size + 1 + 1 + 1 + 1 = g4 at *
  generalize w.heap.size + 1 + 1 + 1 = g3 at *
  generalize w.heap.size + 1 + 1 = g2 at *
  generalize w.heap.size + 1 = g1 at *
  generalize hg : w.heap.size = g at *
  have HG := Lib.hid hg
  clear hg
  have HC := Lib.hid (contains_of 263 #[] f0 f1 (badB f0.st) (badB f1.st) g1 2 W bad_go HA.out.two (fun V _ => isBad1_of f0 V) (fun V _ => isBad1_of f1 V))
  rw [show (badB f0.st || badB f1.st) = false from hb] at HC
  clear hb
  go_wp2_with fail
  refine HC.out.mono ?_
  rintro e w1 ⟨rfl, hx⟩
  have HA := Lib.hid (HA.out.mono hx)
  clear hx HC
  have c0 := cell_of_row w1 g 0 _ _ _ (HA.out.rec_)
  have c1 := cell_of_row w1 g 1 _ _ _ (HA.out.rec_)
  have c2 := cell_of_row w1 g 2 _ _ _ (HA.out.rec_)
  have c3 := cell_of_row w1 g 3 _ _ _ (HA.out.rec_)
  have c4 := cell_of_row w1 g 4 _ _ _ (HA.out.rec_)
  have d0 := cell_of_row w1 g1 0 _ _ _ (HA.out.two)
  have d1 := cell_of_row w1 g1 1 _ _ _ (HA.out.two)
  have d2 := cell_of_row w1 g1 2 _ _ _ (HA.out.two)
  have d3 := cell_of_row w1 g1 3 _ _ _ (HA.out.two)
  have d4 := cell_of_row w1 g1 4 _ _ _ (HA.out.two)
  have d5 := cell_of_row w1 g1 5 _ _ _ (HA.out.two)
  have d6 := cell_of_row w1 g1 6 _ _ _ (HA.out.two)
  have d7 := cell_of_row w1 g1 7 _ _ _ (HA.out.two)
  have d8 := cell_of_row w1 g1 8 _ _ _ (HA.out.two)
  have d9 := cell_of_row w1 g1 9 _ _ _ (HA.out.two)
  have d10 := cell_of_row w1 g1 10 _ _ _ (HA.out.two)
  have d11 := cell_of_row w1 g1 11 _ _ _ (HA.out.two)
  have d12 := cell_of_row w1 g1 12 _ _ _ (HA.out.two)
  have d13 := cell_of_row w1 g1 13 _ _ _ (HA.out.two)
  have d14 := cell_of_row w1 g1 14 _ _ _ (HA.out.two)
  have d15 := cell_of_row w1 g1 15 _ _ _ (HA.out.two)
  have d16 := cell_of_row w1 g1 16 _ _ _ (HA.out.two)
  have d17 := cell_of_row w1 g1 17 _ _ _ (HA.out.two)
  have d18 := cell_of_row w1 g1 18 _ _ _ (HA.out.two)
  have d19 := cell_of_row w1 g1 19 _ _ _ (HA.out.two)
  have d20 := cell_of_row w1 g1 20 _ _ _ (HA.out.two)
  have d21 := cell_of_row w1 g1 21 _ _ _ (HA.out.two)
  have k2 := cell_of_row w1 g2 0 _ _ _ HA.out.ix
  have k4 := cell_of_row w1 g4 0 _ _ _ HA.out.fn
  go_wp2_with fail
  refine (HF.out _).mono ?_
  rintro e w2 ⟨rfl, rfl⟩
  clear k4 d0 d1 d2 d3 d4 d5 d6 d7 d8 d9 d10 d11 d12 d13 d14 d15 d16 d17 d18 d19 d20 d21
  obtain ⟨N, hN, hsz⟩ := size_two
  have hld := load_two hN HA.out.two
  have HNN := Lib.hid hN
  clear hN
  go_wp2_with fail
  refine (HV.out _).mono ?_
  rintro e w3 ⟨rfl, hx⟩
  have HA := Lib.hid (HA.out.mono hx)
  clear hx HV c0 c1 c2 c3 c4 k2 hsz hld HNN
  have c0 := cell_of_row w3 g 0 _ _ _ HA.out.rec_
  have k4 := cell_of_row w3 g4 0 _ _ _ HA.out.fn
  go_wp2_with fail
  refine (HB.out _).mono ?_
  rintro e w4 ⟨rfl, rfl⟩
  have z0 := cell_of_row w4 g3 0 _ _ _ (HA.out.rule)
  have z1 := cell_of_row w4 g3 1 _ _ _ (HA.out.rule)
  have z2 := cell_of_row w4 g3 2 _ _ _ (HA.out.rule)
  have z3 := cell_of_row w4 g3 3 _ _ _ (HA.out.rule)
  have z4 := cell_of_row w4 g3 4 _ _ _ (HA.out.rule)
  have z5 := cell_of_row w4 g3 5 _ _ _ (HA.out.rule)
  have z6 := cell_of_row w4 g3 6 _ _ _ (HA.out.rule)
  have z7 := cell_of_row w4 g3 7 _ _ _ (HA.out.rule)
  have z8 := cell_of_row w4 g3 8 _ _ _ (HA.out.rule)
  have z9 := cell_of_row w4 g3 9 _ _ _ (HA.out.rule)
  have z10 := cell_of_row w4 g3 10 _ _ _ (HA.out.rule)
  have z11 := cell_of_row w4 g3 11 _ _ _ (HA.out.rule)
  have z12 := cell_of_row w4 g3 12 _ _ _ (HA.out.rule)
  have z13 := cell_of_row w4 g3 13 _ _ _ (HA.out.rule)
  have y0 := frozen_of_row w4 g3 0 _ _ (HA.out.rule)
  have y1 := frozen_of_row w4 g3 1 _ _ (HA.out.rule)
  have y2 := frozen_of_row w4 g3 2 _ _ (HA.out.rule)
  have y3 := frozen_of_row w4 g3 3 _ _ (HA.out.rule)
  have y4 := frozen_of_row w4 g3 4 _ _ (HA.out.rule)
  have y5 := frozen_of_row w4 g3 5 _ _ (HA.out.rule)
  have y6 := frozen_of_row w4 g3 6 _ _ (HA.out.rule)
  have y7 := frozen_of_row w4 g3 7 _ _ (HA.out.rule)
  have y8 := frozen_of_row w4 g3 8 _ _ (HA.out.rule)
  have y9 := frozen_of_row w4 g3 9 _ _ (HA.out.rule)
  have y10 := frozen_of_row w4 g3 10 _ _ (HA.out.rule)
  have y11 := frozen_of_row w4 g3 11 _ _ (HA.out.rule)
  have y12 := frozen_of_row w4 g3 12 _ _ (HA.out.rule)
  have y13 := frozen_of_row w4 g3 13 _ _ (HA.out.rule)
  have HRW : Hid ((((((((((((((((w4.setCell ⟨g3, 0, none⟩ (.func (.func 260) #[] #[.pointer (some ⟨g2, 0, none⟩)])).setCell ⟨g3, 1, none⟩ (.int .i64 0)).setCell ⟨g3, 2, none⟩ (.int .u8 0)).setCell ⟨g3, 3, none⟩ (.int .i64 0)).setCell ⟨g3, 4, none⟩ (.int .u8 1)).setCell ⟨g3, 5, none⟩ (.int .i64 0)).setCell ⟨g3, 6, none⟩ (.int .i64 0)).setCell ⟨g3, 7, none⟩ (.int .u8 0)).setCell ⟨g3, 8, none⟩ (.int .i64 0)).setCell ⟨g3, 9, none⟩ (.int .i64 0)).setCell ⟨g3, 10, none⟩ (.int .u8 0)).setCell ⟨g3, 11, none⟩ (.string ⟨#[]⟩)).setCell ⟨g3, 12, none⟩ (.string ⟨#[]⟩)).setCell ⟨g3, 13, none⟩ (.string ⟨#[]⟩))).heap[g3]? = some (.cells #[.func (.func 260) #[] #[.pointer (some ⟨g2, 0, none⟩)], .int .i64 0, .int .u8 0, .int .i64 0, .int .u8 1, .int .i64 0, .int .i64 0, .int .u8 0, .int .i64 0, .int .i64 0, .int .u8 0, .string ⟨#[]⟩, .string ⟨#[]⟩, .string ⟨#[]⟩] 300 (0, 0))) := Lib.hid (row14 HA.out.rule _ _ _ _ _ _ _ _ _ _ _ _ _ _)
  have HEW : Hid (Ext w (((((((((((((((w4.setCell ⟨g3, 0, none⟩ (.func (.func 260) #[] #[.pointer (some ⟨g2, 0, none⟩)])).setCell ⟨g3, 1, none⟩ (.int .i64 0)).setCell ⟨g3, 2, none⟩ (.int .u8 0)).setCell ⟨g3, 3, none⟩ (.int .i64 0)).setCell ⟨g3, 4, none⟩ (.int .u8 1)).setCell ⟨g3, 5, none⟩ (.int .i64 0)).setCell ⟨g3, 6, none⟩ (.int .i64 0)).setCell ⟨g3, 7, none⟩ (.int .u8 0)).setCell ⟨g3, 8, none⟩ (.int .i64 0)).setCell ⟨g3, 9, none⟩ (.int .i64 0)).setCell ⟨g3, 10, none⟩ (.int .u8 0)).setCell ⟨g3, 11, none⟩ (.string ⟨#[]⟩)).setCell ⟨g3, 12, none⟩ (.string ⟨#[]⟩)).setCell ⟨g3, 13, none⟩ (.string ⟨#[]⟩)))) := Lib.hid (ext14 HA.out.ext HA.out.ne.2.2.2 _ _ _ _ _ _ _ _ _ _ _ _ _ _)
  have HIX : Hid ((((((((((((((((w4.setCell ⟨g3, 0, none⟩ (.func (.func 260) #[] #[.pointer (some ⟨g2, 0, none⟩)])).setCell ⟨g3, 1, none⟩ (.int .i64 0)).setCell ⟨g3, 2, none⟩ (.int .u8 0)).setCell ⟨g3, 3, none⟩ (.int .i64 0)).setCell ⟨g3, 4, none⟩ (.int .u8 1)).setCell ⟨g3, 5, none⟩ (.int .i64 0)).setCell ⟨g3, 6, none⟩ (.int .i64 0)).setCell ⟨g3, 7, none⟩ (.int .u8 0)).setCell ⟨g3, 8, none⟩ (.int .i64 0)).setCell ⟨g3, 9, none⟩ (.int .i64 0)).setCell ⟨g3, 10, none⟩ (.int .u8 0)).setCell ⟨g3, 11, none⟩ (.string ⟨#[]⟩)).setCell ⟨g3, 12, none⟩ (.string ⟨#[]⟩)).setCell ⟨g3, 13, none⟩ (.string ⟨#[]⟩))).heap[g2]? = some (.cells #[.int .i64 i] 3 (0, 0))) := Lib.hid (off14 HA.out.ix HA.out.ne.2.1 _ _ _ _ _ _ _ _ _ _ _ _ _ _)
  have HFN : Hid ((((((((((((((((w4.setCell ⟨g3, 0, none⟩ (.func (.func 260) #[] #[.pointer (some ⟨g2, 0, none⟩)])).setCell ⟨g3, 1, none⟩ (.int .i64 0)).setCell ⟨g3, 2, none⟩ (.int .u8 0)).setCell ⟨g3, 3, none⟩ (.int .i64 0)).setCell ⟨g3, 4, none⟩ (.int .u8 1)).setCell ⟨g3, 5, none⟩ (.int .i64 0)).setCell ⟨g3, 6, none⟩ (.int .i64 0)).setCell ⟨g3, 7, none⟩ (.int .u8 0)).setCell ⟨g3, 8, none⟩ (.int .i64 0)).setCell ⟨g3, 9, none⟩ (.int .i64 0)).setCell ⟨g3, 10, none⟩ (.int .u8 0)).setCell ⟨g3, 11, none⟩ (.string ⟨#[]⟩)).setCell ⟨g3, 12, none⟩ (.string ⟨#[]⟩)).setCell ⟨g3, 13, none⟩ (.string ⟨#[]⟩))).heap[g4]? = some (.cells #[.func (.func 260) #[] #[.pointer (some ⟨g2, 0, none⟩)]] 298 (0, 0))) := Lib.hid (off14 HA.out.fn HA.out.ne.2.2.1 _ _ _ _ _ _ _ _ _ _ _ _ _ _)
  have HRC : Hid (RecAt (((((((((((((((w4.setCell ⟨g3, 0, none⟩ (.func (.func 260) #[] #[.pointer (some ⟨g2, 0, none⟩)])).setCell ⟨g3, 1, none⟩ (.int .i64 0)).setCell ⟨g3, 2, none⟩ (.int .u8 0)).setCell ⟨g3, 3, none⟩ (.int .i64 0)).setCell ⟨g3, 4, none⟩ (.int .u8 1)).setCell ⟨g3, 5, none⟩ (.int .i64 0)).setCell ⟨g3, 6, none⟩ (.int .i64 0)).setCell ⟨g3, 7, none⟩ (.int .u8 0)).setCell ⟨g3, 8, none⟩ (.int .i64 0)).setCell ⟨g3, 9, none⟩ (.int .i64 0)).setCell ⟨g3, 10, none⟩ (.int .u8 0)).setCell ⟨g3, 11, none⟩ (.string ⟨#[]⟩)).setCell ⟨g3, 12, none⟩ (.string ⟨#[]⟩)).setCell ⟨g3, 13, none⟩ (.string ⟨#[]⟩))) g p) := Lib.hid (off14 HA.out.rec_ HA.out.ne.1 _ _ _ _ _ _ _ _ _ _ _ _ _ _)
  go_wp2_with fail
  generalize ((((((((((((((w4.setCell ⟨g3, 0, none⟩ (.func (.func 260) #[] #[.pointer (some ⟨g2, 0, none⟩)])).setCell ⟨g3, 1, none⟩ (.int .i64 0)).setCell ⟨g3, 2, none⟩ (.int .u8 0)).setCell ⟨g3, 3, none⟩ (.int .i64 0)).setCell ⟨g3, 4, none⟩ (.int .u8 1)).setCell ⟨g3, 5, none⟩ (.int .i64 0)).setCell ⟨g3, 6, none⟩ (.int .i64 0)).setCell ⟨g3, 7, none⟩ (.int .u8 0)).setCell ⟨g3, 8, none⟩ (.int .i64 0)).setCell ⟨g3, 9, none⟩ (.int .i64 0)).setCell ⟨g3, 10, none⟩ (.int .u8 0)).setCell ⟨g3, 11, none⟩ (.string ⟨#[]⟩)).setCell ⟨g3, 12, none⟩ (.string ⟨#[]⟩)).setCell ⟨g3, 13, none⟩ (.string ⟨#[]⟩)) = V at *
  clear z0 z1 z2 z3 z4 z5 z6 z7 z8 z9 z10 z11 z12 z13 y0 y1 y2 y3 y4 y5 y6 y7 y8 y9 y10 y11 y12 y13
  have z0 := cell_of_row V g3 0 _ _ _ (HRW.out)
  have z1 := cell_of_row V g3 1 _ _ _ (HRW.out)
  have z2 := cell_of_row V g3 2 _ _ _ (HRW.out)
  have z3 := cell_of_row V g3 3 _ _ _ (HRW.out)
  have z4 := cell_of_row V g3 4 _ _ _ (HRW.out)
  have z5 := cell_of_row V g3 5 _ _ _ (HRW.out)
  have z6 := cell_of_row V g3 6 _ _ _ (HRW.out)
  have z7 := cell_of_row V g3 7 _ _ _ (HRW.out)
  have z8 := cell_of_row V g3 8 _ _ _ (HRW.out)
  have z9 := cell_of_row V g3 9 _ _ _ (HRW.out)
  have z10 := cell_of_row V g3 10 _ _ _ (HRW.out)
  have z11 := cell_of_row V g3 11 _ _ _ (HRW.out)
  have z12 := cell_of_row V g3 12 _ _ _ (HRW.out)
  have z13 := cell_of_row V g3 13 _ _ _ (HRW.out)
  refine bodyPost_ret (v := .agg #[.func (.func 260) #[] #[.pointer (some ⟨g2, 0, none⟩)], .int .i64 0, .int .u8 0, .int .i64 0, .int .u8 1, .int .i64 0, .int .i64 0, .int .u8 0, .int .i64 0, .int .i64 0, .int .u8 0, .string ⟨#[]⟩, .string ⟨#[]⟩, .string ⟨#[]⟩]) (by simp [results, Tryz.results220, go_sem, z0, z1, z2, z3, z4, z5, z6, z7, z8, z9, z10, z11, z12, z13]) rfl ⟨_, _, rfl, HEW.out, index_go, ?_⟩
  exact fun c V2 hv => isForIndex_of c g2 i V2 (cell_of_row _ _ 0 _ _ _ (keep_row hv HIX.out))
end
end Go.Proofs.YtmbmpabjclkhlaaGreatDoor
