/-
  The contract of read: what is read of the record and the frames of an index.
-/
import Derived.Test.YtmbmpabjclkhlaaGreatDoorQ00
import Derived.Test.YtmbmpabjclkhlaaGreatDoorQ16
import Derived.Test.YtmbmpabjclkhlaaGreatDoorQ21
import Derived.Test.YtmbmpabjclkhlaaGreatDoorQ22
import Derived.Test.YtmbmpabjclkhlaaGreatDoorQ26
import Derived.Test.YtmbmpabjclkhlaaGreatDoorQ32
import Derived.Deep.DeepCutAuto
import Derived.Deep.MidRow
namespace Go.Proofs.YtmbmpabjclkhlaaGreatDoor
set_option maxRecDepth 100000
section
open Go Go.RowKit
structure WRdS (w W : World) (b : Nat) (zr zt ht : Array Value) : Prop where
  z4 : W.heap[b]? = some (.cells zr 147 (0, 0))
  z5 : W.heap[b + 1]? = some (.cells zt 150 (0, 0))
  two : W.heap[b + 1 + 1]? = some (.cells ht 150 (0, 0))
  ext : Ext w W
  le : w.heap.size ≤ b
section
variable {w W : World} {b : Nat} {zr zt ht : Array Value}
theorem WRdS.make (w : World) : WRdS w (((w.alloc (.cells #[.int .u8 0, .int .i64 0, .int .i64 0, .int .i64 0, .int .i64 0] 147)).alloc (.cells #[.int .u8 0, .int .i64 0, .int .i64 0, .int .i64 0, .int .u8 0, .int .i64 0, .int .i64 0, .int .u8 0, .string ⟨#[]⟩, .string ⟨#[]⟩, .string ⟨#[]⟩, .int .u8 0, .int .i64 0, .int .i64 0, .int .i64 0, .int .u8 0, .int .i64 0, .int .i64 0, .int .u8 0, .string ⟨#[]⟩, .string ⟨#[]⟩, .string ⟨#[]⟩] 150)).alloc (.cells #[.int .u8 0, .int .i64 0, .int .i64 0, .int .i64 0, .int .u8 0, .int .i64 0, .int .i64 0, .int .u8 0, .string ⟨#[]⟩, .string ⟨#[]⟩, .string ⟨#[]⟩, .int .u8 0, .int .i64 0, .int .i64 0, .int .i64 0, .int .u8 0, .int .i64 0, .int .i64 0, .int .u8 0, .string ⟨#[]⟩, .string ⟨#[]⟩, .string ⟨#[]⟩] 150)) w.heap.size #[.int .u8 0, .int .i64 0, .int .i64 0, .int .i64 0, .int .i64 0] #[.int .u8 0, .int .i64 0, .int .i64 0, .int .i64 0, .int .u8 0, .int .i64 0, .int .i64 0, .int .u8 0, .string ⟨#[]⟩, .string ⟨#[]⟩, .string ⟨#[]⟩, .int .u8 0, .int .i64 0, .int .i64 0, .int .i64 0, .int .u8 0, .int .i64 0, .int .i64 0, .int .u8 0, .string ⟨#[]⟩, .string ⟨#[]⟩, .string ⟨#[]⟩] #[.int .u8 0, .int .i64 0, .int .i64 0, .int .i64 0, .int .u8 0, .int .i64 0, .int .i64 0, .int .u8 0, .string ⟨#[]⟩, .string ⟨#[]⟩, .string ⟨#[]⟩, .int .u8 0, .int .i64 0, .int .i64 0, .int .i64 0, .int .u8 0, .int .i64 0, .int .i64 0, .int .u8 0, .string ⟨#[]⟩, .string ⟨#[]⟩, .string ⟨#[]⟩] := by
  have row : ∀ (V : World) (cs : Array Value) (t : TypeId) (k : Nat), k = V.heap.size → (V.alloc (.cells cs t)).heap[k]? = some (.cells cs t (0, 0)) := fun V cs t k hk => by subst hk; exact heap_alloc_new V _
  have e1 : Ext (w.alloc (.cells #[.int .u8 0, .int .i64 0, .int .i64 0, .int .i64 0, .int .i64 0] 147)) ((w.alloc (.cells #[.int .u8 0, .int .i64 0, .int .i64 0, .int .i64 0, .int .i64 0] 147)).alloc (.cells #[.int .u8 0, .int .i64 0, .int .i64 0, .int .i64 0, .int .u8 0, .int .i64 0, .int .i64 0, .int .u8 0, .string ⟨#[]⟩, .string ⟨#[]⟩, .string ⟨#[]⟩, .int .u8 0, .int .i64 0, .int .i64 0, .int .i64 0, .int .u8 0, .int .i64 0, .int .i64 0, .int .u8 0, .string ⟨#[]⟩, .string ⟨#[]⟩, .string ⟨#[]⟩] 150)) := (Ext.refl _).alloc _
  have e2 : Ext ((w.alloc (.cells #[.int .u8 0, .int .i64 0, .int .i64 0, .int .i64 0, .int .i64 0] 147)).alloc (.cells #[.int .u8 0, .int .i64 0, .int .i64 0, .int .i64 0, .int .u8 0, .int .i64 0, .int .i64 0, .int .u8 0, .string ⟨#[]⟩, .string ⟨#[]⟩, .string ⟨#[]⟩, .int .u8 0, .int .i64 0, .int .i64 0, .int .i64 0, .int .u8 0, .int .i64 0, .int .i64 0, .int .u8 0, .string ⟨#[]⟩, .string ⟨#[]⟩, .string ⟨#[]⟩] 150)) (((w.alloc (.cells #[.int .u8 0, .int .i64 0, .int .i64 0, .int .i64 0, .int .i64 0] 147)).alloc (.cells #[.int .u8 0, .int .i64 0, .int .i64 0, .int .i64 0, .int .u8 0, .int .i64 0, .int .i64 0, .int .u8 0, .string ⟨#[]⟩, .string ⟨#[]⟩, .string ⟨#[]⟩, .int .u8 0, .int .i64 0, .int .i64 0, .int .i64 0, .int .u8 0, .int .i64 0, .int .i64 0, .int .u8 0, .string ⟨#[]⟩, .string ⟨#[]⟩, .string ⟨#[]⟩] 150)).alloc (.cells #[.int .u8 0, .int .i64 0, .int .i64 0, .int .i64 0, .int .u8 0, .int .i64 0, .int .i64 0, .int .u8 0, .string ⟨#[]⟩, .string ⟨#[]⟩, .string ⟨#[]⟩, .int .u8 0, .int .i64 0, .int .i64 0, .int .i64 0, .int .u8 0, .int .i64 0, .int .i64 0, .int .u8 0, .string ⟨#[]⟩, .string ⟨#[]⟩, .string ⟨#[]⟩] 150)) := (Ext.refl _).alloc _
  exact ⟨keep_row e2 (keep_row e1 (heap_alloc_new w _)), keep_row e2 (row _ _ _ _ (by simp)), row _ _ _ _ (by simp), (((Ext.refl w).alloc _).alloc _).alloc _, Nat.le_refl _⟩
theorem WRdS.mono {W' : World} (h : WRdS w W b zr zt ht) (hx : Ext W W') : WRdS w W' b zr zt ht := ⟨keep_row hx h.z4, keep_row hx h.z5, keep_row hx h.two, h.ext.trans hx, h.le⟩
theorem WRdS.put6 (h : WRdS w W b zr zt ht) (o : Nat) (xs : List Value) : WRdS w (W.setCells (b + 1 + 1) o xs) b zr zt (setA ht o xs) :=
  ⟨off_setCells h.z4 (by omega) o xs, off_setCells h.z5 (by omega) o xs, row_setCells h.two o xs, ext_setCells h.ext (by have := h.le; omega) o xs, h.le⟩
theorem WRdS.put4 (h : WRdS w W b zr zt ht) (o : Nat) (xs : List Value) : WRdS w (W.setCells b o xs) b (setA zr o xs) zt ht :=
  ⟨row_setCells h.z4 o xs, off_setCells h.z5 (by omega) o xs, off_setCells h.two (by omega) o xs, ext_setCells h.ext h.le o xs, h.le⟩
theorem WRdS.put5 (h : WRdS w W b zr zt ht) (o : Nat) (xs : List Value) : WRdS w (W.setCells (b + 1) o xs) b zr (setA zt o xs) ht :=
  ⟨off_setCells h.z4 (by omega) o xs, row_setCells h.z5 o xs, off_setCells h.two (by omega) o xs, ext_setCells h.ext (by have := h.le; omega) o xs, h.le⟩
end
theorem WRdS.fin {w W : World} {b : Nat} {x0 x1 x2 x3 x4 y0 y1 y2 y3 y4 y5 y6 y7 y8 y9 y10 y11 y12 y13 y14 y15 y16 y17 y18 y19 y20 y21 z0 z1 z2 z3 z4 v0 v1 v2 v3 v4 v5 v6 v7 v8 v9 v10 v11 v12 v13 v14 v15 v16 v17 v18 v19 v20 v21 : Value} {ht : Array Value} (h : WRdS w W b #[z0, z1, z2, z3, z4] #[v0, v1, v2, v3, v4, v5, v6, v7, v8, v9, v10, v11, v12, v13, v14, v15, v16, v17, v18, v19, v20, v21] ht) (i3 : (Tryz.prog.info? 147).map (·.size) = some 5) (i4 : (Tryz.prog.info? 150).map (·.size) = some 22) :
    let V := (W.setCells b 0 [x0, x1, x2, x3, x4]).setCells (b + 1) 0 [y0, y1, y2, y3, y4, y5, y6, y7, y8, y9, y10, y11, y12, y13, y14, y15, y16, y17, y18, y19, y20, y21]
    (loadVar 147 ⟨b, 0, none⟩).run Tryz.prog V = .ok (.agg #[x0, x1, x2, x3, x4]) V ∧ (loadVar 150 ⟨b + 1, 0, none⟩).run Tryz.prog V = .ok (.agg #[y0, y1, y2, y3, y4, y5, y6, y7, y8, y9, y10, y11, y12, y13, y14, y15, y16, y17, y18, y19, y20, y21]) V ∧ Ext w V := by
  intro V
  have hT := (h.put4 0 [x0, x1, x2, x3, x4]).put5 0 [y0, y1, y2, y3, y4, y5, y6, y7, y8, y9, y10, y11, y12, y13, y14, y15, y16, y17, y18, y19, y20, y21]
  rw [arr5, arr22] at hT
  exact ⟨run_loadVar_mid V b 0 147 [x0, x1, x2, x3, x4] _ (row_range [x0, x1, x2, x3, x4] hT.z4 0) Tryz.underlying147 rfl i3, run_loadVar_mid V (b + 1) 0 150 [y0, y1, y2, y3, y4, y5, y6, y7, y8, y9, y10, y11, y12, y13, y14, y15, y16, y17, y18, y19, y20, y21] _ (row_range [y0, y1, y2, y3, y4, y5, y6, y7, y8, y9, y10, y11, y12, y13, y14, y15, y16, y17, y18, y19, y20, y21] hT.z5 0) Tryz.underlying150 rfl i4, hT.ext⟩
set_option maxHeartbeats 1200000 in
theorem wread_core {w : World} (g i q p0 p1 : Nat) (p : Rec) (f0 f1 : CopL)
    (hf0 : ∀ V, Calls Tryz.prog 73 #[.int .i64 (i : Int), .int .i64 0] V fun e w' => e = .returned (.int .i64 (p0 : Int)) ∧ Ext V w') (hf1 : ∀ V, Calls Tryz.prog 73 #[.int .i64 (i : Int), .int .i64 1] V fun e w' => e = .returned (.int .i64 (p1 : Int)) ∧ Ext V w') (hpl : ∀ V, Calls Tryz.prog 74 #[.int .i64 (i : Int)] V fun e w' => e = .returned (.int .i64 (q : Int)) ∧ Ext V w')
    (hr0 : ∀ V, Ext w V → Calls Tryz.prog 141 #[.pointer (some ⟨g, 0, none⟩), .int .i64 (p0 : Int)] V fun e w' => e = .returned (.agg #[.int .u8 (f0.st : Int), .int .i64 f0.ix, .int .i64 f0.bx, .int .i64 f0.yb, .int .u8 (f0.e.k : Int), .int .i64 f0.e.cl, .int .i64 f0.e.sq, .int .u8 (f0.e.ok : Int), .string f0.e.key, .string f0.e.old, .string f0.e.val]) ∧ Ext V w')
    (hr1 : ∀ V, Ext w V → Calls Tryz.prog 141 #[.pointer (some ⟨g, 0, none⟩), .int .i64 (p1 : Int)] V fun e w' => e = .returned (.agg #[.int .u8 (f1.st : Int), .int .i64 f1.ix, .int .i64 f1.bx, .int .i64 f1.yb, .int .u8 (f1.e.k : Int), .int .i64 f1.e.cl, .int .i64 f1.e.sq, .int .u8 (f1.e.ok : Int), .string f1.e.key, .string f1.e.old, .string f1.e.val]) ∧ Ext V w')
    (hrr : ∀ V, Ext w V → Calls Tryz.prog 142 #[.pointer (some ⟨g, 0, none⟩), .int .i64 (q : Int)] V fun e w' => e = .returned (.agg #[.int .u8 (p.st : Int), .int .i64 p.ix, .int .i64 p.bx, .int .i64 p.yb, .int .i64 p.wh]) ∧ Ext V w') :
    Calls Tryz.prog 69 #[.pointer (some ⟨g, 0, none⟩), .int .i64 (i : Int)] w fun e w' => e = .returned (.tuple #[.agg #[.int .u8 (p.st : Int), .int .i64 p.ix, .int .i64 p.bx, .int .i64 p.yb, .int .i64 p.wh], .agg #[.int .u8 (f0.st : Int), .int .i64 f0.ix, .int .i64 f0.bx, .int .i64 f0.yb, .int .u8 (f0.e.k : Int), .int .i64 f0.e.cl, .int .i64 f0.e.sq, .int .u8 (f0.e.ok : Int), .string f0.e.key, .string f0.e.old, .string f0.e.val, .int .u8 (f1.st : Int), .int .i64 f1.ix, .int .i64 f1.bx, .int .i64 f1.yb, .int .u8 (f1.e.k : Int), .int .i64 f1.e.cl, .int .i64 f1.e.sq, .int .u8 (f1.e.ok : Int), .string f1.e.key, .string f1.e.old, .string f1.e.val]]) ∧ Ext w w' := by
  have HS := Lib.hid (WRdS.make w)
  have HF0 := Lib.hid hf0
  have HF1 := Lib.hid hf1
  have HPL := Lib.hid hpl
  have HR0 := Lib.hid hr0
  have HR1 := Lib.hid hr1
  have HRR := Lib.hid hrr
  have i3 : (Tryz.prog.info? 147).map (·.size) = some 5 := by kernel_rfl
  have i4 : (Tryz.prog.info? 150).map (·.size) = some 22 := by kernel_rfl
  have i5 : (Tryz.prog.info? 149).map (·.size) = some 11 := by kernel_rfl
  have HI := Lib.hid (And.intro i3 (And.intro i4 i5))
  clear hf0 hf1 hpl hr0 hr1 hrr i3 i4 i5
  go_enter Tryz.func69, Tryz.ntmps69
  go_wp2_with fail
  obtain ⟨b, hb⟩ : ∃ b, w.heap.size = b := ⟨_, rfl⟩
  rw [hb] at HS ⊢
  generalize (((w.alloc (.cells #[.int .u8 0, .int .i64 0, .int .i64 0, .int .i64 0, .int .i64 0] 147)).alloc (.cells #[.int .u8 0, .int .i64 0, .int .i64 0, .int .i64 0, .int .u8 0, .int .i64 0, .int .i64 0, .int .u8 0, .string ⟨#[]⟩, .string ⟨#[]⟩, .string ⟨#[]⟩, .int .u8 0, .int .i64 0, .int .i64 0, .int .i64 0, .int .u8 0, .int .i64 0, .int .i64 0, .int .u8 0, .string ⟨#[]⟩, .string ⟨#[]⟩, .string ⟨#[]⟩] 150)).alloc (.cells #[.int .u8 0, .int .i64 0, .int .i64 0, .int .i64 0, .int .u8 0, .int .i64 0, .int .i64 0, .int .u8 0, .string ⟨#[]⟩, .string ⟨#[]⟩, .string ⟨#[]⟩, .int .u8 0, .int .i64 0, .int .i64 0, .int .i64 0, .int .u8 0, .int .i64 0, .int .i64 0, .int .u8 0, .string ⟨#[]⟩, .string ⟨#[]⟩, .string ⟨#[]⟩] 150)) = V0 at HS ⊢
  clear hb
  refine wp_loop_rounds 3 ?_
  rw [rounds_succ]
  go_wp2_with fail
  refine (HF0.out V0).mono ?_
  rintro e w1 ⟨rfl, hx⟩
  have HS := Lib.hid (HS.out.mono hx)
  clear hx
  go_wp2_with fail
  refine (HR0.out w1 HS.out.ext).mono ?_
  rintro e w2 ⟨rfl, hx⟩
  have HS := Lib.hid (HS.out.mono hx)
  have c0 := cell_of_row w2 (b + 1 + 1) 0 _ _ _ (HS.out.two)
  have c1 := cell_of_row w2 (b + 1 + 1) 1 _ _ _ (HS.out.two)
  have c2 := cell_of_row w2 (b + 1 + 1) 2 _ _ _ (HS.out.two)
  have c3 := cell_of_row w2 (b + 1 + 1) 3 _ _ _ (HS.out.two)
  have c4 := cell_of_row w2 (b + 1 + 1) 4 _ _ _ (HS.out.two)
  have c5 := cell_of_row w2 (b + 1 + 1) 5 _ _ _ (HS.out.two)
  have c6 := cell_of_row w2 (b + 1 + 1) 6 _ _ _ (HS.out.two)
  have c7 := cell_of_row w2 (b + 1 + 1) 7 _ _ _ (HS.out.two)
  have c8 := cell_of_row w2 (b + 1 + 1) 8 _ _ _ (HS.out.two)
  have c9 := cell_of_row w2 (b + 1 + 1) 9 _ _ _ (HS.out.two)
  have c10 := cell_of_row w2 (b + 1 + 1) 10 _ _ _ (HS.out.two)
  have e0 := frozen_of_row w2 (b + 1 + 1) 0 _ _ (HS.out.two)
  have e1 := frozen_of_row w2 (b + 1 + 1) 1 _ _ (HS.out.two)
  have e2 := frozen_of_row w2 (b + 1 + 1) 2 _ _ (HS.out.two)
  have e3 := frozen_of_row w2 (b + 1 + 1) 3 _ _ (HS.out.two)
  have e4 := frozen_of_row w2 (b + 1 + 1) 4 _ _ (HS.out.two)
  have e5 := frozen_of_row w2 (b + 1 + 1) 5 _ _ (HS.out.two)
  have e6 := frozen_of_row w2 (b + 1 + 1) 6 _ _ (HS.out.two)
  have e7 := frozen_of_row w2 (b + 1 + 1) 7 _ _ (HS.out.two)
  have e8 := frozen_of_row w2 (b + 1 + 1) 8 _ _ (HS.out.two)
  have e9 := frozen_of_row w2 (b + 1 + 1) 9 _ _ (HS.out.two)
  have e10 := frozen_of_row w2 (b + 1 + 1) 10 _ _ (HS.out.two)
  have hlt := (Array.getElem?_eq_some_iff.1 HS.out.two).1
  clear hx
  go_wp2_with fail
  have hT : WRdS w (((((((((((w2.setCell ⟨(b + 1 + 1), 0, none⟩ (.int .u8 (f0.st : Int))).setCell ⟨(b + 1 + 1), 1, none⟩ (.int .i64 f0.ix)).setCell ⟨(b + 1 + 1), 2, none⟩ (.int .i64 f0.bx)).setCell ⟨(b + 1 + 1), 3, none⟩ (.int .i64 f0.yb)).setCell ⟨(b + 1 + 1), 4, none⟩ (.int .u8 (f0.e.k : Int))).setCell ⟨(b + 1 + 1), 5, none⟩ (.int .i64 f0.e.cl)).setCell ⟨(b + 1 + 1), 6, none⟩ (.int .i64 f0.e.sq)).setCell ⟨(b + 1 + 1), 7, none⟩ (.int .u8 (f0.e.ok : Int))).setCell ⟨(b + 1 + 1), 8, none⟩ (.string f0.e.key)).setCell ⟨(b + 1 + 1), 9, none⟩ (.string f0.e.old)).setCell ⟨(b + 1 + 1), 10, none⟩ (.string f0.e.val)) b #[.int .u8 0, .int .i64 0, .int .i64 0, .int .i64 0, .int .i64 0] #[.int .u8 0, .int .i64 0, .int .i64 0, .int .i64 0, .int .u8 0, .int .i64 0, .int .i64 0, .int .u8 0, .string ⟨#[]⟩, .string ⟨#[]⟩, .string ⟨#[]⟩, .int .u8 0, .int .i64 0, .int .i64 0, .int .i64 0, .int .u8 0, .int .i64 0, .int .i64 0, .int .u8 0, .string ⟨#[]⟩, .string ⟨#[]⟩, .string ⟨#[]⟩] #[.int .u8 (f0.st : Int), .int .i64 f0.ix, .int .i64 f0.bx, .int .i64 f0.yb, .int .u8 (f0.e.k : Int), .int .i64 f0.e.cl, .int .i64 f0.e.sq, .int .u8 (f0.e.ok : Int), .string f0.e.key, .string f0.e.old, .string f0.e.val, .int .u8 0, .int .i64 0, .int .i64 0, .int .i64 0, .int .u8 0, .int .i64 0, .int .i64 0, .int .u8 0, .string ⟨#[]⟩, .string ⟨#[]⟩, .string ⟨#[]⟩] := by
    have h1 := HS.out.put6 0 [.int .u8 (f0.st : Int), .int .i64 f0.ix, .int .i64 f0.bx, .int .i64 f0.yb, .int .u8 (f0.e.k : Int), .int .i64 f0.e.cl, .int .i64 f0.e.sq, .int .u8 (f0.e.ok : Int), .string f0.e.key, .string f0.e.old, .string f0.e.val]
    rw [setCells_eq, arr11a] at h1
    rw [tower11a]
    exact h1
  clear c0 c1 c2 c3 c4 c5 c6 c7 c8 c9 c10 e0 e1 e2 e3 e4 e5 e6 e7 e8 e9 e10 hlt
  generalize (((((((((((w2.setCell ⟨(b + 1 + 1), 0, none⟩ (.int .u8 (f0.st : Int))).setCell ⟨(b + 1 + 1), 1, none⟩ (.int .i64 f0.ix)).setCell ⟨(b + 1 + 1), 2, none⟩ (.int .i64 f0.bx)).setCell ⟨(b + 1 + 1), 3, none⟩ (.int .i64 f0.yb)).setCell ⟨(b + 1 + 1), 4, none⟩ (.int .u8 (f0.e.k : Int))).setCell ⟨(b + 1 + 1), 5, none⟩ (.int .i64 f0.e.cl)).setCell ⟨(b + 1 + 1), 6, none⟩ (.int .i64 f0.e.sq)).setCell ⟨(b + 1 + 1), 7, none⟩ (.int .u8 (f0.e.ok : Int))).setCell ⟨(b + 1 + 1), 8, none⟩ (.string f0.e.key)).setCell ⟨(b + 1 + 1), 9, none⟩ (.string f0.e.old)).setCell ⟨(b + 1 + 1), 10, none⟩ (.string f0.e.val)) = V1 at hT ⊢
  have HS := Lib.hid hT
  clear hT
  rw [rounds_succ]
  go_wp2_with fail
  refine (HF1.out V1).mono ?_
  rintro e w1 ⟨rfl, hx⟩
  have HS := Lib.hid (HS.out.mono hx)
  clear hx
  go_wp2_with fail
  refine (HR1.out w1 HS.out.ext).mono ?_
  rintro e w2 ⟨rfl, hx⟩
  have HS := Lib.hid (HS.out.mono hx)
  have c0 := cell_of_row w2 (b + 1 + 1) 11 _ _ _ (HS.out.two)
  have c1 := cell_of_row w2 (b + 1 + 1) 12 _ _ _ (HS.out.two)
  have c2 := cell_of_row w2 (b + 1 + 1) 13 _ _ _ (HS.out.two)
  have c3 := cell_of_row w2 (b + 1 + 1) 14 _ _ _ (HS.out.two)
  have c4 := cell_of_row w2 (b + 1 + 1) 15 _ _ _ (HS.out.two)
  have c5 := cell_of_row w2 (b + 1 + 1) 16 _ _ _ (HS.out.two)
  have c6 := cell_of_row w2 (b + 1 + 1) 17 _ _ _ (HS.out.two)
  have c7 := cell_of_row w2 (b + 1 + 1) 18 _ _ _ (HS.out.two)
  have c8 := cell_of_row w2 (b + 1 + 1) 19 _ _ _ (HS.out.two)
  have c9 := cell_of_row w2 (b + 1 + 1) 20 _ _ _ (HS.out.two)
  have c10 := cell_of_row w2 (b + 1 + 1) 21 _ _ _ (HS.out.two)
  have e0 := frozen_of_row w2 (b + 1 + 1) 11 _ _ (HS.out.two)
  have e1 := frozen_of_row w2 (b + 1 + 1) 12 _ _ (HS.out.two)
  have e2 := frozen_of_row w2 (b + 1 + 1) 13 _ _ (HS.out.two)
  have e3 := frozen_of_row w2 (b + 1 + 1) 14 _ _ (HS.out.two)
  have e4 := frozen_of_row w2 (b + 1 + 1) 15 _ _ (HS.out.two)
  have e5 := frozen_of_row w2 (b + 1 + 1) 16 _ _ (HS.out.two)
  have e6 := frozen_of_row w2 (b + 1 + 1) 17 _ _ (HS.out.two)
  have e7 := frozen_of_row w2 (b + 1 + 1) 18 _ _ (HS.out.two)
  have e8 := frozen_of_row w2 (b + 1 + 1) 19 _ _ (HS.out.two)
  have e9 := frozen_of_row w2 (b + 1 + 1) 20 _ _ (HS.out.two)
  have e10 := frozen_of_row w2 (b + 1 + 1) 21 _ _ (HS.out.two)
  have hlt := (Array.getElem?_eq_some_iff.1 HS.out.two).1
  clear hx
  go_wp2_with fail
  have hT : WRdS w (((((((((((w2.setCell ⟨(b + 1 + 1), 11, none⟩ (.int .u8 (f1.st : Int))).setCell ⟨(b + 1 + 1), 12, none⟩ (.int .i64 f1.ix)).setCell ⟨(b + 1 + 1), 13, none⟩ (.int .i64 f1.bx)).setCell ⟨(b + 1 + 1), 14, none⟩ (.int .i64 f1.yb)).setCell ⟨(b + 1 + 1), 15, none⟩ (.int .u8 (f1.e.k : Int))).setCell ⟨(b + 1 + 1), 16, none⟩ (.int .i64 f1.e.cl)).setCell ⟨(b + 1 + 1), 17, none⟩ (.int .i64 f1.e.sq)).setCell ⟨(b + 1 + 1), 18, none⟩ (.int .u8 (f1.e.ok : Int))).setCell ⟨(b + 1 + 1), 19, none⟩ (.string f1.e.key)).setCell ⟨(b + 1 + 1), 20, none⟩ (.string f1.e.old)).setCell ⟨(b + 1 + 1), 21, none⟩ (.string f1.e.val)) b #[.int .u8 0, .int .i64 0, .int .i64 0, .int .i64 0, .int .i64 0] #[.int .u8 0, .int .i64 0, .int .i64 0, .int .i64 0, .int .u8 0, .int .i64 0, .int .i64 0, .int .u8 0, .string ⟨#[]⟩, .string ⟨#[]⟩, .string ⟨#[]⟩, .int .u8 0, .int .i64 0, .int .i64 0, .int .i64 0, .int .u8 0, .int .i64 0, .int .i64 0, .int .u8 0, .string ⟨#[]⟩, .string ⟨#[]⟩, .string ⟨#[]⟩] #[.int .u8 (f0.st : Int), .int .i64 f0.ix, .int .i64 f0.bx, .int .i64 f0.yb, .int .u8 (f0.e.k : Int), .int .i64 f0.e.cl, .int .i64 f0.e.sq, .int .u8 (f0.e.ok : Int), .string f0.e.key, .string f0.e.old, .string f0.e.val, .int .u8 (f1.st : Int), .int .i64 f1.ix, .int .i64 f1.bx, .int .i64 f1.yb, .int .u8 (f1.e.k : Int), .int .i64 f1.e.cl, .int .i64 f1.e.sq, .int .u8 (f1.e.ok : Int), .string f1.e.key, .string f1.e.old, .string f1.e.val] := by
    have h1 := HS.out.put6 11 [.int .u8 (f1.st : Int), .int .i64 f1.ix, .int .i64 f1.bx, .int .i64 f1.yb, .int .u8 (f1.e.k : Int), .int .i64 f1.e.cl, .int .i64 f1.e.sq, .int .u8 (f1.e.ok : Int), .string f1.e.key, .string f1.e.old, .string f1.e.val]
    rw [setCells_eq, arr11b] at h1
    rw [tower11b]
    exact h1
  clear c0 c1 c2 c3 c4 c5 c6 c7 c8 c9 c10 e0 e1 e2 e3 e4 e5 e6 e7 e8 e9 e10 hlt
  generalize (((((((((((w2.setCell ⟨(b + 1 + 1), 11, none⟩ (.int .u8 (f1.st : Int))).setCell ⟨(b + 1 + 1), 12, none⟩ (.int .i64 f1.ix)).setCell ⟨(b + 1 + 1), 13, none⟩ (.int .i64 f1.bx)).setCell ⟨(b + 1 + 1), 14, none⟩ (.int .i64 f1.yb)).setCell ⟨(b + 1 + 1), 15, none⟩ (.int .u8 (f1.e.k : Int))).setCell ⟨(b + 1 + 1), 16, none⟩ (.int .i64 f1.e.cl)).setCell ⟨(b + 1 + 1), 17, none⟩ (.int .i64 f1.e.sq)).setCell ⟨(b + 1 + 1), 18, none⟩ (.int .u8 (f1.e.ok : Int))).setCell ⟨(b + 1 + 1), 19, none⟩ (.string f1.e.key)).setCell ⟨(b + 1 + 1), 20, none⟩ (.string f1.e.old)).setCell ⟨(b + 1 + 1), 21, none⟩ (.string f1.e.val)) = V2 at hT ⊢
  have HS := Lib.hid hT
  clear hT
  rw [rounds_succ]
  go_upto_region 7 with (fail)
  have HS := Lib.hid (HS.out.mono (Below.drew (Ext.refl V2)))
  refine wp_region_held_drew (S := fun w' => w'.heap[b + 1 + 1]? = some (.cells #[.int .u8 (f0.st : Int), .int .i64 f0.ix, .int .i64 f0.bx, .int .i64 f0.yb, .int .u8 (f0.e.k : Int), .int .i64 f0.e.cl, .int .i64 f0.e.sq, .int .u8 (f0.e.ok : Int), .string f0.e.key, .string f0.e.old, .string f0.e.val, .int .u8 (f1.st : Int), .int .i64 f1.ix, .int .i64 f1.bx, .int .i64 f1.yb, .int .u8 (f1.e.k : Int), .int .i64 f1.e.cl, .int .i64 f1.e.sq, .int .u8 (f1.e.ok : Int), .string f1.e.key, .string f1.e.old, .string f1.e.val] 150 (0, 0))) (by kernel_rfl) (HS.out.two) (fun hHeld => ?_)
  refine tj (i := 0) (oi := ⟨some 19, .move (.tmp 0), 31, "wal.go:182", #[], none⟩) rfl (by kernel_rfl) ?_
  try simp only [Act.put, sT, s0, s1]
  refine tj (i := 1) (oi := ⟨some 20, .move (.tmp 1), 3, "wal.go:182", #[], none⟩) rfl (by kernel_rfl) ?_
  try simp only [Act.put, sT, s0, s1]
  refine tk (i := 4) (oi := ⟨some 23, .load 150 (.tmp 6), 150, "wal.go:182", #[⟨5, .gcOnly .lateStores⟩], none⟩) (v := .agg #[.int .u8 (f0.st : Int), .int .i64 f0.ix, .int .i64 f0.bx, .int .i64 f0.yb, .int .u8 (f0.e.k : Int), .int .i64 f0.e.cl, .int .i64 f0.e.sq, .int .u8 (f0.e.ok : Int), .string f0.e.key, .string f0.e.old, .string f0.e.val, .int .u8 (f1.st : Int), .int .i64 f1.ix, .int .i64 f1.bx, .int .i64 f1.yb, .int .u8 (f1.e.k : Int), .int .i64 f1.e.cl, .int .i64 f1.e.sq, .int .u8 (f1.e.ok : Int), .string f1.e.key, .string f1.e.old, .string f1.e.val]) rfl (by kernel_rfl) (yieldsIf_load_mid (by rfl) 150 (.tmp 6) rfl (b + 1 + 1) 0 rfl [.int .u8 (f0.st : Int), .int .i64 f0.ix, .int .i64 f0.bx, .int .i64 f0.yb, .int .u8 (f0.e.k : Int), .int .i64 f0.e.cl, .int .i64 f0.e.sq, .int .u8 (f0.e.ok : Int), .string f0.e.key, .string f0.e.old, .string f0.e.val, .int .u8 (f1.st : Int), .int .i64 f1.ix, .int .i64 f1.bx, .int .i64 f1.yb, .int .u8 (f1.e.k : Int), .int .i64 f1.e.cl, .int .i64 f1.e.sq, .int .u8 (f1.e.ok : Int), .string f1.e.key, .string f1.e.old, .string f1.e.val] _ (fun w hw => row_range [.int .u8 (f0.st : Int), .int .i64 f0.ix, .int .i64 f0.bx, .int .i64 f0.yb, .int .u8 (f0.e.k : Int), .int .i64 f0.e.cl, .int .i64 f0.e.sq, .int .u8 (f0.e.ok : Int), .string f0.e.key, .string f0.e.old, .string f0.e.val, .int .u8 (f1.st : Int), .int .i64 f1.ix, .int .i64 f1.bx, .int .i64 f1.yb, .int .u8 (f1.e.k : Int), .int .i64 f1.e.cl, .int .i64 f1.e.sq, .int .u8 (f1.e.ok : Int), .string f1.e.key, .string f1.e.old, .string f1.e.val] hw 0) Tryz.underlying150 rfl (by kernel_rfl)) ?_
  try simp only [Act.put, sT, s0, s1]
  generalize V2.drew = V3 at *
  refine wpAnyH_ready (rs := [2]) (by kernel_rfl) (by simp) ?_
  refine AllReadyH.cons (o := ⟨some 21, .call { callee := .value (.func 74), args := #[.tmp 20], argTypes := #[3] }, 3, "wal.go:182", #[⟨1, .data⟩], none⟩) rfl (fun K hK => ?_) AllReadyH.nil
  go_simp
  refine (HPL.out V3).mono ?_
  rintro e w6 ⟨rfl, hx⟩
  have HS := Lib.hid (HS.out.mono hx)
  clear hx
  go_wp2_with fail
  refine hK.out _ _ (HS.out.two) (fun hHeld => ?_)
  clear hK K
  try simp only [Act.put, sT, s0, s1]
  refine wpAnyH_ready (rs := [3]) (by kernel_rfl) (by simp) ?_
  refine AllReadyH.cons (o := ⟨some 22, .call { callee := .value (.func 142), args := #[.tmp 19, .tmp 21], argTypes := #[31, 3] }, 147, "wal.go:182", #[⟨0, .data⟩, ⟨2, .data⟩, ⟨2, .chain⟩], none⟩) rfl (fun K hK => ?_) AllReadyH.nil
  go_simp
  refine (HRR.out w6 HS.out.ext).mono ?_
  rintro e w7 ⟨rfl, hx⟩
  have HS := Lib.hid (HS.out.mono hx)
  clear hx
  go_wp2_with fail
  refine hK.out _ _ (HS.out.two) (fun hHeld => ?_)
  clear hK K
  try simp only [Act.put, sT, s0, s1]
  refine wpAnyH_ready (rs := [5]) (by kernel_rfl) (by simp) ?_
  refine AllReadyH.cons (o := ⟨none, .store 147 (.tmp 4) (.tmp 22), 0, "wal.go:182", #[⟨3, .data⟩, ⟨3, .chain⟩, ⟨0, .phase⟩, ⟨1, .phase⟩, ⟨2, .phase⟩, ⟨3, .phase⟩, ⟨4, .textOnly .lateStores⟩], none⟩) rfl (fun K hK => ?_) AllReadyH.nil
  clear hHeld
  rw [if_pos (by rfl)]
  refine wp_store_mid 147 (.tmp 4) (.tmp 22) rfl b 0 #[.int .u8 (p.st : Int), .int .i64 p.ix, .int .i64 p.bx, .int .i64 p.yb, .int .i64 p.wh] rfl rfl (there_row HS.out.z4 0 5 (by simp)) HI.out.1 (by simp [Value.oneCell']) ?_
  refine hK.out _ _ ((HS.out.put4 0 _).two) (fun hHeld => ?_)
  clear hK K
  simp only [Act.put]
  refine wpAnyH_ready (rs := [6]) (by kernel_rfl) (by simp) ?_
  refine AllReadyH.cons (o := ⟨none, .store 150 (.tmp 5) (.tmp 23), 0, "wal.go:182", #[⟨4, .data⟩, ⟨5, .chain⟩, ⟨0, .phase⟩, ⟨1, .phase⟩, ⟨2, .phase⟩, ⟨3, .phase⟩, ⟨4, .phase⟩, ⟨5, .phase⟩], none⟩) rfl (fun K hK => ?_) AllReadyH.nil
  clear hHeld
  rw [if_pos (by rfl)]
  refine wp_store_mid 150 (.tmp 5) (.tmp 23) rfl (b + 1) 0 #[.int .u8 (f0.st : Int), .int .i64 f0.ix, .int .i64 f0.bx, .int .i64 f0.yb, .int .u8 (f0.e.k : Int), .int .i64 f0.e.cl, .int .i64 f0.e.sq, .int .u8 (f0.e.ok : Int), .string f0.e.key, .string f0.e.old, .string f0.e.val, .int .u8 (f1.st : Int), .int .i64 f1.ix, .int .i64 f1.bx, .int .i64 f1.yb, .int .u8 (f1.e.k : Int), .int .i64 f1.e.cl, .int .i64 f1.e.sq, .int .u8 (f1.e.ok : Int), .string f1.e.key, .string f1.e.old, .string f1.e.val] rfl rfl (there_row (HS.out.put4 0 _).z5 0 22 (by simp)) HI.out.2.1 (by simp [Value.oneCell']) ?_
  refine hK.out _ _ (((HS.out.put4 0 _).put5 0 _).two) (fun hHeld => ?_)
  clear hK K
  simp only [Act.put]
  refine wpAnyH_done (by kernel_rfl) ?_ _
  clear hHeld
  obtain ⟨hr3, hr4, hx⟩ := HS.out.fin (x0 := .int .u8 (p.st : Int)) (x1 := .int .i64 p.ix) (x2 := .int .i64 p.bx) (x3 := .int .i64 p.yb) (x4 := .int .i64 p.wh) (y0 := .int .u8 (f0.st : Int)) (y1 := .int .i64 f0.ix) (y2 := .int .i64 f0.bx) (y3 := .int .i64 f0.yb) (y4 := .int .u8 (f0.e.k : Int)) (y5 := .int .i64 f0.e.cl) (y6 := .int .i64 f0.e.sq) (y7 := .int .u8 (f0.e.ok : Int)) (y8 := .string f0.e.key) (y9 := .string f0.e.old) (y10 := .string f0.e.val) (y11 := .int .u8 (f1.st : Int)) (y12 := .int .i64 f1.ix) (y13 := .int .i64 f1.bx) (y14 := .int .i64 f1.yb) (y15 := .int .u8 (f1.e.k : Int)) (y16 := .int .i64 f1.e.cl) (y17 := .int .i64 f1.e.sq) (y18 := .int .u8 (f1.e.ok : Int)) (y19 := .string f1.e.key) (y20 := .string f1.e.old) (y21 := .string f1.e.val) HI.out.1 HI.out.2.1
  go_wp2_with fail
  refine bodyPost_ret (v := .tuple #[.agg #[.int .u8 (p.st : Int), .int .i64 p.ix, .int .i64 p.bx, .int .i64 p.yb, .int .i64 p.wh], .agg #[.int .u8 (f0.st : Int), .int .i64 f0.ix, .int .i64 f0.bx, .int .i64 f0.yb, .int .u8 (f0.e.k : Int), .int .i64 f0.e.cl, .int .i64 f0.e.sq, .int .u8 (f0.e.ok : Int), .string f0.e.key, .string f0.e.old, .string f0.e.val, .int .u8 (f1.st : Int), .int .i64 f1.ix, .int .i64 f1.bx, .int .i64 f1.yb, .int .u8 (f1.e.k : Int), .int .i64 f1.e.cl, .int .i64 f1.e.sq, .int .u8 (f1.e.ok : Int), .string f1.e.key, .string f1.e.old, .string f1.e.val]]) (results_two Tryz.results69 rfl rfl hr3 hr4) rfl ⟨rfl, hx⟩
theorem wread_of {w : World} {g d s : Nat} {r inc : Int} {F : Nat → Prop} {m : DM} (h : LogAt w g d r inc s) (hd : PDisk w d F m) (hL : LaidF w) (hLS : LaidS w) (i : Nat) (h1 : 1 ≤ i) (h2 : i ≤ 2000000000000) (hfew : m.waits.length ≤ 1000000) :
    Calls Tryz.prog 69 #[.pointer (some ⟨g, 0, none⟩), .int .i64 (i : Int)] w fun e w' => e = .returned (.tuple #[.agg #[.int .u8 ((m.recM r (placeW (i : Int))).st : Int), .int .i64 (m.recM r (placeW (i : Int))).ix, .int .i64 (m.recM r (placeW (i : Int))).bx, .int .i64 (m.recM r (placeW (i : Int))).yb, .int .i64 (m.recM r (placeW (i : Int))).wh], .agg #[.int .u8 ((m.copM r (2 * placeW (i : Int))).st : Int), .int .i64 (m.copM r (2 * placeW (i : Int))).ix, .int .i64 (m.copM r (2 * placeW (i : Int))).bx, .int .i64 (m.copM r (2 * placeW (i : Int))).yb, .int .u8 ((m.copM r (2 * placeW (i : Int))).e.k : Int), .int .i64 (m.copM r (2 * placeW (i : Int))).e.cl, .int .i64 (m.copM r (2 * placeW (i : Int))).e.sq, .int .u8 ((m.copM r (2 * placeW (i : Int))).e.ok : Int), .string (m.copM r (2 * placeW (i : Int))).e.key, .string (m.copM r (2 * placeW (i : Int))).e.old, .string (m.copM r (2 * placeW (i : Int))).e.val, .int .u8 ((m.copM r (2 * placeW (i : Int) + 1)).st : Int), .int .i64 (m.copM r (2 * placeW (i : Int) + 1)).ix, .int .i64 (m.copM r (2 * placeW (i : Int) + 1)).bx, .int .i64 (m.copM r (2 * placeW (i : Int) + 1)).yb, .int .u8 ((m.copM r (2 * placeW (i : Int) + 1)).e.k : Int), .int .i64 (m.copM r (2 * placeW (i : Int) + 1)).e.cl, .int .i64 (m.copM r (2 * placeW (i : Int) + 1)).e.sq, .int .u8 ((m.copM r (2 * placeW (i : Int) + 1)).e.ok : Int), .string (m.copM r (2 * placeW (i : Int) + 1)).e.key, .string (m.copM r (2 * placeW (i : Int) + 1)).e.old, .string (m.copM r (2 * placeW (i : Int) + 1)).e.val]]) ∧ Ext w w' := by
  obtain ⟨q, hq, hq24⟩ := placeW_nat (i := (i : Int))
  have e0 : 2 * (q : Int) = ((2 * q : Nat) : Int) := by omega
  have e1 : 2 * (q : Int) + 1 = ((2 * q + 1 : Nat) : Int) := by omega
  have hpl : ∀ V, Calls Tryz.prog 74 #[.int .i64 (i : Int)] V fun e w' => e = .returned (.int .i64 (q : Int)) ∧ Ext V w' := fun V => by
    rw [← hq]
    exact (recordPlace_of i h1 h2 V).mono fun e w' hh => ⟨hh.1, hh.2 ▸ Ext.refl V⟩
  have hf0 : ∀ V, Calls Tryz.prog 73 #[.int .i64 (i : Int), .int .i64 0] V fun e w' => e = .returned (.int .i64 ((2 * q : Nat) : Int)) ∧ Ext V w' := fun V => by
    rw [show ((2 * q : Nat) : Int) = 2 * placeW (i : Int) + 0 by rw [hq]; omega]
    exact (framePlace_of i 0 (.inl rfl) h1 h2 V).mono fun e w' hh => ⟨hh.1, hh.2 ▸ Ext.refl V⟩
  have hf1 : ∀ V, Calls Tryz.prog 73 #[.int .i64 (i : Int), .int .i64 1] V fun e w' => e = .returned (.int .i64 ((2 * q + 1 : Nat) : Int)) ∧ Ext V w' := fun V => by
    rw [show ((2 * q + 1 : Nat) : Int) = 2 * placeW (i : Int) + 1 by rw [hq]; omega]
    exact (framePlace_of i 1 (.inr rfl) h1 h2 V).mono fun e w' hh => ⟨hh.1, hh.2 ▸ Ext.refl V⟩
  rw [hq, e1, e0]
  exact wread_core g i q (2 * q) (2 * q + 1) _ _ _ hf0 hf1 hpl (fun V hV => readFrame_of (h.ext hV) (hd.ext hV) (hL.ext hV) (hLS.ext hV) (2 * q) (by omega) hfew)
    (fun V hV => readFrame_of (h.ext hV) (hd.ext hV) (hL.ext hV) (hLS.ext hV) (2 * q + 1) (by omega) hfew) (fun V hV => readRecord_of (h.ext hV) (hd.ext hV) (hL.ext hV) (hLS.ext hV) q hq24 hfew)
end
section
open Go Go.RowKit
theorem or2E (g cp : Nat) (a b : Int) (w : World) (h0 : w.cell? ⟨g, 0, none⟩ = some (.int .i64 a)) (h1 : w.cell? ⟨g, 1, none⟩ = some (.int .i64 b)) :
    Calls Tryz.prog 66 #[.slice (some ⟨g, 0, none⟩) 2 cp] w fun e w' => e = .returned (.int .i64 (orI a b)) ∧ w' = w := by
  by_cases k0 : a = 0
  case neg =>
    have ha : (a != 0) = true := by simpa using k0
    have he : orI a b = a := by simp [orI, k0]
    rw [he]
    go_enter Tryz.func66, Tryz.ntmps66
    go_wp2_with fail
    refine wp_loop_rounds 3 ?_
    rw [rounds_succ]
    go_wp2_with fail
    go_ret
    exact ⟨rfl, rfl⟩
  by_cases k1 : b = 0
  case neg =>
    have ha : (b != 0) = true := by simpa using k1
    have he : orI a b = b := by subst k0; simp [orI]
    rw [he]
    subst k0
    go_enter Tryz.func66, Tryz.ntmps66
    go_wp2_with fail
    refine wp_loop_rounds 3 ?_
    rw [rounds_succ]
    go_wp2_with fail
    rw [rounds_succ]
    go_wp2_with fail
    go_ret
    exact ⟨rfl, rfl⟩
  have he : orI a b = 0 := by simp [orI, k0, k1]
  rw [he]
  subst k0
  subst k1
  · skip
    go_enter Tryz.func66, Tryz.ntmps66
    go_wp2_with fail
    refine wp_loop_rounds 3 ?_
    rw [rounds_succ]
    go_wp2_with fail
    rw [rounds_succ]
    go_wp2_with fail
    rw [rounds_succ]
    go_wp2_with fail
    go_ret
    exact ⟨rfl, rfl⟩
theorem or3E (g cp : Nat) (a b c : Int) (w : World) (h0 : w.cell? ⟨g, 0, none⟩ = some (.int .i64 a)) (h1 : w.cell? ⟨g, 1, none⟩ = some (.int .i64 b)) (h2 : w.cell? ⟨g, 2, none⟩ = some (.int .i64 c)) :
    Calls Tryz.prog 66 #[.slice (some ⟨g, 0, none⟩) 3 cp] w fun e w' => e = .returned (.int .i64 (orI a (orI b c))) ∧ w' = w := by
  by_cases k0 : a = 0
  case neg =>
    have ha : (a != 0) = true := by simpa using k0
    have he : orI a (orI b c) = a := by simp [orI, k0]
    rw [he]
    go_enter Tryz.func66, Tryz.ntmps66
    go_wp2_with fail
    refine wp_loop_rounds 4 ?_
    rw [rounds_succ]
    go_wp2_with fail
    go_ret
    exact ⟨rfl, rfl⟩
  by_cases k1 : b = 0
  case neg =>
    have ha : (b != 0) = true := by simpa using k1
    have he : orI a (orI b c) = b := by subst k0; simp [orI, k1]
    rw [he]
    subst k0
    go_enter Tryz.func66, Tryz.ntmps66
    go_wp2_with fail
    refine wp_loop_rounds 4 ?_
    rw [rounds_succ]
    go_wp2_with fail
    rw [rounds_succ]
    go_wp2_with fail
    go_ret
    exact ⟨rfl, rfl⟩
  by_cases k2 : c = 0
  case neg =>
    have ha : (c != 0) = true := by simpa using k2
    have he : orI a (orI b c) = c := by subst k0 k1; simp [orI]
    rw [he]
    subst k0
    subst k1
    go_enter Tryz.func66, Tryz.ntmps66
    go_wp2_with fail
    refine wp_loop_rounds 4 ?_
    rw [rounds_succ]
    go_wp2_with fail
    rw [rounds_succ]
    go_wp2_with fail
    rw [rounds_succ]
    go_wp2_with fail
    go_ret
    exact ⟨rfl, rfl⟩
  have he : orI a (orI b c) = 0 := by simp [orI, k0, k1, k2]
  rw [he]
  subst k0
  subst k1
  subst k2
  · skip
    go_enter Tryz.func66, Tryz.ntmps66
    go_wp2_with fail
    refine wp_loop_rounds 4 ?_
    rw [rounds_succ]
    go_wp2_with fail
    rw [rounds_succ]
    go_wp2_with fail
    rw [rounds_succ]
    go_wp2_with fail
    rw [rounds_succ]
    go_wp2_with fail
    go_ret
    exact ⟨rfl, rfl⟩
end
section
open Go Go.RowKit
theorem setA_whole : ∀ (pre xs ys : List Value), xs.length = ys.length → setA (pre ++ xs).toArray pre.length ys = (pre ++ ys).toArray
  | pre, [], [], _ => rfl
  | pre, x :: xs, y :: ys, h => by
    have h1 : (pre ++ x :: xs).toArray.setIfInBounds pre.length y = ((pre ++ [y]) ++ xs).toArray := by
      apply Array.ext'
      simp
    show setA ((pre ++ x :: xs).toArray.setIfInBounds pre.length y) (pre.length + 1) ys = _
    rw [h1]
    have h2 := setA_whole (pre ++ [y]) xs ys (by simpa using h)
    rw [List.length_append, List.length_singleton] at h2
    rw [h2]
    simp
  | _, [], _ :: _, h => by simp at h
  | _, _ :: _, [], h => by simp at h
theorem setA_all (cs vs : Array Value) (h : cs.size = vs.size) : setA cs 0 vs.toList = vs := by
  have := setA_whole [] cs.toList vs.toList (by simpa using h)
  simpa using this
theorem alloc_setCell (W : World) (cs : Array Value) (t : TypeId) (i : Nat) (v : Value) : (W.alloc (.cells cs t)).setCell ⟨W.heap.size, i, none⟩ v = W.alloc (.cells (cs.setIfInBounds i v) t) := by
  have h : ((W.alloc (.cells cs t)).setCell ⟨W.heap.size, i, none⟩ v).heap = W.heap.push (.cells (cs.setIfInBounds i v) t) := by
    apply Array.ext_getElem?
    intro k
    unfold World.setCell World.alloc
    simp only
    rw [Array.getElem?_modify]
    by_cases hk : W.heap.size = k
    · subst hk
      simp
    · rw [if_neg hk, Array.getElem?_push, Array.getElem?_push, if_neg (by omega), if_neg (by omega)]
  exact congrArg (fun h => World.mk h W.tape W.drawn W.os W.output) h
theorem alloc_setL (W : World) (t : TypeId) : ∀ (vs : List Value) (o : Nat) (cs : Array Value), (W.alloc (.cells cs t)).setCells W.heap.size o vs = W.alloc (.cells (setA cs o vs) t)
  | [], _, _ => rfl
  | v :: vs, o, cs => by
    show ((W.alloc (.cells cs t)).setCell ⟨W.heap.size, o, none⟩ v).setCells W.heap.size (o + 1) vs = _
    rw [alloc_setCell]
    exact alloc_setL W t vs (o + 1) _
theorem alloc_setCells (W : World) (cs vs : Array Value) (t : TypeId) (h : cs.size = vs.size) : (W.alloc (.cells cs t)).setCells W.heap.size 0 vs.toList = W.alloc (.cells vs t) := by
  rw [alloc_setL, setA_all cs vs h]
variable {P : Program}
theorem wpList_store_fresh {ops : Array Oper} {rest : List Oper} {op : Oper} {a : Act} {W : World} {cs : Array Value} {t : TypeId} {Q : Exit → Act → World → Prop} (hgd : op.guard = none) (ty : TypeId) (x y : Operand) (ho : op.op = .store ty x y)
    (vs : Array Value) (g : Nat) (hg : g = W.heap.size) (hx : a.eval x = .pointer (some ⟨g, 0, none⟩)) (hy : a.eval y = .agg vs) (hs : cs.size = vs.size) (hi : (P.info? ty).map (·.size) = some vs.size) (h1 : vs.all (·.oneCell') = true)
    (h : wpList P ops Q rest (a.put op.dst undef) (W.alloc (.cells vs t))) : wpList P ops Q (op :: rest) a (W.alloc (.cells cs t)) := by
  subst hg
  refine wpList_store_mid hgd ty x y ho W.heap.size 0 vs hx hy (there_row (heap_alloc_new W _) 0 vs.size (by omega)) hi h1 ?_
  rw [alloc_setCells W cs vs t hs]
  exact h
end
end Go.Proofs.YtmbmpabjclkhlaaGreatDoor
