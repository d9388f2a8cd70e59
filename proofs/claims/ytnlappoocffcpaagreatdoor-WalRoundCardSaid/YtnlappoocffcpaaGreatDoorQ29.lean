/-
  The contract of read: what is read of the record and the frames of an index.
  The contracts of cmp.Or at errors, of two and of three.
  A whole array stored into the block that was made last: the block then holds it.
  Plain facts on logs: a put leaves the other slots as they were, whatever comes of it; one that is whole is read back.
-/
import Derived.Test.YtnlappoocffcpaaGreatDoorQ13
import Derived.Test.YtnlappoocffcpaaGreatDoorQ17
import Derived.Test.YtnlappoocffcpaaGreatDoorQ18
import Derived.Test.YtnlappoocffcpaaGreatDoorQ23
import Derived.Test.YtnlappoocffcpaaGreatDoorQ28
import Derived.Deep.DeepCutAuto
import Derived.Deep.MidRow
namespace Go.Proofs.YtnlappoocffcpaaGreatDoor
set_option maxRecDepth 100000
open Go Go.RowKit
structure WRdS (w W : World) (b : Nat) (zr zt ht : Array Value) : Prop where
  z4 : W.heap[b]? = some (.cells zr 115 (0, 0))
  z5 : W.heap[b + 1]? = some (.cells zt 118 (0, 0))
  two : W.heap[b + 1 + 1]? = some (.cells ht 118 (0, 0))
  ext : Ext w W
  le : w.heap.size ≤ b
section
variable {w W : World} {b : Nat} {zr zt ht : Array Value}
theorem WRdS.make (w : World) : WRdS w (((w.alloc (.cells #[.int .u8 0, .int .i64 0, .int .i64 0, .int .i64 0, .int .i64 0] 115)).alloc (.cells #[.int .u8 0, .int .i64 0, .int .i64 0, .int .i64 0, .int .u8 0, .int .i64 0, .int .i64 0, .int .u8 0, .string ⟨#[]⟩, .string ⟨#[]⟩, .string ⟨#[]⟩, .int .u8 0, .int .i64 0, .int .i64 0, .int .i64 0, .int .u8 0, .int .i64 0, .int .i64 0, .int .u8 0, .string ⟨#[]⟩, .string ⟨#[]⟩, .string ⟨#[]⟩] 118)).alloc (.cells #[.int .u8 0, .int .i64 0, .int .i64 0, .int .i64 0, .int .u8 0, .int .i64 0, .int .i64 0, .int .u8 0, .string ⟨#[]⟩, .string ⟨#[]⟩, .string ⟨#[]⟩, .int .u8 0, .int .i64 0, .int .i64 0, .int .i64 0, .int .u8 0, .int .i64 0, .int .i64 0, .int .u8 0, .string ⟨#[]⟩, .string ⟨#[]⟩, .string ⟨#[]⟩] 118)) w.heap.size #[.int .u8 0, .int .i64 0, .int .i64 0, .int .i64 0, .int .i64 0] #[.int .u8 0, .int .i64 0, .int .i64 0, .int .i64 0, .int .u8 0, .int .i64 0, .int .i64 0, .int .u8 0, .string ⟨#[]⟩, .string ⟨#[]⟩, .string ⟨#[]⟩, .int .u8 0, .int .i64 0, .int .i64 0, .int .i64 0, .int .u8 0, .int .i64 0, .int .i64 0, .int .u8 0, .string ⟨#[]⟩, .string ⟨#[]⟩, .string ⟨#[]⟩] #[.int .u8 0, .int .i64 0, .int .i64 0, .int .i64 0, .int .u8 0, .int .i64 0, .int .i64 0, .int .u8 0, .string ⟨#[]⟩, .string ⟨#[]⟩, .string ⟨#[]⟩, .int .u8 0, .int .i64 0, .int .i64 0, .int .i64 0, .int .u8 0, .int .i64 0, .int .i64 0, .int .u8 0, .string ⟨#[]⟩, .string ⟨#[]⟩, .string ⟨#[]⟩] := by
  have row : ∀ (V : World) (cs : Array Value) (t : TypeId) (k : Nat), k = V.heap.size → (V.alloc (.cells cs t)).heap[k]? = some (.cells cs t (0, 0)) := fun V cs t k hk => by subst hk; exact heap_alloc_new V _
  have e1 : Ext (w.alloc (.cells #[.int .u8 0, .int .i64 0, .int .i64 0, .int .i64 0, .int .i64 0] 115)) ((w.alloc (.cells #[.int .u8 0, .int .i64 0, .int .i64 0, .int .i64 0, .int .i64 0] 115)).alloc (.cells #[.int .u8 0, .int .i64 0, .int .i64 0, .int .i64 0, .int .u8 0, .int .i64 0, .int .i64 0, .int .u8 0, .string ⟨#[]⟩, .string ⟨#[]⟩, .string ⟨#[]⟩, .int .u8 0, .int .i64 0, .int .i64 0, .int .i64 0, .int .u8 0, .int .i64 0, .int .i64 0, .int .u8 0, .string ⟨#[]⟩, .string ⟨#[]⟩, .string ⟨#[]⟩] 118)) := (Ext.refl _).alloc _
  have e2 : Ext ((w.alloc (.cells #[.int .u8 0, .int .i64 0, .int .i64 0, .int .i64 0, .int .i64 0] 115)).alloc (.cells #[.int .u8 0, .int .i64 0, .int .i64 0, .int .i64 0, .int .u8 0, .int .i64 0, .int .i64 0, .int .u8 0, .string ⟨#[]⟩, .string ⟨#[]⟩, .string ⟨#[]⟩, .int .u8 0, .int .i64 0, .int .i64 0, .int .i64 0, .int .u8 0, .int .i64 0, .int .i64 0, .int .u8 0, .string ⟨#[]⟩, .string ⟨#[]⟩, .string ⟨#[]⟩] 118)) (((w.alloc (.cells #[.int .u8 0, .int .i64 0, .int .i64 0, .int .i64 0, .int .i64 0] 115)).alloc (.cells #[.int .u8 0, .int .i64 0, .int .i64 0, .int .i64 0, .int .u8 0, .int .i64 0, .int .i64 0, .int .u8 0, .string ⟨#[]⟩, .string ⟨#[]⟩, .string ⟨#[]⟩, .int .u8 0, .int .i64 0, .int .i64 0, .int .i64 0, .int .u8 0, .int .i64 0, .int .i64 0, .int .u8 0, .string ⟨#[]⟩, .string ⟨#[]⟩, .string ⟨#[]⟩] 118)).alloc (.cells #[.int .u8 0, .int .i64 0, .int .i64 0, .int .i64 0, .int .u8 0, .int .i64 0, .int .i64 0, .int .u8 0, .string ⟨#[]⟩, .string ⟨#[]⟩, .string ⟨#[]⟩, .int .u8 0, .int .i64 0, .int .i64 0, .int .i64 0, .int .u8 0, .int .i64 0, .int .i64 0, .int .u8 0, .string ⟨#[]⟩, .string ⟨#[]⟩, .string ⟨#[]⟩] 118)) := (Ext.refl _).alloc _
  exact ⟨keep_row e2 (keep_row e1 (heap_alloc_new w _)), keep_row e2 (row _ _ _ _ (by simp)), row _ _ _ _ (by simp), (((Ext.refl w).alloc _).alloc _).alloc _, Nat.le_refl _⟩
theorem WRdS.mono {W' : World} (h : WRdS w W b zr zt ht) (hx : Ext W W') : WRdS w W' b zr zt ht := ⟨keep_row hx h.z4, keep_row hx h.z5, keep_row hx h.two, h.ext.trans hx, h.le⟩
theorem WRdS.put6 (h : WRdS w W b zr zt ht) (o : Nat) (xs : List Value) : WRdS w (W.setCells (b + 1 + 1) o xs) b zr zt (setA ht o xs) :=
  ⟨off_setCells h.z4 (by omega) o xs, off_setCells h.z5 (by omega) o xs, row_setCells h.two o xs, ext_setCells h.ext (by have := h.le; omega) o xs, h.le⟩
theorem WRdS.put4 (h : WRdS w W b zr zt ht) (o : Nat) (xs : List Value) : WRdS w (W.setCells b o xs) b (setA zr o xs) zt ht :=
  ⟨row_setCells h.z4 o xs, off_setCells h.z5 (by omega) o xs, off_setCells h.two (by omega) o xs, ext_setCells h.ext h.le o xs, h.le⟩
theorem WRdS.put5 (h : WRdS w W b zr zt ht) (o : Nat) (xs : List Value) : WRdS w (W.setCells (b + 1) o xs) b zr (setA zt o xs) ht :=
  ⟨off_setCells h.z4 (by omega) o xs, row_setCells h.z5 o xs, off_setCells h.two (by omega) o xs, ext_setCells h.ext (by have := h.le; omega) o xs, h.le⟩
end
theorem WRdS.fin {w W : World} {b : Nat} {x0 x1 x2 x3 x4 y0 y1 y2 y3 y4 y5 y6 y7 y8 y9 y10 y11 y12 y13 y14 y15 y16 y17 y18 y19 y20 y21 z0 z1 z2 z3 z4 v0 v1 v2 v3 v4 v5 v6 v7 v8 v9 v10 v11 v12 v13 v14 v15 v16 v17 v18 v19 v20 v21 : Value} {ht : Array Value} (h : WRdS w W b #[z0, z1, z2, z3, z4] #[v0, v1, v2, v3, v4, v5, v6, v7, v8, v9, v10, v11, v12, v13, v14, v15, v16, v17, v18, v19, v20, v21] ht) (i3 : (Tryz.prog.info? 115).map (·.size) = some 5) (i4 : (Tryz.prog.info? 118).map (·.size) = some 22) :
    let V := (W.setCells b 0 [x0, x1, x2, x3, x4]).setCells (b + 1) 0 [y0, y1, y2, y3, y4, y5, y6, y7, y8, y9, y10, y11, y12, y13, y14, y15, y16, y17, y18, y19, y20, y21]
    (loadVar 115 ⟨b, 0, none⟩).run Tryz.prog V = .ok (.agg #[x0, x1, x2, x3, x4]) V ∧ (loadVar 118 ⟨b + 1, 0, none⟩).run Tryz.prog V = .ok (.agg #[y0, y1, y2, y3, y4, y5, y6, y7, y8, y9, y10, y11, y12, y13, y14, y15, y16, y17, y18, y19, y20, y21]) V ∧ Ext w V := by
  intro V
  have hT := (h.put4 0 [x0, x1, x2, x3, x4]).put5 0 [y0, y1, y2, y3, y4, y5, y6, y7, y8, y9, y10, y11, y12, y13, y14, y15, y16, y17, y18, y19, y20, y21]
  rw [arr5, arr22] at hT
  exact ⟨run_loadVar_mid V b 0 115 [x0, x1, x2, x3, x4] _ (row_range [x0, x1, x2, x3, x4] hT.z4 0) Tryz.underlying115 rfl i3, run_loadVar_mid V (b + 1) 0 118 [y0, y1, y2, y3, y4, y5, y6, y7, y8, y9, y10, y11, y12, y13, y14, y15, y16, y17, y18, y19, y20, y21] _ (row_range [y0, y1, y2, y3, y4, y5, y6, y7, y8, y9, y10, y11, y12, y13, y14, y15, y16, y17, y18, y19, y20, y21] hT.z5 0) Tryz.underlying118 rfl i4, hT.ext⟩
set_option maxRecDepth 100000 in
set_option maxHeartbeats 1200000 in
theorem wread_core {w : World} (g i q p0 p1 : Nat) (p : Rec) (f0 f1 : CopL)
    (hf0 : ∀ V, Calls Tryz.prog 51 #[.int .i64 (i : Int), .int .i64 0] V fun e w' => e = .returned (.int .i64 (p0 : Int)) ∧ Ext V w') (hf1 : ∀ V, Calls Tryz.prog 51 #[.int .i64 (i : Int), .int .i64 1] V fun e w' => e = .returned (.int .i64 (p1 : Int)) ∧ Ext V w') (hpl : ∀ V, Calls Tryz.prog 52 #[.int .i64 (i : Int)] V fun e w' => e = .returned (.int .i64 (q : Int)) ∧ Ext V w')
    (hr0 : ∀ V, Ext w V → Calls Tryz.prog 88 #[.pointer (some ⟨g, 0, none⟩), .int .i64 (p0 : Int)] V fun e w' => e = .returned (.agg #[.int .u8 (f0.st : Int), .int .i64 f0.ix, .int .i64 f0.bx, .int .i64 f0.yb, .int .u8 (f0.e.k : Int), .int .i64 f0.e.cl, .int .i64 f0.e.sq, .int .u8 (f0.e.ok : Int), .string f0.e.key, .string f0.e.old, .string f0.e.val]) ∧ Ext V w')
    (hr1 : ∀ V, Ext w V → Calls Tryz.prog 88 #[.pointer (some ⟨g, 0, none⟩), .int .i64 (p1 : Int)] V fun e w' => e = .returned (.agg #[.int .u8 (f1.st : Int), .int .i64 f1.ix, .int .i64 f1.bx, .int .i64 f1.yb, .int .u8 (f1.e.k : Int), .int .i64 f1.e.cl, .int .i64 f1.e.sq, .int .u8 (f1.e.ok : Int), .string f1.e.key, .string f1.e.old, .string f1.e.val]) ∧ Ext V w')
    (hrr : ∀ V, Ext w V → Calls Tryz.prog 89 #[.pointer (some ⟨g, 0, none⟩), .int .i64 (q : Int)] V fun e w' => e = .returned (.agg #[.int .u8 (p.st : Int), .int .i64 p.ix, .int .i64 p.bx, .int .i64 p.yb, .int .i64 p.wh]) ∧ Ext V w') :
    Calls Tryz.prog 47 #[.pointer (some ⟨g, 0, none⟩), .int .i64 (i : Int)] w fun e w' => e = .returned (.tuple #[.agg #[.int .u8 (p.st : Int), .int .i64 p.ix, .int .i64 p.bx, .int .i64 p.yb, .int .i64 p.wh], .agg #[.int .u8 (f0.st : Int), .int .i64 f0.ix, .int .i64 f0.bx, .int .i64 f0.yb, .int .u8 (f0.e.k : Int), .int .i64 f0.e.cl, .int .i64 f0.e.sq, .int .u8 (f0.e.ok : Int), .string f0.e.key, .string f0.e.old, .string f0.e.val, .int .u8 (f1.st : Int), .int .i64 f1.ix, .int .i64 f1.bx, .int .i64 f1.yb, .int .u8 (f1.e.k : Int), .int .i64 f1.e.cl, .int .i64 f1.e.sq, .int .u8 (f1.e.ok : Int), .string f1.e.key, .string f1.e.old, .string f1.e.val]]) ∧ Ext w w' := by
  have HS := Lib.hid (WRdS.make w)
  have HF0 := Lib.hid hf0
  have HF1 := Lib.hid hf1
  have HPL := Lib.hid hpl
  have HR0 := Lib.hid hr0
  have HR1 := Lib.hid hr1
  have HRR := Lib.hid hrr
  have i3 : (Tryz.prog.info? 115).map (·.size) = some 5 := by kernel_rfl
  have i4 : (Tryz.prog.info? 118).map (·.size) = some 22 := by kernel_rfl
  have i5 : (Tryz.prog.info? 117).map (·.size) = some 11 := by kernel_rfl
  have HI := Lib.hid (And.intro i3 (And.intro i4 i5))
  clear hf0 hf1 hpl hr0 hr1 hrr i3 i4 i5
  go_enter Tryz.func47, Tryz.ntmps47
  go_wp2_with fail
  obtain ⟨b, hb⟩ : ∃ b, w.heap.size = b := ⟨_, rfl⟩
  rw [hb] at HS ⊢
  generalize (((w.alloc (.cells #[.int .u8 0, .int .i64 0, .int .i64 0, .int .i64 0, .int .i64 0] 115)).alloc (.cells #[.int .u8 0, .int .i64 0, .int .i64 0, .int .i64 0, .int .u8 0, .int .i64 0, .int .i64 0, .int .u8 0, .string ⟨#[]⟩, .string ⟨#[]⟩, .string ⟨#[]⟩, .int .u8 0, .int .i64 0, .int .i64 0, .int .i64 0, .int .u8 0, .int .i64 0, .int .i64 0, .int .u8 0, .string ⟨#[]⟩, .string ⟨#[]⟩, .string ⟨#[]⟩] 118)).alloc (.cells #[.int .u8 0, .int .i64 0, .int .i64 0, .int .i64 0, .int .u8 0, .int .i64 0, .int .i64 0, .int .u8 0, .string ⟨#[]⟩, .string ⟨#[]⟩, .string ⟨#[]⟩, .int .u8 0, .int .i64 0, .int .i64 0, .int .i64 0, .int .u8 0, .int .i64 0, .int .i64 0, .int .u8 0, .string ⟨#[]⟩, .string ⟨#[]⟩, .string ⟨#[]⟩] 118)) = V0 at HS ⊢
  clear hb
  refine wp_loop_rounds 3 ?_
  rw [rounds_succ]
  go_wp2_with fail
  refine (HF0.out V0).mono ?_
  rintro e w1 ⟨rfl, hx⟩
  have HS := Lib.hid (HS.out.mono hx)
  clear hx
  go_wp2_with fail
  refine (HR0.out w1 HS.out.ext).mono ?_
  rintro e w2 ⟨rfl, hx⟩
  have HS := Lib.hid (HS.out.mono hx)
  have c0 := cell_of_row w2 (b + 1 + 1) 0 _ _ _ (HS.out.two)
  have c1 := cell_of_row w2 (b + 1 + 1) 1 _ _ _ (HS.out.two)
  have c2 := cell_of_row w2 (b + 1 + 1) 2 _ _ _ (HS.out.two)
  have c3 := cell_of_row w2 (b + 1 + 1) 3 _ _ _ (HS.out.two)
  have c4 := cell_of_row w2 (b + 1 + 1) 4 _ _ _ (HS.out.two)
  have c5 := cell_of_row w2 (b + 1 + 1) 5 _ _ _ (HS.out.two)
  have c6 := cell_of_row w2 (b + 1 + 1) 6 _ _ _ (HS.out.two)
  have c7 := cell_of_row w2 (b + 1 + 1) 7 _ _ _ (HS.out.two)
  have c8 := cell_of_row w2 (b + 1 + 1) 8 _ _ _ (HS.out.two)
  have c9 := cell_of_row w2 (b + 1 + 1) 9 _ _ _ (HS.out.two)
  have c10 := cell_of_row w2 (b + 1 + 1) 10 _ _ _ (HS.out.two)
  have e0 := frozen_of_row w2 (b + 1 + 1) 0 _ _ (HS.out.two)
  have e1 := frozen_of_row w2 (b + 1 + 1) 1 _ _ (HS.out.two)
  have e2 := frozen_of_row w2 (b + 1 + 1) 2 _ _ (HS.out.two)
  have e3 := frozen_of_row w2 (b + 1 + 1) 3 _ _ (HS.out.two)
  have e4 := frozen_of_row w2 (b + 1 + 1) 4 _ _ (HS.out.two)
  have e5 := frozen_of_row w2 (b + 1 + 1) 5 _ _ (HS.out.two)
  have e6 := frozen_of_row w2 (b + 1 + 1) 6 _ _ (HS.out.two)
  have e7 := frozen_of_row w2 (b + 1 + 1) 7 _ _ (HS.out.two)
  have e8 := frozen_of_row w2 (b + 1 + 1) 8 _ _ (HS.out.two)
  have e9 := frozen_of_row w2 (b + 1 + 1) 9 _ _ (HS.out.two)
  have e10 := frozen_of_row w2 (b + 1 + 1) 10 _ _ (HS.out.two)
  have hlt := (Array.getElem?_eq_some_iff.1 HS.out.two).1
  clear hx
  go_wp2_with fail
  have hT : WRdS w (((((((((((w2.setCell ⟨(b + 1 + 1), 0, none⟩ (.int .u8 (f0.st : Int))).setCell ⟨(b + 1 + 1), 1, none⟩ (.int .i64 f0.ix)).setCell ⟨(b + 1 + 1), 2, none⟩ (.int .i64 f0.bx)).setCell ⟨(b + 1 + 1), 3, none⟩ (.int .i64 f0.yb)).setCell ⟨(b + 1 + 1), 4, none⟩ (.int .u8 (f0.e.k : Int))).setCell ⟨(b + 1 + 1), 5, none⟩ (.int .i64 f0.e.cl)).setCell ⟨(b + 1 + 1), 6, none⟩ (.int .i64 f0.e.sq)).setCell ⟨(b + 1 + 1), 7, none⟩ (.int .u8 (f0.e.ok : Int))).setCell ⟨(b + 1 + 1), 8, none⟩ (.string f0.e.key)).setCell ⟨(b + 1 + 1), 9, none⟩ (.string f0.e.old)).setCell ⟨(b + 1 + 1), 10, none⟩ (.string f0.e.val)) b #[.int .u8 0, .int .i64 0, .int .i64 0, .int .i64 0, .int .i64 0] #[.int .u8 0, .int .i64 0, .int .i64 0, .int .i64 0, .int .u8 0, .int .i64 0, .int .i64 0, .int .u8 0, .string ⟨#[]⟩, .string ⟨#[]⟩, .string ⟨#[]⟩, .int .u8 0, .int .i64 0, .int .i64 0, .int .i64 0, .int .u8 0, .int .i64 0, .int .i64 0, .int .u8 0, .string ⟨#[]⟩, .string ⟨#[]⟩, .string ⟨#[]⟩] #[.int .u8 (f0.st : Int), .int .i64 f0.ix, .int .i64 f0.bx, .int .i64 f0.yb, .int .u8 (f0.e.k : Int), .int .i64 f0.e.cl, .int .i64 f0.e.sq, .int .u8 (f0.e.ok : Int), .string f0.e.key, .string f0.e.old, .string f0.e.val, .int .u8 0, .int .i64 0, .int .i64 0, .int .i64 0, .int .u8 0, .int .i64 0, .int .i64 0, .int .u8 0, .string ⟨#[]⟩, .string ⟨#[]⟩, .string ⟨#[]⟩] := by
    have h1 := HS.out.put6 0 [.int .u8 (f0.st : Int), .int .i64 f0.ix, .int .i64 f0.bx, .int .i64 f0.yb, .int .u8 (f0.e.k : Int), .int .i64 f0.e.cl, .int .i64 f0.e.sq, .int .u8 (f0.e.ok : Int), .string f0.e.key, .string f0.e.old, .string f0.e.val]
    rw [setCells_eq, arr11a] at h1
    rw [tower11a]
    exact h1
  clear c0 c1 c2 c3 c4 c5 c6 c7 c8 c9 c10 e0 e1 e2 e3 e4 e5 e6 e7 e8 e9 e10 hlt
  generalize (((((((((((w2.setCell ⟨(b + 1 + 1), 0, none⟩ (.int .u8 (f0.st : Int))).setCell ⟨(b + 1 + 1), 1, none⟩ (.int .i64 f0.ix)).setCell ⟨(b + 1 + 1), 2, none⟩ (.int .i64 f0.bx)).setCell ⟨(b + 1 + 1), 3, none⟩ (.int .i64 f0.yb)).setCell ⟨(b + 1 + 1), 4, none⟩ (.int .u8 (f0.e.k : Int))).setCell ⟨(b + 1 + 1), 5, none⟩ (.int .i64 f0.e.cl)).setCell ⟨(b + 1 + 1), 6, none⟩ (.int .i64 f0.e.sq)).setCell ⟨(b + 1 + 1), 7, none⟩ (.int .u8 (f0.e.ok : Int))).setCell ⟨(b + 1 + 1), 8, none⟩ (.string f0.e.key)).setCell ⟨(b + 1 + 1), 9, none⟩ (.string f0.e.old)).setCell ⟨(b + 1 + 1), 10, none⟩ (.string f0.e.val)) = V1 at hT ⊢
  have HS := Lib.hid hT
  clear hT
  rw [rounds_succ]
  go_wp2_with fail
  refine (HF1.out V1).mono ?_
  rintro e w1 ⟨rfl, hx⟩
  have HS := Lib.hid (HS.out.mono hx)
  clear hx
  go_wp2_with fail
  refine (HR1.out w1 HS.out.ext).mono ?_
  rintro e w2 ⟨rfl, hx⟩
  have HS := Lib.hid (HS.out.mono hx)
  have c0 := cell_of_row w2 (b + 1 + 1) 11 _ _ _ (HS.out.two)
  have c1 := cell_of_row w2 (b + 1 + 1) 12 _ _ _ (HS.out.two)
  have c2 := cell_of_row w2 (b + 1 + 1) 13 _ _ _ (HS.out.two)
  have c3 := cell_of_row w2 (b + 1 + 1) 14 _ _ _ (HS.out.two)
  have c4 := cell_of_row w2 (b + 1 + 1) 15 _ _ _ (HS.out.two)
  have c5 := cell_of_row w2 (b + 1 + 1) 16 _ _ _ (HS.out.two)
  have c6 := cell_of_row w2 (b + 1 + 1) 17 _ _ _ (HS.out.two)
  have c7 := cell_of_row w2 (b + 1 + 1) 18 _ _ _ (HS.out.two)
  have c8 := cell_of_row w2 (b + 1 + 1) 19 _ _ _ (HS.out.two)
  have c9 := cell_of_row w2 (b + 1 + 1) 20 _ _ _ (HS.out.two)
  have c10 := cell_of_row w2 (b + 1 + 1) 21 _ _ _ (HS.out.two)
  have e0 := frozen_of_row w2 (b + 1 + 1) 11 _ _ (HS.out.two)
  have e1 := frozen_of_row w2 (b + 1 + 1) 12 _ _ (HS.out.two)
  have e2 := frozen_of_row w2 (b + 1 + 1) 13 _ _ (HS.out.two)
  have e3 := frozen_of_row w2 (b + 1 + 1) 14 _ _ (HS.out.two)
  have e4 := frozen_of_row w2 (b + 1 + 1) 15 _ _ (HS.out.two)
  have e5 := frozen_of_row w2 (b + 1 + 1) 16 _ _ (HS.out.two)
  have e6 := frozen_of_row w2 (b + 1 + 1) 17 _ _ (HS.out.two)
  have e7 := frozen_of_row w2 (b + 1 + 1) 18 _ _ (HS.out.two)
  have e8 := frozen_of_row w2 (b + 1 + 1) 19 _ _ (HS.out.two)
  have e9 := frozen_of_row w2 (b + 1 + 1) 20 _ _ (HS.out.two)
  have e10 := frozen_of_row w2 (b + 1 + 1) 21 _ _ (HS.out.two)
  have hlt := (Array.getElem?_eq_some_iff.1 HS.out.two).1
  clear hx
  go_wp2_with fail
  have hT : WRdS w (((((((((((w2.setCell ⟨(b + 1 + 1), 11, none⟩ (.int .u8 (f1.st : Int))).setCell ⟨(b + 1 + 1), 12, none⟩ (.int .i64 f1.ix)).setCell ⟨(b + 1 + 1), 13, none⟩ (.int .i64 f1.bx)).setCell ⟨(b + 1 + 1), 14, none⟩ (.int .i64 f1.yb)).setCell ⟨(b + 1 + 1), 15, none⟩ (.int .u8 (f1.e.k : Int))).setCell ⟨(b + 1 + 1), 16, none⟩ (.int .i64 f1.e.cl)).setCell ⟨(b + 1 + 1), 17, none⟩ (.int .i64 f1.e.sq)).setCell ⟨(b + 1 + 1), 18, none⟩ (.int .u8 (f1.e.ok : Int))).setCell ⟨(b + 1 + 1), 19, none⟩ (.string f1.e.key)).setCell ⟨(b + 1 + 1), 20, none⟩ (.string f1.e.old)).setCell ⟨(b + 1 + 1), 21, none⟩ (.string f1.e.val)) b #[.int .u8 0, .int .i64 0, .int .i64 0, .int .i64 0, .int .i64 0] #[.int .u8 0, .int .i64 0, .int .i64 0, .int .i64 0, .int .u8 0, .int .i64 0, .int .i64 0, .int .u8 0, .string ⟨#[]⟩, .string ⟨#[]⟩, .string ⟨#[]⟩, .int .u8 0, .int .i64 0, .int .i64 0, .int .i64 0, .int .u8 0, .int .i64 0, .int .i64 0, .int .u8 0, .string ⟨#[]⟩, .string ⟨#[]⟩, .string ⟨#[]⟩] #[.int .u8 (f0.st : Int), .int .i64 f0.ix, .int .i64 f0.bx, .int .i64 f0.yb, .int .u8 (f0.e.k : Int), .int .i64 f0.e.cl, .int .i64 f0.e.sq, .int .u8 (f0.e.ok : Int), .string f0.e.key, .string f0.e.old, .string f0.e.val, .int .u8 (f1.st : Int), .int .i64 f1.ix, .int .i64 f1.bx, .int .i64 f1.yb, .int .u8 (f1.e.k : Int), .int .i64 f1.e.cl, .int .i64 f1.e.sq, .int .u8 (f1.e.ok : Int), .string f1.e.key, .string f1.e.old, .string f1.e.val] := by
    have h1 := HS.out.put6 11 [.int .u8 (f1.st : Int), .int .i64 f1.ix, .int .i64 f1.bx, .int .i64 f1.yb, .int .u8 (f1.e.k : Int), .int .i64 f1.e.cl, .int .i64 f1.e.sq, .int .u8 (f1.e.ok : Int), .string f1.e.key, .string f1.e.old, .string f1.e.val]
    rw [setCells_eq, arr11b] at h1
    rw [tower11b]
    exact h1
  clear c0 c1 c2 c3 c4 c5 c6 c7 c8 c9 c10 e0 e1 e2 e3 e4 e5 e6 e7 e8 e9 e10 hlt
  generalize (((((((((((w2.setCell ⟨(b + 1 + 1), 11, none⟩ (.int .u8 (f1.st : Int))).setCell ⟨(b + 1 + 1), 12, none⟩ (.int .i64 f1.ix)).setCell ⟨(b + 1 + 1), 13, none⟩ (.int .i64 f1.bx)).setCell ⟨(b + 1 + 1), 14, none⟩ (.int .i64 f1.yb)).setCell ⟨(b + 1 + 1), 15, none⟩ (.int .u8 (f1.e.k : Int))).setCell ⟨(b + 1 + 1), 16, none⟩ (.int .i64 f1.e.cl)).setCell ⟨(b + 1 + 1), 17, none⟩ (.int .i64 f1.e.sq)).setCell ⟨(b + 1 + 1), 18, none⟩ (.int .u8 (f1.e.ok : Int))).setCell ⟨(b + 1 + 1), 19, none⟩ (.string f1.e.key)).setCell ⟨(b + 1 + 1), 20, none⟩ (.string f1.e.old)).setCell ⟨(b + 1 + 1), 21, none⟩ (.string f1.e.val)) = V2 at hT ⊢
  have HS := Lib.hid hT
  clear hT
  rw [rounds_succ]
  go_upto_region 7 with (fail)
  have HS := Lib.hid (HS.out.mono (Below.drew (Ext.refl V2)))
  refine wp_region_held_drew (S := fun w' => w'.heap[b + 1 + 1]? = some (.cells #[.int .u8 (f0.st : Int), .int .i64 f0.ix, .int .i64 f0.bx, .int .i64 f0.yb, .int .u8 (f0.e.k : Int), .int .i64 f0.e.cl, .int .i64 f0.e.sq, .int .u8 (f0.e.ok : Int), .string f0.e.key, .string f0.e.old, .string f0.e.val, .int .u8 (f1.st : Int), .int .i64 f1.ix, .int .i64 f1.bx, .int .i64 f1.yb, .int .u8 (f1.e.k : Int), .int .i64 f1.e.cl, .int .i64 f1.e.sq, .int .u8 (f1.e.ok : Int), .string f1.e.key, .string f1.e.old, .string f1.e.val] 118 (0, 0))) (by kernel_rfl) (HS.out.two) (fun hHeld => ?_)
  refine wpAnyH_take (i := 0) (oi := { dst := some 19, op := .move (.tmp 0), type := 31, pos := "wal.go:182", after := #[], guard := none }) (v := ?_) rfl (by kernel_rfl) (by kernel_rfl) (by kernel_rfl) (fun _ _ _ h => h) (Or.inl ⟨by rfl, ?_⟩) (by assumption) ?_
  rotate_left
  · intro w9 hSw
    try dsimp only at hSw
    go_simp
    try with_reducible rfl
  try simp only [Act.put, List.setIfInBounds_toArray, List.set_cons_zero, List.set_cons_succ]
  refine wpAnyH_take (i := 1) (oi := { dst := some 20, op := .move (.tmp 1), type := 3, pos := "wal.go:182", after := #[], guard := none }) (v := ?_) rfl (by kernel_rfl) (by kernel_rfl) (by kernel_rfl) (fun _ _ _ h => h) (Or.inl ⟨by rfl, ?_⟩) (by assumption) ?_
  rotate_left
  · intro w9 hSw
    try dsimp only at hSw
    go_simp
    try with_reducible rfl
  try simp only [Act.put, List.setIfInBounds_toArray, List.set_cons_zero, List.set_cons_succ]
  refine wpAnyH_take (i := 4) (oi := { dst := some 23, op := .load 118 (.tmp 6), type := 118, pos := "wal.go:182", after := #[⟨5, .gcOnly .lateStores⟩], guard := none }) (v := .agg #[.int .u8 (f0.st : Int), .int .i64 f0.ix, .int .i64 f0.bx, .int .i64 f0.yb, .int .u8 (f0.e.k : Int), .int .i64 f0.e.cl, .int .i64 f0.e.sq, .int .u8 (f0.e.ok : Int), .string f0.e.key, .string f0.e.old, .string f0.e.val, .int .u8 (f1.st : Int), .int .i64 f1.ix, .int .i64 f1.bx, .int .i64 f1.yb, .int .u8 (f1.e.k : Int), .int .i64 f1.e.cl, .int .i64 f1.e.sq, .int .u8 (f1.e.ok : Int), .string f1.e.key, .string f1.e.old, .string f1.e.val]) rfl (by kernel_rfl) (by kernel_rfl) (by kernel_rfl) (fun _ _ _ h => h) (yieldsIf_load_mid (by rfl) 118 (.tmp 6) rfl (b + 1 + 1) 0 rfl [.int .u8 (f0.st : Int), .int .i64 f0.ix, .int .i64 f0.bx, .int .i64 f0.yb, .int .u8 (f0.e.k : Int), .int .i64 f0.e.cl, .int .i64 f0.e.sq, .int .u8 (f0.e.ok : Int), .string f0.e.key, .string f0.e.old, .string f0.e.val, .int .u8 (f1.st : Int), .int .i64 f1.ix, .int .i64 f1.bx, .int .i64 f1.yb, .int .u8 (f1.e.k : Int), .int .i64 f1.e.cl, .int .i64 f1.e.sq, .int .u8 (f1.e.ok : Int), .string f1.e.key, .string f1.e.old, .string f1.e.val] _ (fun w hw => row_range [.int .u8 (f0.st : Int), .int .i64 f0.ix, .int .i64 f0.bx, .int .i64 f0.yb, .int .u8 (f0.e.k : Int), .int .i64 f0.e.cl, .int .i64 f0.e.sq, .int .u8 (f0.e.ok : Int), .string f0.e.key, .string f0.e.old, .string f0.e.val, .int .u8 (f1.st : Int), .int .i64 f1.ix, .int .i64 f1.bx, .int .i64 f1.yb, .int .u8 (f1.e.k : Int), .int .i64 f1.e.cl, .int .i64 f1.e.sq, .int .u8 (f1.e.ok : Int), .string f1.e.key, .string f1.e.old, .string f1.e.val] hw 0) Tryz.underlying118 rfl (by kernel_rfl)) (by assumption) ?_
  try simp only [Act.put, List.setIfInBounds_toArray, List.set_cons_zero, List.set_cons_succ]
  generalize V2.drew = V3 at *
  refine wpAnyH_ready (rs := [2]) (by kernel_rfl) (by simp) ?_
  refine AllReadyH.cons (o := { dst := some 21, op := .call { callee := .value (.func 52), args := #[.tmp 20], argTypes := #[3] }, type := 3, pos := "wal.go:182", after := #[⟨1, .data⟩], guard := none }) rfl (fun K hK => ?_) AllReadyH.nil
  go_simp
  refine (HPL.out V3).mono ?_
  rintro e w6 ⟨rfl, hx⟩
  have HS := Lib.hid (HS.out.mono hx)
  clear hx
  go_wp2_with fail
  refine hK.out _ _ (HS.out.two) (fun hHeld => ?_)
  clear hK K
  try simp only [Act.put, List.setIfInBounds_toArray, List.set_cons_zero, List.set_cons_succ]
  refine wpAnyH_ready (rs := [3]) (by kernel_rfl) (by simp) ?_
  refine AllReadyH.cons (o := { dst := some 22, op := .call { callee := .value (.func 89), args := #[.tmp 19, .tmp 21], argTypes := #[31, 3] }, type := 115, pos := "wal.go:182", after := #[⟨0, .data⟩, ⟨2, .data⟩, ⟨2, .chain⟩], guard := none }) rfl (fun K hK => ?_) AllReadyH.nil
  go_simp
  refine (HRR.out w6 HS.out.ext).mono ?_
  rintro e w7 ⟨rfl, hx⟩
  have HS := Lib.hid (HS.out.mono hx)
  clear hx
  go_wp2_with fail
  refine hK.out _ _ (HS.out.two) (fun hHeld => ?_)
  clear hK K
  try simp only [Act.put, List.setIfInBounds_toArray, List.set_cons_zero, List.set_cons_succ]
  refine wpAnyH_ready (rs := [5]) (by kernel_rfl) (by simp) ?_
  refine AllReadyH.cons (o := { dst := none, op := .store 115 (.tmp 4) (.tmp 22), type := 0, pos := "wal.go:182", after := #[⟨3, .data⟩, ⟨3, .chain⟩, ⟨0, .phase⟩, ⟨1, .phase⟩, ⟨2, .phase⟩, ⟨3, .phase⟩, ⟨4, .textOnly .lateStores⟩], guard := none }) rfl (fun K hK => ?_) AllReadyH.nil
  clear hHeld
  rw [if_pos (by rfl)]
  refine wp_store_mid 115 (.tmp 4) (.tmp 22) rfl b 0 #[.int .u8 (p.st : Int), .int .i64 p.ix, .int .i64 p.bx, .int .i64 p.yb, .int .i64 p.wh] rfl rfl (there_row HS.out.z4 0 5 (by simp)) HI.out.1 (by simp [Value.oneCell']) ?_
  refine hK.out _ _ ((HS.out.put4 0 _).two) (fun hHeld => ?_)
  clear hK K
  simp only [Act.put]
  refine wpAnyH_ready (rs := [6]) (by kernel_rfl) (by simp) ?_
  refine AllReadyH.cons (o := { dst := none, op := .store 118 (.tmp 5) (.tmp 23), type := 0, pos := "wal.go:182", after := #[⟨4, .data⟩, ⟨5, .chain⟩, ⟨0, .phase⟩, ⟨1, .phase⟩, ⟨2, .phase⟩, ⟨3, .phase⟩, ⟨4, .phase⟩, ⟨5, .phase⟩], guard := none }) rfl (fun K hK => ?_) AllReadyH.nil
  clear hHeld
  rw [if_pos (by rfl)]
  refine wp_store_mid 118 (.tmp 5) (.tmp 23) rfl (b + 1) 0 #[.int .u8 (f0.st : Int), .int .i64 f0.ix, .int .i64 f0.bx, .int .i64 f0.yb, .int .u8 (f0.e.k : Int), .int .i64 f0.e.cl, .int .i64 f0.e.sq, .int .u8 (f0.e.ok : Int), .string f0.e.key, .string f0.e.old, .string f0.e.val, .int .u8 (f1.st : Int), .int .i64 f1.ix, .int .i64 f1.bx, .int .i64 f1.yb, .int .u8 (f1.e.k : Int), .int .i64 f1.e.cl, .int .i64 f1.e.sq, .int .u8 (f1.e.ok : Int), .string f1.e.key, .string f1.e.old, .string f1.e.val] rfl rfl (there_row (HS.out.put4 0 _).z5 0 22 (by simp)) HI.out.2.1 (by simp [Value.oneCell']) ?_
  refine hK.out _ _ (((HS.out.put4 0 _).put5 0 _).two) (fun hHeld => ?_)
  clear hK K
  simp only [Act.put]
  refine wpAnyH_done (by kernel_rfl) ?_ _
  clear hHeld
  obtain ⟨hr3, hr4, hx⟩ := HS.out.fin (x0 := .int .u8 (p.st : Int)) (x1 := .int .i64 p.ix) (x2 := .int .i64 p.bx) (x3 := .int .i64 p.yb) (x4 := .int .i64 p.wh) (y0 := .int .u8 (f0.st : Int)) (y1 := .int .i64 f0.ix) (y2 := .int .i64 f0.bx) (y3 := .int .i64 f0.yb) (y4 := .int .u8 (f0.e.k : Int)) (y5 := .int .i64 f0.e.cl) (y6 := .int .i64 f0.e.sq) (y7 := .int .u8 (f0.e.ok : Int)) (y8 := .string f0.e.key) (y9 := .string f0.e.old) (y10 := .string f0.e.val) (y11 := .int .u8 (f1.st : Int)) (y12 := .int .i64 f1.ix) (y13 := .int .i64 f1.bx) (y14 := .int .i64 f1.yb) (y15 := .int .u8 (f1.e.k : Int)) (y16 := .int .i64 f1.e.cl) (y17 := .int .i64 f1.e.sq) (y18 := .int .u8 (f1.e.ok : Int)) (y19 := .string f1.e.key) (y20 := .string f1.e.old) (y21 := .string f1.e.val) HI.out.1 HI.out.2.1
  go_wp2_with fail
  refine bodyPost_ret (v := .tuple #[.agg #[.int .u8 (p.st : Int), .int .i64 p.ix, .int .i64 p.bx, .int .i64 p.yb, .int .i64 p.wh], .agg #[.int .u8 (f0.st : Int), .int .i64 f0.ix, .int .i64 f0.bx, .int .i64 f0.yb, .int .u8 (f0.e.k : Int), .int .i64 f0.e.cl, .int .i64 f0.e.sq, .int .u8 (f0.e.ok : Int), .string f0.e.key, .string f0.e.old, .string f0.e.val, .int .u8 (f1.st : Int), .int .i64 f1.ix, .int .i64 f1.bx, .int .i64 f1.yb, .int .u8 (f1.e.k : Int), .int .i64 f1.e.cl, .int .i64 f1.e.sq, .int .u8 (f1.e.ok : Int), .string f1.e.key, .string f1.e.old, .string f1.e.val]]) (results_two Tryz.results47 rfl rfl hr3 hr4) rfl ⟨rfl, hx⟩
theorem wread_of {w : World} {g d s : Nat} {r inc : Int} {F : Nat → Prop} {m : DM} (h : LogAt w g d r inc s) (hd : PDisk w d F m) (hL : LaidF w) (hLS : LaidS w) (i : Nat) (h1 : 1 ≤ i) (h2 : i ≤ 2000000000000) (hfew : m.waits.length ≤ 1000000) :
    Calls Tryz.prog 47 #[.pointer (some ⟨g, 0, none⟩), .int .i64 (i : Int)] w fun e w' => e = .returned (.tuple #[.agg #[.int .u8 ((m.recM r (placeW (i : Int))).st : Int), .int .i64 (m.recM r (placeW (i : Int))).ix, .int .i64 (m.recM r (placeW (i : Int))).bx, .int .i64 (m.recM r (placeW (i : Int))).yb, .int .i64 (m.recM r (placeW (i : Int))).wh], .agg #[.int .u8 ((m.copM r (2 * placeW (i : Int))).st : Int), .int .i64 (m.copM r (2 * placeW (i : Int))).ix, .int .i64 (m.copM r (2 * placeW (i : Int))).bx, .int .i64 (m.copM r (2 * placeW (i : Int))).yb, .int .u8 ((m.copM r (2 * placeW (i : Int))).e.k : Int), .int .i64 (m.copM r (2 * placeW (i : Int))).e.cl, .int .i64 (m.copM r (2 * placeW (i : Int))).e.sq, .int .u8 ((m.copM r (2 * placeW (i : Int))).e.ok : Int), .string (m.copM r (2 * placeW (i : Int))).e.key, .string (m.copM r (2 * placeW (i : Int))).e.old, .string (m.copM r (2 * placeW (i : Int))).e.val, .int .u8 ((m.copM r (2 * placeW (i : Int) + 1)).st : Int), .int .i64 (m.copM r (2 * placeW (i : Int) + 1)).ix, .int .i64 (m.copM r (2 * placeW (i : Int) + 1)).bx, .int .i64 (m.copM r (2 * placeW (i : Int) + 1)).yb, .int .u8 ((m.copM r (2 * placeW (i : Int) + 1)).e.k : Int), .int .i64 (m.copM r (2 * placeW (i : Int) + 1)).e.cl, .int .i64 (m.copM r (2 * placeW (i : Int) + 1)).e.sq, .int .u8 ((m.copM r (2 * placeW (i : Int) + 1)).e.ok : Int), .string (m.copM r (2 * placeW (i : Int) + 1)).e.key, .string (m.copM r (2 * placeW (i : Int) + 1)).e.old, .string (m.copM r (2 * placeW (i : Int) + 1)).e.val]]) ∧ Ext w w' := by
  obtain ⟨q, hq, hq24⟩ := placeW_nat (i := (i : Int))
  have e0 : 2 * (q : Int) = ((2 * q : Nat) : Int) := by omega
  have e1 : 2 * (q : Int) + 1 = ((2 * q + 1 : Nat) : Int) := by omega
  have hpl : ∀ V, Calls Tryz.prog 52 #[.int .i64 (i : Int)] V fun e w' => e = .returned (.int .i64 (q : Int)) ∧ Ext V w' := fun V => by
    rw [← hq]
    exact (recordPlace_of i h1 h2 V).mono fun e w' hh => ⟨hh.1, hh.2 ▸ Ext.refl V⟩
  have hf0 : ∀ V, Calls Tryz.prog 51 #[.int .i64 (i : Int), .int .i64 0] V fun e w' => e = .returned (.int .i64 ((2 * q : Nat) : Int)) ∧ Ext V w' := fun V => by
    rw [show ((2 * q : Nat) : Int) = 2 * placeW (i : Int) + 0 by rw [hq]; omega]
    exact (framePlace_of i 0 (.inl rfl) h1 h2 V).mono fun e w' hh => ⟨hh.1, hh.2 ▸ Ext.refl V⟩
  have hf1 : ∀ V, Calls Tryz.prog 51 #[.int .i64 (i : Int), .int .i64 1] V fun e w' => e = .returned (.int .i64 ((2 * q + 1 : Nat) : Int)) ∧ Ext V w' := fun V => by
    rw [show ((2 * q + 1 : Nat) : Int) = 2 * placeW (i : Int) + 1 by rw [hq]; omega]
    exact (framePlace_of i 1 (.inr rfl) h1 h2 V).mono fun e w' hh => ⟨hh.1, hh.2 ▸ Ext.refl V⟩
  rw [hq, e1, e0]
  exact wread_core g i q (2 * q) (2 * q + 1) _ _ _ hf0 hf1 hpl (fun V hV => readFrame_of (h.ext hV) (hd.ext hV) (hL.ext hV) (hLS.ext hV) (2 * q) (by omega) hfew)
    (fun V hV => readFrame_of (h.ext hV) (hd.ext hV) (hL.ext hV) (hLS.ext hV) (2 * q + 1) (by omega) hfew) (fun V hV => readRecord_of (h.ext hV) (hd.ext hV) (hL.ext hV) (hLS.ext hV) q hq24 hfew)
end Go.Proofs.YtnlappoocffcpaaGreatDoor

namespace Go.Proofs.YtnlappoocffcpaaGreatDoor
set_option maxRecDepth 100000
open Go Go.RowKit
theorem or2E (g cp : Nat) (a b : Int) (w : World) (h0 : w.cell? ⟨g, 0, none⟩ = some (.int .i64 a)) (h1 : w.cell? ⟨g, 1, none⟩ = some (.int .i64 b)) :
    Calls Tryz.prog 44 #[.slice (some ⟨g, 0, none⟩) 2 cp] w fun e w' => e = .returned (.int .i64 (orI a b)) ∧ w' = w := by
  by_cases k0 : a = 0
  case neg =>
    have ha : (a != 0) = true := by simpa using k0
    have he : orI a b = a := by simp [orI, k0]
    rw [he]
    go_enter Tryz.func44, Tryz.ntmps44
    go_wp2_with fail
    refine wp_loop_rounds 3 ?_
    rw [rounds_succ]
    go_wp2_with fail
    go_ret
    exact ⟨rfl, rfl⟩
  by_cases k1 : b = 0
  case neg =>
    have ha : (b != 0) = true := by simpa using k1
    have he : orI a b = b := by subst k0; simp [orI]
    rw [he]
    subst k0
    go_enter Tryz.func44, Tryz.ntmps44
    go_wp2_with fail
    refine wp_loop_rounds 3 ?_
    rw [rounds_succ]
    go_wp2_with fail
    rw [rounds_succ]
    go_wp2_with fail
    go_ret
    exact ⟨rfl, rfl⟩
  have he : orI a b = 0 := by simp [orI, k0, k1]
  rw [he]
  subst k0
  subst k1
  · skip
    go_enter Tryz.func44, Tryz.ntmps44
    go_wp2_with fail
    refine wp_loop_rounds 3 ?_
    rw [rounds_succ]
    go_wp2_with fail
    rw [rounds_succ]
    go_wp2_with fail
    rw [rounds_succ]
    go_wp2_with fail
    go_ret
    exact ⟨rfl, rfl⟩
theorem or3E (g cp : Nat) (a b c : Int) (w : World) (h0 : w.cell? ⟨g, 0, none⟩ = some (.int .i64 a)) (h1 : w.cell? ⟨g, 1, none⟩ = some (.int .i64 b)) (h2 : w.cell? ⟨g, 2, none⟩ = some (.int .i64 c)) :
    Calls Tryz.prog 44 #[.slice (some ⟨g, 0, none⟩) 3 cp] w fun e w' => e = .returned (.int .i64 (orI a (orI b c))) ∧ w' = w := by
  by_cases k0 : a = 0
  case neg =>
    have ha : (a != 0) = true := by simpa using k0
    have he : orI a (orI b c) = a := by simp [orI, k0]
    rw [he]
    go_enter Tryz.func44, Tryz.ntmps44
    go_wp2_with fail
    refine wp_loop_rounds 4 ?_
    rw [rounds_succ]
    go_wp2_with fail
    go_ret
    exact ⟨rfl, rfl⟩
  by_cases k1 : b = 0
  case neg =>
    have ha : (b != 0) = true := by simpa using k1
    have he : orI a (orI b c) = b := by subst k0; simp [orI, k1]
    rw [he]
    subst k0
    go_enter Tryz.func44, Tryz.ntmps44
    go_wp2_with fail
    refine wp_loop_rounds 4 ?_
    rw [rounds_succ]
    go_wp2_with fail
    rw [rounds_succ]
    go_wp2_with fail
    go_ret
    exact ⟨rfl, rfl⟩
  by_cases k2 : c = 0
  case neg =>
    have ha : (c != 0) = true := by simpa using k2
    have he : orI a (orI b c) = c := by subst k0 k1; simp [orI]
    rw [he]
    subst k0
    subst k1
    go_enter Tryz.func44, Tryz.ntmps44
    go_wp2_with fail
    refine wp_loop_rounds 4 ?_
    rw [rounds_succ]
    go_wp2_with fail
    rw [rounds_succ]
    go_wp2_with fail
    rw [rounds_succ]
    go_wp2_with fail
    go_ret
    exact ⟨rfl, rfl⟩
  have he : orI a (orI b c) = 0 := by simp [orI, k0, k1, k2]
  rw [he]
  subst k0
  subst k1
  subst k2
  · skip
    go_enter Tryz.func44, Tryz.ntmps44
    go_wp2_with fail
    refine wp_loop_rounds 4 ?_
    rw [rounds_succ]
    go_wp2_with fail
    rw [rounds_succ]
    go_wp2_with fail
    rw [rounds_succ]
    go_wp2_with fail
    rw [rounds_succ]
    go_wp2_with fail
    go_ret
    exact ⟨rfl, rfl⟩
end Go.Proofs.YtnlappoocffcpaaGreatDoor

namespace Go.Proofs.YtnlappoocffcpaaGreatDoor
set_option maxRecDepth 100000
open Go Go.RowKit
theorem setA_whole : ∀ (pre xs ys : List Value), xs.length = ys.length → setA (pre ++ xs).toArray pre.length ys = (pre ++ ys).toArray
  | pre, [], [], _ => rfl
  | pre, x :: xs, y :: ys, h => by
    have h1 : (pre ++ x :: xs).toArray.setIfInBounds pre.length y = ((pre ++ [y]) ++ xs).toArray := by
      apply Array.ext'
      simp
    show setA ((pre ++ x :: xs).toArray.setIfInBounds pre.length y) (pre.length + 1) ys = _
    rw [h1]
    have h2 := setA_whole (pre ++ [y]) xs ys (by simpa using h)
    rw [List.length_append, List.length_singleton] at h2
    rw [h2]
    simp
  | _, [], _ :: _, h => by simp at h
  | _, _ :: _, [], h => by simp at h
theorem setA_all (cs vs : Array Value) (h : cs.size = vs.size) : setA cs 0 vs.toList = vs := by
  have := setA_whole [] cs.toList vs.toList (by simpa using h)
  simpa using this
theorem alloc_setCell (W : World) (cs : Array Value) (t : TypeId) (i : Nat) (v : Value) : (W.alloc (.cells cs t)).setCell ⟨W.heap.size, i, none⟩ v = W.alloc (.cells (cs.setIfInBounds i v) t) := by
  have h : ((W.alloc (.cells cs t)).setCell ⟨W.heap.size, i, none⟩ v).heap = W.heap.push (.cells (cs.setIfInBounds i v) t) := by
    apply Array.ext_getElem?
    intro k
    unfold World.setCell World.alloc
    simp only
    rw [Array.getElem?_modify]
    by_cases hk : W.heap.size = k
    · subst hk
      simp
    · rw [if_neg hk, Array.getElem?_push, Array.getElem?_push, if_neg (by omega), if_neg (by omega)]
  exact congrArg (fun h => World.mk h W.tape W.drawn W.os W.output) h
theorem alloc_setL (W : World) (t : TypeId) : ∀ (vs : List Value) (o : Nat) (cs : Array Value), (W.alloc (.cells cs t)).setCells W.heap.size o vs = W.alloc (.cells (setA cs o vs) t)
  | [], _, _ => rfl
  | v :: vs, o, cs => by
    show ((W.alloc (.cells cs t)).setCell ⟨W.heap.size, o, none⟩ v).setCells W.heap.size (o + 1) vs = _
    rw [alloc_setCell]
    exact alloc_setL W t vs (o + 1) _
theorem alloc_setCells (W : World) (cs vs : Array Value) (t : TypeId) (h : cs.size = vs.size) : (W.alloc (.cells cs t)).setCells W.heap.size 0 vs.toList = W.alloc (.cells vs t) := by
  rw [alloc_setL, setA_all cs vs h]
variable {P : Program}
theorem wpList_store_fresh {ops : Array Oper} {rest : List Oper} {op : Oper} {a : Act} {W : World} {cs : Array Value} {t : TypeId} {Q : Exit → Act → World → Prop} (hgd : op.guard = none) (ty : TypeId) (x y : Operand) (ho : op.op = .store ty x y)
    (vs : Array Value) (g : Nat) (hg : g = W.heap.size) (hx : a.eval x = .pointer (some ⟨g, 0, none⟩)) (hy : a.eval y = .agg vs) (hs : cs.size = vs.size) (hi : (P.info? ty).map (·.size) = some vs.size) (h1 : vs.all (·.oneCell') = true)
    (h : wpList P ops Q rest (a.put op.dst undef) (W.alloc (.cells vs t))) : wpList P ops Q (op :: rest) a (W.alloc (.cells cs t)) := by
  subst hg
  refine wpList_store_mid hgd ty x y ho W.heap.size 0 vs hx hy (there_row (heap_alloc_new W _) 0 vs.size (by omega)) hi h1 ?_
  rw [alloc_setCells W cs vs t hs]
  exact h
end Go.Proofs.YtnlappoocffcpaaGreatDoor

namespace Go.Proofs.YtnlappoocffcpaaGreatDoor
set_option maxRecDepth 100000
section
variable {m : DM} {T : Nat → Prop} {h0 : Nat → List Nat}
def putT (q p : Nat) (t : Nat) : Prop := t = sR q ∨ t = sF p ∨ t = sF p + 1
end
theorem NInv.flush {m : DM} (h : NInv m) : NInv m.flush.2 := by
  have := h.act 0 0 0 (bytes := []) (fun _ hx => by cases hx) [] (by omega)
  exact this
section
variable {m : DM} {s : Nat} {L : List Nat}
theorem CD.put2C (h : CD m (-1)) (hs : s + 1 < 156) (h1 : Sect (L.take 64)) (h2 : Sect (L.drop 64)) : ∃ m', m.put2C (s : Int) L = (0, m') ∧ CD m' (-1) ∧ (NInv m → NInv m') ∧ ∀ t, m'.hold t = if t = s + 1 then L.drop 64 else if t = s then L.take 64 else m.hold t := by
  have hw1 : m.write (s : Int) (L.take 64) = (0, { m with power := -1, waits := [(s, L.take 64)] }) := by
    rw [h.write1 (by omega) (by omega) h1]; rfl
  obtain ⟨m1, hm1⟩ : ∃ m1 : DM, m1 = { m with power := -1, waits := [(s, L.take 64)] } := ⟨_, rfl⟩
  rw [← hm1] at hw1
  have hu : m1.up = true := by rw [hm1]; unfold DM.up; show (!(m.down || m.dead)) = true; rw [h.b.down, h.dead]; rfl
  have hh : m1.has ((s : Int) + 1) = true := DM.has_iff.2 ⟨by omega, by rw [hm1]; show (s : Int) + 1 < (m.size : Int); rw [h.b.size]; omega⟩
  have hw2 : m1.write ((s : Int) + 1) (L.drop 64) = (0, { m with power := -1, waits := [(s, L.take 64), (s + 1, L.drop 64)] }) := by
    unfold DM.write
    rw [if_neg (by rw [hu]; simp), if_neg (by rw [hh, h2.1]; simp), if_neg (by rw [hm1]; show ¬ (-1 : Int) = 0; omega), hm1]
    show _ = _
    rw [show ((s : Int) + 1).toNat = s + 1 from by omega]
    rfl
  obtain ⟨m2, hm2⟩ : ∃ m2 : DM, m2 = { m with power := -1, waits := [(s, L.take 64), (s + 1, L.drop 64)] } := ⟨_, rfl⟩
  rw [← hm2] at hw2
  have hok2 : m2.Ok := by
    have := DM.write_ok (DM.write_ok h.b.ok (s : Int) h1.2) ((s : Int) + 1) h2.2
    rw [hw1, hw2] at this
    exact this
  have hu2 : m2.up = true := by rw [hm2]; unfold DM.up; show (!(m.down || m.dead)) = true; rw [h.b.down, h.dead]; rfl
  have hf : m2.flush = (0, { (m2.comes m2.waits) with waits := [] }) := by
    unfold DM.flush
    rw [if_neg (by rw [hu2]; simp), if_neg (by rw [hm2]; show ¬ (-1 : Int) = 0; omega)]
    rw [hm2]
    rfl
  obtain ⟨w1, w2, w3, w4⟩ := DM.comes_waits m2.waits m2
  refine ⟨{ (m2.comes m2.waits) with waits := [] }, ?_, ⟨⟨?_, ?_, rfl, ?_⟩, ?_, ?_⟩, fun hn => ?_, fun t => ?_⟩
  · unfold DM.put2C
    rw [hw1, if_neg (by simp)]
    show (if (m1.write ((s : Int) + 1) (L.drop 64)).1 ≠ 0 then _ else _) = _
    rw [hw2, if_neg (by simp)]
    exact hf
  · have := DM.flush_ok hok2; rw [hf] at this; exact this
  · show (m2.comes m2.waits).size = 156
    rw [DM.comes_size, hm2]
    exact h.b.size
  · exact w2.trans (by rw [hm2]; exact h.b.down)
  · exact w3.trans (by rw [hm2]; exact h.dead)
  · exact w4.trans (by rw [hm2])
  · have := ((hn.write (s : Int) h1.2).write ((s : Int) + 1) h2.2).flush
    rw [hw1] at this
    dsimp only at this
    rw [hw2] at this
    dsimp only at this
    rw [hf] at this
    exact this
  · show (m2.comes m2.waits).hold t = _
    rw [hold_comes hok2 fun x hx => (hok2.waits x hx).1, hm2]
    show (lastW ([(s, L.take 64)] ++ [(s + 1, L.drop 64)]) t).getD (m.hold t) = _
    rw [lastW_snoc]
    dsimp only
    by_cases ht : t = s + 1
    · rw [if_pos ht.symm, if_pos ht]; rfl
    · rw [if_neg (fun e => ht e.symm), if_neg ht]
      show (lastW ([] ++ [(s, L.take 64)]) t).getD (m.hold t) = _
      rw [lastW_snoc]
      dsimp only
      by_cases hts : t = s
      · rw [if_pos hts.symm, if_pos hts]; rfl
      · rw [if_neg (fun e => hts e.symm), if_neg hts]; rfl
theorem NInv.putC (h : NInv m) (hb : ∀ x ∈ L, x < 256) (t : Int) : NInv (m.putC t L).2 := by
  unfold DM.putC
  split
  · exact h.write t hb
  · exact (h.write t hb).flush
theorem CD.putK {q p : Nat} (hq : q < 24) (hp : p < 48) {r inc i k x y : Int} {e : Ent} (hpk : 2 * (q : Int) + k = (p : Int)) (h : CD m (-1)) (h1 : Sect ((frmW r inc i (p : Int) x y e).take 64)) (h2 : Sect ((frmW r inc i (p : Int) x y e).drop 64)) (h3 : Sect (recW r inc i (q : Int) x y k)) :
    ∃ m', m.putK r inc i (q : Int) k x y e = (0, m') ∧ CD m' (-1) ∧ (NInv m → NInv m') ∧ ∀ t, m'.hold t = if t = sR q then recW r inc i (q : Int) x y k else if t = sF p + 1 then (frmW r inc i (p : Int) x y e).drop 64 else if t = sF p then (frmW r inc i (p : Int) x y e).take 64 else m.hold t := by
  obtain ⟨m1, e1, c1, n1, g1⟩ := h.put2C (s := sF p) (sF_lt hp) h1 h2
  obtain ⟨m2, e2, c2, g2⟩ := c1.put2 (s := sR q) (.inl rfl) (sR_lt hq) h3
  refine ⟨m2, ?_, c2, fun hn => ?_, fun t => ?_⟩
  · unfold DM.putK
    rw [hpk, first4 hp, first3 hq, e1, if_neg (by simp)]
    exact e2
  · have := (n1 hn).putC h3.2 (sR q : Int)
    rw [e2] at this
    exact this
  · rw [g2 t, g1 t]
end
section
variable {m : DM} {pw : Int}
theorem CD.recM (h : CD m pw) {q : Nat} (hq : q < 24) (r : Int) : m.recM r (q : Int) = recQ r (q : Int) (m.hold (sR q)) := by
  unfold DM.recM DM.cb
  rw [first3 hq, h.read (sR_lt hq)]
theorem CD.copM (h : CD m pw) {p : Nat} (hp : p < 48) (r : Int) : m.copM r (p : Int) = copQ r (p : Int) (pair2 (m.hold (sF p)) (m.hold (sF p + 1))) := by
  unfold DM.copM DM.fb
  rw [first4 hp, h.read (by have := sF_lt hp; omega), show ((sF p : Nat) : Int) + 1 = ((sF p + 1 : Nat) : Int) from by omega, h.read (sF_lt hp)]
theorem slot_same {m m' : DM} {pw pw' : Int} (h : CD m pw) (h' : CD m' pw') {q : Nat} (hq : q < 24) (r : Int) (ht : ∀ t, (t = sR q ∨ t = sF (2 * q) ∨ t = sF (2 * q) + 1 ∨ t = sF (2 * q + 1) ∨ t = sF (2 * q + 1) + 1) → m'.hold t = m.hold t) :
    m'.recM r (q : Int) = m.recM r (q : Int) ∧ m'.copM r ((2 * q : Nat) : Int) = m.copM r ((2 * q : Nat) : Int) ∧ m'.copM r ((2 * q + 1 : Nat) : Int) = m.copM r ((2 * q + 1 : Nat) : Int) := by
  refine ⟨?_, ?_, ?_⟩
  · rw [h.recM hq, h'.recM hq, ht _ (.inl rfl)]
  · rw [h.copM (by omega), h'.copM (by omega), ht _ (.inr (.inl rfl)), ht _ (.inr (.inr (.inl rfl)))]
  · rw [h.copM (by omega), h'.copM (by omega), ht _ (.inr (.inr (.inr (.inl rfl)))), ht _ (.inr (.inr (.inr (.inr rfl))))]
theorem putT_far {q q' p : Nat} (hq : q < 24) (hq' : q' < 24) (hne : q' ≠ q) (hp : p = 2 * q ∨ p = 2 * q + 1) {t : Nat} (ht : t = sR q' ∨ t = sF (2 * q') ∨ t = sF (2 * q') + 1 ∨ t = sF (2 * q' + 1) ∨ t = sF (2 * q' + 1) + 1) : ¬ putT q p t := by
  unfold putT sR sF at *
  omega
theorem new_recM {q : Nat} (hq : q < 24) (r : Int) : (DM.new 156).recM r (q : Int) = {} := by rw [CD.new.recM hq, new_hold (sR_lt hq), recQ_blank]
theorem new_copM {p : Nat} (hp : p < 48) (r : Int) : (DM.new 156).copM r (p : Int) = {} := by
  have := sF_lt hp
  rw [CD.new.copM hp, new_hold (by omega), new_hold this, copQ_blank]
end
end Go.Proofs.YtnlappoocffcpaaGreatDoor
