/-
  What a put leaves that came so far: 2.
-/
import Derived.Test.YtejejadbemkifaaS16
import Derived.Deep.DeepCutAuto
import Derived.Deep.RegionHeld
namespace Go.Proofs.Ytejejadbemkifaa
set_option maxRecDepth 100000
open Go Go.RowKit

set_option maxRecDepth 100000 in
set_option maxHeartbeats 800000 in
theorem tail_20 (p : Rec) (f0 f1 : Cop) (i r : Int) (m : Nat) (hm : ((m : Int)).tmod 4 = 2) (hN : ∀ V, Calls Try.prog 11 #[.agg #[.int .u8 (p.st : Int), .int .i64 p.ix, .int .i64 p.bx, .int .i64 p.yb, .int .i64 p.wh], .agg #[.int .u8 (f0.st : Int), .int .i64 f0.ix, .int .i64 f0.bx, .int .i64 f0.yb, .int .u8 (f0.e.k : Int), .int .i64 f0.e.cl, .int .i64 f0.e.sq, .int .u8 (f0.e.ok : Int), .string f0.e.key, .string f0.e.old, .string f0.e.val, .int .u8 (f1.st : Int), .int .i64 f1.ix, .int .i64 f1.bx, .int .i64 f1.yb, .int .u8 (f1.e.k : Int), .int .i64 f1.e.cl, .int .i64 f1.e.sq, .int .u8 (f1.e.ok : Int), .string f1.e.key, .string f1.e.old, .string f1.e.val], .int .i64 i] V fun e w' => e = .returned (.int .i64 0) ∧ Ext V w') (w : World) :
    Calls Try.prog 8 #[.agg #[.int .u8 (p.st : Int), .int .i64 p.ix, .int .i64 p.bx, .int .i64 p.yb, .int .i64 p.wh], .agg #[.int .u8 (f0.st : Int), .int .i64 f0.ix, .int .i64 f0.bx, .int .i64 f0.yb, .int .u8 (f0.e.k : Int), .int .i64 f0.e.cl, .int .i64 f0.e.sq, .int .u8 (f0.e.ok : Int), .string f0.e.key, .string f0.e.old, .string f0.e.val, .int .u8 (f1.st : Int), .int .i64 f1.ix, .int .i64 f1.bx, .int .i64 f1.yb, .int .u8 (f1.e.k : Int), .int .i64 f1.e.cl, .int .i64 f1.e.sq, .int .u8 (f1.e.ok : Int), .string f1.e.key, .string f1.e.old, .string f1.e.val], .int .i64 i, .agg #[.int .i64 r, .int .i64 1], .int .u8 (m : Int)] w fun e w' => e = .returned (.tuple #[.agg #[.int .u8 (p.st : Int), .int .i64 p.ix, .int .i64 p.bx, .int .i64 p.yb, .int .i64 p.wh], .agg #[.int .u8 1, .int .i64 i, .int .i64 r, .int .i64 1, .int .u8 1, .int .i64 0, .int .i64 0, .int .u8 0, .string ⟨#[]⟩, .string ⟨#[]⟩, .string ⟨#[]⟩, .int .u8 (f1.st : Int), .int .i64 f1.ix, .int .i64 f1.bx, .int .i64 f1.yb, .int .u8 (f1.e.k : Int), .int .i64 f1.e.cl, .int .i64 f1.e.sq, .int .u8 (f1.e.ok : Int), .string f1.e.key, .string f1.e.old, .string f1.e.val]]) ∧ Ext w w' := by
  have HS := Lib.hid (TlS.make w p f0 f1 r)
  have HN := Lib.hid hN
  clear hN
  go_enter Try.func8, Try.ntmps8
  go_upto_region 1 with (fail)
  generalize (((((w.alloc (.cells #[.int .u8 (p.st : Int), .int .i64 p.ix, .int .i64 p.bx, .int .i64 p.yb, .int .i64 p.wh] 27)).alloc (.cells #[.int .u8 (f0.st : Int), .int .i64 f0.ix, .int .i64 f0.bx, .int .i64 f0.yb, .int .u8 (f0.e.k : Int), .int .i64 f0.e.cl, .int .i64 f0.e.sq, .int .u8 (f0.e.ok : Int), .string f0.e.key, .string f0.e.old, .string f0.e.val, .int .u8 (f1.st : Int), .int .i64 f1.ix, .int .i64 f1.bx, .int .i64 f1.yb, .int .u8 (f1.e.k : Int), .int .i64 f1.e.cl, .int .i64 f1.e.sq, .int .u8 (f1.e.ok : Int), .string f1.e.key, .string f1.e.old, .string f1.e.val] 34)).alloc (.cells #[.int .i64 r, .int .i64 1] 25)).alloc (.cells #[.int .u8 0, .int .i64 0, .int .i64 0, .int .i64 0, .int .i64 0] 27)).alloc (.cells #[.int .u8 0, .int .i64 0, .int .i64 0, .int .i64 0, .int .u8 0, .int .i64 0, .int .i64 0, .int .u8 0, .string ⟨#[]⟩, .string ⟨#[]⟩, .string ⟨#[]⟩, .int .u8 0, .int .i64 0, .int .i64 0, .int .i64 0, .int .u8 0, .int .i64 0, .int .i64 0, .int .u8 0, .string ⟨#[]⟩, .string ⟨#[]⟩, .string ⟨#[]⟩] 34)) = W at *
  generalize w.heap.size + 1 + 1 + 1 + 1 = g4 at *
  generalize w.heap.size + 1 + 1 + 1 = g3 at *
  generalize w.heap.size + 1 + 1 = g2 at *
  generalize w.heap.size + 1 = g1 at *
  generalize hg : w.heap.size = g at *
  have HG := Lib.hid hg
  clear hg
  have c0 := cell_of_row W g 0 _ _ _ (HS.out.rec_)
  have c1 := cell_of_row W g 1 _ _ _ (HS.out.rec_)
  have c2 := cell_of_row W g 2 _ _ _ (HS.out.rec_)
  have c3 := cell_of_row W g 3 _ _ _ (HS.out.rec_)
  have c4 := cell_of_row W g 4 _ _ _ (HS.out.rec_)
  obtain ⟨N, hNN, hsz⟩ := size_two
  have hld := load_two hNN HS.out.two
  have HNN := Lib.hid hNN
  clear hNN
  go_wp2_with fail
  refine (HN.out W).mono ?_
  rintro e w1 ⟨rfl, hx⟩
  have HS := Lib.hid (HS.out.mono hx)
  clear hx HN c0 c1 c2 c3 c4 hsz hld HNN
  have c0 := cell_of_row w1 g1 0 _ _ _ (HS.out.two)
  have c1 := cell_of_row w1 g1 1 _ _ _ (HS.out.two)
  have c2 := cell_of_row w1 g1 2 _ _ _ (HS.out.two)
  have c3 := cell_of_row w1 g1 3 _ _ _ (HS.out.two)
  have c4 := cell_of_row w1 g1 4 _ _ _ (HS.out.two)
  have c5 := cell_of_row w1 g1 5 _ _ _ (HS.out.two)
  have c6 := cell_of_row w1 g1 6 _ _ _ (HS.out.two)
  have c7 := cell_of_row w1 g1 7 _ _ _ (HS.out.two)
  have c8 := cell_of_row w1 g1 8 _ _ _ (HS.out.two)
  have c9 := cell_of_row w1 g1 9 _ _ _ (HS.out.two)
  have c10 := cell_of_row w1 g1 10 _ _ _ (HS.out.two)
  have c11 := cell_of_row w1 g1 11 _ _ _ (HS.out.two)
  have c12 := cell_of_row w1 g1 12 _ _ _ (HS.out.two)
  have c13 := cell_of_row w1 g1 13 _ _ _ (HS.out.two)
  have c14 := cell_of_row w1 g1 14 _ _ _ (HS.out.two)
  have c15 := cell_of_row w1 g1 15 _ _ _ (HS.out.two)
  have c16 := cell_of_row w1 g1 16 _ _ _ (HS.out.two)
  have c17 := cell_of_row w1 g1 17 _ _ _ (HS.out.two)
  have c18 := cell_of_row w1 g1 18 _ _ _ (HS.out.two)
  have c19 := cell_of_row w1 g1 19 _ _ _ (HS.out.two)
  have c20 := cell_of_row w1 g1 20 _ _ _ (HS.out.two)
  have c21 := cell_of_row w1 g1 21 _ _ _ (HS.out.two)
  have e0 := frozen_of_row w1 g1 0 _ _ (HS.out.two)
  have e1 := frozen_of_row w1 g1 1 _ _ (HS.out.two)
  have e2 := frozen_of_row w1 g1 2 _ _ (HS.out.two)
  have e3 := frozen_of_row w1 g1 3 _ _ (HS.out.two)
  have e4 := frozen_of_row w1 g1 4 _ _ (HS.out.two)
  have e5 := frozen_of_row w1 g1 5 _ _ (HS.out.two)
  have e6 := frozen_of_row w1 g1 6 _ _ (HS.out.two)
  have e7 := frozen_of_row w1 g1 7 _ _ (HS.out.two)
  have e8 := frozen_of_row w1 g1 8 _ _ (HS.out.two)
  have e9 := frozen_of_row w1 g1 9 _ _ (HS.out.two)
  have e10 := frozen_of_row w1 g1 10 _ _ (HS.out.two)
  have e11 := frozen_of_row w1 g1 11 _ _ (HS.out.two)
  have e12 := frozen_of_row w1 g1 12 _ _ (HS.out.two)
  have e13 := frozen_of_row w1 g1 13 _ _ (HS.out.two)
  have e14 := frozen_of_row w1 g1 14 _ _ (HS.out.two)
  have e15 := frozen_of_row w1 g1 15 _ _ (HS.out.two)
  have e16 := frozen_of_row w1 g1 16 _ _ (HS.out.two)
  have e17 := frozen_of_row w1 g1 17 _ _ (HS.out.two)
  have e18 := frozen_of_row w1 g1 18 _ _ (HS.out.two)
  have e19 := frozen_of_row w1 g1 19 _ _ (HS.out.two)
  have e20 := frozen_of_row w1 g1 20 _ _ (HS.out.two)
  have e21 := frozen_of_row w1 g1 21 _ _ (HS.out.two)
  have b0 := cell_of_row w1 g2 0 _ _ _ (HS.out.bal)
  have b1 := cell_of_row w1 g2 1 _ _ _ (HS.out.bal)
  go_upto_region 10 with (fail)
  have HS := Lib.hid (HS.out.put1 0 [.int .u8 1, .int .i64 i, .int .i64 r, .int .i64 1, .int .u8 1, .int .i64 0, .int .i64 0, .int .u8 0, .string ⟨#[]⟩, .string ⟨#[]⟩, .string ⟨#[]⟩])
  rw [← tower11a, arr11a] at HS
  generalize (((((((((((w1.setCell ⟨g1, 0, none⟩ (.int .u8 1)).setCell ⟨g1, 1, none⟩ (.int .i64 i)).setCell ⟨g1, 2, none⟩ (.int .i64 r)).setCell ⟨g1, 3, none⟩ (.int .i64 1)).setCell ⟨g1, 4, none⟩ (.int .u8 1)).setCell ⟨g1, 5, none⟩ (.int .i64 0)).setCell ⟨g1, 6, none⟩ (.int .i64 0)).setCell ⟨g1, 7, none⟩ (.int .u8 0)).setCell ⟨g1, 8, none⟩ (.string ⟨#[]⟩)).setCell ⟨g1, 9, none⟩ (.string ⟨#[]⟩)).setCell ⟨g1, 10, none⟩ (.string ⟨#[]⟩)) = w2 at *
  clear c0 c1 c2 c3 c4 c5 c6 c7 c8 c9 c10 c11 c12 c13 c14 c15 c16 c17 c18 c19 c20 c21 e0 e1 e2 e3 e4 e5 e6 e7 e8 e9 e10 e11 e12 e13 e14 e15 e16 e17 e18 e19 e20 e21 b0 b1
  go_upto_region 12 with (fail)
  have HS := Lib.hid (HS.out.mono (Ext.refl w2).drew)
  have i3 : (Try.prog.info? 27).map (·.size) = some 5 := by kernel_rfl
  have i4 : (Try.prog.info? 34).map (·.size) = some 22 := by kernel_rfl
  have HI := Lib.hid (And.intro i3 i4)
  clear i3 i4
  refine wp_region_held_drew (S := fun w' => w'.heap[g]? = some (.cells #[.int .u8 (p.st : Int), .int .i64 p.ix, .int .i64 p.bx, .int .i64 p.yb, .int .i64 p.wh] 27 (0, 0)) ∧ w'.heap[g1]? = some (.cells #[.int .u8 1, .int .i64 i, .int .i64 r, .int .i64 1, .int .u8 1, .int .i64 0, .int .i64 0, .int .u8 0, .string ⟨#[]⟩, .string ⟨#[]⟩, .string ⟨#[]⟩, .int .u8 (f1.st : Int), .int .i64 f1.ix, .int .i64 f1.bx, .int .i64 f1.yb, .int .u8 (f1.e.k : Int), .int .i64 f1.e.cl, .int .i64 f1.e.sq, .int .u8 (f1.e.ok : Int), .string f1.e.key, .string f1.e.old, .string f1.e.val] 34 (0, 0))) (by kernel_rfl) (⟨HS.out.rec_, HS.out.two⟩) (fun hHeld => ?_)
  refine wpAnyH_take (i := 0) (oi := { dst := some 48, op := Go.Op.load 27 (Go.Operand.tmp 5), type := 27, pos := "outright.go:110", after := #[], guard := none }) (v := .agg #[.int .u8 (p.st : Int), .int .i64 p.ix, .int .i64 p.bx, .int .i64 p.yb, .int .i64 p.wh]) rfl (by kernel_rfl) (by kernel_rfl) (by kernel_rfl) (fun _ _ _ h => h) (yieldsIf_load_mid (by rfl) 27 (.tmp 5) rfl g 0 rfl [.int .u8 (p.st : Int), .int .i64 p.ix, .int .i64 p.bx, .int .i64 p.yb, .int .i64 p.wh] _ (fun w hw => row_range [.int .u8 (p.st : Int), .int .i64 p.ix, .int .i64 p.bx, .int .i64 p.yb, .int .i64 p.wh] hw.1 0) Try.underlying27 rfl (by kernel_rfl)) (by assumption) ?_
  try simp only [Act.put, List.setIfInBounds_toArray, List.set_cons_zero, List.set_cons_succ]
  refine wpAnyH_take (i := 1) (oi := { dst := some 49, op := Go.Op.load 34 (Go.Operand.tmp 6), type := 34, pos := "outright.go:110", after := #[{ on := 2, ground := Go.Ground.gcOnly Departure.lateStores }], guard := none }) (v := .agg #[.int .u8 1, .int .i64 i, .int .i64 r, .int .i64 1, .int .u8 1, .int .i64 0, .int .i64 0, .int .u8 0, .string ⟨#[]⟩, .string ⟨#[]⟩, .string ⟨#[]⟩, .int .u8 (f1.st : Int), .int .i64 f1.ix, .int .i64 f1.bx, .int .i64 f1.yb, .int .u8 (f1.e.k : Int), .int .i64 f1.e.cl, .int .i64 f1.e.sq, .int .u8 (f1.e.ok : Int), .string f1.e.key, .string f1.e.old, .string f1.e.val]) rfl (by kernel_rfl) (by kernel_rfl) (by kernel_rfl) (fun _ _ _ h => h) (yieldsIf_load_mid (by rfl) 34 (.tmp 6) rfl g1 0 rfl [.int .u8 1, .int .i64 i, .int .i64 r, .int .i64 1, .int .u8 1, .int .i64 0, .int .i64 0, .int .u8 0, .string ⟨#[]⟩, .string ⟨#[]⟩, .string ⟨#[]⟩, .int .u8 (f1.st : Int), .int .i64 f1.ix, .int .i64 f1.bx, .int .i64 f1.yb, .int .u8 (f1.e.k : Int), .int .i64 f1.e.cl, .int .i64 f1.e.sq, .int .u8 (f1.e.ok : Int), .string f1.e.key, .string f1.e.old, .string f1.e.val] _ (fun w hw => row_range [.int .u8 1, .int .i64 i, .int .i64 r, .int .i64 1, .int .u8 1, .int .i64 0, .int .i64 0, .int .u8 0, .string ⟨#[]⟩, .string ⟨#[]⟩, .string ⟨#[]⟩, .int .u8 (f1.st : Int), .int .i64 f1.ix, .int .i64 f1.bx, .int .i64 f1.yb, .int .u8 (f1.e.k : Int), .int .i64 f1.e.cl, .int .i64 f1.e.sq, .int .u8 (f1.e.ok : Int), .string f1.e.key, .string f1.e.old, .string f1.e.val] hw.2 0) Try.underlying34 rfl (by kernel_rfl)) (by assumption) ?_
  try simp only [Act.put, List.setIfInBounds_toArray, List.set_cons_zero, List.set_cons_succ]
  generalize w2.drew = w5 at *
  refine wpAnyH_ready (rs := [2]) (by kernel_rfl) (by simp) ?_
  refine AllReadyH.cons (o := { dst := none, op := Go.Op.store 27 (Go.Operand.tmp 10) (Go.Operand.tmp 48), type := 0, pos := "outright.go:110", after := #[{ on := 0, ground := Go.Ground.data }, { on := 0, ground := Go.Ground.phase }, { on := 1, ground := Go.Ground.textOnly Departure.lateStores }], guard := none }) rfl (fun K hK => ?_) AllReadyH.nil
  clear hHeld
  rw [if_pos (by rfl)]
  refine wp_store_mid 27 (.tmp 10) (.tmp 48) rfl g3 0 #[.int .u8 (p.st : Int), .int .i64 p.ix, .int .i64 p.bx, .int .i64 p.yb, .int .i64 p.wh] rfl rfl (there_row HS.out.z3 0 5 (by simp)) HI.out.1 (by simp [Value.oneCell']) ?_
  refine hK.out _ _ ⟨(HS.out.put3 0 _).rec_, (HS.out.put3 0 _).two⟩ (fun hHeld => ?_)
  clear hK K
  simp only [Act.put]
  refine wpAnyH_ready (rs := [3]) (by kernel_rfl) (by simp) ?_
  refine AllReadyH.cons (o := { dst := none, op := Go.Op.store 34 (Go.Operand.tmp 11) (Go.Operand.tmp 49), type := 0, pos := "outright.go:110", after := #[{ on := 1, ground := Go.Ground.data }, { on := 2, ground := Go.Ground.chain }, { on := 0, ground := Go.Ground.phase }, { on := 1, ground := Go.Ground.phase }, { on := 2, ground := Go.Ground.phase }], guard := none }) rfl (fun K hK => ?_) AllReadyH.nil
  clear hHeld
  rw [if_pos (by rfl)]
  refine wp_store_mid 34 (.tmp 11) (.tmp 49) rfl g4 0 #[.int .u8 1, .int .i64 i, .int .i64 r, .int .i64 1, .int .u8 1, .int .i64 0, .int .i64 0, .int .u8 0, .string ⟨#[]⟩, .string ⟨#[]⟩, .string ⟨#[]⟩, .int .u8 (f1.st : Int), .int .i64 f1.ix, .int .i64 f1.bx, .int .i64 f1.yb, .int .u8 (f1.e.k : Int), .int .i64 f1.e.cl, .int .i64 f1.e.sq, .int .u8 (f1.e.ok : Int), .string f1.e.key, .string f1.e.old, .string f1.e.val] rfl rfl (there_row (HS.out.put3 0 _).z4 0 22 (by simp)) HI.out.2 (by simp [Value.oneCell']) ?_
  refine hK.out _ _ ⟨((HS.out.put3 0 _).put4 0 _).rec_, ((HS.out.put3 0 _).put4 0 _).two⟩ (fun hHeld => ?_)
  clear hK K
  simp only [Act.put]
  refine wpAnyH_done (by kernel_rfl) ?_ _
  clear hHeld
  obtain ⟨hr3, hr4, hx⟩ := HS.out.fin (x0 := .int .u8 (p.st : Int)) (x1 := .int .i64 p.ix) (x2 := .int .i64 p.bx) (x3 := .int .i64 p.yb) (x4 := .int .i64 p.wh) (y0 := .int .u8 1) (y1 := .int .i64 i) (y2 := .int .i64 r) (y3 := .int .i64 1) (y4 := .int .u8 1) (y5 := .int .i64 0) (y6 := .int .i64 0) (y7 := .int .u8 0) (y8 := .string ⟨#[]⟩) (y9 := .string ⟨#[]⟩) (y10 := .string ⟨#[]⟩) (y11 := .int .u8 (f1.st : Int)) (y12 := .int .i64 f1.ix) (y13 := .int .i64 f1.bx) (y14 := .int .i64 f1.yb) (y15 := .int .u8 (f1.e.k : Int)) (y16 := .int .i64 f1.e.cl) (y17 := .int .i64 f1.e.sq) (y18 := .int .u8 (f1.e.ok : Int)) (y19 := .string f1.e.key) (y20 := .string f1.e.old) (y21 := .string f1.e.val) HI.out.1 HI.out.2
  go_wp2_with fail
  refine bodyPost_ret (v := .tuple #[.agg #[.int .u8 (p.st : Int), .int .i64 p.ix, .int .i64 p.bx, .int .i64 p.yb, .int .i64 p.wh], .agg #[.int .u8 1, .int .i64 i, .int .i64 r, .int .i64 1, .int .u8 1, .int .i64 0, .int .i64 0, .int .u8 0, .string ⟨#[]⟩, .string ⟨#[]⟩, .string ⟨#[]⟩, .int .u8 (f1.st : Int), .int .i64 f1.ix, .int .i64 f1.bx, .int .i64 f1.yb, .int .u8 (f1.e.k : Int), .int .i64 f1.e.cl, .int .i64 f1.e.sq, .int .u8 (f1.e.ok : Int), .string f1.e.key, .string f1.e.old, .string f1.e.val]]) (results_two Try.results8 rfl rfl hr3 hr4) rfl ⟨rfl, hx⟩

set_option maxRecDepth 100000 in
set_option maxHeartbeats 800000 in
theorem tail_21 (p : Rec) (f0 f1 : Cop) (i r : Int) (m : Nat) (hm : ((m : Int)).tmod 4 = 2) (hN : ∀ V, Calls Try.prog 11 #[.agg #[.int .u8 (p.st : Int), .int .i64 p.ix, .int .i64 p.bx, .int .i64 p.yb, .int .i64 p.wh], .agg #[.int .u8 (f0.st : Int), .int .i64 f0.ix, .int .i64 f0.bx, .int .i64 f0.yb, .int .u8 (f0.e.k : Int), .int .i64 f0.e.cl, .int .i64 f0.e.sq, .int .u8 (f0.e.ok : Int), .string f0.e.key, .string f0.e.old, .string f0.e.val, .int .u8 (f1.st : Int), .int .i64 f1.ix, .int .i64 f1.bx, .int .i64 f1.yb, .int .u8 (f1.e.k : Int), .int .i64 f1.e.cl, .int .i64 f1.e.sq, .int .u8 (f1.e.ok : Int), .string f1.e.key, .string f1.e.old, .string f1.e.val], .int .i64 i] V fun e w' => e = .returned (.int .i64 1) ∧ Ext V w') (w : World) :
    Calls Try.prog 8 #[.agg #[.int .u8 (p.st : Int), .int .i64 p.ix, .int .i64 p.bx, .int .i64 p.yb, .int .i64 p.wh], .agg #[.int .u8 (f0.st : Int), .int .i64 f0.ix, .int .i64 f0.bx, .int .i64 f0.yb, .int .u8 (f0.e.k : Int), .int .i64 f0.e.cl, .int .i64 f0.e.sq, .int .u8 (f0.e.ok : Int), .string f0.e.key, .string f0.e.old, .string f0.e.val, .int .u8 (f1.st : Int), .int .i64 f1.ix, .int .i64 f1.bx, .int .i64 f1.yb, .int .u8 (f1.e.k : Int), .int .i64 f1.e.cl, .int .i64 f1.e.sq, .int .u8 (f1.e.ok : Int), .string f1.e.key, .string f1.e.old, .string f1.e.val], .int .i64 i, .agg #[.int .i64 r, .int .i64 1], .int .u8 (m : Int)] w fun e w' => e = .returned (.tuple #[.agg #[.int .u8 (p.st : Int), .int .i64 p.ix, .int .i64 p.bx, .int .i64 p.yb, .int .i64 p.wh], .agg #[.int .u8 (f0.st : Int), .int .i64 f0.ix, .int .i64 f0.bx, .int .i64 f0.yb, .int .u8 (f0.e.k : Int), .int .i64 f0.e.cl, .int .i64 f0.e.sq, .int .u8 (f0.e.ok : Int), .string f0.e.key, .string f0.e.old, .string f0.e.val, .int .u8 1, .int .i64 i, .int .i64 r, .int .i64 1, .int .u8 1, .int .i64 0, .int .i64 0, .int .u8 0, .string ⟨#[]⟩, .string ⟨#[]⟩, .string ⟨#[]⟩]]) ∧ Ext w w' := by
  have HS := Lib.hid (TlS.make w p f0 f1 r)
  have HN := Lib.hid hN
  clear hN
  go_enter Try.func8, Try.ntmps8
  go_upto_region 1 with (fail)
  generalize (((((w.alloc (.cells #[.int .u8 (p.st : Int), .int .i64 p.ix, .int .i64 p.bx, .int .i64 p.yb, .int .i64 p.wh] 27)).alloc (.cells #[.int .u8 (f0.st : Int), .int .i64 f0.ix, .int .i64 f0.bx, .int .i64 f0.yb, .int .u8 (f0.e.k : Int), .int .i64 f0.e.cl, .int .i64 f0.e.sq, .int .u8 (f0.e.ok : Int), .string f0.e.key, .string f0.e.old, .string f0.e.val, .int .u8 (f1.st : Int), .int .i64 f1.ix, .int .i64 f1.bx, .int .i64 f1.yb, .int .u8 (f1.e.k : Int), .int .i64 f1.e.cl, .int .i64 f1.e.sq, .int .u8 (f1.e.ok : Int), .string f1.e.key, .string f1.e.old, .string f1.e.val] 34)).alloc (.cells #[.int .i64 r, .int .i64 1] 25)).alloc (.cells #[.int .u8 0, .int .i64 0, .int .i64 0, .int .i64 0, .int .i64 0] 27)).alloc (.cells #[.int .u8 0, .int .i64 0, .int .i64 0, .int .i64 0, .int .u8 0, .int .i64 0, .int .i64 0, .int .u8 0, .string ⟨#[]⟩, .string ⟨#[]⟩, .string ⟨#[]⟩, .int .u8 0, .int .i64 0, .int .i64 0, .int .i64 0, .int .u8 0, .int .i64 0, .int .i64 0, .int .u8 0, .string ⟨#[]⟩, .string ⟨#[]⟩, .string ⟨#[]⟩] 34)) = W at *
  generalize w.heap.size + 1 + 1 + 1 + 1 = g4 at *
  generalize w.heap.size + 1 + 1 + 1 = g3 at *
  generalize w.heap.size + 1 + 1 = g2 at *
  generalize w.heap.size + 1 = g1 at *
  generalize hg : w.heap.size = g at *
  have HG := Lib.hid hg
  clear hg
  have c0 := cell_of_row W g 0 _ _ _ (HS.out.rec_)
  have c1 := cell_of_row W g 1 _ _ _ (HS.out.rec_)
  have c2 := cell_of_row W g 2 _ _ _ (HS.out.rec_)
  have c3 := cell_of_row W g 3 _ _ _ (HS.out.rec_)
  have c4 := cell_of_row W g 4 _ _ _ (HS.out.rec_)
  obtain ⟨N, hNN, hsz⟩ := size_two
  have hld := load_two hNN HS.out.two
  have HNN := Lib.hid hNN
  clear hNN
  go_wp2_with fail
  refine (HN.out W).mono ?_
  rintro e w1 ⟨rfl, hx⟩
  have HS := Lib.hid (HS.out.mono hx)
  clear hx HN c0 c1 c2 c3 c4 hsz hld HNN
  have c0 := cell_of_row w1 g1 0 _ _ _ (HS.out.two)
  have c1 := cell_of_row w1 g1 1 _ _ _ (HS.out.two)
  have c2 := cell_of_row w1 g1 2 _ _ _ (HS.out.two)
  have c3 := cell_of_row w1 g1 3 _ _ _ (HS.out.two)
  have c4 := cell_of_row w1 g1 4 _ _ _ (HS.out.two)
  have c5 := cell_of_row w1 g1 5 _ _ _ (HS.out.two)
  have c6 := cell_of_row w1 g1 6 _ _ _ (HS.out.two)
  have c7 := cell_of_row w1 g1 7 _ _ _ (HS.out.two)
  have c8 := cell_of_row w1 g1 8 _ _ _ (HS.out.two)
  have c9 := cell_of_row w1 g1 9 _ _ _ (HS.out.two)
  have c10 := cell_of_row w1 g1 10 _ _ _ (HS.out.two)
  have c11 := cell_of_row w1 g1 11 _ _ _ (HS.out.two)
  have c12 := cell_of_row w1 g1 12 _ _ _ (HS.out.two)
  have c13 := cell_of_row w1 g1 13 _ _ _ (HS.out.two)
  have c14 := cell_of_row w1 g1 14 _ _ _ (HS.out.two)
  have c15 := cell_of_row w1 g1 15 _ _ _ (HS.out.two)
  have c16 := cell_of_row w1 g1 16 _ _ _ (HS.out.two)
  have c17 := cell_of_row w1 g1 17 _ _ _ (HS.out.two)
  have c18 := cell_of_row w1 g1 18 _ _ _ (HS.out.two)
  have c19 := cell_of_row w1 g1 19 _ _ _ (HS.out.two)
  have c20 := cell_of_row w1 g1 20 _ _ _ (HS.out.two)
  have c21 := cell_of_row w1 g1 21 _ _ _ (HS.out.two)
  have e0 := frozen_of_row w1 g1 0 _ _ (HS.out.two)
  have e1 := frozen_of_row w1 g1 1 _ _ (HS.out.two)
  have e2 := frozen_of_row w1 g1 2 _ _ (HS.out.two)
  have e3 := frozen_of_row w1 g1 3 _ _ (HS.out.two)
  have e4 := frozen_of_row w1 g1 4 _ _ (HS.out.two)
  have e5 := frozen_of_row w1 g1 5 _ _ (HS.out.two)
  have e6 := frozen_of_row w1 g1 6 _ _ (HS.out.two)
  have e7 := frozen_of_row w1 g1 7 _ _ (HS.out.two)
  have e8 := frozen_of_row w1 g1 8 _ _ (HS.out.two)
  have e9 := frozen_of_row w1 g1 9 _ _ (HS.out.two)
  have e10 := frozen_of_row w1 g1 10 _ _ (HS.out.two)
  have e11 := frozen_of_row w1 g1 11 _ _ (HS.out.two)
  have e12 := frozen_of_row w1 g1 12 _ _ (HS.out.two)
  have e13 := frozen_of_row w1 g1 13 _ _ (HS.out.two)
  have e14 := frozen_of_row w1 g1 14 _ _ (HS.out.two)
  have e15 := frozen_of_row w1 g1 15 _ _ (HS.out.two)
  have e16 := frozen_of_row w1 g1 16 _ _ (HS.out.two)
  have e17 := frozen_of_row w1 g1 17 _ _ (HS.out.two)
  have e18 := frozen_of_row w1 g1 18 _ _ (HS.out.two)
  have e19 := frozen_of_row w1 g1 19 _ _ (HS.out.two)
  have e20 := frozen_of_row w1 g1 20 _ _ (HS.out.two)
  have e21 := frozen_of_row w1 g1 21 _ _ (HS.out.two)
  have b0 := cell_of_row w1 g2 0 _ _ _ (HS.out.bal)
  have b1 := cell_of_row w1 g2 1 _ _ _ (HS.out.bal)
  go_upto_region 10 with (fail)
  have HS := Lib.hid (HS.out.put1 11 [.int .u8 1, .int .i64 i, .int .i64 r, .int .i64 1, .int .u8 1, .int .i64 0, .int .i64 0, .int .u8 0, .string ⟨#[]⟩, .string ⟨#[]⟩, .string ⟨#[]⟩])
  rw [← tower11b, arr11b] at HS
  generalize (((((((((((w1.setCell ⟨g1, 11, none⟩ (.int .u8 1)).setCell ⟨g1, 12, none⟩ (.int .i64 i)).setCell ⟨g1, 13, none⟩ (.int .i64 r)).setCell ⟨g1, 14, none⟩ (.int .i64 1)).setCell ⟨g1, 15, none⟩ (.int .u8 1)).setCell ⟨g1, 16, none⟩ (.int .i64 0)).setCell ⟨g1, 17, none⟩ (.int .i64 0)).setCell ⟨g1, 18, none⟩ (.int .u8 0)).setCell ⟨g1, 19, none⟩ (.string ⟨#[]⟩)).setCell ⟨g1, 20, none⟩ (.string ⟨#[]⟩)).setCell ⟨g1, 21, none⟩ (.string ⟨#[]⟩)) = w2 at *
  clear c0 c1 c2 c3 c4 c5 c6 c7 c8 c9 c10 c11 c12 c13 c14 c15 c16 c17 c18 c19 c20 c21 e0 e1 e2 e3 e4 e5 e6 e7 e8 e9 e10 e11 e12 e13 e14 e15 e16 e17 e18 e19 e20 e21 b0 b1
  go_upto_region 12 with (fail)
  have HS := Lib.hid (HS.out.mono (Ext.refl w2).drew)
  have i3 : (Try.prog.info? 27).map (·.size) = some 5 := by kernel_rfl
  have i4 : (Try.prog.info? 34).map (·.size) = some 22 := by kernel_rfl
  have HI := Lib.hid (And.intro i3 i4)
  clear i3 i4
  refine wp_region_held_drew (S := fun w' => w'.heap[g]? = some (.cells #[.int .u8 (p.st : Int), .int .i64 p.ix, .int .i64 p.bx, .int .i64 p.yb, .int .i64 p.wh] 27 (0, 0)) ∧ w'.heap[g1]? = some (.cells #[.int .u8 (f0.st : Int), .int .i64 f0.ix, .int .i64 f0.bx, .int .i64 f0.yb, .int .u8 (f0.e.k : Int), .int .i64 f0.e.cl, .int .i64 f0.e.sq, .int .u8 (f0.e.ok : Int), .string f0.e.key, .string f0.e.old, .string f0.e.val, .int .u8 1, .int .i64 i, .int .i64 r, .int .i64 1, .int .u8 1, .int .i64 0, .int .i64 0, .int .u8 0, .string ⟨#[]⟩, .string ⟨#[]⟩, .string ⟨#[]⟩] 34 (0, 0))) (by kernel_rfl) (⟨HS.out.rec_, HS.out.two⟩) (fun hHeld => ?_)
  refine wpAnyH_take (i := 0) (oi := { dst := some 48, op := Go.Op.load 27 (Go.Operand.tmp 5), type := 27, pos := "outright.go:110", after := #[], guard := none }) (v := .agg #[.int .u8 (p.st : Int), .int .i64 p.ix, .int .i64 p.bx, .int .i64 p.yb, .int .i64 p.wh]) rfl (by kernel_rfl) (by kernel_rfl) (by kernel_rfl) (fun _ _ _ h => h) (yieldsIf_load_mid (by rfl) 27 (.tmp 5) rfl g 0 rfl [.int .u8 (p.st : Int), .int .i64 p.ix, .int .i64 p.bx, .int .i64 p.yb, .int .i64 p.wh] _ (fun w hw => row_range [.int .u8 (p.st : Int), .int .i64 p.ix, .int .i64 p.bx, .int .i64 p.yb, .int .i64 p.wh] hw.1 0) Try.underlying27 rfl (by kernel_rfl)) (by assumption) ?_
  try simp only [Act.put, List.setIfInBounds_toArray, List.set_cons_zero, List.set_cons_succ]
  refine wpAnyH_take (i := 1) (oi := { dst := some 49, op := Go.Op.load 34 (Go.Operand.tmp 6), type := 34, pos := "outright.go:110", after := #[{ on := 2, ground := Go.Ground.gcOnly Departure.lateStores }], guard := none }) (v := .agg #[.int .u8 (f0.st : Int), .int .i64 f0.ix, .int .i64 f0.bx, .int .i64 f0.yb, .int .u8 (f0.e.k : Int), .int .i64 f0.e.cl, .int .i64 f0.e.sq, .int .u8 (f0.e.ok : Int), .string f0.e.key, .string f0.e.old, .string f0.e.val, .int .u8 1, .int .i64 i, .int .i64 r, .int .i64 1, .int .u8 1, .int .i64 0, .int .i64 0, .int .u8 0, .string ⟨#[]⟩, .string ⟨#[]⟩, .string ⟨#[]⟩]) rfl (by kernel_rfl) (by kernel_rfl) (by kernel_rfl) (fun _ _ _ h => h) (yieldsIf_load_mid (by rfl) 34 (.tmp 6) rfl g1 0 rfl [.int .u8 (f0.st : Int), .int .i64 f0.ix, .int .i64 f0.bx, .int .i64 f0.yb, .int .u8 (f0.e.k : Int), .int .i64 f0.e.cl, .int .i64 f0.e.sq, .int .u8 (f0.e.ok : Int), .string f0.e.key, .string f0.e.old, .string f0.e.val, .int .u8 1, .int .i64 i, .int .i64 r, .int .i64 1, .int .u8 1, .int .i64 0, .int .i64 0, .int .u8 0, .string ⟨#[]⟩, .string ⟨#[]⟩, .string ⟨#[]⟩] _ (fun w hw => row_range [.int .u8 (f0.st : Int), .int .i64 f0.ix, .int .i64 f0.bx, .int .i64 f0.yb, .int .u8 (f0.e.k : Int), .int .i64 f0.e.cl, .int .i64 f0.e.sq, .int .u8 (f0.e.ok : Int), .string f0.e.key, .string f0.e.old, .string f0.e.val, .int .u8 1, .int .i64 i, .int .i64 r, .int .i64 1, .int .u8 1, .int .i64 0, .int .i64 0, .int .u8 0, .string ⟨#[]⟩, .string ⟨#[]⟩, .string ⟨#[]⟩] hw.2 0) Try.underlying34 rfl (by kernel_rfl)) (by assumption) ?_
  try simp only [Act.put, List.setIfInBounds_toArray, List.set_cons_zero, List.set_cons_succ]
  generalize w2.drew = w5 at *
  refine wpAnyH_ready (rs := [2]) (by kernel_rfl) (by simp) ?_
  refine AllReadyH.cons (o := { dst := none, op := Go.Op.store 27 (Go.Operand.tmp 10) (Go.Operand.tmp 48), type := 0, pos := "outright.go:110", after := #[{ on := 0, ground := Go.Ground.data }, { on := 0, ground := Go.Ground.phase }, { on := 1, ground := Go.Ground.textOnly Departure.lateStores }], guard := none }) rfl (fun K hK => ?_) AllReadyH.nil
  clear hHeld
  rw [if_pos (by rfl)]
  refine wp_store_mid 27 (.tmp 10) (.tmp 48) rfl g3 0 #[.int .u8 (p.st : Int), .int .i64 p.ix, .int .i64 p.bx, .int .i64 p.yb, .int .i64 p.wh] rfl rfl (there_row HS.out.z3 0 5 (by simp)) HI.out.1 (by simp [Value.oneCell']) ?_
  refine hK.out _ _ ⟨(HS.out.put3 0 _).rec_, (HS.out.put3 0 _).two⟩ (fun hHeld => ?_)
  clear hK K
  simp only [Act.put]
  refine wpAnyH_ready (rs := [3]) (by kernel_rfl) (by simp) ?_
  refine AllReadyH.cons (o := { dst := none, op := Go.Op.store 34 (Go.Operand.tmp 11) (Go.Operand.tmp 49), type := 0, pos := "outright.go:110", after := #[{ on := 1, ground := Go.Ground.data }, { on := 2, ground := Go.Ground.chain }, { on := 0, ground := Go.Ground.phase }, { on := 1, ground := Go.Ground.phase }, { on := 2, ground := Go.Ground.phase }], guard := none }) rfl (fun K hK => ?_) AllReadyH.nil
  clear hHeld
  rw [if_pos (by rfl)]
  refine wp_store_mid 34 (.tmp 11) (.tmp 49) rfl g4 0 #[.int .u8 (f0.st : Int), .int .i64 f0.ix, .int .i64 f0.bx, .int .i64 f0.yb, .int .u8 (f0.e.k : Int), .int .i64 f0.e.cl, .int .i64 f0.e.sq, .int .u8 (f0.e.ok : Int), .string f0.e.key, .string f0.e.old, .string f0.e.val, .int .u8 1, .int .i64 i, .int .i64 r, .int .i64 1, .int .u8 1, .int .i64 0, .int .i64 0, .int .u8 0, .string ⟨#[]⟩, .string ⟨#[]⟩, .string ⟨#[]⟩] rfl rfl (there_row (HS.out.put3 0 _).z4 0 22 (by simp)) HI.out.2 (by simp [Value.oneCell']) ?_
  refine hK.out _ _ ⟨((HS.out.put3 0 _).put4 0 _).rec_, ((HS.out.put3 0 _).put4 0 _).two⟩ (fun hHeld => ?_)
  clear hK K
  simp only [Act.put]
  refine wpAnyH_done (by kernel_rfl) ?_ _
  clear hHeld
  obtain ⟨hr3, hr4, hx⟩ := HS.out.fin (x0 := .int .u8 (p.st : Int)) (x1 := .int .i64 p.ix) (x2 := .int .i64 p.bx) (x3 := .int .i64 p.yb) (x4 := .int .i64 p.wh) (y0 := .int .u8 (f0.st : Int)) (y1 := .int .i64 f0.ix) (y2 := .int .i64 f0.bx) (y3 := .int .i64 f0.yb) (y4 := .int .u8 (f0.e.k : Int)) (y5 := .int .i64 f0.e.cl) (y6 := .int .i64 f0.e.sq) (y7 := .int .u8 (f0.e.ok : Int)) (y8 := .string f0.e.key) (y9 := .string f0.e.old) (y10 := .string f0.e.val) (y11 := .int .u8 1) (y12 := .int .i64 i) (y13 := .int .i64 r) (y14 := .int .i64 1) (y15 := .int .u8 1) (y16 := .int .i64 0) (y17 := .int .i64 0) (y18 := .int .u8 0) (y19 := .string ⟨#[]⟩) (y20 := .string ⟨#[]⟩) (y21 := .string ⟨#[]⟩) HI.out.1 HI.out.2
  go_wp2_with fail
  refine bodyPost_ret (v := .tuple #[.agg #[.int .u8 (p.st : Int), .int .i64 p.ix, .int .i64 p.bx, .int .i64 p.yb, .int .i64 p.wh], .agg #[.int .u8 (f0.st : Int), .int .i64 f0.ix, .int .i64 f0.bx, .int .i64 f0.yb, .int .u8 (f0.e.k : Int), .int .i64 f0.e.cl, .int .i64 f0.e.sq, .int .u8 (f0.e.ok : Int), .string f0.e.key, .string f0.e.old, .string f0.e.val, .int .u8 1, .int .i64 i, .int .i64 r, .int .i64 1, .int .u8 1, .int .i64 0, .int .i64 0, .int .u8 0, .string ⟨#[]⟩, .string ⟨#[]⟩, .string ⟨#[]⟩]]) (results_two Try.results8 rfl rfl hr3 hr4) rfl ⟨rfl, hx⟩
end Go.Proofs.Ytejejadbemkifaa
