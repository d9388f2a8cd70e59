/-
  What a slot is, by frame 1.
-/
import Derived.Test.YtmbmpabjclkhlaaGreatDoorQ00
import Derived.Test.YtmbmpabjclkhlaaGreatDoorQ22
import Derived.Test.YtmbmpabjclkhlaaGreatDoorQ26
namespace Go.Proofs.YtmbmpabjclkhlaaGreatDoor
set_option maxRecDepth 100000
section
open Go Go.RowKit
set_option maxHeartbeats 800000 in
theorem what_1 (p : Rec) (f0 f1 : CopL) (i fi cl st bx yb : Int) (q : CopL → Bool) (hfi : fi = 0 ∨ fi = 1) (hk : useL fi (q f0) (q f1) f0 f1 = 1) (w : World)
    (hap : ∀ V, Calls Tryz.prog 220 #[.agg #[.int .u8 (p.st : Int), .int .i64 p.ix, .int .i64 p.bx, .int .i64 p.yb, .int .i64 p.wh], .agg #[.int .u8 (f0.st : Int), .int .i64 f0.ix, .int .i64 f0.bx, .int .i64 f0.yb, .int .u8 (f0.e.k : Int), .int .i64 f0.e.cl, .int .i64 f0.e.sq, .int .u8 (f0.e.ok : Int), .string f0.e.key, .string f0.e.old, .string f0.e.val, .int .u8 (f1.st : Int), .int .i64 f1.ix, .int .i64 f1.bx, .int .i64 f1.yb, .int .u8 (f1.e.k : Int), .int .i64 f1.e.cl, .int .i64 f1.e.sq, .int .u8 (f1.e.ok : Int), .string f1.e.key, .string f1.e.old, .string f1.e.val], .int .i64 i] V fun e w' => ∃ (F : Nat) (caps : Array Value), e = .returned (.agg #[.func (.func F) #[] caps, .int .i64 fi, .int .u8 cl, .int .i64 0, .int .u8 st, .int .i64 bx, .int .i64 yb, .int .u8 0, .int .i64 0, .int .i64 0, .int .u8 0, .string ⟨#[]⟩, .string ⟨#[]⟩, .string ⟨#[]⟩]) ∧ Ext V w' ∧ Enters Tryz.prog F ∧ ∀ c, Asks w' F caps c (q c)) :
    Calls Tryz.prog 143 #[.agg #[.int .u8 (p.st : Int), .int .i64 p.ix, .int .i64 p.bx, .int .i64 p.yb, .int .i64 p.wh], .agg #[.int .u8 (f0.st : Int), .int .i64 f0.ix, .int .i64 f0.bx, .int .i64 f0.yb, .int .u8 (f0.e.k : Int), .int .i64 f0.e.cl, .int .i64 f0.e.sq, .int .u8 (f0.e.ok : Int), .string f0.e.key, .string f0.e.old, .string f0.e.val, .int .u8 (f1.st : Int), .int .i64 f1.ix, .int .i64 f1.bx, .int .i64 f1.yb, .int .u8 (f1.e.k : Int), .int .i64 f1.e.cl, .int .i64 f1.e.sq, .int .u8 (f1.e.ok : Int), .string f1.e.key, .string f1.e.old, .string f1.e.val], .int .i64 i] w fun e w' => e = .returned (.tuple #[.int .u8 3, .agg #[.int .i64 i, .int .u8 2, .int .i64 f1.bx, .int .i64 f1.yb, .int .u8 (f1.e.k : Int), .int .i64 f1.e.cl, .int .i64 f1.e.sq, .int .u8 (f1.e.ok : Int), .string f1.e.key, .string f1.e.old, .string f1.e.val], .int .i64 (1)]) ∧ Ext w w' := by
  have HW := Lib.hid (WhS.make w p f0 f1)
  have HAP := Lib.hid hap
  have HUS := Lib.hid (fun F caps V hgo h0 h1 => use_of F caps fi hfi (.int .u8 cl) (.int .i64 0) (.int .u8 st) (.int .i64 bx) (.int .i64 yb) (.int .u8 0) (.int .i64 0) (.int .i64 0) (.int .u8 0) (.string ⟨#[]⟩) (.string ⟨#[]⟩) (.string ⟨#[]⟩) f0 f1 (q f0) (q f1) V hgo h0 h1)
  rw [hk] at HUS
  clear hap hk hfi
  go_enter Tryz.func143, Tryz.ntmps143
  go_upto_region 1 with (fail)
  generalize (((w.alloc (.cells #[.int .u8 (p.st : Int), .int .i64 p.ix, .int .i64 p.bx, .int .i64 p.yb, .int .i64 p.wh] 147)).alloc (.cells #[.int .u8 (f0.st : Int), .int .i64 f0.ix, .int .i64 f0.bx, .int .i64 f0.yb, .int .u8 (f0.e.k : Int), .int .i64 f0.e.cl, .int .i64 f0.e.sq, .int .u8 (f0.e.ok : Int), .string f0.e.key, .string f0.e.old, .string f0.e.val, .int .u8 (f1.st : Int), .int .i64 f1.ix, .int .i64 f1.bx, .int .i64 f1.yb, .int .u8 (f1.e.k : Int), .int .i64 f1.e.cl, .int .i64 f1.e.sq, .int .u8 (f1.e.ok : Int), .string f1.e.key, .string f1.e.old, .string f1.e.val] 150)).alloc (.cells #[.int .i64 0, .int .u8 0, .int .i64 0, .int .i64 0, .int .u8 0, .int .i64 0, .int .i64 0, .int .u8 0, .string ⟨#[]⟩, .string ⟨#[]⟩, .string ⟨#[]⟩] 80)) = W at *
  generalize w.heap.size + 1 + 1 = g2 at *
  generalize w.heap.size + 1 = g1 at *
  generalize hg : w.heap.size = g at *
  have HG := Lib.hid hg
  clear hg
  have c0 := cell_of_row W g 0 _ _ _ (HW.out.rec_)
  have c1 := cell_of_row W g 1 _ _ _ (HW.out.rec_)
  have c2 := cell_of_row W g 2 _ _ _ (HW.out.rec_)
  have c3 := cell_of_row W g 3 _ _ _ (HW.out.rec_)
  have c4 := cell_of_row W g 4 _ _ _ (HW.out.rec_)
  obtain ⟨N, hN, hsz⟩ := size_two
  have hld := load_two hN HW.out.two
  have HNN := Lib.hid hN
  clear hN
  go_wp2_with fail
  refine (HAP.out W).mono ?_
  rintro e w1 ⟨F, caps, rfl, hx, hgo, hq⟩
  have HW := Lib.hid (HW.out.mono hx)
  have HQ := Lib.hid hq
  have HGO := Lib.hid hgo
  clear hx hq hgo HAP c0 c1 c2 c3 c4 hsz hld HNN
  have HRL := Lib.hid (heap_alloc_new w1 (.cells #[.func (.func F) #[] caps, .int .i64 fi, .int .u8 cl, .int .i64 0, .int .u8 st, .int .i64 bx, .int .i64 yb, .int .u8 0, .int .i64 0, .int .i64 0, .int .u8 0, .string ⟨#[]⟩, .string ⟨#[]⟩, .string ⟨#[]⟩] 300))
  have HX1 := Lib.hid ((Ext.refl w1).alloc (.cells #[.func (.func F) #[] caps, .int .i64 fi, .int .u8 cl, .int .i64 0, .int .u8 st, .int .i64 bx, .int .i64 yb, .int .u8 0, .int .i64 0, .int .i64 0, .int .u8 0, .string ⟨#[]⟩, .string ⟨#[]⟩, .string ⟨#[]⟩] 300))
  have HNE : Hid (w1.heap.size ≠ g2) := Lib.hid (by have := (Array.getElem?_eq_some_iff.1 HW.out.rep).1; omega)
  go_upto_region 2 with (fail)
  have HW := Lib.hid (HW.out.mono HX1.out)
  generalize (w1.alloc (.cells #[.func (.func F) #[] caps, .int .i64 fi, .int .u8 cl, .int .i64 0, .int .u8 st, .int .i64 bx, .int .i64 yb, .int .u8 0, .int .i64 0, .int .i64 0, .int .u8 0, .string ⟨#[]⟩, .string ⟨#[]⟩, .string ⟨#[]⟩] 300)) = w2 at *
  generalize w1.heap.size = gr at *
  refine wp_region_held_drew (S := fun w' => w'.cell? ⟨gr, 2, none⟩ = some (.int .u8 cl) ∧ w'.heap[gr]? = some (.cells #[.func (.func F) #[] caps, .int .i64 fi, .int .u8 cl, .int .i64 0, .int .u8 st, .int .i64 bx, .int .i64 yb, .int .u8 0, .int .i64 0, .int .i64 0, .int .u8 0, .string ⟨#[]⟩, .string ⟨#[]⟩, .string ⟨#[]⟩] 300 (0, 0)) ∧ TwoL w' g1 f0 f1) (by kernel_rfl) (⟨cell_of_row _ gr 2 _ _ _ (keep_row (Ext.refl w2).drew HRL.out), keep_row (Ext.refl w2).drew HRL.out, HW.out.two.ext (Ext.refl w2).drew⟩) (fun hHeld => ?_)
  refine tj (i := 0) (oi := ⟨some 14, .fieldAddr 300 (.tmp 9) 2, 0, "slot.go:103", #[], none⟩) rfl (by kernel_rfl) ?_
  try simp only [Act.put, sT, s0, s1]
  refine tj (i := 1) (oi := ⟨some 15, .load 5 (.tmp 14), 5, "slot.go:103", #[⟨0, .data⟩], none⟩) rfl (by kernel_rfl) ?_
  try simp only [Act.put, sT, s0, s1]
  refine tj (i := 2) (oi := ⟨some 16, .fieldAddr 300 (.tmp 9) 3, 0, "slot.go:103", #[⟨7, .gcOnly .lateStores⟩], none⟩) rfl (by kernel_rfl) ?_
  try simp only [Act.put, sT, s0, s1]
  refine tk (i := 3) (oi := ⟨some 17, .load 80 (.tmp 16), 80, "slot.go:103", #[⟨2, .data⟩, ⟨7, .gcOnly .lateStores⟩], none⟩) (v := .agg #[.int .i64 0, .int .u8 st, .int .i64 bx, .int .i64 yb, .int .u8 0, .int .i64 0, .int .i64 0, .int .u8 0, .string ⟨#[]⟩, .string ⟨#[]⟩, .string ⟨#[]⟩]) rfl (by kernel_rfl) (yieldsIf_load_mid (by rfl) 80 (.tmp 16) rfl gr 3 rfl [.int .i64 0, .int .u8 st, .int .i64 bx, .int .i64 yb, .int .u8 0, .int .i64 0, .int .i64 0, .int .u8 0, .string ⟨#[]⟩, .string ⟨#[]⟩, .string ⟨#[]⟩] _ (fun w hw => row_range [.func (.func F) #[] caps, .int .i64 fi, .int .u8 cl, .int .i64 0, .int .u8 st, .int .i64 bx, .int .i64 yb, .int .u8 0, .int .i64 0, .int .i64 0, .int .u8 0, .string ⟨#[]⟩, .string ⟨#[]⟩, .string ⟨#[]⟩] hw.2.1 3) Tryz.underlying80 rfl (by kernel_rfl)) ?_
  try simp only [Act.put, sT, s0, s1]
  refine tk (i := 4) (oi := ⟨some 18, .load 300 (.tmp 9), 300, "slot.go:103", #[], none⟩) (v := .agg #[.func (.func F) #[] caps, .int .i64 fi, .int .u8 cl, .int .i64 0, .int .u8 st, .int .i64 bx, .int .i64 yb, .int .u8 0, .int .i64 0, .int .i64 0, .int .u8 0, .string ⟨#[]⟩, .string ⟨#[]⟩, .string ⟨#[]⟩]) rfl (by kernel_rfl) (yieldsIf_load_mid (by rfl) 300 (.tmp 9) rfl gr 0 rfl [.func (.func F) #[] caps, .int .i64 fi, .int .u8 cl, .int .i64 0, .int .u8 st, .int .i64 bx, .int .i64 yb, .int .u8 0, .int .i64 0, .int .i64 0, .int .u8 0, .string ⟨#[]⟩, .string ⟨#[]⟩, .string ⟨#[]⟩] _ (fun w hw => row_range [.func (.func F) #[] caps, .int .i64 fi, .int .u8 cl, .int .i64 0, .int .u8 st, .int .i64 bx, .int .i64 yb, .int .u8 0, .int .i64 0, .int .i64 0, .int .u8 0, .string ⟨#[]⟩, .string ⟨#[]⟩, .string ⟨#[]⟩] hw.2.1 0) Tryz.underlying300 rfl (by kernel_rfl)) ?_
  try simp only [Act.put, sT, s0, s1]
  refine tk (i := 5) (oi := ⟨some 19, .load 150 (.tmp 4), 150, "slot.go:103", #[], none⟩) (v := .agg #[.int .u8 (f0.st : Int), .int .i64 f0.ix, .int .i64 f0.bx, .int .i64 f0.yb, .int .u8 (f0.e.k : Int), .int .i64 f0.e.cl, .int .i64 f0.e.sq, .int .u8 (f0.e.ok : Int), .string f0.e.key, .string f0.e.old, .string f0.e.val, .int .u8 (f1.st : Int), .int .i64 f1.ix, .int .i64 f1.bx, .int .i64 f1.yb, .int .u8 (f1.e.k : Int), .int .i64 f1.e.cl, .int .i64 f1.e.sq, .int .u8 (f1.e.ok : Int), .string f1.e.key, .string f1.e.old, .string f1.e.val]) rfl (by kernel_rfl) (yieldsIf_load_mid (by rfl) 150 (.tmp 4) rfl g1 0 rfl [.int .u8 (f0.st : Int), .int .i64 f0.ix, .int .i64 f0.bx, .int .i64 f0.yb, .int .u8 (f0.e.k : Int), .int .i64 f0.e.cl, .int .i64 f0.e.sq, .int .u8 (f0.e.ok : Int), .string f0.e.key, .string f0.e.old, .string f0.e.val, .int .u8 (f1.st : Int), .int .i64 f1.ix, .int .i64 f1.bx, .int .i64 f1.yb, .int .u8 (f1.e.k : Int), .int .i64 f1.e.cl, .int .i64 f1.e.sq, .int .u8 (f1.e.ok : Int), .string f1.e.key, .string f1.e.old, .string f1.e.val] _ (fun w hw => row_range [.int .u8 (f0.st : Int), .int .i64 f0.ix, .int .i64 f0.bx, .int .i64 f0.yb, .int .u8 (f0.e.k : Int), .int .i64 f0.e.cl, .int .i64 f0.e.sq, .int .u8 (f0.e.ok : Int), .string f0.e.key, .string f0.e.old, .string f0.e.val, .int .u8 (f1.st : Int), .int .i64 f1.ix, .int .i64 f1.bx, .int .i64 f1.yb, .int .u8 (f1.e.k : Int), .int .i64 f1.e.cl, .int .i64 f1.e.sq, .int .u8 (f1.e.ok : Int), .string f1.e.key, .string f1.e.old, .string f1.e.val] hw.2.2 0) Tryz.underlying150 rfl (by kernel_rfl)) ?_
  try simp only [Act.put, sT, s0, s1]
  refine wpAnyH_ready (rs := [6]) (by kernel_rfl) (by simp) ?_
  refine AllReadyH.cons (o := ⟨some 20, .call { callee := .value (.func 221), args := #[.tmp 18, .tmp 19], argTypes := #[300, 150] }, 3, "slot.go:103", #[⟨4, .data⟩, ⟨5, .data⟩], none⟩) rfl (fun K hK => ?_) AllReadyH.nil
  go_simp
  refine (HUS.out F caps _ HGO.out (HQ.out f0 |>.ext (HX1.out.trans (Ext.refl w2).drew)) (HQ.out f1 |>.ext (HX1.out.trans (Ext.refl w2).drew))).mono ?_
  rintro e w3 ⟨rfl, hx⟩
  have HW := Lib.hid (HW.out.mono ((Ext.refl w2).drew.trans hx))
  have HRL := Lib.hid (keep_row ((Ext.refl w2).drew.trans hx) HRL.out)
  clear hx hHeld
  go_wp2_with fail
  refine hK.out _ _ (⟨cell_of_row _ gr 2 _ _ _ HRL.out, HRL.out, HW.out.two⟩) (fun hHeld => ?_)
  clear hK K
  try simp only [Act.put, sT, s0, s1]
  refine tj (i := 7) (oi := ⟨some 6, .assign (.tmp 15), 5, "slot.go:103", #[⟨1, .data⟩, ⟨6, .chain⟩, ⟨0, .phase⟩, ⟨1, .phase⟩, ⟨2, .textOnly .lateStores⟩, ⟨3, .textOnly .lateStores⟩, ⟨4, .textOnly .lateStores⟩, ⟨5, .textOnly .lateStores⟩, ⟨6, .textOnly .lateStoresUnsure⟩], none⟩) rfl (by kernel_rfl) ?_
  try simp only [Act.put, sT, s0, s1]
  have z0 := cell_of_row w3 g2 0 _ _ _ (HW.out.rep)
  have z1 := cell_of_row w3 g2 1 _ _ _ (HW.out.rep)
  have z2 := cell_of_row w3 g2 2 _ _ _ (HW.out.rep)
  have z3 := cell_of_row w3 g2 3 _ _ _ (HW.out.rep)
  have z4 := cell_of_row w3 g2 4 _ _ _ (HW.out.rep)
  have z5 := cell_of_row w3 g2 5 _ _ _ (HW.out.rep)
  have z6 := cell_of_row w3 g2 6 _ _ _ (HW.out.rep)
  have z7 := cell_of_row w3 g2 7 _ _ _ (HW.out.rep)
  have z8 := cell_of_row w3 g2 8 _ _ _ (HW.out.rep)
  have z9 := cell_of_row w3 g2 9 _ _ _ (HW.out.rep)
  have z10 := cell_of_row w3 g2 10 _ _ _ (HW.out.rep)
  have y0 := frozen_of_row w3 g2 0 _ _ (HW.out.rep)
  have y1 := frozen_of_row w3 g2 1 _ _ (HW.out.rep)
  have y2 := frozen_of_row w3 g2 2 _ _ (HW.out.rep)
  have y3 := frozen_of_row w3 g2 3 _ _ (HW.out.rep)
  have y4 := frozen_of_row w3 g2 4 _ _ (HW.out.rep)
  have y5 := frozen_of_row w3 g2 5 _ _ (HW.out.rep)
  have y6 := frozen_of_row w3 g2 6 _ _ (HW.out.rep)
  have y7 := frozen_of_row w3 g2 7 _ _ (HW.out.rep)
  have y8 := frozen_of_row w3 g2 8 _ _ (HW.out.rep)
  have y9 := frozen_of_row w3 g2 9 _ _ (HW.out.rep)
  have y10 := frozen_of_row w3 g2 10 _ _ (HW.out.rep)
  have HRL : Hid (((((((((((((w3.setCell ⟨g2, 0, none⟩ (.int .i64 0)).setCell ⟨g2, 1, none⟩ (.int .u8 st)).setCell ⟨g2, 2, none⟩ (.int .i64 bx)).setCell ⟨g2, 3, none⟩ (.int .i64 yb)).setCell ⟨g2, 4, none⟩ (.int .u8 0)).setCell ⟨g2, 5, none⟩ (.int .i64 0)).setCell ⟨g2, 6, none⟩ (.int .i64 0)).setCell ⟨g2, 7, none⟩ (.int .u8 0)).setCell ⟨g2, 8, none⟩ (.string ⟨#[]⟩)).setCell ⟨g2, 9, none⟩ (.string ⟨#[]⟩)).setCell ⟨g2, 10, none⟩ (.string ⟨#[]⟩))).heap[gr]? = some (.cells #[.func (.func F) #[] caps, .int .i64 fi, .int .u8 cl, .int .i64 0, .int .u8 st, .int .i64 bx, .int .i64 yb, .int .u8 0, .int .i64 0, .int .i64 0, .int .u8 0, .string ⟨#[]⟩, .string ⟨#[]⟩, .string ⟨#[]⟩] 300 (0, 0))) := Lib.hid (off11 HRL.out HNE.out _ _ _ _ _ _ _ _ _ _ _)
  have HW : Hid (WhS w ((((((((((((w3.setCell ⟨g2, 0, none⟩ (.int .i64 0)).setCell ⟨g2, 1, none⟩ (.int .u8 st)).setCell ⟨g2, 2, none⟩ (.int .i64 bx)).setCell ⟨g2, 3, none⟩ (.int .i64 yb)).setCell ⟨g2, 4, none⟩ (.int .u8 0)).setCell ⟨g2, 5, none⟩ (.int .i64 0)).setCell ⟨g2, 6, none⟩ (.int .i64 0)).setCell ⟨g2, 7, none⟩ (.int .u8 0)).setCell ⟨g2, 8, none⟩ (.string ⟨#[]⟩)).setCell ⟨g2, 9, none⟩ (.string ⟨#[]⟩)).setCell ⟨g2, 10, none⟩ (.string ⟨#[]⟩))) p f0 f1 g g1 g2 #[.int .i64 0, .int .u8 st, .int .i64 bx, .int .i64 yb, .int .u8 0, .int .i64 0, .int .i64 0, .int .u8 0, .string ⟨#[]⟩, .string ⟨#[]⟩, .string ⟨#[]⟩]) := Lib.hid (HW.out.put _ _ _ _ _ _ _ _ _ _ _)
  refine wpAnyH_ready (rs := [8]) (by kernel_rfl) (by simp) ?_
  refine AllReadyH.cons (o := ⟨none, .store 80 (.tmp 7) (.tmp 17), 0, "slot.go:103", #[⟨3, .data⟩, ⟨7, .chain⟩, ⟨0, .phase⟩, ⟨1, .phase⟩, ⟨2, .phase⟩, ⟨3, .phase⟩, ⟨4, .textOnly .lateStores⟩, ⟨5, .textOnly .lateStores⟩, ⟨6, .textOnly .lateStoresUnsure⟩, ⟨7, .phase⟩], none⟩) rfl (fun K hK => ?_) AllReadyH.nil
  clear hHeld
  go_simp
  refine hK.out _ _ (⟨cell_of_row _ gr 2 _ _ _ HRL.out, HRL.out, HW.out.two⟩) (fun hHeld => ?_)
  clear hK K
  try simp only [Act.put, sT, s0, s1]
  refine tj (i := 9) (oi := ⟨some 8, .assign (.tmp 20), 3, "slot.go:103", #[⟨6, .data⟩, ⟨8, .chain⟩, ⟨0, .phase⟩, ⟨1, .phase⟩, ⟨2, .phase⟩, ⟨3, .phase⟩, ⟨4, .phase⟩, ⟨5, .phase⟩, ⟨6, .phase⟩, ⟨7, .phase⟩, ⟨8, .phase⟩], none⟩) rfl (by kernel_rfl) ?_
  try simp only [Act.put, sT, s0, s1]
  refine wpAnyH_done (by kernel_rfl) ?_ _
  clear hHeld
  generalize (((((((((((w3.setCell ⟨g2, 0, none⟩ (.int .i64 0)).setCell ⟨g2, 1, none⟩ (.int .u8 st)).setCell ⟨g2, 2, none⟩ (.int .i64 bx)).setCell ⟨g2, 3, none⟩ (.int .i64 yb)).setCell ⟨g2, 4, none⟩ (.int .u8 0)).setCell ⟨g2, 5, none⟩ (.int .i64 0)).setCell ⟨g2, 6, none⟩ (.int .i64 0)).setCell ⟨g2, 7, none⟩ (.int .u8 0)).setCell ⟨g2, 8, none⟩ (.string ⟨#[]⟩)).setCell ⟨g2, 9, none⟩ (.string ⟨#[]⟩)).setCell ⟨g2, 10, none⟩ (.string ⟨#[]⟩)) = w4 at *
  clear z0 z1 z2 z3 z4 z5 z6 z7 z8 z9 z10 y0 y1 y2 y3 y4 y5 y6 y7 y8 y9 y10 HRL HX1 HQ HGO HUS
  go_upto_region 4 with (fail)
  refine wp_region_held_drew (S := fun w' => w'.cell? ⟨g1, 13, none⟩ = some (.int .i64 f1.bx) ∧ w'.cell? ⟨g1, 14, none⟩ = some (.int .i64 f1.yb) ∧ w'.cell? ⟨g1, 15, none⟩ = some (.int .u8 (f1.e.k : Int)) ∧ w'.cell? ⟨g1, 16, none⟩ = some (.int .i64 f1.e.cl) ∧ w'.cell? ⟨g1, 17, none⟩ = some (.int .i64 f1.e.sq) ∧ w'.cell? ⟨g1, 18, none⟩ = some (.int .u8 (f1.e.ok : Int)) ∧ w'.cell? ⟨g1, 19, none⟩ = some (.string f1.e.key) ∧ w'.cell? ⟨g1, 20, none⟩ = some (.string f1.e.old) ∧ w'.cell? ⟨g1, 21, none⟩ = some (.string f1.e.val)) (by kernel_rfl) (half1 (HW.out.two.ext (Ext.refl w4).drew)) (fun hHeld => ?_)
  refine tj (i := 0) (oi := ⟨some 23, .move (.tmp 8), 3, "slot.go:105", #[⟨9, .gcOnly .lateStores⟩], none⟩) rfl (by kernel_rfl) ?_
  try simp only [Act.put, sT, s0, s1]
  refine tj (i := 1) (oi := ⟨some 24, .indexAddr 150 (.tmp 4) (.tmp 23), 0, "slot.go:105", #[⟨0, .data⟩, ⟨9, .gcOnly .lateStores⟩], none⟩) rfl (by kernel_rfl) ?_
  try simp only [Act.put, sT, s0, s1]
  refine tj (i := 2) (oi := ⟨some 25, .fieldAddr 149 (.tmp 24) 2, 0, "slot.go:105", #[⟨1, .data⟩, ⟨9, .gcOnly .lateStores⟩], none⟩) rfl (by kernel_rfl) ?_
  try simp only [Act.put, sT, s0, s1]
  refine tj (i := 3) (oi := ⟨some 26, .load 38 (.tmp 25), 38, "slot.go:105", #[⟨2, .data⟩, ⟨9, .gcOnly .lateStores⟩], none⟩) rfl (by kernel_rfl) ?_
  try simp only [Act.put, sT, s0, s1]
  refine tj (i := 4) (oi := ⟨some 27, .move (.tmp 8), 3, "slot.go:105", #[⟨9, .gcOnly .lateStores⟩], none⟩) rfl (by kernel_rfl) ?_
  try simp only [Act.put, sT, s0, s1]
  refine tj (i := 5) (oi := ⟨some 28, .indexAddr 150 (.tmp 4) (.tmp 27), 0, "slot.go:105", #[⟨4, .data⟩, ⟨9, .gcOnly .lateStores⟩], none⟩) rfl (by kernel_rfl) ?_
  try simp only [Act.put, sT, s0, s1]
  refine tj (i := 6) (oi := ⟨some 29, .fieldAddr 149 (.tmp 28) 3, 0, "slot.go:105", #[⟨5, .data⟩, ⟨9, .gcOnly .lateStores⟩], none⟩) rfl (by kernel_rfl) ?_
  try simp only [Act.put, sT, s0, s1]
  refine tj (i := 7) (oi := ⟨some 30, .load 42 (.tmp 29), 42, "slot.go:105", #[⟨6, .data⟩, ⟨9, .gcOnly .lateStores⟩], none⟩) rfl (by kernel_rfl) ?_
  try simp only [Act.put, sT, s0, s1]
  refine tj (i := 8) (oi := ⟨some 31, .build 80 #[(1, .const (.int .u8 2)), (2, .tmp 26), (3, .tmp 30)], 80, "slot.go:105", #[⟨3, .data⟩, ⟨7, .data⟩, ⟨9, .gcOnly .lateStores⟩], none⟩) rfl (by kernel_rfl) ?_
  try simp only [Act.put, sT, s0, s1]
  refine tj (i := 9) (oi := ⟨some 6, .assign (.const (.int .u8 3)), 5, "slot.go:105", #[⟨0, .textOnly .lateStores⟩, ⟨1, .textOnly .lateStores⟩, ⟨2, .textOnly .lateStores⟩, ⟨3, .textOnly .lateStores⟩, ⟨4, .textOnly .lateStores⟩, ⟨5, .textOnly .lateStores⟩, ⟨6, .textOnly .lateStores⟩, ⟨7, .textOnly .lateStores⟩, ⟨8, .textOnly .lateStores⟩], none⟩) rfl (by kernel_rfl) ?_
  try simp only [Act.put, sT, s0, s1]
  have HW := Lib.hid (HW.out.mono (Ext.refl w4).drew)
  generalize w4.drew = w5 at *
  have z0 := cell_of_row w5 g2 0 _ _ _ (HW.out.rep)
  have z1 := cell_of_row w5 g2 1 _ _ _ (HW.out.rep)
  have z2 := cell_of_row w5 g2 2 _ _ _ (HW.out.rep)
  have z3 := cell_of_row w5 g2 3 _ _ _ (HW.out.rep)
  have z4 := cell_of_row w5 g2 4 _ _ _ (HW.out.rep)
  have z5 := cell_of_row w5 g2 5 _ _ _ (HW.out.rep)
  have z6 := cell_of_row w5 g2 6 _ _ _ (HW.out.rep)
  have z7 := cell_of_row w5 g2 7 _ _ _ (HW.out.rep)
  have z8 := cell_of_row w5 g2 8 _ _ _ (HW.out.rep)
  have z9 := cell_of_row w5 g2 9 _ _ _ (HW.out.rep)
  have z10 := cell_of_row w5 g2 10 _ _ _ (HW.out.rep)
  have y0 := frozen_of_row w5 g2 0 _ _ (HW.out.rep)
  have y1 := frozen_of_row w5 g2 1 _ _ (HW.out.rep)
  have y2 := frozen_of_row w5 g2 2 _ _ (HW.out.rep)
  have y3 := frozen_of_row w5 g2 3 _ _ (HW.out.rep)
  have y4 := frozen_of_row w5 g2 4 _ _ (HW.out.rep)
  have y5 := frozen_of_row w5 g2 5 _ _ (HW.out.rep)
  have y6 := frozen_of_row w5 g2 6 _ _ (HW.out.rep)
  have y7 := frozen_of_row w5 g2 7 _ _ (HW.out.rep)
  have y8 := frozen_of_row w5 g2 8 _ _ (HW.out.rep)
  have y9 := frozen_of_row w5 g2 9 _ _ (HW.out.rep)
  have y10 := frozen_of_row w5 g2 10 _ _ (HW.out.rep)
  have HW : Hid (WhS w ((((((((((((w5.setCell ⟨g2, 0, none⟩ (.int .i64 0)).setCell ⟨g2, 1, none⟩ (.int .u8 2)).setCell ⟨g2, 2, none⟩ (.int .i64 f1.bx)).setCell ⟨g2, 3, none⟩ (.int .i64 f1.yb)).setCell ⟨g2, 4, none⟩ (.int .u8 (f1.e.k : Int))).setCell ⟨g2, 5, none⟩ (.int .i64 f1.e.cl)).setCell ⟨g2, 6, none⟩ (.int .i64 f1.e.sq)).setCell ⟨g2, 7, none⟩ (.int .u8 (f1.e.ok : Int))).setCell ⟨g2, 8, none⟩ (.string f1.e.key)).setCell ⟨g2, 9, none⟩ (.string f1.e.old)).setCell ⟨g2, 10, none⟩ (.string f1.e.val))) p f0 f1 g g1 g2 #[.int .i64 0, .int .u8 2, .int .i64 f1.bx, .int .i64 f1.yb, .int .u8 (f1.e.k : Int), .int .i64 f1.e.cl, .int .i64 f1.e.sq, .int .u8 (f1.e.ok : Int), .string f1.e.key, .string f1.e.old, .string f1.e.val]) := Lib.hid (HW.out.put _ _ _ _ _ _ _ _ _ _ _)
  refine wpAnyH_ready (rs := [10]) (by kernel_rfl) (by simp) ?_
  refine AllReadyH.cons (o := ⟨none, .store 80 (.tmp 7) (.tmp 31), 0, "slot.go:105", #[⟨8, .data⟩, ⟨9, .chain⟩, ⟨0, .phase⟩, ⟨1, .phase⟩, ⟨2, .phase⟩, ⟨3, .phase⟩, ⟨4, .phase⟩, ⟨5, .phase⟩, ⟨6, .phase⟩, ⟨7, .phase⟩, ⟨8, .phase⟩, ⟨9, .phase⟩], none⟩) rfl (fun K hK => ?_) AllReadyH.nil
  clear hHeld
  go_simp
  refine hK.out _ _ (half1 HW.out.two) (fun hHeld => ?_)
  clear hK K
  try simp only [Act.put, sT, s0, s1]
  refine wpAnyH_done (by kernel_rfl) ?_ _
  clear hHeld
  generalize (((((((((((w5.setCell ⟨g2, 0, none⟩ (.int .i64 0)).setCell ⟨g2, 1, none⟩ (.int .u8 2)).setCell ⟨g2, 2, none⟩ (.int .i64 f1.bx)).setCell ⟨g2, 3, none⟩ (.int .i64 f1.yb)).setCell ⟨g2, 4, none⟩ (.int .u8 (f1.e.k : Int))).setCell ⟨g2, 5, none⟩ (.int .i64 f1.e.cl)).setCell ⟨g2, 6, none⟩ (.int .i64 f1.e.sq)).setCell ⟨g2, 7, none⟩ (.int .u8 (f1.e.ok : Int))).setCell ⟨g2, 8, none⟩ (.string f1.e.key)).setCell ⟨g2, 9, none⟩ (.string f1.e.old)).setCell ⟨g2, 10, none⟩ (.string f1.e.val)) = w6 at *
  clear z0 z1 z2 z3 z4 z5 z6 z7 z8 z9 z10 y0 y1 y2 y3 y4 y5 y6 y7 y8 y9 y10
  have z0 := cell_of_row w6 g2 0 _ _ _ HW.out.rep
  have y0 := frozen_of_row w6 g2 0 _ _ HW.out.rep
  have HW := Lib.hid (HW.out.put0 (.int .i64 i))
  go_upto_region 6 with (fail)
  generalize (w6.setCell ⟨g2, 0, none⟩ (.int .i64 i)) = w7 at *
  clear z0 y0
  refine wp_region_held_drew (S := fun w' => w'.heap[g2]? = some (.cells #[.int .i64 i, .int .u8 2, .int .i64 f1.bx, .int .i64 f1.yb, .int .u8 (f1.e.k : Int), .int .i64 f1.e.cl, .int .i64 f1.e.sq, .int .u8 (f1.e.ok : Int), .string f1.e.key, .string f1.e.old, .string f1.e.val] 80 (0, 0))) (by kernel_rfl) ((HW.out.mono (Ext.refl w7).drew).rep) (fun hHeld => ?_)
  refine tj (i := 0) (oi := ⟨some 34, .move (.tmp 6), 5, "slot.go:108", #[], none⟩) rfl (by kernel_rfl) ?_
  try simp only [Act.put, sT, s0, s1]
  refine tk (i := 1) (oi := ⟨some 35, .load 80 (.tmp 7), 80, "slot.go:108", #[⟨3, .gcOnly .lateStores⟩], none⟩) (v := .agg #[.int .i64 i, .int .u8 2, .int .i64 f1.bx, .int .i64 f1.yb, .int .u8 (f1.e.k : Int), .int .i64 f1.e.cl, .int .i64 f1.e.sq, .int .u8 (f1.e.ok : Int), .string f1.e.key, .string f1.e.old, .string f1.e.val]) rfl (by kernel_rfl) (yieldsIf_load_mid (by rfl) 80 (.tmp 7) rfl g2 0 rfl [.int .i64 i, .int .u8 2, .int .i64 f1.bx, .int .i64 f1.yb, .int .u8 (f1.e.k : Int), .int .i64 f1.e.cl, .int .i64 f1.e.sq, .int .u8 (f1.e.ok : Int), .string f1.e.key, .string f1.e.old, .string f1.e.val] _ (fun w hw => row_range [.int .i64 i, .int .u8 2, .int .i64 f1.bx, .int .i64 f1.yb, .int .u8 (f1.e.k : Int), .int .i64 f1.e.cl, .int .i64 f1.e.sq, .int .u8 (f1.e.ok : Int), .string f1.e.key, .string f1.e.old, .string f1.e.val] hw 0) Tryz.underlying80 rfl (by kernel_rfl)) ?_
  try simp only [Act.put, sT, s0, s1]
  refine tj (i := 2) (oi := ⟨some 36, .move (.tmp 8), 3, "slot.go:108", #[⟨4, .gcOnly .lateStores⟩], none⟩) rfl (by kernel_rfl) ?_
  try simp only [Act.put, sT, s0, s1]
  refine tj (i := 3) (oi := ⟨some 6, .assign (.tmp 34), 5, "slot.go:108", #[⟨0, .data⟩, ⟨0, .phase⟩, ⟨1, .textOnly .lateStores⟩, ⟨2, .textOnly .lateStores⟩], none⟩) rfl (by kernel_rfl) ?_
  try simp only [Act.put, sT, s0, s1]
  have HW := Lib.hid (HW.out.mono (Ext.refl w7).drew)
  generalize w7.drew = w8 at *
  have z0 := cell_of_row w8 g2 0 _ _ _ (HW.out.rep)
  have z1 := cell_of_row w8 g2 1 _ _ _ (HW.out.rep)
  have z2 := cell_of_row w8 g2 2 _ _ _ (HW.out.rep)
  have z3 := cell_of_row w8 g2 3 _ _ _ (HW.out.rep)
  have z4 := cell_of_row w8 g2 4 _ _ _ (HW.out.rep)
  have z5 := cell_of_row w8 g2 5 _ _ _ (HW.out.rep)
  have z6 := cell_of_row w8 g2 6 _ _ _ (HW.out.rep)
  have z7 := cell_of_row w8 g2 7 _ _ _ (HW.out.rep)
  have z8 := cell_of_row w8 g2 8 _ _ _ (HW.out.rep)
  have z9 := cell_of_row w8 g2 9 _ _ _ (HW.out.rep)
  have z10 := cell_of_row w8 g2 10 _ _ _ (HW.out.rep)
  have y0 := frozen_of_row w8 g2 0 _ _ (HW.out.rep)
  have y1 := frozen_of_row w8 g2 1 _ _ (HW.out.rep)
  have y2 := frozen_of_row w8 g2 2 _ _ (HW.out.rep)
  have y3 := frozen_of_row w8 g2 3 _ _ (HW.out.rep)
  have y4 := frozen_of_row w8 g2 4 _ _ (HW.out.rep)
  have y5 := frozen_of_row w8 g2 5 _ _ (HW.out.rep)
  have y6 := frozen_of_row w8 g2 6 _ _ (HW.out.rep)
  have y7 := frozen_of_row w8 g2 7 _ _ (HW.out.rep)
  have y8 := frozen_of_row w8 g2 8 _ _ (HW.out.rep)
  have y9 := frozen_of_row w8 g2 9 _ _ (HW.out.rep)
  have y10 := frozen_of_row w8 g2 10 _ _ (HW.out.rep)
  have HW : Hid (WhS w ((((((((((((w8.setCell ⟨g2, 0, none⟩ (.int .i64 i)).setCell ⟨g2, 1, none⟩ (.int .u8 2)).setCell ⟨g2, 2, none⟩ (.int .i64 f1.bx)).setCell ⟨g2, 3, none⟩ (.int .i64 f1.yb)).setCell ⟨g2, 4, none⟩ (.int .u8 (f1.e.k : Int))).setCell ⟨g2, 5, none⟩ (.int .i64 f1.e.cl)).setCell ⟨g2, 6, none⟩ (.int .i64 f1.e.sq)).setCell ⟨g2, 7, none⟩ (.int .u8 (f1.e.ok : Int))).setCell ⟨g2, 8, none⟩ (.string f1.e.key)).setCell ⟨g2, 9, none⟩ (.string f1.e.old)).setCell ⟨g2, 10, none⟩ (.string f1.e.val))) p f0 f1 g g1 g2 #[.int .i64 i, .int .u8 2, .int .i64 f1.bx, .int .i64 f1.yb, .int .u8 (f1.e.k : Int), .int .i64 f1.e.cl, .int .i64 f1.e.sq, .int .u8 (f1.e.ok : Int), .string f1.e.key, .string f1.e.old, .string f1.e.val]) := Lib.hid (HW.out.put _ _ _ _ _ _ _ _ _ _ _)
  refine wpAnyH_ready (rs := [4]) (by kernel_rfl) (by simp) ?_
  refine AllReadyH.cons (o := ⟨none, .store 80 (.tmp 7) (.tmp 35), 0, "slot.go:108", #[⟨1, .data⟩, ⟨3, .chain⟩, ⟨0, .phase⟩, ⟨1, .phase⟩, ⟨2, .textOnly .lateStores⟩, ⟨3, .phase⟩], none⟩) rfl (fun K hK => ?_) AllReadyH.nil
  clear hHeld
  go_simp
  refine hK.out _ _ (HW.out.rep) (fun hHeld => ?_)
  clear hK K
  try simp only [Act.put, sT, s0, s1]
  refine tj (i := 5) (oi := ⟨some 8, .assign (.tmp 36), 3, "slot.go:108", #[⟨2, .data⟩, ⟨4, .chain⟩, ⟨0, .phase⟩, ⟨1, .phase⟩, ⟨2, .phase⟩, ⟨3, .phase⟩, ⟨4, .phase⟩], none⟩) rfl (by kernel_rfl) ?_
  try simp only [Act.put, sT, s0, s1]
  refine wpAnyH_done (by kernel_rfl) ?_ _
  clear hHeld
  generalize (((((((((((w8.setCell ⟨g2, 0, none⟩ (.int .i64 i)).setCell ⟨g2, 1, none⟩ (.int .u8 2)).setCell ⟨g2, 2, none⟩ (.int .i64 f1.bx)).setCell ⟨g2, 3, none⟩ (.int .i64 f1.yb)).setCell ⟨g2, 4, none⟩ (.int .u8 (f1.e.k : Int))).setCell ⟨g2, 5, none⟩ (.int .i64 f1.e.cl)).setCell ⟨g2, 6, none⟩ (.int .i64 f1.e.sq)).setCell ⟨g2, 7, none⟩ (.int .u8 (f1.e.ok : Int))).setCell ⟨g2, 8, none⟩ (.string f1.e.key)).setCell ⟨g2, 9, none⟩ (.string f1.e.old)).setCell ⟨g2, 10, none⟩ (.string f1.e.val)) = w9 at *
  clear z0 z1 z2 z3 z4 z5 z6 z7 z8 z9 z10 y0 y1 y2 y3 y4 y5 y6 y7 y8 y9 y10
  obtain ⟨z0, z1, z2, z3, z4, z5, z6, z7, z8, z9, z10⟩ := rep_cells HW.out.rep
  go_wp2_with fail
  refine bodyPost_ret (v := .tuple #[.int .u8 3, .agg #[.int .i64 i, .int .u8 2, .int .i64 f1.bx, .int .i64 f1.yb, .int .u8 (f1.e.k : Int), .int .i64 f1.e.cl, .int .i64 f1.e.sq, .int .u8 (f1.e.ok : Int), .string f1.e.key, .string f1.e.old, .string f1.e.val], .int .i64 (1)]) (by simp [results, Tryz.results143, go_sem, z0, z1, z2, z3, z4, z5, z6, z7, z8, z9, z10]) rfl ⟨rfl, HW.out.ext⟩
end
section
open Go Go.RowKit
set_option maxHeartbeats 400000 in
theorem apply_rec (p : Rec) (f0 f1 : CopL) (i : Int) (w : World) (hw : p.wh = 0 ∨ p.wh = 1) (ho : isR p i = true) :
    Calls Tryz.prog 220 #[.agg #[.int .u8 (p.st : Int), .int .i64 p.ix, .int .i64 p.bx, .int .i64 p.yb, .int .i64 p.wh], .agg #[.int .u8 (f0.st : Int), .int .i64 f0.ix, .int .i64 f0.bx, .int .i64 f0.yb, .int .u8 (f0.e.k : Int), .int .i64 f0.e.cl, .int .i64 f0.e.sq, .int .u8 (f0.e.ok : Int), .string f0.e.key, .string f0.e.old, .string f0.e.val, .int .u8 (f1.st : Int), .int .i64 f1.ix, .int .i64 f1.bx, .int .i64 f1.yb, .int .u8 (f1.e.k : Int), .int .i64 f1.e.cl, .int .i64 f1.e.sq, .int .u8 (f1.e.ok : Int), .string f1.e.key, .string f1.e.old, .string f1.e.val], .int .i64 i] w fun e w' => ∃ (F : Nat) (caps : Array Value), e = .returned (.agg #[.func (.func F) #[] caps, .int .i64 p.wh, .int .u8 2, .int .i64 0, .int .u8 3, .int .i64 p.bx, .int .i64 p.yb, .int .u8 0, .int .i64 0, .int .i64 0, .int .u8 0, .string ⟨#[]⟩, .string ⟨#[]⟩, .string ⟨#[]⟩]) ∧ Ext w w' ∧ Enters Tryz.prog F ∧ ∀ c, Asks w' F caps c (recentB p i c) := by
  have hst : p.st = 1 := (isR_iff.1 ho).1
  have hnm : namedL p = p.wh := if_pos hst
  have hw0 : 0 ≤ p.wh := by omega
  clear hst
  have hmf : ∀ (fn : Fn) (first cap : Array Value) (w : World), (Instr.makeFunc fn first cap).run Tryz.prog w = .ok (.func fn first cap) w := fun _ _ _ _ => rfl
  have HA := Lib.hid (ApS.make w p f0 f1 i)
  have HF := Lib.hid (isFor_of (p.st : Int) p.ix i)
  have HV := Lib.hid (isCovered_of p f0 f1 i)
  have HB := Lib.hid (isBadL_of (p.st : Int))
  have HN := Lib.hid (named_of p hw)
  rw [hnm] at HN
  clear hw hnm
  have hqo : isR p i = true := ho
  unfold isR at hqo
  rw [hqo] at HF
  clear hqo ho
  go_enter Tryz.func220, Tryz.ntmps220
  go_upto_region 2 with (fail)
  generalize (((((w.alloc (.cells #[.int .u8 (p.st : Int), .int .i64 p.ix, .int .i64 p.bx, .int .i64 p.yb, .int .i64 p.wh] 147)).alloc (.cells #[.int .u8 (f0.st : Int), .int .i64 f0.ix, .int .i64 f0.bx, .int .i64 f0.yb, .int .u8 (f0.e.k : Int), .int .i64 f0.e.cl, .int .i64 f0.e.sq, .int .u8 (f0.e.ok : Int), .string f0.e.key, .string f0.e.old, .string f0.e.val, .int .u8 (f1.st : Int), .int .i64 f1.ix, .int .i64 f1.bx, .int .i64 f1.yb, .int .u8 (f1.e.k : Int), .int .i64 f1.e.cl, .int .i64 f1.e.sq, .int .u8 (f1.e.ok : Int), .string f1.e.key, .string f1.e.old, .string f1.e.val] 150)).alloc (.cells #[.int .i64 i] 3)).alloc (.cells #[.nilFunc, .int .i64 0, .int .u8 0, .int .i64 0, .int .u8 0, .int .i64 0, .int .i64 0, .int .u8 0, .int .i64 0, .int .i64 0, .int .u8 0, .string ⟨#[]⟩, .string ⟨#[]⟩, .string ⟨#[]⟩] 300)).alloc (.cells #[.func (.func 260) #[] #[.pointer (some ⟨w.heap.size + 1 + 1, 0, none⟩)]] 298)) = W at *
  generalize w.heap.size + 1 + 1 + 1 + 1 = g4 at *
  generalize w.heap.size + 1 + 1 + 1 = g3 at *
  generalize w.heap.size + 1 + 1 = g2 at *
  generalize w.heap.size + 1 = g1 at *
  generalize hg : w.heap.size = g at *
  have HG := Lib.hid hg
  clear hg
  have HC := Lib.hid (contains_of 263 #[] f0 f1 (badB f0.st) (badB f1.st) g1 2 W bad_go HA.out.two (fun V _ => isBad1_of f0 V) (fun V _ => isBad1_of f1 V))
  go_wp2_with fail
  refine HC.out.mono ?_
  rintro e w1 ⟨rfl, hx⟩
  have HA := Lib.hid (HA.out.mono hx)
  clear hx HC
  have c0 := cell_of_row w1 g 0 _ _ _ (HA.out.rec_)
  have c1 := cell_of_row w1 g 1 _ _ _ (HA.out.rec_)
  have c2 := cell_of_row w1 g 2 _ _ _ (HA.out.rec_)
  have c3 := cell_of_row w1 g 3 _ _ _ (HA.out.rec_)
  have c4 := cell_of_row w1 g 4 _ _ _ (HA.out.rec_)
  have d0 := cell_of_row w1 g1 0 _ _ _ (HA.out.two)
  have d1 := cell_of_row w1 g1 1 _ _ _ (HA.out.two)
  have d2 := cell_of_row w1 g1 2 _ _ _ (HA.out.two)
  have d3 := cell_of_row w1 g1 3 _ _ _ (HA.out.two)
  have d4 := cell_of_row w1 g1 4 _ _ _ (HA.out.two)
  have d5 := cell_of_row w1 g1 5 _ _ _ (HA.out.two)
  have d6 := cell_of_row w1 g1 6 _ _ _ (HA.out.two)
  have d7 := cell_of_row w1 g1 7 _ _ _ (HA.out.two)
  have d8 := cell_of_row w1 g1 8 _ _ _ (HA.out.two)
  have d9 := cell_of_row w1 g1 9 _ _ _ (HA.out.two)
  have d10 := cell_of_row w1 g1 10 _ _ _ (HA.out.two)
  have d11 := cell_of_row w1 g1 11 _ _ _ (HA.out.two)
  have d12 := cell_of_row w1 g1 12 _ _ _ (HA.out.two)
  have d13 := cell_of_row w1 g1 13 _ _ _ (HA.out.two)
  have d14 := cell_of_row w1 g1 14 _ _ _ (HA.out.two)
  have d15 := cell_of_row w1 g1 15 _ _ _ (HA.out.two)
  have d16 := cell_of_row w1 g1 16 _ _ _ (HA.out.two)
  have d17 := cell_of_row w1 g1 17 _ _ _ (HA.out.two)
  have d18 := cell_of_row w1 g1 18 _ _ _ (HA.out.two)
  have d19 := cell_of_row w1 g1 19 _ _ _ (HA.out.two)
  have d20 := cell_of_row w1 g1 20 _ _ _ (HA.out.two)
  have d21 := cell_of_row w1 g1 21 _ _ _ (HA.out.two)
  have k2 := cell_of_row w1 g2 0 _ _ _ HA.out.ix
  have k4 := cell_of_row w1 g4 0 _ _ _ HA.out.fn
  go_wp2_with fail
  refine (HF.out _).mono ?_
  rintro e w2 ⟨rfl, rfl⟩
  go_upto_region 5 with (fail)
  clear d0 d1 d2 d3 d4 d5 d6 d7 d8 d9 d10 d11 d12 d13 d14 d15 d16 d17 d18 d19 d20 d21 c0 c1 c2 c3 c4 k2 k4
  refine wp_region_held_drew (S := fun w' => w'.cell? ⟨g, 0, none⟩ = some (.int .u8 (p.st : Int)) ∧ w'.cell? ⟨g, 1, none⟩ = some (.int .i64 p.ix) ∧ w'.cell? ⟨g, 2, none⟩ = some (.int .i64 p.bx) ∧ w'.cell? ⟨g, 3, none⟩ = some (.int .i64 p.yb) ∧ w'.cell? ⟨g, 4, none⟩ = some (.int .i64 p.wh)) (by kernel_rfl) ((HA.out.mono (Ext.refl w2).drew).rec_.cells) (fun hHeld => ?_)
  refine tj (i := 0) (oi := ⟨some 21, .move (.tmp 9), 298, "slot.go:138", #[], none⟩) rfl (by kernel_rfl) ?_
  try simp only [Act.put, sT, s0, s1]
  refine tj (i := 1) (oi := ⟨some 22, .load 147 (.tmp 3), 147, "slot.go:138", #[], none⟩) rfl (by kernel_rfl) ?_
  try simp only [Act.put, sT, s0, s1]
  refine tj (i := 4) (oi := ⟨some 25, .fieldAddr 147 (.tmp 3) 2, 0, "slot.go:138", #[], none⟩) rfl (by kernel_rfl) ?_
  try simp only [Act.put, sT, s0, s1]
  refine tj (i := 5) (oi := ⟨some 26, .load 38 (.tmp 25), 38, "slot.go:138", #[⟨4, .data⟩], none⟩) rfl (by kernel_rfl) ?_
  try simp only [Act.put, sT, s0, s1]
  refine tj (i := 6) (oi := ⟨some 27, .build 80 #[(1, .const (.int .u8 3)), (2, .tmp 26)], 80, "slot.go:138", #[⟨5, .data⟩], none⟩) rfl (by kernel_rfl) ?_
  try simp only [Act.put, sT, s0, s1]
  refine wpAnyH_ready (rs := [2]) (by kernel_rfl) (by simp) ?_
  refine AllReadyH.cons (o := ⟨some 23, .call { callee := .value (.func 144), args := #[.tmp 22], argTypes := #[147] }, 3, "slot.go:138", #[⟨1, .data⟩], none⟩) rfl (fun K hK => ?_) AllReadyH.nil
  go_simp
  refine (HN.out _).mono ?_
  rintro e w3 ⟨rfl, hx⟩
  have HA := Lib.hid (HA.out.mono ((Ext.refl w2).drew.trans hx))
  clear hx hHeld
  go_wp2_with fail
  refine hK.out _ _ (HA.out.rec_.cells) (fun hHeld => ?_)
  clear hK K
  try simp only [Act.put, sT, s0, s1]
  refine tj (i := 3) (oi := ⟨some 24, .call { callee := .builtin Go.Builtin.max, args := #[.const (.int .i64 0), .tmp 23], argTypes := #[3, 3] }, 3, "slot.go:138", #[⟨2, .data⟩], none⟩) rfl (by kernel_rfl) ?_
  try simp only [Act.put, sT, s0, s1]
  refine tj (i := 7) (oi := ⟨some 28, .build 300 #[(0, .tmp 21), (1, .tmp 24), (2, .const (.int .u8 2)), (3, .tmp 27)], 300, "slot.go:138", #[⟨0, .data⟩, ⟨3, .data⟩, ⟨6, .data⟩], none⟩) rfl (by kernel_rfl) ?_
  try simp only [Act.put, sT, s0, s1]
  have hmx : (if 0 < p.wh then p.wh else 0) = p.wh := by split <;> omega
  have hmx2 : max 0 p.wh = p.wh := by omega
  first | simp only [hmx] | simp only [hmx2]
  clear hmx hmx2
  have z0 := cell_of_row w3 g3 0 _ _ _ (HA.out.rule)
  have z1 := cell_of_row w3 g3 1 _ _ _ (HA.out.rule)
  have z2 := cell_of_row w3 g3 2 _ _ _ (HA.out.rule)
  have z3 := cell_of_row w3 g3 3 _ _ _ (HA.out.rule)
  have z4 := cell_of_row w3 g3 4 _ _ _ (HA.out.rule)
  have z5 := cell_of_row w3 g3 5 _ _ _ (HA.out.rule)
  have z6 := cell_of_row w3 g3 6 _ _ _ (HA.out.rule)
  have z7 := cell_of_row w3 g3 7 _ _ _ (HA.out.rule)
  have z8 := cell_of_row w3 g3 8 _ _ _ (HA.out.rule)
  have z9 := cell_of_row w3 g3 9 _ _ _ (HA.out.rule)
  have z10 := cell_of_row w3 g3 10 _ _ _ (HA.out.rule)
  have z11 := cell_of_row w3 g3 11 _ _ _ (HA.out.rule)
  have z12 := cell_of_row w3 g3 12 _ _ _ (HA.out.rule)
  have z13 := cell_of_row w3 g3 13 _ _ _ (HA.out.rule)
  have y0 := frozen_of_row w3 g3 0 _ _ (HA.out.rule)
  have y1 := frozen_of_row w3 g3 1 _ _ (HA.out.rule)
  have y2 := frozen_of_row w3 g3 2 _ _ (HA.out.rule)
  have y3 := frozen_of_row w3 g3 3 _ _ (HA.out.rule)
  have y4 := frozen_of_row w3 g3 4 _ _ (HA.out.rule)
  have y5 := frozen_of_row w3 g3 5 _ _ (HA.out.rule)
  have y6 := frozen_of_row w3 g3 6 _ _ (HA.out.rule)
  have y7 := frozen_of_row w3 g3 7 _ _ (HA.out.rule)
  have y8 := frozen_of_row w3 g3 8 _ _ (HA.out.rule)
  have y9 := frozen_of_row w3 g3 9 _ _ (HA.out.rule)
  have y10 := frozen_of_row w3 g3 10 _ _ (HA.out.rule)
  have y11 := frozen_of_row w3 g3 11 _ _ (HA.out.rule)
  have y12 := frozen_of_row w3 g3 12 _ _ (HA.out.rule)
  have y13 := frozen_of_row w3 g3 13 _ _ (HA.out.rule)
  have HRW : Hid ((((((((((((((((w3.setCell ⟨g3, 0, none⟩ (.func (.func 265) #[] #[.pointer (some ⟨g4, 0, none⟩), .pointer (some ⟨g, 0, none⟩)])).setCell ⟨g3, 1, none⟩ (.int .i64 p.wh)).setCell ⟨g3, 2, none⟩ (.int .u8 2)).setCell ⟨g3, 3, none⟩ (.int .i64 0)).setCell ⟨g3, 4, none⟩ (.int .u8 3)).setCell ⟨g3, 5, none⟩ (.int .i64 p.bx)).setCell ⟨g3, 6, none⟩ (.int .i64 p.yb)).setCell ⟨g3, 7, none⟩ (.int .u8 0)).setCell ⟨g3, 8, none⟩ (.int .i64 0)).setCell ⟨g3, 9, none⟩ (.int .i64 0)).setCell ⟨g3, 10, none⟩ (.int .u8 0)).setCell ⟨g3, 11, none⟩ (.string ⟨#[]⟩)).setCell ⟨g3, 12, none⟩ (.string ⟨#[]⟩)).setCell ⟨g3, 13, none⟩ (.string ⟨#[]⟩))).heap[g3]? = some (.cells #[.func (.func 265) #[] #[.pointer (some ⟨g4, 0, none⟩), .pointer (some ⟨g, 0, none⟩)], .int .i64 p.wh, .int .u8 2, .int .i64 0, .int .u8 3, .int .i64 p.bx, .int .i64 p.yb, .int .u8 0, .int .i64 0, .int .i64 0, .int .u8 0, .string ⟨#[]⟩, .string ⟨#[]⟩, .string ⟨#[]⟩] 300 (0, 0))) := Lib.hid (row14 HA.out.rule _ _ _ _ _ _ _ _ _ _ _ _ _ _)
  have HEW : Hid (Ext w (((((((((((((((w3.setCell ⟨g3, 0, none⟩ (.func (.func 265) #[] #[.pointer (some ⟨g4, 0, none⟩), .pointer (some ⟨g, 0, none⟩)])).setCell ⟨g3, 1, none⟩ (.int .i64 p.wh)).setCell ⟨g3, 2, none⟩ (.int .u8 2)).setCell ⟨g3, 3, none⟩ (.int .i64 0)).setCell ⟨g3, 4, none⟩ (.int .u8 3)).setCell ⟨g3, 5, none⟩ (.int .i64 p.bx)).setCell ⟨g3, 6, none⟩ (.int .i64 p.yb)).setCell ⟨g3, 7, none⟩ (.int .u8 0)).setCell ⟨g3, 8, none⟩ (.int .i64 0)).setCell ⟨g3, 9, none⟩ (.int .i64 0)).setCell ⟨g3, 10, none⟩ (.int .u8 0)).setCell ⟨g3, 11, none⟩ (.string ⟨#[]⟩)).setCell ⟨g3, 12, none⟩ (.string ⟨#[]⟩)).setCell ⟨g3, 13, none⟩ (.string ⟨#[]⟩)))) := Lib.hid (ext14 HA.out.ext HA.out.ne.2.2.2 _ _ _ _ _ _ _ _ _ _ _ _ _ _)
  have HIX : Hid ((((((((((((((((w3.setCell ⟨g3, 0, none⟩ (.func (.func 265) #[] #[.pointer (some ⟨g4, 0, none⟩), .pointer (some ⟨g, 0, none⟩)])).setCell ⟨g3, 1, none⟩ (.int .i64 p.wh)).setCell ⟨g3, 2, none⟩ (.int .u8 2)).setCell ⟨g3, 3, none⟩ (.int .i64 0)).setCell ⟨g3, 4, none⟩ (.int .u8 3)).setCell ⟨g3, 5, none⟩ (.int .i64 p.bx)).setCell ⟨g3, 6, none⟩ (.int .i64 p.yb)).setCell ⟨g3, 7, none⟩ (.int .u8 0)).setCell ⟨g3, 8, none⟩ (.int .i64 0)).setCell ⟨g3, 9, none⟩ (.int .i64 0)).setCell ⟨g3, 10, none⟩ (.int .u8 0)).setCell ⟨g3, 11, none⟩ (.string ⟨#[]⟩)).setCell ⟨g3, 12, none⟩ (.string ⟨#[]⟩)).setCell ⟨g3, 13, none⟩ (.string ⟨#[]⟩))).heap[g2]? = some (.cells #[.int .i64 i] 3 (0, 0))) := Lib.hid (off14 HA.out.ix HA.out.ne.2.1 _ _ _ _ _ _ _ _ _ _ _ _ _ _)
  have HFN : Hid ((((((((((((((((w3.setCell ⟨g3, 0, none⟩ (.func (.func 265) #[] #[.pointer (some ⟨g4, 0, none⟩), .pointer (some ⟨g, 0, none⟩)])).setCell ⟨g3, 1, none⟩ (.int .i64 p.wh)).setCell ⟨g3, 2, none⟩ (.int .u8 2)).setCell ⟨g3, 3, none⟩ (.int .i64 0)).setCell ⟨g3, 4, none⟩ (.int .u8 3)).setCell ⟨g3, 5, none⟩ (.int .i64 p.bx)).setCell ⟨g3, 6, none⟩ (.int .i64 p.yb)).setCell ⟨g3, 7, none⟩ (.int .u8 0)).setCell ⟨g3, 8, none⟩ (.int .i64 0)).setCell ⟨g3, 9, none⟩ (.int .i64 0)).setCell ⟨g3, 10, none⟩ (.int .u8 0)).setCell ⟨g3, 11, none⟩ (.string ⟨#[]⟩)).setCell ⟨g3, 12, none⟩ (.string ⟨#[]⟩)).setCell ⟨g3, 13, none⟩ (.string ⟨#[]⟩))).heap[g4]? = some (.cells #[.func (.func 260) #[] #[.pointer (some ⟨g2, 0, none⟩)]] 298 (0, 0))) := Lib.hid (off14 HA.out.fn HA.out.ne.2.2.1 _ _ _ _ _ _ _ _ _ _ _ _ _ _)
  have HRC : Hid (RecAt (((((((((((((((w3.setCell ⟨g3, 0, none⟩ (.func (.func 265) #[] #[.pointer (some ⟨g4, 0, none⟩), .pointer (some ⟨g, 0, none⟩)])).setCell ⟨g3, 1, none⟩ (.int .i64 p.wh)).setCell ⟨g3, 2, none⟩ (.int .u8 2)).setCell ⟨g3, 3, none⟩ (.int .i64 0)).setCell ⟨g3, 4, none⟩ (.int .u8 3)).setCell ⟨g3, 5, none⟩ (.int .i64 p.bx)).setCell ⟨g3, 6, none⟩ (.int .i64 p.yb)).setCell ⟨g3, 7, none⟩ (.int .u8 0)).setCell ⟨g3, 8, none⟩ (.int .i64 0)).setCell ⟨g3, 9, none⟩ (.int .i64 0)).setCell ⟨g3, 10, none⟩ (.int .u8 0)).setCell ⟨g3, 11, none⟩ (.string ⟨#[]⟩)).setCell ⟨g3, 12, none⟩ (.string ⟨#[]⟩)).setCell ⟨g3, 13, none⟩ (.string ⟨#[]⟩))) g p) := Lib.hid (off14 HA.out.rec_ HA.out.ne.1 _ _ _ _ _ _ _ _ _ _ _ _ _ _)
  refine wpAnyH_ready (rs := [8]) (by kernel_rfl) (by simp) ?_
  refine AllReadyH.cons (o := ⟨none, .store 300 (.tmp 6) (.tmp 28), 0, "slot.go:138", #[⟨7, .data⟩, ⟨2, .chain⟩, ⟨0, .phase⟩, ⟨1, .phase⟩, ⟨2, .phase⟩, ⟨3, .phase⟩, ⟨4, .phase⟩, ⟨5, .phase⟩, ⟨6, .phase⟩, ⟨7, .phase⟩], none⟩) rfl (fun K hK => ?_) AllReadyH.nil
  clear hHeld
  go_simp
  refine hK.out _ _ (HRC.out.cells) (fun hHeld => ?_)
  clear hK K
  try simp only [Act.put, sT, s0, s1]
  refine wpAnyH_done (by kernel_rfl) ?_ _
  clear hHeld
  generalize ((((((((((((((w3.setCell ⟨g3, 0, none⟩ (.func (.func 265) #[] #[.pointer (some ⟨g4, 0, none⟩), .pointer (some ⟨g, 0, none⟩)])).setCell ⟨g3, 1, none⟩ (.int .i64 p.wh)).setCell ⟨g3, 2, none⟩ (.int .u8 2)).setCell ⟨g3, 3, none⟩ (.int .i64 0)).setCell ⟨g3, 4, none⟩ (.int .u8 3)).setCell ⟨g3, 5, none⟩ (.int .i64 p.bx)).setCell ⟨g3, 6, none⟩ (.int .i64 p.yb)).setCell ⟨g3, 7, none⟩ (.int .u8 0)).setCell ⟨g3, 8, none⟩ (.int .i64 0)).setCell ⟨g3, 9, none⟩ (.int .i64 0)).setCell ⟨g3, 10, none⟩ (.int .u8 0)).setCell ⟨g3, 11, none⟩ (.string ⟨#[]⟩)).setCell ⟨g3, 12, none⟩ (.string ⟨#[]⟩)).setCell ⟨g3, 13, none⟩ (.string ⟨#[]⟩)) = V at *
  clear z0 z1 z2 z3 z4 z5 z6 z7 z8 z9 z10 z11 z12 z13 y0 y1 y2 y3 y4 y5 y6 y7 y8 y9 y10 y11 y12 y13
  have z0 := cell_of_row V g3 0 _ _ _ (HRW.out)
  have z1 := cell_of_row V g3 1 _ _ _ (HRW.out)
  have z2 := cell_of_row V g3 2 _ _ _ (HRW.out)
  have z3 := cell_of_row V g3 3 _ _ _ (HRW.out)
  have z4 := cell_of_row V g3 4 _ _ _ (HRW.out)
  have z5 := cell_of_row V g3 5 _ _ _ (HRW.out)
  have z6 := cell_of_row V g3 6 _ _ _ (HRW.out)
  have z7 := cell_of_row V g3 7 _ _ _ (HRW.out)
  have z8 := cell_of_row V g3 8 _ _ _ (HRW.out)
  have z9 := cell_of_row V g3 9 _ _ _ (HRW.out)
  have z10 := cell_of_row V g3 10 _ _ _ (HRW.out)
  have z11 := cell_of_row V g3 11 _ _ _ (HRW.out)
  have z12 := cell_of_row V g3 12 _ _ _ (HRW.out)
  have z13 := cell_of_row V g3 13 _ _ _ (HRW.out)
  go_wp2_with fail
  refine bodyPost_ret (v := .agg #[.func (.func 265) #[] #[.pointer (some ⟨g4, 0, none⟩), .pointer (some ⟨g, 0, none⟩)], .int .i64 p.wh, .int .u8 2, .int .i64 0, .int .u8 3, .int .i64 p.bx, .int .i64 p.yb, .int .u8 0, .int .i64 0, .int .i64 0, .int .u8 0, .string ⟨#[]⟩, .string ⟨#[]⟩, .string ⟨#[]⟩]) (by simp [results, Tryz.results220, go_sem, z0, z1, z2, z3, z4, z5, z6, z7, z8, z9, z10, z11, z12, z13]) rfl ⟨265, #[.pointer (some ⟨g4, 0, none⟩), .pointer (some ⟨g, 0, none⟩)], rfl, HEW.out, recent_go, ?_⟩
  exact fun c V2 hv => isRecent_of c p g2 g4 g i V2 (cell_of_row _ _ 0 _ _ _ (keep_row hv HIX.out)) (cell_of_row _ _ 0 _ _ _ (keep_row hv HFN.out)) (HRC.out.ext hv).cells.2.2.1 (HRC.out.ext hv).cells.2.2.2.1
end
end Go.Proofs.YtmbmpabjclkhlaaGreatDoor
