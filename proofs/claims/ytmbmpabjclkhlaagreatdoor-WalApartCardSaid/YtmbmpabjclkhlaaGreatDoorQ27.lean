/-
  What a slot is, by no frame.
-/
import Derived.Test.YtmbmpabjclkhlaaGreatDoorQ00
import Derived.Test.YtmbmpabjclkhlaaGreatDoorQ26
namespace Go.Proofs.YtmbmpabjclkhlaaGreatDoor
set_option maxRecDepth 100000
section
open Go Go.RowKit
set_option maxHeartbeats 800000 in
theorem what_none (p : Rec) (f0 f1 : CopL) (i fi cl st bx yb : Int) (q : CopL → Bool) (hfi : fi = 0 ∨ fi = 1) (hk : useL fi (q f0) (q f1) f0 f1 = -1) (w : World)
    (hap : ∀ V, Calls Tryz.prog 220 #[.agg #[.int .u8 (p.st : Int), .int .i64 p.ix, .int .i64 p.bx, .int .i64 p.yb, .int .i64 p.wh], .agg #[.int .u8 (f0.st : Int), .int .i64 f0.ix, .int .i64 f0.bx, .int .i64 f0.yb, .int .u8 (f0.e.k : Int), .int .i64 f0.e.cl, .int .i64 f0.e.sq, .int .u8 (f0.e.ok : Int), .string f0.e.key, .string f0.e.old, .string f0.e.val, .int .u8 (f1.st : Int), .int .i64 f1.ix, .int .i64 f1.bx, .int .i64 f1.yb, .int .u8 (f1.e.k : Int), .int .i64 f1.e.cl, .int .i64 f1.e.sq, .int .u8 (f1.e.ok : Int), .string f1.e.key, .string f1.e.old, .string f1.e.val], .int .i64 i] V fun e w' => ∃ (F : Nat) (caps : Array Value), e = .returned (.agg #[.func (.func F) #[] caps, .int .i64 fi, .int .u8 cl, .int .i64 0, .int .u8 st, .int .i64 bx, .int .i64 yb, .int .u8 0, .int .i64 0, .int .i64 0, .int .u8 0, .string ⟨#[]⟩, .string ⟨#[]⟩, .string ⟨#[]⟩]) ∧ Ext V w' ∧ Enters Tryz.prog F ∧ ∀ c, Asks w' F caps c (q c)) :
    Calls Tryz.prog 143 #[.agg #[.int .u8 (p.st : Int), .int .i64 p.ix, .int .i64 p.bx, .int .i64 p.yb, .int .i64 p.wh], .agg #[.int .u8 (f0.st : Int), .int .i64 f0.ix, .int .i64 f0.bx, .int .i64 f0.yb, .int .u8 (f0.e.k : Int), .int .i64 f0.e.cl, .int .i64 f0.e.sq, .int .u8 (f0.e.ok : Int), .string f0.e.key, .string f0.e.old, .string f0.e.val, .int .u8 (f1.st : Int), .int .i64 f1.ix, .int .i64 f1.bx, .int .i64 f1.yb, .int .u8 (f1.e.k : Int), .int .i64 f1.e.cl, .int .i64 f1.e.sq, .int .u8 (f1.e.ok : Int), .string f1.e.key, .string f1.e.old, .string f1.e.val], .int .i64 i] w fun e w' => e = .returned (.tuple #[.int .u8 cl, .agg #[.int .i64 i, .int .u8 st, .int .i64 bx, .int .i64 yb, .int .u8 0, .int .i64 0, .int .i64 0, .int .u8 0, .string ⟨#[]⟩, .string ⟨#[]⟩, .string ⟨#[]⟩], .int .i64 (-1)]) ∧ Ext w w' := by
  have HW := Lib.hid (WhS.make w p f0 f1)
  have HAP := Lib.hid hap
  have HUS := Lib.hid (fun F caps V hgo h0 h1 => use_of F caps fi hfi (.int .u8 cl) (.int .i64 0) (.int .u8 st) (.int .i64 bx) (.int .i64 yb) (.int .u8 0) (.int .i64 0) (.int .i64 0) (.int .u8 0) (.string ⟨#[]⟩) (.string ⟨#[]⟩) (.string ⟨#[]⟩) f0 f1 (q f0) (q f1) V hgo h0 h1)
  rw [hk] at HUS
  clear hap hk hfi
  go_enter Tryz.func143, Tryz.ntmps143
  go_upto_region 1 with (fail)
  generalize (((w.alloc (.cells #[.int .u8 (p.st : Int), .int .i64 p.ix, .int .i64 p.bx, .int .i64 p.yb, .int .i64 p.wh] 147)).alloc (.cells #[.int .u8 (f0.st : Int), .int .i64 f0.ix, .int .i64 f0.bx, .int .i64 f0.yb, .int .u8 (f0.e.k : Int), .int .i64 f0.e.cl, .int .i64 f0.e.sq, .int .u8 (f0.e.ok : Int), .string f0.e.key, .string f0.e.old, .string f0.e.val, .int .u8 (f1.st : Int), .int .i64 f1.ix, .int .i64 f1.bx, .int .i64 f1.yb, .int .u8 (f1.e.k : Int), .int .i64 f1.e.cl, .int .i64 f1.e.sq, .int .u8 (f1.e.ok : Int), .string f1.e.key, .string f1.e.old, .string f1.e.val] 150)).alloc (.cells #[.int .i64 0, .int .u8 0, .int .i64 0, .int .i64 0, .int .u8 0, .int .i64 0, .int .i64 0, .int .u8 0, .string ⟨#[]⟩, .string ⟨#[]⟩, .string ⟨#[]⟩] 80)) = W at *
  generalize w.heap.size + 1 + 1 = g2 at *
  generalize w.heap.size + 1 = g1 at *
  generalize hg : w.heap.size = g at *
  have HG := Lib.hid hg
  clear hg
  have c0 := cell_of_row W g 0 _ _ _ (HW.out.rec_)
  have c1 := cell_of_row W g 1 _ _ _ (HW.out.rec_)
  have c2 := cell_of_row W g 2 _ _ _ (HW.out.rec_)
  have c3 := cell_of_row W g 3 _ _ _ (HW.out.rec_)
  have c4 := cell_of_row W g 4 _ _ _ (HW.out.rec_)
  obtain ⟨N, hN, hsz⟩ := size_two
  have hld := load_two hN HW.out.two
  have HNN := Lib.hid hN
  clear hN
  go_wp2_with fail
  refine (HAP.out W).mono ?_
  rintro e w1 ⟨F, caps, rfl, hx, hgo, hq⟩
  have HW := Lib.hid (HW.out.mono hx)
  have HQ := Lib.hid hq
  have HGO := Lib.hid hgo
  clear hx hq hgo HAP c0 c1 c2 c3 c4 hsz hld HNN
  have HRL := Lib.hid (heap_alloc_new w1 (.cells #[.func (.func F) #[] caps, .int .i64 fi, .int .u8 cl, .int .i64 0, .int .u8 st, .int .i64 bx, .int .i64 yb, .int .u8 0, .int .i64 0, .int .i64 0, .int .u8 0, .string ⟨#[]⟩, .string ⟨#[]⟩, .string ⟨#[]⟩] 300))
  have HX1 := Lib.hid ((Ext.refl w1).alloc (.cells #[.func (.func F) #[] caps, .int .i64 fi, .int .u8 cl, .int .i64 0, .int .u8 st, .int .i64 bx, .int .i64 yb, .int .u8 0, .int .i64 0, .int .i64 0, .int .u8 0, .string ⟨#[]⟩, .string ⟨#[]⟩, .string ⟨#[]⟩] 300))
  have HNE : Hid (w1.heap.size ≠ g2) := Lib.hid (by have := (Array.getElem?_eq_some_iff.1 HW.out.rep).1; omega)
  go_upto_region 2 with (fail)
  have HW := Lib.hid (HW.out.mono HX1.out)
  generalize (w1.alloc (.cells #[.func (.func F) #[] caps, .int .i64 fi, .int .u8 cl, .int .i64 0, .int .u8 st, .int .i64 bx, .int .i64 yb, .int .u8 0, .int .i64 0, .int .i64 0, .int .u8 0, .string ⟨#[]⟩, .string ⟨#[]⟩, .string ⟨#[]⟩] 300)) = w2 at *
  generalize w1.heap.size = gr at *
  refine wp_region_held_drew (S := fun w' => w'.cell? ⟨gr, 2, none⟩ = some (.int .u8 cl) ∧ w'.heap[gr]? = some (.cells #[.func (.func F) #[] caps, .int .i64 fi, .int .u8 cl, .int .i64 0, .int .u8 st, .int .i64 bx, .int .i64 yb, .int .u8 0, .int .i64 0, .int .i64 0, .int .u8 0, .string ⟨#[]⟩, .string ⟨#[]⟩, .string ⟨#[]⟩] 300 (0, 0)) ∧ TwoL w' g1 f0 f1) (by kernel_rfl) (⟨cell_of_row _ gr 2 _ _ _ (keep_row (Ext.refl w2).drew HRL.out), keep_row (Ext.refl w2).drew HRL.out, HW.out.two.ext (Ext.refl w2).drew⟩) (fun hHeld => ?_)
  refine tj (i := 0) (oi := ⟨some 14, .fieldAddr 300 (.tmp 9) 2, 0, "slot.go:103", #[], none⟩) rfl (by kernel_rfl) ?_
  try simp only [Act.put, sT, s0, s1]
  refine tj (i := 1) (oi := ⟨some 15, .load 5 (.tmp 14), 5, "slot.go:103", #[⟨0, .data⟩], none⟩) rfl (by kernel_rfl) ?_
  try simp only [Act.put, sT, s0, s1]
  refine tj (i := 2) (oi := ⟨some 16, .fieldAddr 300 (.tmp 9) 3, 0, "slot.go:103", #[⟨7, .gcOnly .lateStores⟩], none⟩) rfl (by kernel_rfl) ?_
  try simp only [Act.put, sT, s0, s1]
  refine tk (i := 3) (oi := ⟨some 17, .load 80 (.tmp 16), 80, "slot.go:103", #[⟨2, .data⟩, ⟨7, .gcOnly .lateStores⟩], none⟩) (v := .agg #[.int .i64 0, .int .u8 st, .int .i64 bx, .int .i64 yb, .int .u8 0, .int .i64 0, .int .i64 0, .int .u8 0, .string ⟨#[]⟩, .string ⟨#[]⟩, .string ⟨#[]⟩]) rfl (by kernel_rfl) (yieldsIf_load_mid (by rfl) 80 (.tmp 16) rfl gr 3 rfl [.int .i64 0, .int .u8 st, .int .i64 bx, .int .i64 yb, .int .u8 0, .int .i64 0, .int .i64 0, .int .u8 0, .string ⟨#[]⟩, .string ⟨#[]⟩, .string ⟨#[]⟩] _ (fun w hw => row_range [.func (.func F) #[] caps, .int .i64 fi, .int .u8 cl, .int .i64 0, .int .u8 st, .int .i64 bx, .int .i64 yb, .int .u8 0, .int .i64 0, .int .i64 0, .int .u8 0, .string ⟨#[]⟩, .string ⟨#[]⟩, .string ⟨#[]⟩] hw.2.1 3) Tryz.underlying80 rfl (by kernel_rfl)) ?_
  try simp only [Act.put, sT, s0, s1]
  refine tk (i := 4) (oi := ⟨some 18, .load 300 (.tmp 9), 300, "slot.go:103", #[], none⟩) (v := .agg #[.func (.func F) #[] caps, .int .i64 fi, .int .u8 cl, .int .i64 0, .int .u8 st, .int .i64 bx, .int .i64 yb, .int .u8 0, .int .i64 0, .int .i64 0, .int .u8 0, .string ⟨#[]⟩, .string ⟨#[]⟩, .string ⟨#[]⟩]) rfl (by kernel_rfl) (yieldsIf_load_mid (by rfl) 300 (.tmp 9) rfl gr 0 rfl [.func (.func F) #[] caps, .int .i64 fi, .int .u8 cl, .int .i64 0, .int .u8 st, .int .i64 bx, .int .i64 yb, .int .u8 0, .int .i64 0, .int .i64 0, .int .u8 0, .string ⟨#[]⟩, .string ⟨#[]⟩, .string ⟨#[]⟩] _ (fun w hw => row_range [.func (.func F) #[] caps, .int .i64 fi, .int .u8 cl, .int .i64 0, .int .u8 st, .int .i64 bx, .int .i64 yb, .int .u8 0, .int .i64 0, .int .i64 0, .int .u8 0, .string ⟨#[]⟩, .string ⟨#[]⟩, .string ⟨#[]⟩] hw.2.1 0) Tryz.underlying300 rfl (by kernel_rfl)) ?_
  try simp only [Act.put, sT, s0, s1]
  refine tk (i := 5) (oi := ⟨some 19, .load 150 (.tmp 4), 150, "slot.go:103", #[], none⟩) (v := .agg #[.int .u8 (f0.st : Int), .int .i64 f0.ix, .int .i64 f0.bx, .int .i64 f0.yb, .int .u8 (f0.e.k : Int), .int .i64 f0.e.cl, .int .i64 f0.e.sq, .int .u8 (f0.e.ok : Int), .string f0.e.key, .string f0.e.old, .string f0.e.val, .int .u8 (f1.st : Int), .int .i64 f1.ix, .int .i64 f1.bx, .int .i64 f1.yb, .int .u8 (f1.e.k : Int), .int .i64 f1.e.cl, .int .i64 f1.e.sq, .int .u8 (f1.e.ok : Int), .string f1.e.key, .string f1.e.old, .string f1.e.val]) rfl (by kernel_rfl) (yieldsIf_load_mid (by rfl) 150 (.tmp 4) rfl g1 0 rfl [.int .u8 (f0.st : Int), .int .i64 f0.ix, .int .i64 f0.bx, .int .i64 f0.yb, .int .u8 (f0.e.k : Int), .int .i64 f0.e.cl, .int .i64 f0.e.sq, .int .u8 (f0.e.ok : Int), .string f0.e.key, .string f0.e.old, .string f0.e.val, .int .u8 (f1.st : Int), .int .i64 f1.ix, .int .i64 f1.bx, .int .i64 f1.yb, .int .u8 (f1.e.k : Int), .int .i64 f1.e.cl, .int .i64 f1.e.sq, .int .u8 (f1.e.ok : Int), .string f1.e.key, .string f1.e.old, .string f1.e.val] _ (fun w hw => row_range [.int .u8 (f0.st : Int), .int .i64 f0.ix, .int .i64 f0.bx, .int .i64 f0.yb, .int .u8 (f0.e.k : Int), .int .i64 f0.e.cl, .int .i64 f0.e.sq, .int .u8 (f0.e.ok : Int), .string f0.e.key, .string f0.e.old, .string f0.e.val, .int .u8 (f1.st : Int), .int .i64 f1.ix, .int .i64 f1.bx, .int .i64 f1.yb, .int .u8 (f1.e.k : Int), .int .i64 f1.e.cl, .int .i64 f1.e.sq, .int .u8 (f1.e.ok : Int), .string f1.e.key, .string f1.e.old, .string f1.e.val] hw.2.2 0) Tryz.underlying150 rfl (by kernel_rfl)) ?_
  try simp only [Act.put, sT, s0, s1]
  refine wpAnyH_ready (rs := [6]) (by kernel_rfl) (by simp) ?_
  refine AllReadyH.cons (o := ⟨some 20, .call { callee := .value (.func 221), args := #[.tmp 18, .tmp 19], argTypes := #[300, 150] }, 3, "slot.go:103", #[⟨4, .data⟩, ⟨5, .data⟩], none⟩) rfl (fun K hK => ?_) AllReadyH.nil
  go_simp
  refine (HUS.out F caps _ HGO.out (HQ.out f0 |>.ext (HX1.out.trans (Ext.refl w2).drew)) (HQ.out f1 |>.ext (HX1.out.trans (Ext.refl w2).drew))).mono ?_
  rintro e w3 ⟨rfl, hx⟩
  have HW := Lib.hid (HW.out.mono ((Ext.refl w2).drew.trans hx))
  have HRL := Lib.hid (keep_row ((Ext.refl w2).drew.trans hx) HRL.out)
  clear hx hHeld
  go_wp2_with fail
  refine hK.out _ _ (⟨cell_of_row _ gr 2 _ _ _ HRL.out, HRL.out, HW.out.two⟩) (fun hHeld => ?_)
  clear hK K
  try simp only [Act.put, sT, s0, s1]
  refine tj (i := 7) (oi := ⟨some 6, .assign (.tmp 15), 5, "slot.go:103", #[⟨1, .data⟩, ⟨6, .chain⟩, ⟨0, .phase⟩, ⟨1, .phase⟩, ⟨2, .textOnly .lateStores⟩, ⟨3, .textOnly .lateStores⟩, ⟨4, .textOnly .lateStores⟩, ⟨5, .textOnly .lateStores⟩, ⟨6, .textOnly .lateStoresUnsure⟩], none⟩) rfl (by kernel_rfl) ?_
  try simp only [Act.put, sT, s0, s1]
  have z0 := cell_of_row w3 g2 0 _ _ _ (HW.out.rep)
  have z1 := cell_of_row w3 g2 1 _ _ _ (HW.out.rep)
  have z2 := cell_of_row w3 g2 2 _ _ _ (HW.out.rep)
  have z3 := cell_of_row w3 g2 3 _ _ _ (HW.out.rep)
  have z4 := cell_of_row w3 g2 4 _ _ _ (HW.out.rep)
  have z5 := cell_of_row w3 g2 5 _ _ _ (HW.out.rep)
  have z6 := cell_of_row w3 g2 6 _ _ _ (HW.out.rep)
  have z7 := cell_of_row w3 g2 7 _ _ _ (HW.out.rep)
  have z8 := cell_of_row w3 g2 8 _ _ _ (HW.out.rep)
  have z9 := cell_of_row w3 g2 9 _ _ _ (HW.out.rep)
  have z10 := cell_of_row w3 g2 10 _ _ _ (HW.out.rep)
  have y0 := frozen_of_row w3 g2 0 _ _ (HW.out.rep)
  have y1 := frozen_of_row w3 g2 1 _ _ (HW.out.rep)
  have y2 := frozen_of_row w3 g2 2 _ _ (HW.out.rep)
  have y3 := frozen_of_row w3 g2 3 _ _ (HW.out.rep)
  have y4 := frozen_of_row w3 g2 4 _ _ (HW.out.rep)
  have y5 := frozen_of_row w3 g2 5 _ _ (HW.out.rep)
  have y6 := frozen_of_row w3 g2 6 _ _ (HW.out.rep)
  have y7 := frozen_of_row w3 g2 7 _ _ (HW.out.rep)
  have y8 := frozen_of_row w3 g2 8 _ _ (HW.out.rep)
  have y9 := frozen_of_row w3 g2 9 _ _ (HW.out.rep)
  have y10 := frozen_of_row w3 g2 10 _ _ (HW.out.rep)
  have HRL : Hid (((((((((((((w3.setCell ⟨g2, 0, none⟩ (.int .i64 0)).setCell ⟨g2, 1, none⟩ (.int .u8 st)).setCell ⟨g2, 2, none⟩ (.int .i64 bx)).setCell ⟨g2, 3, none⟩ (.int .i64 yb)).setCell ⟨g2, 4, none⟩ (.int .u8 0)).setCell ⟨g2, 5, none⟩ (.int .i64 0)).setCell ⟨g2, 6, none⟩ (.int .i64 0)).setCell ⟨g2, 7, none⟩ (.int .u8 0)).setCell ⟨g2, 8, none⟩ (.string ⟨#[]⟩)).setCell ⟨g2, 9, none⟩ (.string ⟨#[]⟩)).setCell ⟨g2, 10, none⟩ (.string ⟨#[]⟩))).heap[gr]? = some (.cells #[.func (.func F) #[] caps, .int .i64 fi, .int .u8 cl, .int .i64 0, .int .u8 st, .int .i64 bx, .int .i64 yb, .int .u8 0, .int .i64 0, .int .i64 0, .int .u8 0, .string ⟨#[]⟩, .string ⟨#[]⟩, .string ⟨#[]⟩] 300 (0, 0))) := Lib.hid (off11 HRL.out HNE.out _ _ _ _ _ _ _ _ _ _ _)
  have HW : Hid (WhS w ((((((((((((w3.setCell ⟨g2, 0, none⟩ (.int .i64 0)).setCell ⟨g2, 1, none⟩ (.int .u8 st)).setCell ⟨g2, 2, none⟩ (.int .i64 bx)).setCell ⟨g2, 3, none⟩ (.int .i64 yb)).setCell ⟨g2, 4, none⟩ (.int .u8 0)).setCell ⟨g2, 5, none⟩ (.int .i64 0)).setCell ⟨g2, 6, none⟩ (.int .i64 0)).setCell ⟨g2, 7, none⟩ (.int .u8 0)).setCell ⟨g2, 8, none⟩ (.string ⟨#[]⟩)).setCell ⟨g2, 9, none⟩ (.string ⟨#[]⟩)).setCell ⟨g2, 10, none⟩ (.string ⟨#[]⟩))) p f0 f1 g g1 g2 #[.int .i64 0, .int .u8 st, .int .i64 bx, .int .i64 yb, .int .u8 0, .int .i64 0, .int .i64 0, .int .u8 0, .string ⟨#[]⟩, .string ⟨#[]⟩, .string ⟨#[]⟩]) := Lib.hid (HW.out.put _ _ _ _ _ _ _ _ _ _ _)
  refine wpAnyH_ready (rs := [8]) (by kernel_rfl) (by simp) ?_
  refine AllReadyH.cons (o := ⟨none, .store 80 (.tmp 7) (.tmp 17), 0, "slot.go:103", #[⟨3, .data⟩, ⟨7, .chain⟩, ⟨0, .phase⟩, ⟨1, .phase⟩, ⟨2, .phase⟩, ⟨3, .phase⟩, ⟨4, .textOnly .lateStores⟩, ⟨5, .textOnly .lateStores⟩, ⟨6, .textOnly .lateStoresUnsure⟩, ⟨7, .phase⟩], none⟩) rfl (fun K hK => ?_) AllReadyH.nil
  clear hHeld
  go_simp
  refine hK.out _ _ (⟨cell_of_row _ gr 2 _ _ _ HRL.out, HRL.out, HW.out.two⟩) (fun hHeld => ?_)
  clear hK K
  try simp only [Act.put, sT, s0, s1]
  refine tj (i := 9) (oi := ⟨some 8, .assign (.tmp 20), 3, "slot.go:103", #[⟨6, .data⟩, ⟨8, .chain⟩, ⟨0, .phase⟩, ⟨1, .phase⟩, ⟨2, .phase⟩, ⟨3, .phase⟩, ⟨4, .phase⟩, ⟨5, .phase⟩, ⟨6, .phase⟩, ⟨7, .phase⟩, ⟨8, .phase⟩], none⟩) rfl (by kernel_rfl) ?_
  try simp only [Act.put, sT, s0, s1]
  refine wpAnyH_done (by kernel_rfl) ?_ _
  clear hHeld
  generalize (((((((((((w3.setCell ⟨g2, 0, none⟩ (.int .i64 0)).setCell ⟨g2, 1, none⟩ (.int .u8 st)).setCell ⟨g2, 2, none⟩ (.int .i64 bx)).setCell ⟨g2, 3, none⟩ (.int .i64 yb)).setCell ⟨g2, 4, none⟩ (.int .u8 0)).setCell ⟨g2, 5, none⟩ (.int .i64 0)).setCell ⟨g2, 6, none⟩ (.int .i64 0)).setCell ⟨g2, 7, none⟩ (.int .u8 0)).setCell ⟨g2, 8, none⟩ (.string ⟨#[]⟩)).setCell ⟨g2, 9, none⟩ (.string ⟨#[]⟩)).setCell ⟨g2, 10, none⟩ (.string ⟨#[]⟩)) = w4 at *
  clear z0 z1 z2 z3 z4 z5 z6 z7 z8 z9 z10 y0 y1 y2 y3 y4 y5 y6 y7 y8 y9 y10 HRL HX1 HQ HGO HUS
  have z0 := cell_of_row w4 g2 0 _ _ _ HW.out.rep
  have y0 := frozen_of_row w4 g2 0 _ _ HW.out.rep
  have HW := Lib.hid (HW.out.put0 (.int .i64 i))
  go_upto_region 6 with (fail)
  generalize (w4.setCell ⟨g2, 0, none⟩ (.int .i64 i)) = w7 at *
  clear z0 y0
  refine wp_region_held_drew (S := fun w' => w'.heap[g2]? = some (.cells #[.int .i64 i, .int .u8 st, .int .i64 bx, .int .i64 yb, .int .u8 0, .int .i64 0, .int .i64 0, .int .u8 0, .string ⟨#[]⟩, .string ⟨#[]⟩, .string ⟨#[]⟩] 80 (0, 0))) (by kernel_rfl) ((HW.out.mono (Ext.refl w7).drew).rep) (fun hHeld => ?_)
  refine tj (i := 0) (oi := ⟨some 34, .move (.tmp 6), 5, "slot.go:108", #[], none⟩) rfl (by kernel_rfl) ?_
  try simp only [Act.put, sT, s0, s1]
  refine tk (i := 1) (oi := ⟨some 35, .load 80 (.tmp 7), 80, "slot.go:108", #[⟨3, .gcOnly .lateStores⟩], none⟩) (v := .agg #[.int .i64 i, .int .u8 st, .int .i64 bx, .int .i64 yb, .int .u8 0, .int .i64 0, .int .i64 0, .int .u8 0, .string ⟨#[]⟩, .string ⟨#[]⟩, .string ⟨#[]⟩]) rfl (by kernel_rfl) (yieldsIf_load_mid (by rfl) 80 (.tmp 7) rfl g2 0 rfl [.int .i64 i, .int .u8 st, .int .i64 bx, .int .i64 yb, .int .u8 0, .int .i64 0, .int .i64 0, .int .u8 0, .string ⟨#[]⟩, .string ⟨#[]⟩, .string ⟨#[]⟩] _ (fun w hw => row_range [.int .i64 i, .int .u8 st, .int .i64 bx, .int .i64 yb, .int .u8 0, .int .i64 0, .int .i64 0, .int .u8 0, .string ⟨#[]⟩, .string ⟨#[]⟩, .string ⟨#[]⟩] hw 0) Tryz.underlying80 rfl (by kernel_rfl)) ?_
  try simp only [Act.put, sT, s0, s1]
  refine tj (i := 2) (oi := ⟨some 36, .move (.tmp 8), 3, "slot.go:108", #[⟨4, .gcOnly .lateStores⟩], none⟩) rfl (by kernel_rfl) ?_
  try simp only [Act.put, sT, s0, s1]
  refine tj (i := 3) (oi := ⟨some 6, .assign (.tmp 34), 5, "slot.go:108", #[⟨0, .data⟩, ⟨0, .phase⟩, ⟨1, .textOnly .lateStores⟩, ⟨2, .textOnly .lateStores⟩], none⟩) rfl (by kernel_rfl) ?_
  try simp only [Act.put, sT, s0, s1]
  have HW := Lib.hid (HW.out.mono (Ext.refl w7).drew)
  generalize w7.drew = w8 at *
  have z0 := cell_of_row w8 g2 0 _ _ _ (HW.out.rep)
  have z1 := cell_of_row w8 g2 1 _ _ _ (HW.out.rep)
  have z2 := cell_of_row w8 g2 2 _ _ _ (HW.out.rep)
  have z3 := cell_of_row w8 g2 3 _ _ _ (HW.out.rep)
  have z4 := cell_of_row w8 g2 4 _ _ _ (HW.out.rep)
  have z5 := cell_of_row w8 g2 5 _ _ _ (HW.out.rep)
  have z6 := cell_of_row w8 g2 6 _ _ _ (HW.out.rep)
  have z7 := cell_of_row w8 g2 7 _ _ _ (HW.out.rep)
  have z8 := cell_of_row w8 g2 8 _ _ _ (HW.out.rep)
  have z9 := cell_of_row w8 g2 9 _ _ _ (HW.out.rep)
  have z10 := cell_of_row w8 g2 10 _ _ _ (HW.out.rep)
  have y0 := frozen_of_row w8 g2 0 _ _ (HW.out.rep)
  have y1 := frozen_of_row w8 g2 1 _ _ (HW.out.rep)
  have y2 := frozen_of_row w8 g2 2 _ _ (HW.out.rep)
  have y3 := frozen_of_row w8 g2 3 _ _ (HW.out.rep)
  have y4 := frozen_of_row w8 g2 4 _ _ (HW.out.rep)
  have y5 := frozen_of_row w8 g2 5 _ _ (HW.out.rep)
  have y6 := frozen_of_row w8 g2 6 _ _ (HW.out.rep)
  have y7 := frozen_of_row w8 g2 7 _ _ (HW.out.rep)
  have y8 := frozen_of_row w8 g2 8 _ _ (HW.out.rep)
  have y9 := frozen_of_row w8 g2 9 _ _ (HW.out.rep)
  have y10 := frozen_of_row w8 g2 10 _ _ (HW.out.rep)
  have HW : Hid (WhS w ((((((((((((w8.setCell ⟨g2, 0, none⟩ (.int .i64 i)).setCell ⟨g2, 1, none⟩ (.int .u8 st)).setCell ⟨g2, 2, none⟩ (.int .i64 bx)).setCell ⟨g2, 3, none⟩ (.int .i64 yb)).setCell ⟨g2, 4, none⟩ (.int .u8 0)).setCell ⟨g2, 5, none⟩ (.int .i64 0)).setCell ⟨g2, 6, none⟩ (.int .i64 0)).setCell ⟨g2, 7, none⟩ (.int .u8 0)).setCell ⟨g2, 8, none⟩ (.string ⟨#[]⟩)).setCell ⟨g2, 9, none⟩ (.string ⟨#[]⟩)).setCell ⟨g2, 10, none⟩ (.string ⟨#[]⟩))) p f0 f1 g g1 g2 #[.int .i64 i, .int .u8 st, .int .i64 bx, .int .i64 yb, .int .u8 0, .int .i64 0, .int .i64 0, .int .u8 0, .string ⟨#[]⟩, .string ⟨#[]⟩, .string ⟨#[]⟩]) := Lib.hid (HW.out.put _ _ _ _ _ _ _ _ _ _ _)
  refine wpAnyH_ready (rs := [4]) (by kernel_rfl) (by simp) ?_
  refine AllReadyH.cons (o := ⟨none, .store 80 (.tmp 7) (.tmp 35), 0, "slot.go:108", #[⟨1, .data⟩, ⟨3, .chain⟩, ⟨0, .phase⟩, ⟨1, .phase⟩, ⟨2, .textOnly .lateStores⟩, ⟨3, .phase⟩], none⟩) rfl (fun K hK => ?_) AllReadyH.nil
  clear hHeld
  go_simp
  refine hK.out _ _ (HW.out.rep) (fun hHeld => ?_)
  clear hK K
  try simp only [Act.put, sT, s0, s1]
  refine tj (i := 5) (oi := ⟨some 8, .assign (.tmp 36), 3, "slot.go:108", #[⟨2, .data⟩, ⟨4, .chain⟩, ⟨0, .phase⟩, ⟨1, .phase⟩, ⟨2, .phase⟩, ⟨3, .phase⟩, ⟨4, .phase⟩], none⟩) rfl (by kernel_rfl) ?_
  try simp only [Act.put, sT, s0, s1]
  refine wpAnyH_done (by kernel_rfl) ?_ _
  clear hHeld
  generalize (((((((((((w8.setCell ⟨g2, 0, none⟩ (.int .i64 i)).setCell ⟨g2, 1, none⟩ (.int .u8 st)).setCell ⟨g2, 2, none⟩ (.int .i64 bx)).setCell ⟨g2, 3, none⟩ (.int .i64 yb)).setCell ⟨g2, 4, none⟩ (.int .u8 0)).setCell ⟨g2, 5, none⟩ (.int .i64 0)).setCell ⟨g2, 6, none⟩ (.int .i64 0)).setCell ⟨g2, 7, none⟩ (.int .u8 0)).setCell ⟨g2, 8, none⟩ (.string ⟨#[]⟩)).setCell ⟨g2, 9, none⟩ (.string ⟨#[]⟩)).setCell ⟨g2, 10, none⟩ (.string ⟨#[]⟩)) = w9 at *
  clear z0 z1 z2 z3 z4 z5 z6 z7 z8 z9 z10 y0 y1 y2 y3 y4 y5 y6 y7 y8 y9 y10
  obtain ⟨z0, z1, z2, z3, z4, z5, z6, z7, z8, z9, z10⟩ := rep_cells HW.out.rep
  go_wp2_with fail
  refine bodyPost_ret (v := .tuple #[.int .u8 cl, .agg #[.int .i64 i, .int .u8 st, .int .i64 bx, .int .i64 yb, .int .u8 0, .int .i64 0, .int .i64 0, .int .u8 0, .string ⟨#[]⟩, .string ⟨#[]⟩, .string ⟨#[]⟩], .int .i64 (-1)]) (by simp [results, Tryz.results143, go_sem, z0, z1, z2, z3, z4, z5, z6, z7, z8, z9, z10]) rfl ⟨rfl, HW.out.ext⟩
end
end Go.Proofs.YtmbmpabjclkhlaaGreatDoor
