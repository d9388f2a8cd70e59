/-
  A rule's use where frame 0 is looked at first.
-/
import Derived.Test.YtmbmpabjclkhlaaGreatDoorQ00
import Derived.Test.YtmbmpabjclkhlaaGreatDoorQ22
namespace Go.Proofs.YtmbmpabjclkhlaaGreatDoor
set_option maxRecDepth 100000
section
open Go Go.RowKit
set_option maxHeartbeats 1600000 in
theorem use0_ff (F : Nat) (caps : Array Value) (x2 x3 x4 x5 x6 x7 x8 x9 x10 x11 x12 x13 : Value) (f0 f1 : CopL) (w : World) (hgo : Enters Tryz.prog F) (h0 : Asks w F caps f0 false) (h1 : Asks w F caps f1 false) :
    Calls Tryz.prog 221 #[.agg #[.func (.func F) #[] caps, .int .i64 0, x2, x3, x4, x5, x6, x7, x8, x9, x10, x11, x12, x13], .agg #[.int .u8 (f0.st : Int), .int .i64 f0.ix, .int .i64 f0.bx, .int .i64 f0.yb, .int .u8 (f0.e.k : Int), .int .i64 f0.e.cl, .int .i64 f0.e.sq, .int .u8 (f0.e.ok : Int), .string f0.e.key, .string f0.e.old, .string f0.e.val, .int .u8 (f1.st : Int), .int .i64 f1.ix, .int .i64 f1.bx, .int .i64 f1.yb, .int .u8 (f1.e.k : Int), .int .i64 f1.e.cl, .int .i64 f1.e.sq, .int .u8 (f1.e.ok : Int), .string f1.e.key, .string f1.e.old, .string f1.e.val]] w fun e w' => e = .returned (.int .i64 (-1)) ∧ Ext w w' := by
  have hE := ((Ext.refl w).alloc (.cells #[.func (.func F) #[] caps, .int .i64 0, x2, x3, x4, x5, x6, x7, x8, x9, x10, x11, x12, x13] 300)).alloc (.cells #[.int .u8 (f0.st : Int), .int .i64 f0.ix, .int .i64 f0.bx, .int .i64 f0.yb, .int .u8 (f0.e.k : Int), .int .i64 f0.e.cl, .int .i64 f0.e.sq, .int .u8 (f0.e.ok : Int), .string f0.e.key, .string f0.e.old, .string f0.e.val, .int .u8 (f1.st : Int), .int .i64 f1.ix, .int .i64 f1.bx, .int .i64 f1.yb, .int .u8 (f1.e.k : Int), .int .i64 f1.e.cl, .int .i64 f1.e.sq, .int .u8 (f1.e.ok : Int), .string f1.e.key, .string f1.e.old, .string f1.e.val] 150)
  have hR := keep_row ((Ext.refl _).alloc (.cells #[.int .u8 (f0.st : Int), .int .i64 f0.ix, .int .i64 f0.bx, .int .i64 f0.yb, .int .u8 (f0.e.k : Int), .int .i64 f0.e.cl, .int .i64 f0.e.sq, .int .u8 (f0.e.ok : Int), .string f0.e.key, .string f0.e.old, .string f0.e.val, .int .u8 (f1.st : Int), .int .i64 f1.ix, .int .i64 f1.bx, .int .i64 f1.yb, .int .u8 (f1.e.k : Int), .int .i64 f1.e.cl, .int .i64 f1.e.sq, .int .u8 (f1.e.ok : Int), .string f1.e.key, .string f1.e.old, .string f1.e.val] 150)) (heap_alloc_new w (.cells #[.func (.func F) #[] caps, .int .i64 0, x2, x3, x4, x5, x6, x7, x8, x9, x10, x11, x12, x13] 300))
  have hT := TwoL.new (w.alloc (.cells #[.func (.func F) #[] caps, .int .i64 0, x2, x3, x4, x5, x6, x7, x8, x9, x10, x11, x12, x13] 300)) f0 f1
  rw [World.size_alloc] at hT
  have HE := Lib.hid hE
  have HR := Lib.hid hR
  have HT := Lib.hid hT
  have H0 := Lib.hid (h0.ext hE)
  have H1 := Lib.hid (h1.ext hE)
  have HC := Lib.hid bal_of
  have HO := Lib.hid otherL_of
  have hi0 := fun w => (idx_two 0 1 w).1
  have hi1 := fun w => (idx_two 0 1 w).2
  clear hE hR hT h0 h1
  unfold Asks at H0 H1
  unfold Enters at hgo
  go_enter Tryz.func221, Tryz.ntmps221
  go_upto_region 2 with (fail)
  generalize ((w.alloc (.cells #[.func (.func F) #[] caps, .int .i64 0, x2, x3, x4, x5, x6, x7, x8, x9, x10, x11, x12, x13] 300)).alloc (.cells #[.int .u8 (f0.st : Int), .int .i64 f0.ix, .int .i64 f0.bx, .int .i64 f0.yb, .int .u8 (f0.e.k : Int), .int .i64 f0.e.cl, .int .i64 f0.e.sq, .int .u8 (f0.e.ok : Int), .string f0.e.key, .string f0.e.old, .string f0.e.val, .int .u8 (f1.st : Int), .int .i64 f1.ix, .int .i64 f1.bx, .int .i64 f1.yb, .int .u8 (f1.e.k : Int), .int .i64 f1.e.cl, .int .i64 f1.e.sq, .int .u8 (f1.e.ok : Int), .string f1.e.key, .string f1.e.old, .string f1.e.val] 150)) = W at *
  generalize w.heap.size + 1 = g2 at *
  generalize w.heap.size = g at *
  obtain ⟨c0, c1, d0, d1, d2, d3, d4, d5, d6, d7, d8, d9, d10, d11, d12, d13, d14, d15, d16, d17, d18, d19, d20, d21⟩ := use_keep HR.out HT.out (Ext.refl W)
  go_region_held3 (fun w' => w'.cell? ⟨g, 1, none⟩ = some (.int .i64 0))
    (first | assumption | (refine (use_keep HR.out HT.out ?_).2.1; repeat (first | exact Ext.refl _ | refine Ext.drew ?_)))
    (first
      | (go_at_call 145; ((with_reducible refine (HO.out _ (by simp) _).mono ?_); rintro e w1 ⟨rfl, rfl⟩)))
  all_goals
    clear c0 c1 d0 d1 d2 d3 d4 d5 d6 d7 d8 d9 d10 d11 d12 d13 d14 d15 d16 d17 d18 d19 d20 d21
    go_wp2_with fail
    refine wp_loop_rounds 3 ?_
    rw [rounds_succ]
    go_upto_region 5 with (fail)
    have HX := Lib.hid (Ext.refl W).drew.drew
    refine wp_region_held_drew (S := fun w' => w'.cell? ⟨g, 0, none⟩ = some (.func (.func F) #[] caps) ∧ w'.cell? ⟨g, 1, none⟩ = some (.int .i64 0) ∧ w'.cell? ⟨g2, 0, none⟩ = some (.int .u8 (f0.st : Int)) ∧ w'.cell? ⟨g2, 1, none⟩ = some (.int .i64 f0.ix) ∧ w'.cell? ⟨g2, 2, none⟩ = some (.int .i64 f0.bx) ∧ w'.cell? ⟨g2, 3, none⟩ = some (.int .i64 f0.yb) ∧ w'.cell? ⟨g2, 4, none⟩ = some (.int .u8 (f0.e.k : Int)) ∧ w'.cell? ⟨g2, 5, none⟩ = some (.int .i64 f0.e.cl) ∧ w'.cell? ⟨g2, 6, none⟩ = some (.int .i64 f0.e.sq) ∧ w'.cell? ⟨g2, 7, none⟩ = some (.int .u8 (f0.e.ok : Int)) ∧ w'.cell? ⟨g2, 8, none⟩ = some (.string f0.e.key) ∧ w'.cell? ⟨g2, 9, none⟩ = some (.string f0.e.old) ∧ w'.cell? ⟨g2, 10, none⟩ = some (.string f0.e.val) ∧ w'.cell? ⟨g2, 11, none⟩ = some (.int .u8 (f1.st : Int)) ∧ w'.cell? ⟨g2, 12, none⟩ = some (.int .i64 f1.ix) ∧ w'.cell? ⟨g2, 13, none⟩ = some (.int .i64 f1.bx) ∧ w'.cell? ⟨g2, 14, none⟩ = some (.int .i64 f1.yb) ∧ w'.cell? ⟨g2, 15, none⟩ = some (.int .u8 (f1.e.k : Int)) ∧ w'.cell? ⟨g2, 16, none⟩ = some (.int .i64 f1.e.cl) ∧ w'.cell? ⟨g2, 17, none⟩ = some (.int .i64 f1.e.sq) ∧ w'.cell? ⟨g2, 18, none⟩ = some (.int .u8 (f1.e.ok : Int)) ∧ w'.cell? ⟨g2, 19, none⟩ = some (.string f1.e.key) ∧ w'.cell? ⟨g2, 20, none⟩ = some (.string f1.e.old) ∧ w'.cell? ⟨g2, 21, none⟩ = some (.string f1.e.val)) (by kernel_rfl) (use_keep HR.out HT.out HX.out) (fun hHeld => ?_)
    refine tj (i := 0) (oi := ⟨some 17, .fieldAddr 300 (.tmp 2) 0, 0, "slot.go:172", #[], none⟩) rfl (by kernel_rfl) ?_
    try simp only [Act.put, sT, s0, s1]
    refine tj (i := 1) (oi := ⟨some 18, .load 298 (.tmp 17), 298, "slot.go:172", #[⟨0, .data⟩], none⟩) rfl (by kernel_rfl) ?_
    try simp only [Act.put, sT, s0, s1]
    refine tj (i := 2) (oi := ⟨some 19, .move (.tmp 7), 3, "slot.go:172", #[], none⟩) rfl (by kernel_rfl) ?_
    try simp only [Act.put, sT, s0, s1]
    refine tj (i := 3) (oi := ⟨some 20, .indexAddr 150 (.tmp 3) (.tmp 19), 0, "slot.go:172", #[⟨2, .data⟩], none⟩) rfl (by kernel_rfl) ?_
    try simp only [Act.put, sT, s0, s1]
    refine tj (i := 4) (oi := ⟨some 21, .load 149 (.tmp 20), 149, "slot.go:172", #[⟨3, .data⟩], none⟩) rfl (by kernel_rfl) ?_
    try simp only [Act.put, sT, s0, s1]
    refine wpAnyH_ready (rs := [5]) (by kernel_rfl) (by simp) ?_
    refine AllReadyH.cons (o := ⟨some 22, .call { callee := .value (.tmp 18), args := #[.tmp 21], argTypes := #[149] }, 4, "slot.go:172", #[⟨1, .data⟩, ⟨4, .data⟩], none⟩) rfl (fun K hK => ?_) AllReadyH.nil
    go_simp
    refine (H0.out _ HX.out).mono ?_
    rintro e w1 ⟨rfl, hx⟩
    have HX := Lib.hid (HX.out.trans hx)
    clear hx hHeld
    go_wp2_with fail
    refine hK.out _ _ (use_keep HR.out HT.out HX.out) (fun hHeld => ?_)
    clear hK K
    try simp only [Act.put, sT, s0, s1]
    refine tj (i := 6) (oi := ⟨some 23, .move (.tmp 22), 4, "slot.go:172", #[⟨5, .data⟩, ⟨5, .chain⟩], none⟩) rfl (by kernel_rfl) ?_
    try simp only [Act.put, sT, s0, s1]
    refine tk (i := 7) (oi := ⟨some 24, .move (.tmp 5), 3, "slot.go:172", #[⟨6, .guard⟩], some (6, true)⟩) (v := undef) rfl (by kernel_rfl) (Or.inr ⟨by rfl, rfl⟩) ?_
    try simp only [Act.put, sT, s0, s1]
    refine tk (i := 8) (oi := ⟨some 25, .binOp .eql 3 (.tmp 24) (.const (.int .i64 (-1))) 3, 4, "slot.go:172", #[⟨7, .data⟩, ⟨6, .guard⟩], some (6, true)⟩) (v := undef) rfl (by kernel_rfl) (Or.inr ⟨by rfl, rfl⟩) ?_
    try simp only [Act.put, sT, s0, s1]
    refine tk (i := 9) (oi := ⟨some 26, .move (.tmp 25), 4, "slot.go:172", #[⟨8, .data⟩, ⟨6, .chain⟩, ⟨6, .guard⟩], some (6, true)⟩) (v := undef) rfl (by kernel_rfl) (Or.inr ⟨by rfl, rfl⟩) ?_
    try simp only [Act.put, sT, s0, s1]
    refine tk (i := 10) (oi := ⟨some 27, .move (.tmp 7), 3, "slot.go:172", #[⟨9, .guard⟩], some (9, false)⟩) (v := undef) rfl (by kernel_rfl) (Or.inr ⟨by rfl, rfl⟩) ?_
    try simp only [Act.put, sT, s0, s1]
    refine tk (i := 11) (oi := ⟨some 28, .indexAddr 150 (.tmp 3) (.tmp 27), 0, "slot.go:172", #[⟨10, .data⟩, ⟨9, .guard⟩], some (9, false)⟩) (v := undef) rfl (by kernel_rfl) (Or.inr ⟨by rfl, rfl⟩) ?_
    try simp only [Act.put, sT, s0, s1]
    refine tk (i := 12) (oi := ⟨some 29, .fieldAddr 149 (.tmp 28) 2, 0, "slot.go:172", #[⟨11, .data⟩, ⟨9, .guard⟩], some (9, false)⟩) (v := undef) rfl (by kernel_rfl) (Or.inr ⟨by rfl, rfl⟩) ?_
    try simp only [Act.put, sT, s0, s1]
    refine tk (i := 13) (oi := ⟨some 30, .load 38 (.tmp 29), 38, "slot.go:172", #[⟨12, .data⟩, ⟨9, .guard⟩], some (9, false)⟩) (v := undef) rfl (by kernel_rfl) (Or.inr ⟨by rfl, rfl⟩) ?_
    try simp only [Act.put, sT, s0, s1]
    refine tk (i := 14) (oi := ⟨some 31, .move (.tmp 5), 3, "slot.go:172", #[⟨9, .guard⟩], some (9, false)⟩) (v := undef) rfl (by kernel_rfl) (Or.inr ⟨by rfl, rfl⟩) ?_
    try simp only [Act.put, sT, s0, s1]
    refine tk (i := 15) (oi := ⟨some 32, .indexAddr 150 (.tmp 3) (.tmp 31), 0, "slot.go:172", #[⟨14, .data⟩, ⟨9, .guard⟩], some (9, false)⟩) (v := undef) rfl (by kernel_rfl) (Or.inr ⟨by rfl, rfl⟩) ?_
    try simp only [Act.put, sT, s0, s1]
    refine tk (i := 16) (oi := ⟨some 33, .fieldAddr 149 (.tmp 32) 2, 0, "slot.go:172", #[⟨15, .data⟩, ⟨9, .guard⟩], some (9, false)⟩) (v := undef) rfl (by kernel_rfl) (Or.inr ⟨by rfl, rfl⟩) ?_
    try simp only [Act.put, sT, s0, s1]
    refine tk (i := 17) (oi := ⟨some 34, .load 38 (.tmp 33), 38, "slot.go:172", #[⟨16, .data⟩, ⟨9, .guard⟩], some (9, false)⟩) (v := undef) rfl (by kernel_rfl) (Or.inr ⟨by rfl, rfl⟩) ?_
    try simp only [Act.put, sT, s0, s1]
    refine tk (i := 18) (oi := ⟨some 35, .call { callee := .value (.func 266), args := #[.tmp 30, .tmp 34], argTypes := #[38, 38] }, 3, "slot.go:172", #[⟨13, .data⟩, ⟨17, .data⟩, ⟨9, .chain⟩, ⟨9, .guard⟩], some (9, false)⟩) (v := undef) rfl (by kernel_rfl) (Or.inr ⟨by rfl, rfl⟩) ?_
    try simp only [Act.put, sT, s0, s1]
    refine tk (i := 19) (oi := ⟨some 36, .binOp .gtr 3 (.tmp 35) (.const (.int .i64 0)) 3, 4, "slot.go:172", #[⟨18, .data⟩, ⟨9, .guard⟩], some (9, false)⟩) (v := undef) rfl (by kernel_rfl) (Or.inr ⟨by rfl, rfl⟩) ?_
    try simp only [Act.put, sT, s0, s1]
    refine tk (i := 20) (oi := ⟨some 37, .pick (.tmp 26) (.const (.bool true)) (.tmp 36), 4, "slot.go:172", #[⟨9, .data⟩, ⟨19, .data⟩, ⟨6, .guard⟩], some (6, true)⟩) (v := undef) rfl (by kernel_rfl) (Or.inr ⟨by rfl, rfl⟩) ?_
    try simp only [Act.put, sT, s0, s1]
    refine tj (i := 21) (oi := ⟨some 38, .pick (.tmp 23) (.tmp 37) (.const (.bool false)), 4, "slot.go:172", #[⟨6, .data⟩, ⟨20, .data⟩], none⟩) rfl (by kernel_rfl) ?_
    try simp only [Act.put, sT, s0, s1]
    refine wpAnyH_done (by kernel_rfl) ?_ _
    clear hHeld
    go_wp2_with fail
    rw [rounds_succ]
    go_upto_region 5 with (fail)
    have HX := Lib.hid HX.out.drew
    refine wp_region_held_drew (S := fun w' => w'.cell? ⟨g, 0, none⟩ = some (.func (.func F) #[] caps) ∧ w'.cell? ⟨g, 1, none⟩ = some (.int .i64 0) ∧ w'.cell? ⟨g2, 0, none⟩ = some (.int .u8 (f0.st : Int)) ∧ w'.cell? ⟨g2, 1, none⟩ = some (.int .i64 f0.ix) ∧ w'.cell? ⟨g2, 2, none⟩ = some (.int .i64 f0.bx) ∧ w'.cell? ⟨g2, 3, none⟩ = some (.int .i64 f0.yb) ∧ w'.cell? ⟨g2, 4, none⟩ = some (.int .u8 (f0.e.k : Int)) ∧ w'.cell? ⟨g2, 5, none⟩ = some (.int .i64 f0.e.cl) ∧ w'.cell? ⟨g2, 6, none⟩ = some (.int .i64 f0.e.sq) ∧ w'.cell? ⟨g2, 7, none⟩ = some (.int .u8 (f0.e.ok : Int)) ∧ w'.cell? ⟨g2, 8, none⟩ = some (.string f0.e.key) ∧ w'.cell? ⟨g2, 9, none⟩ = some (.string f0.e.old) ∧ w'.cell? ⟨g2, 10, none⟩ = some (.string f0.e.val) ∧ w'.cell? ⟨g2, 11, none⟩ = some (.int .u8 (f1.st : Int)) ∧ w'.cell? ⟨g2, 12, none⟩ = some (.int .i64 f1.ix) ∧ w'.cell? ⟨g2, 13, none⟩ = some (.int .i64 f1.bx) ∧ w'.cell? ⟨g2, 14, none⟩ = some (.int .i64 f1.yb) ∧ w'.cell? ⟨g2, 15, none⟩ = some (.int .u8 (f1.e.k : Int)) ∧ w'.cell? ⟨g2, 16, none⟩ = some (.int .i64 f1.e.cl) ∧ w'.cell? ⟨g2, 17, none⟩ = some (.int .i64 f1.e.sq) ∧ w'.cell? ⟨g2, 18, none⟩ = some (.int .u8 (f1.e.ok : Int)) ∧ w'.cell? ⟨g2, 19, none⟩ = some (.string f1.e.key) ∧ w'.cell? ⟨g2, 20, none⟩ = some (.string f1.e.old) ∧ w'.cell? ⟨g2, 21, none⟩ = some (.string f1.e.val)) (by kernel_rfl) (use_keep HR.out HT.out HX.out) (fun hHeld => ?_)
    refine tj (i := 0) (oi := ⟨some 17, .fieldAddr 300 (.tmp 2) 0, 0, "slot.go:172", #[], none⟩) rfl (by kernel_rfl) ?_
    try simp only [Act.put, sT, s0, s1]
    refine tj (i := 1) (oi := ⟨some 18, .load 298 (.tmp 17), 298, "slot.go:172", #[⟨0, .data⟩], none⟩) rfl (by kernel_rfl) ?_
    try simp only [Act.put, sT, s0, s1]
    refine tj (i := 2) (oi := ⟨some 19, .move (.tmp 7), 3, "slot.go:172", #[], none⟩) rfl (by kernel_rfl) ?_
    try simp only [Act.put, sT, s0, s1]
    refine tj (i := 3) (oi := ⟨some 20, .indexAddr 150 (.tmp 3) (.tmp 19), 0, "slot.go:172", #[⟨2, .data⟩], none⟩) rfl (by kernel_rfl) ?_
    try simp only [Act.put, sT, s0, s1]
    refine tj (i := 4) (oi := ⟨some 21, .load 149 (.tmp 20), 149, "slot.go:172", #[⟨3, .data⟩], none⟩) rfl (by kernel_rfl) ?_
    try simp only [Act.put, sT, s0, s1]
    refine wpAnyH_ready (rs := [5]) (by kernel_rfl) (by simp) ?_
    refine AllReadyH.cons (o := ⟨some 22, .call { callee := .value (.tmp 18), args := #[.tmp 21], argTypes := #[149] }, 4, "slot.go:172", #[⟨1, .data⟩, ⟨4, .data⟩], none⟩) rfl (fun K hK => ?_) AllReadyH.nil
    go_simp
    refine (H1.out _ HX.out).mono ?_
    rintro e w2 ⟨rfl, hx⟩
    have HX := Lib.hid (HX.out.trans hx)
    clear hx hHeld
    go_wp2_with fail
    refine hK.out _ _ (use_keep HR.out HT.out HX.out) (fun hHeld => ?_)
    clear hK K
    try simp only [Act.put, sT, s0, s1]
    refine tj (i := 6) (oi := ⟨some 23, .move (.tmp 22), 4, "slot.go:172", #[⟨5, .data⟩, ⟨5, .chain⟩], none⟩) rfl (by kernel_rfl) ?_
    try simp only [Act.put, sT, s0, s1]
    refine tk (i := 7) (oi := ⟨some 24, .move (.tmp 5), 3, "slot.go:172", #[⟨6, .guard⟩], some (6, true)⟩) (v := undef) rfl (by kernel_rfl) (Or.inr ⟨by rfl, rfl⟩) ?_
    try simp only [Act.put, sT, s0, s1]
    refine tk (i := 8) (oi := ⟨some 25, .binOp .eql 3 (.tmp 24) (.const (.int .i64 (-1))) 3, 4, "slot.go:172", #[⟨7, .data⟩, ⟨6, .guard⟩], some (6, true)⟩) (v := undef) rfl (by kernel_rfl) (Or.inr ⟨by rfl, rfl⟩) ?_
    try simp only [Act.put, sT, s0, s1]
    refine tk (i := 9) (oi := ⟨some 26, .move (.tmp 25), 4, "slot.go:172", #[⟨8, .data⟩, ⟨6, .chain⟩, ⟨6, .guard⟩], some (6, true)⟩) (v := undef) rfl (by kernel_rfl) (Or.inr ⟨by rfl, rfl⟩) ?_
    try simp only [Act.put, sT, s0, s1]
    refine tk (i := 10) (oi := ⟨some 27, .move (.tmp 7), 3, "slot.go:172", #[⟨9, .guard⟩], some (9, false)⟩) (v := undef) rfl (by kernel_rfl) (Or.inr ⟨by rfl, rfl⟩) ?_
    try simp only [Act.put, sT, s0, s1]
    refine tk (i := 11) (oi := ⟨some 28, .indexAddr 150 (.tmp 3) (.tmp 27), 0, "slot.go:172", #[⟨10, .data⟩, ⟨9, .guard⟩], some (9, false)⟩) (v := undef) rfl (by kernel_rfl) (Or.inr ⟨by rfl, rfl⟩) ?_
    try simp only [Act.put, sT, s0, s1]
    refine tk (i := 12) (oi := ⟨some 29, .fieldAddr 149 (.tmp 28) 2, 0, "slot.go:172", #[⟨11, .data⟩, ⟨9, .guard⟩], some (9, false)⟩) (v := undef) rfl (by kernel_rfl) (Or.inr ⟨by rfl, rfl⟩) ?_
    try simp only [Act.put, sT, s0, s1]
    refine tk (i := 13) (oi := ⟨some 30, .load 38 (.tmp 29), 38, "slot.go:172", #[⟨12, .data⟩, ⟨9, .guard⟩], some (9, false)⟩) (v := undef) rfl (by kernel_rfl) (Or.inr ⟨by rfl, rfl⟩) ?_
    try simp only [Act.put, sT, s0, s1]
    refine tk (i := 14) (oi := ⟨some 31, .move (.tmp 5), 3, "slot.go:172", #[⟨9, .guard⟩], some (9, false)⟩) (v := undef) rfl (by kernel_rfl) (Or.inr ⟨by rfl, rfl⟩) ?_
    try simp only [Act.put, sT, s0, s1]
    refine tk (i := 15) (oi := ⟨some 32, .indexAddr 150 (.tmp 3) (.tmp 31), 0, "slot.go:172", #[⟨14, .data⟩, ⟨9, .guard⟩], some (9, false)⟩) (v := undef) rfl (by kernel_rfl) (Or.inr ⟨by rfl, rfl⟩) ?_
    try simp only [Act.put, sT, s0, s1]
    refine tk (i := 16) (oi := ⟨some 33, .fieldAddr 149 (.tmp 32) 2, 0, "slot.go:172", #[⟨15, .data⟩, ⟨9, .guard⟩], some (9, false)⟩) (v := undef) rfl (by kernel_rfl) (Or.inr ⟨by rfl, rfl⟩) ?_
    try simp only [Act.put, sT, s0, s1]
    refine tk (i := 17) (oi := ⟨some 34, .load 38 (.tmp 33), 38, "slot.go:172", #[⟨16, .data⟩, ⟨9, .guard⟩], some (9, false)⟩) (v := undef) rfl (by kernel_rfl) (Or.inr ⟨by rfl, rfl⟩) ?_
    try simp only [Act.put, sT, s0, s1]
    refine tk (i := 18) (oi := ⟨some 35, .call { callee := .value (.func 266), args := #[.tmp 30, .tmp 34], argTypes := #[38, 38] }, 3, "slot.go:172", #[⟨13, .data⟩, ⟨17, .data⟩, ⟨9, .chain⟩, ⟨9, .guard⟩], some (9, false)⟩) (v := undef) rfl (by kernel_rfl) (Or.inr ⟨by rfl, rfl⟩) ?_
    try simp only [Act.put, sT, s0, s1]
    refine tk (i := 19) (oi := ⟨some 36, .binOp .gtr 3 (.tmp 35) (.const (.int .i64 0)) 3, 4, "slot.go:172", #[⟨18, .data⟩, ⟨9, .guard⟩], some (9, false)⟩) (v := undef) rfl (by kernel_rfl) (Or.inr ⟨by rfl, rfl⟩) ?_
    try simp only [Act.put, sT, s0, s1]
    refine tk (i := 20) (oi := ⟨some 37, .pick (.tmp 26) (.const (.bool true)) (.tmp 36), 4, "slot.go:172", #[⟨9, .data⟩, ⟨19, .data⟩, ⟨6, .guard⟩], some (6, true)⟩) (v := undef) rfl (by kernel_rfl) (Or.inr ⟨by rfl, rfl⟩) ?_
    try simp only [Act.put, sT, s0, s1]
    refine tj (i := 21) (oi := ⟨some 38, .pick (.tmp 23) (.tmp 37) (.const (.bool false)), 4, "slot.go:172", #[⟨6, .data⟩, ⟨20, .data⟩], none⟩) rfl (by kernel_rfl) ?_
    try simp only [Act.put, sT, s0, s1]
    refine wpAnyH_done (by kernel_rfl) ?_ _
    clear hHeld
    go_wp2_with fail
    rw [rounds_succ]
    go_wp2_with fail
    go_ret
    exact ⟨rfl, HE.out.trans HX.out⟩
set_option maxHeartbeats 1600000 in
theorem use0_tf (F : Nat) (caps : Array Value) (x2 x3 x4 x5 x6 x7 x8 x9 x10 x11 x12 x13 : Value) (f0 f1 : CopL) (w : World) (hgo : Enters Tryz.prog F) (h0 : Asks w F caps f0 true) (h1 : Asks w F caps f1 false) :
    Calls Tryz.prog 221 #[.agg #[.func (.func F) #[] caps, .int .i64 0, x2, x3, x4, x5, x6, x7, x8, x9, x10, x11, x12, x13], .agg #[.int .u8 (f0.st : Int), .int .i64 f0.ix, .int .i64 f0.bx, .int .i64 f0.yb, .int .u8 (f0.e.k : Int), .int .i64 f0.e.cl, .int .i64 f0.e.sq, .int .u8 (f0.e.ok : Int), .string f0.e.key, .string f0.e.old, .string f0.e.val, .int .u8 (f1.st : Int), .int .i64 f1.ix, .int .i64 f1.bx, .int .i64 f1.yb, .int .u8 (f1.e.k : Int), .int .i64 f1.e.cl, .int .i64 f1.e.sq, .int .u8 (f1.e.ok : Int), .string f1.e.key, .string f1.e.old, .string f1.e.val]] w fun e w' => e = .returned (.int .i64 (0)) ∧ Ext w w' := by
  have hE := ((Ext.refl w).alloc (.cells #[.func (.func F) #[] caps, .int .i64 0, x2, x3, x4, x5, x6, x7, x8, x9, x10, x11, x12, x13] 300)).alloc (.cells #[.int .u8 (f0.st : Int), .int .i64 f0.ix, .int .i64 f0.bx, .int .i64 f0.yb, .int .u8 (f0.e.k : Int), .int .i64 f0.e.cl, .int .i64 f0.e.sq, .int .u8 (f0.e.ok : Int), .string f0.e.key, .string f0.e.old, .string f0.e.val, .int .u8 (f1.st : Int), .int .i64 f1.ix, .int .i64 f1.bx, .int .i64 f1.yb, .int .u8 (f1.e.k : Int), .int .i64 f1.e.cl, .int .i64 f1.e.sq, .int .u8 (f1.e.ok : Int), .string f1.e.key, .string f1.e.old, .string f1.e.val] 150)
  have hR := keep_row ((Ext.refl _).alloc (.cells #[.int .u8 (f0.st : Int), .int .i64 f0.ix, .int .i64 f0.bx, .int .i64 f0.yb, .int .u8 (f0.e.k : Int), .int .i64 f0.e.cl, .int .i64 f0.e.sq, .int .u8 (f0.e.ok : Int), .string f0.e.key, .string f0.e.old, .string f0.e.val, .int .u8 (f1.st : Int), .int .i64 f1.ix, .int .i64 f1.bx, .int .i64 f1.yb, .int .u8 (f1.e.k : Int), .int .i64 f1.e.cl, .int .i64 f1.e.sq, .int .u8 (f1.e.ok : Int), .string f1.e.key, .string f1.e.old, .string f1.e.val] 150)) (heap_alloc_new w (.cells #[.func (.func F) #[] caps, .int .i64 0, x2, x3, x4, x5, x6, x7, x8, x9, x10, x11, x12, x13] 300))
  have hT := TwoL.new (w.alloc (.cells #[.func (.func F) #[] caps, .int .i64 0, x2, x3, x4, x5, x6, x7, x8, x9, x10, x11, x12, x13] 300)) f0 f1
  rw [World.size_alloc] at hT
  have HE := Lib.hid hE
  have HR := Lib.hid hR
  have HT := Lib.hid hT
  have H0 := Lib.hid (h0.ext hE)
  have H1 := Lib.hid (h1.ext hE)
  have HC := Lib.hid bal_of
  have HO := Lib.hid otherL_of
  have hi0 := fun w => (idx_two 0 1 w).1
  have hi1 := fun w => (idx_two 0 1 w).2
  clear hE hR hT h0 h1
  unfold Asks at H0 H1
  unfold Enters at hgo
  go_enter Tryz.func221, Tryz.ntmps221
  go_upto_region 2 with (fail)
  generalize ((w.alloc (.cells #[.func (.func F) #[] caps, .int .i64 0, x2, x3, x4, x5, x6, x7, x8, x9, x10, x11, x12, x13] 300)).alloc (.cells #[.int .u8 (f0.st : Int), .int .i64 f0.ix, .int .i64 f0.bx, .int .i64 f0.yb, .int .u8 (f0.e.k : Int), .int .i64 f0.e.cl, .int .i64 f0.e.sq, .int .u8 (f0.e.ok : Int), .string f0.e.key, .string f0.e.old, .string f0.e.val, .int .u8 (f1.st : Int), .int .i64 f1.ix, .int .i64 f1.bx, .int .i64 f1.yb, .int .u8 (f1.e.k : Int), .int .i64 f1.e.cl, .int .i64 f1.e.sq, .int .u8 (f1.e.ok : Int), .string f1.e.key, .string f1.e.old, .string f1.e.val] 150)) = W at *
  generalize w.heap.size + 1 = g2 at *
  generalize w.heap.size = g at *
  obtain ⟨c0, c1, d0, d1, d2, d3, d4, d5, d6, d7, d8, d9, d10, d11, d12, d13, d14, d15, d16, d17, d18, d19, d20, d21⟩ := use_keep HR.out HT.out (Ext.refl W)
  go_region_held3 (fun w' => w'.cell? ⟨g, 1, none⟩ = some (.int .i64 0))
    (first | assumption | (refine (use_keep HR.out HT.out ?_).2.1; repeat (first | exact Ext.refl _ | refine Ext.drew ?_)))
    (first
      | (go_at_call 145; ((with_reducible refine (HO.out _ (by simp) _).mono ?_); rintro e w1 ⟨rfl, rfl⟩)))
  all_goals
    clear c0 c1 d0 d1 d2 d3 d4 d5 d6 d7 d8 d9 d10 d11 d12 d13 d14 d15 d16 d17 d18 d19 d20 d21
    go_wp2_with fail
    refine wp_loop_rounds 3 ?_
    rw [rounds_succ]
    go_upto_region 5 with (fail)
    have HX := Lib.hid (Ext.refl W).drew.drew
    refine wp_region_held_drew (S := fun w' => w'.cell? ⟨g, 0, none⟩ = some (.func (.func F) #[] caps) ∧ w'.cell? ⟨g, 1, none⟩ = some (.int .i64 0) ∧ w'.cell? ⟨g2, 0, none⟩ = some (.int .u8 (f0.st : Int)) ∧ w'.cell? ⟨g2, 1, none⟩ = some (.int .i64 f0.ix) ∧ w'.cell? ⟨g2, 2, none⟩ = some (.int .i64 f0.bx) ∧ w'.cell? ⟨g2, 3, none⟩ = some (.int .i64 f0.yb) ∧ w'.cell? ⟨g2, 4, none⟩ = some (.int .u8 (f0.e.k : Int)) ∧ w'.cell? ⟨g2, 5, none⟩ = some (.int .i64 f0.e.cl) ∧ w'.cell? ⟨g2, 6, none⟩ = some (.int .i64 f0.e.sq) ∧ w'.cell? ⟨g2, 7, none⟩ = some (.int .u8 (f0.e.ok : Int)) ∧ w'.cell? ⟨g2, 8, none⟩ = some (.string f0.e.key) ∧ w'.cell? ⟨g2, 9, none⟩ = some (.string f0.e.old) ∧ w'.cell? ⟨g2, 10, none⟩ = some (.string f0.e.val) ∧ w'.cell? ⟨g2, 11, none⟩ = some (.int .u8 (f1.st : Int)) ∧ w'.cell? ⟨g2, 12, none⟩ = some (.int .i64 f1.ix) ∧ w'.cell? ⟨g2, 13, none⟩ = some (.int .i64 f1.bx) ∧ w'.cell? ⟨g2, 14, none⟩ = some (.int .i64 f1.yb) ∧ w'.cell? ⟨g2, 15, none⟩ = some (.int .u8 (f1.e.k : Int)) ∧ w'.cell? ⟨g2, 16, none⟩ = some (.int .i64 f1.e.cl) ∧ w'.cell? ⟨g2, 17, none⟩ = some (.int .i64 f1.e.sq) ∧ w'.cell? ⟨g2, 18, none⟩ = some (.int .u8 (f1.e.ok : Int)) ∧ w'.cell? ⟨g2, 19, none⟩ = some (.string f1.e.key) ∧ w'.cell? ⟨g2, 20, none⟩ = some (.string f1.e.old) ∧ w'.cell? ⟨g2, 21, none⟩ = some (.string f1.e.val)) (by kernel_rfl) (use_keep HR.out HT.out HX.out) (fun hHeld => ?_)
    refine tj (i := 0) (oi := ⟨some 17, .fieldAddr 300 (.tmp 2) 0, 0, "slot.go:172", #[], none⟩) rfl (by kernel_rfl) ?_
    try simp only [Act.put, sT, s0, s1]
    refine tj (i := 1) (oi := ⟨some 18, .load 298 (.tmp 17), 298, "slot.go:172", #[⟨0, .data⟩], none⟩) rfl (by kernel_rfl) ?_
    try simp only [Act.put, sT, s0, s1]
    refine tj (i := 2) (oi := ⟨some 19, .move (.tmp 7), 3, "slot.go:172", #[], none⟩) rfl (by kernel_rfl) ?_
    try simp only [Act.put, sT, s0, s1]
    refine tj (i := 3) (oi := ⟨some 20, .indexAddr 150 (.tmp 3) (.tmp 19), 0, "slot.go:172", #[⟨2, .data⟩], none⟩) rfl (by kernel_rfl) ?_
    try simp only [Act.put, sT, s0, s1]
    refine tj (i := 4) (oi := ⟨some 21, .load 149 (.tmp 20), 149, "slot.go:172", #[⟨3, .data⟩], none⟩) rfl (by kernel_rfl) ?_
    try simp only [Act.put, sT, s0, s1]
    refine wpAnyH_ready (rs := [5]) (by kernel_rfl) (by simp) ?_
    refine AllReadyH.cons (o := ⟨some 22, .call { callee := .value (.tmp 18), args := #[.tmp 21], argTypes := #[149] }, 4, "slot.go:172", #[⟨1, .data⟩, ⟨4, .data⟩], none⟩) rfl (fun K hK => ?_) AllReadyH.nil
    go_simp
    refine (H0.out _ HX.out).mono ?_
    rintro e w1 ⟨rfl, hx⟩
    have HX := Lib.hid (HX.out.trans hx)
    clear hx hHeld
    go_wp2_with fail
    refine hK.out _ _ (use_keep HR.out HT.out HX.out) (fun hHeld => ?_)
    clear hK K
    try simp only [Act.put, sT, s0, s1]
    refine tj (i := 6) (oi := ⟨some 23, .move (.tmp 22), 4, "slot.go:172", #[⟨5, .data⟩, ⟨5, .chain⟩], none⟩) rfl (by kernel_rfl) ?_
    try simp only [Act.put, sT, s0, s1]
    refine tj (i := 7) (oi := ⟨some 24, .move (.tmp 5), 3, "slot.go:172", #[⟨6, .guard⟩], some (6, true)⟩) rfl (by kernel_rfl) ?_
    try simp only [Act.put, sT, s0, s1]
    refine tj (i := 8) (oi := ⟨some 25, .binOp .eql 3 (.tmp 24) (.const (.int .i64 (-1))) 3, 4, "slot.go:172", #[⟨7, .data⟩, ⟨6, .guard⟩], some (6, true)⟩) rfl (by kernel_rfl) ?_
    try simp only [Act.put, sT, s0, s1]
    refine tj (i := 9) (oi := ⟨some 26, .move (.tmp 25), 4, "slot.go:172", #[⟨8, .data⟩, ⟨6, .chain⟩, ⟨6, .guard⟩], some (6, true)⟩) rfl (by kernel_rfl) ?_
    try simp only [Act.put, sT, s0, s1]
    refine tk (i := 10) (oi := ⟨some 27, .move (.tmp 7), 3, "slot.go:172", #[⟨9, .guard⟩], some (9, false)⟩) (v := undef) rfl (by kernel_rfl) (Or.inr ⟨by rfl, rfl⟩) ?_
    try simp only [Act.put, sT, s0, s1]
    refine tk (i := 11) (oi := ⟨some 28, .indexAddr 150 (.tmp 3) (.tmp 27), 0, "slot.go:172", #[⟨10, .data⟩, ⟨9, .guard⟩], some (9, false)⟩) (v := undef) rfl (by kernel_rfl) (Or.inr ⟨by rfl, rfl⟩) ?_
    try simp only [Act.put, sT, s0, s1]
    refine tk (i := 12) (oi := ⟨some 29, .fieldAddr 149 (.tmp 28) 2, 0, "slot.go:172", #[⟨11, .data⟩, ⟨9, .guard⟩], some (9, false)⟩) (v := undef) rfl (by kernel_rfl) (Or.inr ⟨by rfl, rfl⟩) ?_
    try simp only [Act.put, sT, s0, s1]
    refine tk (i := 13) (oi := ⟨some 30, .load 38 (.tmp 29), 38, "slot.go:172", #[⟨12, .data⟩, ⟨9, .guard⟩], some (9, false)⟩) (v := undef) rfl (by kernel_rfl) (Or.inr ⟨by rfl, rfl⟩) ?_
    try simp only [Act.put, sT, s0, s1]
    refine tk (i := 14) (oi := ⟨some 31, .move (.tmp 5), 3, "slot.go:172", #[⟨9, .guard⟩], some (9, false)⟩) (v := undef) rfl (by kernel_rfl) (Or.inr ⟨by rfl, rfl⟩) ?_
    try simp only [Act.put, sT, s0, s1]
    refine tk (i := 15) (oi := ⟨some 32, .indexAddr 150 (.tmp 3) (.tmp 31), 0, "slot.go:172", #[⟨14, .data⟩, ⟨9, .guard⟩], some (9, false)⟩) (v := undef) rfl (by kernel_rfl) (Or.inr ⟨by rfl, rfl⟩) ?_
    try simp only [Act.put, sT, s0, s1]
    refine tk (i := 16) (oi := ⟨some 33, .fieldAddr 149 (.tmp 32) 2, 0, "slot.go:172", #[⟨15, .data⟩, ⟨9, .guard⟩], some (9, false)⟩) (v := undef) rfl (by kernel_rfl) (Or.inr ⟨by rfl, rfl⟩) ?_
    try simp only [Act.put, sT, s0, s1]
    refine tk (i := 17) (oi := ⟨some 34, .load 38 (.tmp 33), 38, "slot.go:172", #[⟨16, .data⟩, ⟨9, .guard⟩], some (9, false)⟩) (v := undef) rfl (by kernel_rfl) (Or.inr ⟨by rfl, rfl⟩) ?_
    try simp only [Act.put, sT, s0, s1]
    refine tk (i := 18) (oi := ⟨some 35, .call { callee := .value (.func 266), args := #[.tmp 30, .tmp 34], argTypes := #[38, 38] }, 3, "slot.go:172", #[⟨13, .data⟩, ⟨17, .data⟩, ⟨9, .chain⟩, ⟨9, .guard⟩], some (9, false)⟩) (v := undef) rfl (by kernel_rfl) (Or.inr ⟨by rfl, rfl⟩) ?_
    try simp only [Act.put, sT, s0, s1]
    refine tk (i := 19) (oi := ⟨some 36, .binOp .gtr 3 (.tmp 35) (.const (.int .i64 0)) 3, 4, "slot.go:172", #[⟨18, .data⟩, ⟨9, .guard⟩], some (9, false)⟩) (v := undef) rfl (by kernel_rfl) (Or.inr ⟨by rfl, rfl⟩) ?_
    try simp only [Act.put, sT, s0, s1]
    refine tj (i := 20) (oi := ⟨some 37, .pick (.tmp 26) (.const (.bool true)) (.tmp 36), 4, "slot.go:172", #[⟨9, .data⟩, ⟨19, .data⟩, ⟨6, .guard⟩], some (6, true)⟩) rfl (by kernel_rfl) ?_
    try simp only [Act.put, sT, s0, s1]
    refine tj (i := 21) (oi := ⟨some 38, .pick (.tmp 23) (.tmp 37) (.const (.bool false)), 4, "slot.go:172", #[⟨6, .data⟩, ⟨20, .data⟩], none⟩) rfl (by kernel_rfl) ?_
    try simp only [Act.put, sT, s0, s1]
    refine wpAnyH_done (by kernel_rfl) ?_ _
    clear hHeld
    go_wp2_with fail
    rw [rounds_succ]
    go_upto_region 5 with (fail)
    have HX := Lib.hid HX.out.drew
    refine wp_region_held_drew (S := fun w' => w'.cell? ⟨g, 0, none⟩ = some (.func (.func F) #[] caps) ∧ w'.cell? ⟨g, 1, none⟩ = some (.int .i64 0) ∧ w'.cell? ⟨g2, 0, none⟩ = some (.int .u8 (f0.st : Int)) ∧ w'.cell? ⟨g2, 1, none⟩ = some (.int .i64 f0.ix) ∧ w'.cell? ⟨g2, 2, none⟩ = some (.int .i64 f0.bx) ∧ w'.cell? ⟨g2, 3, none⟩ = some (.int .i64 f0.yb) ∧ w'.cell? ⟨g2, 4, none⟩ = some (.int .u8 (f0.e.k : Int)) ∧ w'.cell? ⟨g2, 5, none⟩ = some (.int .i64 f0.e.cl) ∧ w'.cell? ⟨g2, 6, none⟩ = some (.int .i64 f0.e.sq) ∧ w'.cell? ⟨g2, 7, none⟩ = some (.int .u8 (f0.e.ok : Int)) ∧ w'.cell? ⟨g2, 8, none⟩ = some (.string f0.e.key) ∧ w'.cell? ⟨g2, 9, none⟩ = some (.string f0.e.old) ∧ w'.cell? ⟨g2, 10, none⟩ = some (.string f0.e.val) ∧ w'.cell? ⟨g2, 11, none⟩ = some (.int .u8 (f1.st : Int)) ∧ w'.cell? ⟨g2, 12, none⟩ = some (.int .i64 f1.ix) ∧ w'.cell? ⟨g2, 13, none⟩ = some (.int .i64 f1.bx) ∧ w'.cell? ⟨g2, 14, none⟩ = some (.int .i64 f1.yb) ∧ w'.cell? ⟨g2, 15, none⟩ = some (.int .u8 (f1.e.k : Int)) ∧ w'.cell? ⟨g2, 16, none⟩ = some (.int .i64 f1.e.cl) ∧ w'.cell? ⟨g2, 17, none⟩ = some (.int .i64 f1.e.sq) ∧ w'.cell? ⟨g2, 18, none⟩ = some (.int .u8 (f1.e.ok : Int)) ∧ w'.cell? ⟨g2, 19, none⟩ = some (.string f1.e.key) ∧ w'.cell? ⟨g2, 20, none⟩ = some (.string f1.e.old) ∧ w'.cell? ⟨g2, 21, none⟩ = some (.string f1.e.val)) (by kernel_rfl) (use_keep HR.out HT.out HX.out) (fun hHeld => ?_)
    refine tj (i := 0) (oi := ⟨some 17, .fieldAddr 300 (.tmp 2) 0, 0, "slot.go:172", #[], none⟩) rfl (by kernel_rfl) ?_
    try simp only [Act.put, sT, s0, s1]
    refine tj (i := 1) (oi := ⟨some 18, .load 298 (.tmp 17), 298, "slot.go:172", #[⟨0, .data⟩], none⟩) rfl (by kernel_rfl) ?_
    try simp only [Act.put, sT, s0, s1]
    refine tj (i := 2) (oi := ⟨some 19, .move (.tmp 7), 3, "slot.go:172", #[], none⟩) rfl (by kernel_rfl) ?_
    try simp only [Act.put, sT, s0, s1]
    refine tj (i := 3) (oi := ⟨some 20, .indexAddr 150 (.tmp 3) (.tmp 19), 0, "slot.go:172", #[⟨2, .data⟩], none⟩) rfl (by kernel_rfl) ?_
    try simp only [Act.put, sT, s0, s1]
    refine tj (i := 4) (oi := ⟨some 21, .load 149 (.tmp 20), 149, "slot.go:172", #[⟨3, .data⟩], none⟩) rfl (by kernel_rfl) ?_
    try simp only [Act.put, sT, s0, s1]
    refine wpAnyH_ready (rs := [5]) (by kernel_rfl) (by simp) ?_
    refine AllReadyH.cons (o := ⟨some 22, .call { callee := .value (.tmp 18), args := #[.tmp 21], argTypes := #[149] }, 4, "slot.go:172", #[⟨1, .data⟩, ⟨4, .data⟩], none⟩) rfl (fun K hK => ?_) AllReadyH.nil
    go_simp
    refine (H1.out _ HX.out).mono ?_
    rintro e w2 ⟨rfl, hx⟩
    have HX := Lib.hid (HX.out.trans hx)
    clear hx hHeld
    go_wp2_with fail
    refine hK.out _ _ (use_keep HR.out HT.out HX.out) (fun hHeld => ?_)
    clear hK K
    try simp only [Act.put, sT, s0, s1]
    refine tj (i := 6) (oi := ⟨some 23, .move (.tmp 22), 4, "slot.go:172", #[⟨5, .data⟩, ⟨5, .chain⟩], none⟩) rfl (by kernel_rfl) ?_
    try simp only [Act.put, sT, s0, s1]
    refine tk (i := 7) (oi := ⟨some 24, .move (.tmp 5), 3, "slot.go:172", #[⟨6, .guard⟩], some (6, true)⟩) (v := undef) rfl (by kernel_rfl) (Or.inr ⟨by rfl, rfl⟩) ?_
    try simp only [Act.put, sT, s0, s1]
    refine tk (i := 8) (oi := ⟨some 25, .binOp .eql 3 (.tmp 24) (.const (.int .i64 (-1))) 3, 4, "slot.go:172", #[⟨7, .data⟩, ⟨6, .guard⟩], some (6, true)⟩) (v := undef) rfl (by kernel_rfl) (Or.inr ⟨by rfl, rfl⟩) ?_
    try simp only [Act.put, sT, s0, s1]
    refine tk (i := 9) (oi := ⟨some 26, .move (.tmp 25), 4, "slot.go:172", #[⟨8, .data⟩, ⟨6, .chain⟩, ⟨6, .guard⟩], some (6, true)⟩) (v := undef) rfl (by kernel_rfl) (Or.inr ⟨by rfl, rfl⟩) ?_
    try simp only [Act.put, sT, s0, s1]
    refine tk (i := 10) (oi := ⟨some 27, .move (.tmp 7), 3, "slot.go:172", #[⟨9, .guard⟩], some (9, false)⟩) (v := undef) rfl (by kernel_rfl) (Or.inr ⟨by rfl, rfl⟩) ?_
    try simp only [Act.put, sT, s0, s1]
    refine tk (i := 11) (oi := ⟨some 28, .indexAddr 150 (.tmp 3) (.tmp 27), 0, "slot.go:172", #[⟨10, .data⟩, ⟨9, .guard⟩], some (9, false)⟩) (v := undef) rfl (by kernel_rfl) (Or.inr ⟨by rfl, rfl⟩) ?_
    try simp only [Act.put, sT, s0, s1]
    refine tk (i := 12) (oi := ⟨some 29, .fieldAddr 149 (.tmp 28) 2, 0, "slot.go:172", #[⟨11, .data⟩, ⟨9, .guard⟩], some (9, false)⟩) (v := undef) rfl (by kernel_rfl) (Or.inr ⟨by rfl, rfl⟩) ?_
    try simp only [Act.put, sT, s0, s1]
    refine tk (i := 13) (oi := ⟨some 30, .load 38 (.tmp 29), 38, "slot.go:172", #[⟨12, .data⟩, ⟨9, .guard⟩], some (9, false)⟩) (v := undef) rfl (by kernel_rfl) (Or.inr ⟨by rfl, rfl⟩) ?_
    try simp only [Act.put, sT, s0, s1]
    refine tk (i := 14) (oi := ⟨some 31, .move (.tmp 5), 3, "slot.go:172", #[⟨9, .guard⟩], some (9, false)⟩) (v := undef) rfl (by kernel_rfl) (Or.inr ⟨by rfl, rfl⟩) ?_
    try simp only [Act.put, sT, s0, s1]
    refine tk (i := 15) (oi := ⟨some 32, .indexAddr 150 (.tmp 3) (.tmp 31), 0, "slot.go:172", #[⟨14, .data⟩, ⟨9, .guard⟩], some (9, false)⟩) (v := undef) rfl (by kernel_rfl) (Or.inr ⟨by rfl, rfl⟩) ?_
    try simp only [Act.put, sT, s0, s1]
    refine tk (i := 16) (oi := ⟨some 33, .fieldAddr 149 (.tmp 32) 2, 0, "slot.go:172", #[⟨15, .data⟩, ⟨9, .guard⟩], some (9, false)⟩) (v := undef) rfl (by kernel_rfl) (Or.inr ⟨by rfl, rfl⟩) ?_
    try simp only [Act.put, sT, s0, s1]
    refine tk (i := 17) (oi := ⟨some 34, .load 38 (.tmp 33), 38, "slot.go:172", #[⟨16, .data⟩, ⟨9, .guard⟩], some (9, false)⟩) (v := undef) rfl (by kernel_rfl) (Or.inr ⟨by rfl, rfl⟩) ?_
    try simp only [Act.put, sT, s0, s1]
    refine tk (i := 18) (oi := ⟨some 35, .call { callee := .value (.func 266), args := #[.tmp 30, .tmp 34], argTypes := #[38, 38] }, 3, "slot.go:172", #[⟨13, .data⟩, ⟨17, .data⟩, ⟨9, .chain⟩, ⟨9, .guard⟩], some (9, false)⟩) (v := undef) rfl (by kernel_rfl) (Or.inr ⟨by rfl, rfl⟩) ?_
    try simp only [Act.put, sT, s0, s1]
    refine tk (i := 19) (oi := ⟨some 36, .binOp .gtr 3 (.tmp 35) (.const (.int .i64 0)) 3, 4, "slot.go:172", #[⟨18, .data⟩, ⟨9, .guard⟩], some (9, false)⟩) (v := undef) rfl (by kernel_rfl) (Or.inr ⟨by rfl, rfl⟩) ?_
    try simp only [Act.put, sT, s0, s1]
    refine tk (i := 20) (oi := ⟨some 37, .pick (.tmp 26) (.const (.bool true)) (.tmp 36), 4, "slot.go:172", #[⟨9, .data⟩, ⟨19, .data⟩, ⟨6, .guard⟩], some (6, true)⟩) (v := undef) rfl (by kernel_rfl) (Or.inr ⟨by rfl, rfl⟩) ?_
    try simp only [Act.put, sT, s0, s1]
    refine tj (i := 21) (oi := ⟨some 38, .pick (.tmp 23) (.tmp 37) (.const (.bool false)), 4, "slot.go:172", #[⟨6, .data⟩, ⟨20, .data⟩], none⟩) rfl (by kernel_rfl) ?_
    try simp only [Act.put, sT, s0, s1]
    refine wpAnyH_done (by kernel_rfl) ?_ _
    clear hHeld
    go_wp2_with fail
    rw [rounds_succ]
    go_wp2_with fail
    go_ret
    exact ⟨rfl, HE.out.trans HX.out⟩
set_option maxHeartbeats 1600000 in
theorem use0_ft (F : Nat) (caps : Array Value) (x2 x3 x4 x5 x6 x7 x8 x9 x10 x11 x12 x13 : Value) (f0 f1 : CopL) (w : World) (hgo : Enters Tryz.prog F) (h0 : Asks w F caps f0 false) (h1 : Asks w F caps f1 true) :
    Calls Tryz.prog 221 #[.agg #[.func (.func F) #[] caps, .int .i64 0, x2, x3, x4, x5, x6, x7, x8, x9, x10, x11, x12, x13], .agg #[.int .u8 (f0.st : Int), .int .i64 f0.ix, .int .i64 f0.bx, .int .i64 f0.yb, .int .u8 (f0.e.k : Int), .int .i64 f0.e.cl, .int .i64 f0.e.sq, .int .u8 (f0.e.ok : Int), .string f0.e.key, .string f0.e.old, .string f0.e.val, .int .u8 (f1.st : Int), .int .i64 f1.ix, .int .i64 f1.bx, .int .i64 f1.yb, .int .u8 (f1.e.k : Int), .int .i64 f1.e.cl, .int .i64 f1.e.sq, .int .u8 (f1.e.ok : Int), .string f1.e.key, .string f1.e.old, .string f1.e.val]] w fun e w' => e = .returned (.int .i64 (1)) ∧ Ext w w' := by
  have hE := ((Ext.refl w).alloc (.cells #[.func (.func F) #[] caps, .int .i64 0, x2, x3, x4, x5, x6, x7, x8, x9, x10, x11, x12, x13] 300)).alloc (.cells #[.int .u8 (f0.st : Int), .int .i64 f0.ix, .int .i64 f0.bx, .int .i64 f0.yb, .int .u8 (f0.e.k : Int), .int .i64 f0.e.cl, .int .i64 f0.e.sq, .int .u8 (f0.e.ok : Int), .string f0.e.key, .string f0.e.old, .string f0.e.val, .int .u8 (f1.st : Int), .int .i64 f1.ix, .int .i64 f1.bx, .int .i64 f1.yb, .int .u8 (f1.e.k : Int), .int .i64 f1.e.cl, .int .i64 f1.e.sq, .int .u8 (f1.e.ok : Int), .string f1.e.key, .string f1.e.old, .string f1.e.val] 150)
  have hR := keep_row ((Ext.refl _).alloc (.cells #[.int .u8 (f0.st : Int), .int .i64 f0.ix, .int .i64 f0.bx, .int .i64 f0.yb, .int .u8 (f0.e.k : Int), .int .i64 f0.e.cl, .int .i64 f0.e.sq, .int .u8 (f0.e.ok : Int), .string f0.e.key, .string f0.e.old, .string f0.e.val, .int .u8 (f1.st : Int), .int .i64 f1.ix, .int .i64 f1.bx, .int .i64 f1.yb, .int .u8 (f1.e.k : Int), .int .i64 f1.e.cl, .int .i64 f1.e.sq, .int .u8 (f1.e.ok : Int), .string f1.e.key, .string f1.e.old, .string f1.e.val] 150)) (heap_alloc_new w (.cells #[.func (.func F) #[] caps, .int .i64 0, x2, x3, x4, x5, x6, x7, x8, x9, x10, x11, x12, x13] 300))
  have hT := TwoL.new (w.alloc (.cells #[.func (.func F) #[] caps, .int .i64 0, x2, x3, x4, x5, x6, x7, x8, x9, x10, x11, x12, x13] 300)) f0 f1
  rw [World.size_alloc] at hT
  have HE := Lib.hid hE
  have HR := Lib.hid hR
  have HT := Lib.hid hT
  have H0 := Lib.hid (h0.ext hE)
  have H1 := Lib.hid (h1.ext hE)
  have HC := Lib.hid bal_of
  have HO := Lib.hid otherL_of
  have hi0 := fun w => (idx_two 0 1 w).1
  have hi1 := fun w => (idx_two 0 1 w).2
  clear hE hR hT h0 h1
  unfold Asks at H0 H1
  unfold Enters at hgo
  go_enter Tryz.func221, Tryz.ntmps221
  go_upto_region 2 with (fail)
  generalize ((w.alloc (.cells #[.func (.func F) #[] caps, .int .i64 0, x2, x3, x4, x5, x6, x7, x8, x9, x10, x11, x12, x13] 300)).alloc (.cells #[.int .u8 (f0.st : Int), .int .i64 f0.ix, .int .i64 f0.bx, .int .i64 f0.yb, .int .u8 (f0.e.k : Int), .int .i64 f0.e.cl, .int .i64 f0.e.sq, .int .u8 (f0.e.ok : Int), .string f0.e.key, .string f0.e.old, .string f0.e.val, .int .u8 (f1.st : Int), .int .i64 f1.ix, .int .i64 f1.bx, .int .i64 f1.yb, .int .u8 (f1.e.k : Int), .int .i64 f1.e.cl, .int .i64 f1.e.sq, .int .u8 (f1.e.ok : Int), .string f1.e.key, .string f1.e.old, .string f1.e.val] 150)) = W at *
  generalize w.heap.size + 1 = g2 at *
  generalize w.heap.size = g at *
  obtain ⟨c0, c1, d0, d1, d2, d3, d4, d5, d6, d7, d8, d9, d10, d11, d12, d13, d14, d15, d16, d17, d18, d19, d20, d21⟩ := use_keep HR.out HT.out (Ext.refl W)
  go_region_held3 (fun w' => w'.cell? ⟨g, 1, none⟩ = some (.int .i64 0))
    (first | assumption | (refine (use_keep HR.out HT.out ?_).2.1; repeat (first | exact Ext.refl _ | refine Ext.drew ?_)))
    (first
      | (go_at_call 145; ((with_reducible refine (HO.out _ (by simp) _).mono ?_); rintro e w1 ⟨rfl, rfl⟩)))
  all_goals
    clear c0 c1 d0 d1 d2 d3 d4 d5 d6 d7 d8 d9 d10 d11 d12 d13 d14 d15 d16 d17 d18 d19 d20 d21
    go_wp2_with fail
    refine wp_loop_rounds 3 ?_
    rw [rounds_succ]
    go_upto_region 5 with (fail)
    have HX := Lib.hid (Ext.refl W).drew.drew
    refine wp_region_held_drew (S := fun w' => w'.cell? ⟨g, 0, none⟩ = some (.func (.func F) #[] caps) ∧ w'.cell? ⟨g, 1, none⟩ = some (.int .i64 0) ∧ w'.cell? ⟨g2, 0, none⟩ = some (.int .u8 (f0.st : Int)) ∧ w'.cell? ⟨g2, 1, none⟩ = some (.int .i64 f0.ix) ∧ w'.cell? ⟨g2, 2, none⟩ = some (.int .i64 f0.bx) ∧ w'.cell? ⟨g2, 3, none⟩ = some (.int .i64 f0.yb) ∧ w'.cell? ⟨g2, 4, none⟩ = some (.int .u8 (f0.e.k : Int)) ∧ w'.cell? ⟨g2, 5, none⟩ = some (.int .i64 f0.e.cl) ∧ w'.cell? ⟨g2, 6, none⟩ = some (.int .i64 f0.e.sq) ∧ w'.cell? ⟨g2, 7, none⟩ = some (.int .u8 (f0.e.ok : Int)) ∧ w'.cell? ⟨g2, 8, none⟩ = some (.string f0.e.key) ∧ w'.cell? ⟨g2, 9, none⟩ = some (.string f0.e.old) ∧ w'.cell? ⟨g2, 10, none⟩ = some (.string f0.e.val) ∧ w'.cell? ⟨g2, 11, none⟩ = some (.int .u8 (f1.st : Int)) ∧ w'.cell? ⟨g2, 12, none⟩ = some (.int .i64 f1.ix) ∧ w'.cell? ⟨g2, 13, none⟩ = some (.int .i64 f1.bx) ∧ w'.cell? ⟨g2, 14, none⟩ = some (.int .i64 f1.yb) ∧ w'.cell? ⟨g2, 15, none⟩ = some (.int .u8 (f1.e.k : Int)) ∧ w'.cell? ⟨g2, 16, none⟩ = some (.int .i64 f1.e.cl) ∧ w'.cell? ⟨g2, 17, none⟩ = some (.int .i64 f1.e.sq) ∧ w'.cell? ⟨g2, 18, none⟩ = some (.int .u8 (f1.e.ok : Int)) ∧ w'.cell? ⟨g2, 19, none⟩ = some (.string f1.e.key) ∧ w'.cell? ⟨g2, 20, none⟩ = some (.string f1.e.old) ∧ w'.cell? ⟨g2, 21, none⟩ = some (.string f1.e.val)) (by kernel_rfl) (use_keep HR.out HT.out HX.out) (fun hHeld => ?_)
    refine tj (i := 0) (oi := ⟨some 17, .fieldAddr 300 (.tmp 2) 0, 0, "slot.go:172", #[], none⟩) rfl (by kernel_rfl) ?_
    try simp only [Act.put, sT, s0, s1]
    refine tj (i := 1) (oi := ⟨some 18, .load 298 (.tmp 17), 298, "slot.go:172", #[⟨0, .data⟩], none⟩) rfl (by kernel_rfl) ?_
    try simp only [Act.put, sT, s0, s1]
    refine tj (i := 2) (oi := ⟨some 19, .move (.tmp 7), 3, "slot.go:172", #[], none⟩) rfl (by kernel_rfl) ?_
    try simp only [Act.put, sT, s0, s1]
    refine tj (i := 3) (oi := ⟨some 20, .indexAddr 150 (.tmp 3) (.tmp 19), 0, "slot.go:172", #[⟨2, .data⟩], none⟩) rfl (by kernel_rfl) ?_
    try simp only [Act.put, sT, s0, s1]
    refine tj (i := 4) (oi := ⟨some 21, .load 149 (.tmp 20), 149, "slot.go:172", #[⟨3, .data⟩], none⟩) rfl (by kernel_rfl) ?_
    try simp only [Act.put, sT, s0, s1]
    refine wpAnyH_ready (rs := [5]) (by kernel_rfl) (by simp) ?_
    refine AllReadyH.cons (o := ⟨some 22, .call { callee := .value (.tmp 18), args := #[.tmp 21], argTypes := #[149] }, 4, "slot.go:172", #[⟨1, .data⟩, ⟨4, .data⟩], none⟩) rfl (fun K hK => ?_) AllReadyH.nil
    go_simp
    refine (H0.out _ HX.out).mono ?_
    rintro e w1 ⟨rfl, hx⟩
    have HX := Lib.hid (HX.out.trans hx)
    clear hx hHeld
    go_wp2_with fail
    refine hK.out _ _ (use_keep HR.out HT.out HX.out) (fun hHeld => ?_)
    clear hK K
    try simp only [Act.put, sT, s0, s1]
    refine tj (i := 6) (oi := ⟨some 23, .move (.tmp 22), 4, "slot.go:172", #[⟨5, .data⟩, ⟨5, .chain⟩], none⟩) rfl (by kernel_rfl) ?_
    try simp only [Act.put, sT, s0, s1]
    refine tk (i := 7) (oi := ⟨some 24, .move (.tmp 5), 3, "slot.go:172", #[⟨6, .guard⟩], some (6, true)⟩) (v := undef) rfl (by kernel_rfl) (Or.inr ⟨by rfl, rfl⟩) ?_
    try simp only [Act.put, sT, s0, s1]
    refine tk (i := 8) (oi := ⟨some 25, .binOp .eql 3 (.tmp 24) (.const (.int .i64 (-1))) 3, 4, "slot.go:172", #[⟨7, .data⟩, ⟨6, .guard⟩], some (6, true)⟩) (v := undef) rfl (by kernel_rfl) (Or.inr ⟨by rfl, rfl⟩) ?_
    try simp only [Act.put, sT, s0, s1]
    refine tk (i := 9) (oi := ⟨some 26, .move (.tmp 25), 4, "slot.go:172", #[⟨8, .data⟩, ⟨6, .chain⟩, ⟨6, .guard⟩], some (6, true)⟩) (v := undef) rfl (by kernel_rfl) (Or.inr ⟨by rfl, rfl⟩) ?_
    try simp only [Act.put, sT, s0, s1]
    refine tk (i := 10) (oi := ⟨some 27, .move (.tmp 7), 3, "slot.go:172", #[⟨9, .guard⟩], some (9, false)⟩) (v := undef) rfl (by kernel_rfl) (Or.inr ⟨by rfl, rfl⟩) ?_
    try simp only [Act.put, sT, s0, s1]
    refine tk (i := 11) (oi := ⟨some 28, .indexAddr 150 (.tmp 3) (.tmp 27), 0, "slot.go:172", #[⟨10, .data⟩, ⟨9, .guard⟩], some (9, false)⟩) (v := undef) rfl (by kernel_rfl) (Or.inr ⟨by rfl, rfl⟩) ?_
    try simp only [Act.put, sT, s0, s1]
    refine tk (i := 12) (oi := ⟨some 29, .fieldAddr 149 (.tmp 28) 2, 0, "slot.go:172", #[⟨11, .data⟩, ⟨9, .guard⟩], some (9, false)⟩) (v := undef) rfl (by kernel_rfl) (Or.inr ⟨by rfl, rfl⟩) ?_
    try simp only [Act.put, sT, s0, s1]
    refine tk (i := 13) (oi := ⟨some 30, .load 38 (.tmp 29), 38, "slot.go:172", #[⟨12, .data⟩, ⟨9, .guard⟩], some (9, false)⟩) (v := undef) rfl (by kernel_rfl) (Or.inr ⟨by rfl, rfl⟩) ?_
    try simp only [Act.put, sT, s0, s1]
    refine tk (i := 14) (oi := ⟨some 31, .move (.tmp 5), 3, "slot.go:172", #[⟨9, .guard⟩], some (9, false)⟩) (v := undef) rfl (by kernel_rfl) (Or.inr ⟨by rfl, rfl⟩) ?_
    try simp only [Act.put, sT, s0, s1]
    refine tk (i := 15) (oi := ⟨some 32, .indexAddr 150 (.tmp 3) (.tmp 31), 0, "slot.go:172", #[⟨14, .data⟩, ⟨9, .guard⟩], some (9, false)⟩) (v := undef) rfl (by kernel_rfl) (Or.inr ⟨by rfl, rfl⟩) ?_
    try simp only [Act.put, sT, s0, s1]
    refine tk (i := 16) (oi := ⟨some 33, .fieldAddr 149 (.tmp 32) 2, 0, "slot.go:172", #[⟨15, .data⟩, ⟨9, .guard⟩], some (9, false)⟩) (v := undef) rfl (by kernel_rfl) (Or.inr ⟨by rfl, rfl⟩) ?_
    try simp only [Act.put, sT, s0, s1]
    refine tk (i := 17) (oi := ⟨some 34, .load 38 (.tmp 33), 38, "slot.go:172", #[⟨16, .data⟩, ⟨9, .guard⟩], some (9, false)⟩) (v := undef) rfl (by kernel_rfl) (Or.inr ⟨by rfl, rfl⟩) ?_
    try simp only [Act.put, sT, s0, s1]
    refine tk (i := 18) (oi := ⟨some 35, .call { callee := .value (.func 266), args := #[.tmp 30, .tmp 34], argTypes := #[38, 38] }, 3, "slot.go:172", #[⟨13, .data⟩, ⟨17, .data⟩, ⟨9, .chain⟩, ⟨9, .guard⟩], some (9, false)⟩) (v := undef) rfl (by kernel_rfl) (Or.inr ⟨by rfl, rfl⟩) ?_
    try simp only [Act.put, sT, s0, s1]
    refine tk (i := 19) (oi := ⟨some 36, .binOp .gtr 3 (.tmp 35) (.const (.int .i64 0)) 3, 4, "slot.go:172", #[⟨18, .data⟩, ⟨9, .guard⟩], some (9, false)⟩) (v := undef) rfl (by kernel_rfl) (Or.inr ⟨by rfl, rfl⟩) ?_
    try simp only [Act.put, sT, s0, s1]
    refine tk (i := 20) (oi := ⟨some 37, .pick (.tmp 26) (.const (.bool true)) (.tmp 36), 4, "slot.go:172", #[⟨9, .data⟩, ⟨19, .data⟩, ⟨6, .guard⟩], some (6, true)⟩) (v := undef) rfl (by kernel_rfl) (Or.inr ⟨by rfl, rfl⟩) ?_
    try simp only [Act.put, sT, s0, s1]
    refine tj (i := 21) (oi := ⟨some 38, .pick (.tmp 23) (.tmp 37) (.const (.bool false)), 4, "slot.go:172", #[⟨6, .data⟩, ⟨20, .data⟩], none⟩) rfl (by kernel_rfl) ?_
    try simp only [Act.put, sT, s0, s1]
    refine wpAnyH_done (by kernel_rfl) ?_ _
    clear hHeld
    go_wp2_with fail
    rw [rounds_succ]
    go_upto_region 5 with (fail)
    have HX := Lib.hid HX.out.drew
    refine wp_region_held_drew (S := fun w' => w'.cell? ⟨g, 0, none⟩ = some (.func (.func F) #[] caps) ∧ w'.cell? ⟨g, 1, none⟩ = some (.int .i64 0) ∧ w'.cell? ⟨g2, 0, none⟩ = some (.int .u8 (f0.st : Int)) ∧ w'.cell? ⟨g2, 1, none⟩ = some (.int .i64 f0.ix) ∧ w'.cell? ⟨g2, 2, none⟩ = some (.int .i64 f0.bx) ∧ w'.cell? ⟨g2, 3, none⟩ = some (.int .i64 f0.yb) ∧ w'.cell? ⟨g2, 4, none⟩ = some (.int .u8 (f0.e.k : Int)) ∧ w'.cell? ⟨g2, 5, none⟩ = some (.int .i64 f0.e.cl) ∧ w'.cell? ⟨g2, 6, none⟩ = some (.int .i64 f0.e.sq) ∧ w'.cell? ⟨g2, 7, none⟩ = some (.int .u8 (f0.e.ok : Int)) ∧ w'.cell? ⟨g2, 8, none⟩ = some (.string f0.e.key) ∧ w'.cell? ⟨g2, 9, none⟩ = some (.string f0.e.old) ∧ w'.cell? ⟨g2, 10, none⟩ = some (.string f0.e.val) ∧ w'.cell? ⟨g2, 11, none⟩ = some (.int .u8 (f1.st : Int)) ∧ w'.cell? ⟨g2, 12, none⟩ = some (.int .i64 f1.ix) ∧ w'.cell? ⟨g2, 13, none⟩ = some (.int .i64 f1.bx) ∧ w'.cell? ⟨g2, 14, none⟩ = some (.int .i64 f1.yb) ∧ w'.cell? ⟨g2, 15, none⟩ = some (.int .u8 (f1.e.k : Int)) ∧ w'.cell? ⟨g2, 16, none⟩ = some (.int .i64 f1.e.cl) ∧ w'.cell? ⟨g2, 17, none⟩ = some (.int .i64 f1.e.sq) ∧ w'.cell? ⟨g2, 18, none⟩ = some (.int .u8 (f1.e.ok : Int)) ∧ w'.cell? ⟨g2, 19, none⟩ = some (.string f1.e.key) ∧ w'.cell? ⟨g2, 20, none⟩ = some (.string f1.e.old) ∧ w'.cell? ⟨g2, 21, none⟩ = some (.string f1.e.val)) (by kernel_rfl) (use_keep HR.out HT.out HX.out) (fun hHeld => ?_)
    refine tj (i := 0) (oi := ⟨some 17, .fieldAddr 300 (.tmp 2) 0, 0, "slot.go:172", #[], none⟩) rfl (by kernel_rfl) ?_
    try simp only [Act.put, sT, s0, s1]
    refine tj (i := 1) (oi := ⟨some 18, .load 298 (.tmp 17), 298, "slot.go:172", #[⟨0, .data⟩], none⟩) rfl (by kernel_rfl) ?_
    try simp only [Act.put, sT, s0, s1]
    refine tj (i := 2) (oi := ⟨some 19, .move (.tmp 7), 3, "slot.go:172", #[], none⟩) rfl (by kernel_rfl) ?_
    try simp only [Act.put, sT, s0, s1]
    refine tj (i := 3) (oi := ⟨some 20, .indexAddr 150 (.tmp 3) (.tmp 19), 0, "slot.go:172", #[⟨2, .data⟩], none⟩) rfl (by kernel_rfl) ?_
    try simp only [Act.put, sT, s0, s1]
    refine tj (i := 4) (oi := ⟨some 21, .load 149 (.tmp 20), 149, "slot.go:172", #[⟨3, .data⟩], none⟩) rfl (by kernel_rfl) ?_
    try simp only [Act.put, sT, s0, s1]
    refine wpAnyH_ready (rs := [5]) (by kernel_rfl) (by simp) ?_
    refine AllReadyH.cons (o := ⟨some 22, .call { callee := .value (.tmp 18), args := #[.tmp 21], argTypes := #[149] }, 4, "slot.go:172", #[⟨1, .data⟩, ⟨4, .data⟩], none⟩) rfl (fun K hK => ?_) AllReadyH.nil
    go_simp
    refine (H1.out _ HX.out).mono ?_
    rintro e w2 ⟨rfl, hx⟩
    have HX := Lib.hid (HX.out.trans hx)
    clear hx hHeld
    go_wp2_with fail
    refine hK.out _ _ (use_keep HR.out HT.out HX.out) (fun hHeld => ?_)
    clear hK K
    try simp only [Act.put, sT, s0, s1]
    refine tj (i := 6) (oi := ⟨some 23, .move (.tmp 22), 4, "slot.go:172", #[⟨5, .data⟩, ⟨5, .chain⟩], none⟩) rfl (by kernel_rfl) ?_
    try simp only [Act.put, sT, s0, s1]
    refine tj (i := 7) (oi := ⟨some 24, .move (.tmp 5), 3, "slot.go:172", #[⟨6, .guard⟩], some (6, true)⟩) rfl (by kernel_rfl) ?_
    try simp only [Act.put, sT, s0, s1]
    refine tj (i := 8) (oi := ⟨some 25, .binOp .eql 3 (.tmp 24) (.const (.int .i64 (-1))) 3, 4, "slot.go:172", #[⟨7, .data⟩, ⟨6, .guard⟩], some (6, true)⟩) rfl (by kernel_rfl) ?_
    try simp only [Act.put, sT, s0, s1]
    refine tj (i := 9) (oi := ⟨some 26, .move (.tmp 25), 4, "slot.go:172", #[⟨8, .data⟩, ⟨6, .chain⟩, ⟨6, .guard⟩], some (6, true)⟩) rfl (by kernel_rfl) ?_
    try simp only [Act.put, sT, s0, s1]
    refine tk (i := 10) (oi := ⟨some 27, .move (.tmp 7), 3, "slot.go:172", #[⟨9, .guard⟩], some (9, false)⟩) (v := undef) rfl (by kernel_rfl) (Or.inr ⟨by rfl, rfl⟩) ?_
    try simp only [Act.put, sT, s0, s1]
    refine tk (i := 11) (oi := ⟨some 28, .indexAddr 150 (.tmp 3) (.tmp 27), 0, "slot.go:172", #[⟨10, .data⟩, ⟨9, .guard⟩], some (9, false)⟩) (v := undef) rfl (by kernel_rfl) (Or.inr ⟨by rfl, rfl⟩) ?_
    try simp only [Act.put, sT, s0, s1]
    refine tk (i := 12) (oi := ⟨some 29, .fieldAddr 149 (.tmp 28) 2, 0, "slot.go:172", #[⟨11, .data⟩, ⟨9, .guard⟩], some (9, false)⟩) (v := undef) rfl (by kernel_rfl) (Or.inr ⟨by rfl, rfl⟩) ?_
    try simp only [Act.put, sT, s0, s1]
    refine tk (i := 13) (oi := ⟨some 30, .load 38 (.tmp 29), 38, "slot.go:172", #[⟨12, .data⟩, ⟨9, .guard⟩], some (9, false)⟩) (v := undef) rfl (by kernel_rfl) (Or.inr ⟨by rfl, rfl⟩) ?_
    try simp only [Act.put, sT, s0, s1]
    refine tk (i := 14) (oi := ⟨some 31, .move (.tmp 5), 3, "slot.go:172", #[⟨9, .guard⟩], some (9, false)⟩) (v := undef) rfl (by kernel_rfl) (Or.inr ⟨by rfl, rfl⟩) ?_
    try simp only [Act.put, sT, s0, s1]
    refine tk (i := 15) (oi := ⟨some 32, .indexAddr 150 (.tmp 3) (.tmp 31), 0, "slot.go:172", #[⟨14, .data⟩, ⟨9, .guard⟩], some (9, false)⟩) (v := undef) rfl (by kernel_rfl) (Or.inr ⟨by rfl, rfl⟩) ?_
    try simp only [Act.put, sT, s0, s1]
    refine tk (i := 16) (oi := ⟨some 33, .fieldAddr 149 (.tmp 32) 2, 0, "slot.go:172", #[⟨15, .data⟩, ⟨9, .guard⟩], some (9, false)⟩) (v := undef) rfl (by kernel_rfl) (Or.inr ⟨by rfl, rfl⟩) ?_
    try simp only [Act.put, sT, s0, s1]
    refine tk (i := 17) (oi := ⟨some 34, .load 38 (.tmp 33), 38, "slot.go:172", #[⟨16, .data⟩, ⟨9, .guard⟩], some (9, false)⟩) (v := undef) rfl (by kernel_rfl) (Or.inr ⟨by rfl, rfl⟩) ?_
    try simp only [Act.put, sT, s0, s1]
    refine tk (i := 18) (oi := ⟨some 35, .call { callee := .value (.func 266), args := #[.tmp 30, .tmp 34], argTypes := #[38, 38] }, 3, "slot.go:172", #[⟨13, .data⟩, ⟨17, .data⟩, ⟨9, .chain⟩, ⟨9, .guard⟩], some (9, false)⟩) (v := undef) rfl (by kernel_rfl) (Or.inr ⟨by rfl, rfl⟩) ?_
    try simp only [Act.put, sT, s0, s1]
    refine tk (i := 19) (oi := ⟨some 36, .binOp .gtr 3 (.tmp 35) (.const (.int .i64 0)) 3, 4, "slot.go:172", #[⟨18, .data⟩, ⟨9, .guard⟩], some (9, false)⟩) (v := undef) rfl (by kernel_rfl) (Or.inr ⟨by rfl, rfl⟩) ?_
    try simp only [Act.put, sT, s0, s1]
    refine tj (i := 20) (oi := ⟨some 37, .pick (.tmp 26) (.const (.bool true)) (.tmp 36), 4, "slot.go:172", #[⟨9, .data⟩, ⟨19, .data⟩, ⟨6, .guard⟩], some (6, true)⟩) rfl (by kernel_rfl) ?_
    try simp only [Act.put, sT, s0, s1]
    refine tj (i := 21) (oi := ⟨some 38, .pick (.tmp 23) (.tmp 37) (.const (.bool false)), 4, "slot.go:172", #[⟨6, .data⟩, ⟨20, .data⟩], none⟩) rfl (by kernel_rfl) ?_
    try simp only [Act.put, sT, s0, s1]
    refine wpAnyH_done (by kernel_rfl) ?_ _
    clear hHeld
    go_wp2_with fail
    rw [rounds_succ]
    go_wp2_with fail
    go_ret
    exact ⟨rfl, HE.out.trans HX.out⟩
end
end Go.Proofs.YtmbmpabjclkhlaaGreatDoor
