/-
  A rule's use where frame 1 is looked at first.
-/
import Derived.Test.YtmbmpabjclkhlaaGreatDoorQ00
import Derived.Test.YtmbmpabjclkhlaaGreatDoorQ22
import Derived.Test.YtmbmpabjclkhlaaGreatDoorQ23
import Derived.Test.YtmbmpabjclkhlaaGreatDoorQ24
import Derived.Test.YtmbmpabjclkhlaaGreatDoorQ25
namespace Go.Proofs.YtmbmpabjclkhlaaGreatDoor
set_option maxRecDepth 100000
section
open Go Go.RowKit
set_option maxHeartbeats 1600000 in
theorem use1_tt (F : Nat) (caps : Array Value) (x2 x3 x4 x5 x6 x7 x8 x9 x10 x11 x12 x13 : Value) (f0 f1 : CopL) (w : World) (hgo : Enters Tryz.prog F) (h0 : Asks w F caps f0 true) (h1 : Asks w F caps f1 true) :
    Calls Tryz.prog 221 #[.agg #[.func (.func F) #[] caps, .int .i64 1, x2, x3, x4, x5, x6, x7, x8, x9, x10, x11, x12, x13], .agg #[.int .u8 (f0.st : Int), .int .i64 f0.ix, .int .i64 f0.bx, .int .i64 f0.yb, .int .u8 (f0.e.k : Int), .int .i64 f0.e.cl, .int .i64 f0.e.sq, .int .u8 (f0.e.ok : Int), .string f0.e.key, .string f0.e.old, .string f0.e.val, .int .u8 (f1.st : Int), .int .i64 f1.ix, .int .i64 f1.bx, .int .i64 f1.yb, .int .u8 (f1.e.k : Int), .int .i64 f1.e.cl, .int .i64 f1.e.sq, .int .u8 (f1.e.ok : Int), .string f1.e.key, .string f1.e.old, .string f1.e.val]] w fun e w' => e = .returned (.int .i64 (if 0 < balI f0.bx f0.yb f1.bx f1.yb then 0 else 1)) ∧ Ext w w' := by
  have hE := ((Ext.refl w).alloc (.cells #[.func (.func F) #[] caps, .int .i64 1, x2, x3, x4, x5, x6, x7, x8, x9, x10, x11, x12, x13] 300)).alloc (.cells #[.int .u8 (f0.st : Int), .int .i64 f0.ix, .int .i64 f0.bx, .int .i64 f0.yb, .int .u8 (f0.e.k : Int), .int .i64 f0.e.cl, .int .i64 f0.e.sq, .int .u8 (f0.e.ok : Int), .string f0.e.key, .string f0.e.old, .string f0.e.val, .int .u8 (f1.st : Int), .int .i64 f1.ix, .int .i64 f1.bx, .int .i64 f1.yb, .int .u8 (f1.e.k : Int), .int .i64 f1.e.cl, .int .i64 f1.e.sq, .int .u8 (f1.e.ok : Int), .string f1.e.key, .string f1.e.old, .string f1.e.val] 150)
  have hR := keep_row ((Ext.refl _).alloc (.cells #[.int .u8 (f0.st : Int), .int .i64 f0.ix, .int .i64 f0.bx, .int .i64 f0.yb, .int .u8 (f0.e.k : Int), .int .i64 f0.e.cl, .int .i64 f0.e.sq, .int .u8 (f0.e.ok : Int), .string f0.e.key, .string f0.e.old, .string f0.e.val, .int .u8 (f1.st : Int), .int .i64 f1.ix, .int .i64 f1.bx, .int .i64 f1.yb, .int .u8 (f1.e.k : Int), .int .i64 f1.e.cl, .int .i64 f1.e.sq, .int .u8 (f1.e.ok : Int), .string f1.e.key, .string f1.e.old, .string f1.e.val] 150)) (heap_alloc_new w (.cells #[.func (.func F) #[] caps, .int .i64 1, x2, x3, x4, x5, x6, x7, x8, x9, x10, x11, x12, x13] 300))
  have hT := TwoL.new (w.alloc (.cells #[.func (.func F) #[] caps, .int .i64 1, x2, x3, x4, x5, x6, x7, x8, x9, x10, x11, x12, x13] 300)) f0 f1
  rw [World.size_alloc] at hT
  have HE := Lib.hid hE
  have HR := Lib.hid hR
  have HT := Lib.hid hT
  have H0 := Lib.hid (h0.ext hE)
  have H1 := Lib.hid (h1.ext hE)
  have HC := Lib.hid bal_of
  have HO := Lib.hid otherL_of
  have hi0 := fun w => (idx_two 1 0 w).1
  have hi1 := fun w => (idx_two 1 0 w).2
  clear hE hR hT h0 h1
  unfold Asks at H0 H1
  unfold Enters at hgo
  obtain ⟨z, hz⟩ : ∃ z, balI f0.bx f0.yb f1.bx f1.yb = z := ⟨_, rfl⟩
  have hz2 := HC.out f0.bx f0.yb f1.bx f1.yb
  rw [hz] at hz2 ⊢
  have HZ := Lib.hid hz2
  clear hz hz2 HC
  by_cases hp : 0 < z
  · rw [if_pos hp]
    have hpb : decide (0 < z) = true := decide_eq_true hp
    clear hp
    go_enter Tryz.func221, Tryz.ntmps221
    go_upto_region 2 with (fail)
    generalize ((w.alloc (.cells #[.func (.func F) #[] caps, .int .i64 1, x2, x3, x4, x5, x6, x7, x8, x9, x10, x11, x12, x13] 300)).alloc (.cells #[.int .u8 (f0.st : Int), .int .i64 f0.ix, .int .i64 f0.bx, .int .i64 f0.yb, .int .u8 (f0.e.k : Int), .int .i64 f0.e.cl, .int .i64 f0.e.sq, .int .u8 (f0.e.ok : Int), .string f0.e.key, .string f0.e.old, .string f0.e.val, .int .u8 (f1.st : Int), .int .i64 f1.ix, .int .i64 f1.bx, .int .i64 f1.yb, .int .u8 (f1.e.k : Int), .int .i64 f1.e.cl, .int .i64 f1.e.sq, .int .u8 (f1.e.ok : Int), .string f1.e.key, .string f1.e.old, .string f1.e.val] 150)) = W at *
    generalize w.heap.size + 1 = g2 at *
    generalize w.heap.size = g at *
    obtain ⟨c0, c1, d0, d1, d2, d3, d4, d5, d6, d7, d8, d9, d10, d11, d12, d13, d14, d15, d16, d17, d18, d19, d20, d21⟩ := use_keep HR.out HT.out (Ext.refl W)
    go_region_held3 (fun w' => w'.cell? ⟨g, 1, none⟩ = some (.int .i64 1))
      (first | assumption | (refine (use_keep HR.out HT.out ?_).2.1; repeat (first | exact Ext.refl _ | refine Ext.drew ?_)))
      (first
        | (go_at_call 145; ((with_reducible refine (HO.out _ (by simp) _).mono ?_); rintro e w1 ⟨rfl, rfl⟩)))
    all_goals
      clear c0 c1 d0 d1 d2 d3 d4 d5 d6 d7 d8 d9 d10 d11 d12 d13 d14 d15 d16 d17 d18 d19 d20 d21
      go_wp2_with fail
      refine wp_loop_rounds 3 ?_
      rw [rounds_succ]
      go_upto_region 5 with (fail)
      have HX := Lib.hid (Ext.refl W).drew.drew
      refine wp_region_held_drew (S := fun w' => w'.cell? ⟨g, 0, none⟩ = some (.func (.func F) #[] caps) ∧ w'.cell? ⟨g, 1, none⟩ = some (.int .i64 1) ∧ w'.cell? ⟨g2, 0, none⟩ = some (.int .u8 (f0.st : Int)) ∧ w'.cell? ⟨g2, 1, none⟩ = some (.int .i64 f0.ix) ∧ w'.cell? ⟨g2, 2, none⟩ = some (.int .i64 f0.bx) ∧ w'.cell? ⟨g2, 3, none⟩ = some (.int .i64 f0.yb) ∧ w'.cell? ⟨g2, 4, none⟩ = some (.int .u8 (f0.e.k : Int)) ∧ w'.cell? ⟨g2, 5, none⟩ = some (.int .i64 f0.e.cl) ∧ w'.cell? ⟨g2, 6, none⟩ = some (.int .i64 f0.e.sq) ∧ w'.cell? ⟨g2, 7, none⟩ = some (.int .u8 (f0.e.ok : Int)) ∧ w'.cell? ⟨g2, 8, none⟩ = some (.string f0.e.key) ∧ w'.cell? ⟨g2, 9, none⟩ = some (.string f0.e.old) ∧ w'.cell? ⟨g2, 10, none⟩ = some (.string f0.e.val) ∧ w'.cell? ⟨g2, 11, none⟩ = some (.int .u8 (f1.st : Int)) ∧ w'.cell? ⟨g2, 12, none⟩ = some (.int .i64 f1.ix) ∧ w'.cell? ⟨g2, 13, none⟩ = some (.int .i64 f1.bx) ∧ w'.cell? ⟨g2, 14, none⟩ = some (.int .i64 f1.yb) ∧ w'.cell? ⟨g2, 15, none⟩ = some (.int .u8 (f1.e.k : Int)) ∧ w'.cell? ⟨g2, 16, none⟩ = some (.int .i64 f1.e.cl) ∧ w'.cell? ⟨g2, 17, none⟩ = some (.int .i64 f1.e.sq) ∧ w'.cell? ⟨g2, 18, none⟩ = some (.int .u8 (f1.e.ok : Int)) ∧ w'.cell? ⟨g2, 19, none⟩ = some (.string f1.e.key) ∧ w'.cell? ⟨g2, 20, none⟩ = some (.string f1.e.old) ∧ w'.cell? ⟨g2, 21, none⟩ = some (.string f1.e.val)) (by kernel_rfl) (use_keep HR.out HT.out HX.out) (fun hHeld => ?_)
      refine tj (i := 0) (oi := ⟨some 17, .fieldAddr 300 (.tmp 2) 0, 0, "slot.go:172", #[], none⟩) rfl (by kernel_rfl) ?_
      try simp only [Act.put, sT, s0, s1]
      refine tj (i := 1) (oi := ⟨some 18, .load 298 (.tmp 17), 298, "slot.go:172", #[⟨0, .data⟩], none⟩) rfl (by kernel_rfl) ?_
      try simp only [Act.put, sT, s0, s1]
      refine tj (i := 2) (oi := ⟨some 19, .move (.tmp 7), 3, "slot.go:172", #[], none⟩) rfl (by kernel_rfl) ?_
      try simp only [Act.put, sT, s0, s1]
      refine tj (i := 3) (oi := ⟨some 20, .indexAddr 150 (.tmp 3) (.tmp 19), 0, "slot.go:172", #[⟨2, .data⟩], none⟩) rfl (by kernel_rfl) ?_
      try simp only [Act.put, sT, s0, s1]
      refine tj (i := 4) (oi := ⟨some 21, .load 149 (.tmp 20), 149, "slot.go:172", #[⟨3, .data⟩], none⟩) rfl (by kernel_rfl) ?_
      try simp only [Act.put, sT, s0, s1]
      refine wpAnyH_ready (rs := [5]) (by kernel_rfl) (by simp) ?_
      refine AllReadyH.cons (o := ⟨some 22, .call { callee := .value (.tmp 18), args := #[.tmp 21], argTypes := #[149] }, 4, "slot.go:172", #[⟨1, .data⟩, ⟨4, .data⟩], none⟩) rfl (fun K hK => ?_) AllReadyH.nil
      go_simp
      refine (H1.out _ HX.out).mono ?_
      rintro e w1 ⟨rfl, hx⟩
      have HX := Lib.hid (HX.out.trans hx)
      clear hx hHeld
      go_wp2_with fail
      refine hK.out _ _ (use_keep HR.out HT.out HX.out) (fun hHeld => ?_)
      clear hK K
      try simp only [Act.put, sT, s0, s1]
      refine tj (i := 6) (oi := ⟨some 23, .move (.tmp 22), 4, "slot.go:172", #[⟨5, .data⟩, ⟨5, .chain⟩], none⟩) rfl (by kernel_rfl) ?_
      try simp only [Act.put, sT, s0, s1]
      refine tj (i := 7) (oi := ⟨some 24, .move (.tmp 5), 3, "slot.go:172", #[⟨6, .guard⟩], some (6, true)⟩) rfl (by kernel_rfl) ?_
      try simp only [Act.put, sT, s0, s1]
      refine tj (i := 8) (oi := ⟨some 25, .binOp .eql 3 (.tmp 24) (.const (.int .i64 (-1))) 3, 4, "slot.go:172", #[⟨7, .data⟩, ⟨6, .guard⟩], some (6, true)⟩) rfl (by kernel_rfl) ?_
      try simp only [Act.put, sT, s0, s1]
      refine tj (i := 9) (oi := ⟨some 26, .move (.tmp 25), 4, "slot.go:172", #[⟨8, .data⟩, ⟨6, .chain⟩, ⟨6, .guard⟩], some (6, true)⟩) rfl (by kernel_rfl) ?_
      try simp only [Act.put, sT, s0, s1]
      refine tk (i := 10) (oi := ⟨some 27, .move (.tmp 7), 3, "slot.go:172", #[⟨9, .guard⟩], some (9, false)⟩) (v := undef) rfl (by kernel_rfl) (Or.inr ⟨by rfl, rfl⟩) ?_
      try simp only [Act.put, sT, s0, s1]
      refine tk (i := 11) (oi := ⟨some 28, .indexAddr 150 (.tmp 3) (.tmp 27), 0, "slot.go:172", #[⟨10, .data⟩, ⟨9, .guard⟩], some (9, false)⟩) (v := undef) rfl (by kernel_rfl) (Or.inr ⟨by rfl, rfl⟩) ?_
      try simp only [Act.put, sT, s0, s1]
      refine tk (i := 12) (oi := ⟨some 29, .fieldAddr 149 (.tmp 28) 2, 0, "slot.go:172", #[⟨11, .data⟩, ⟨9, .guard⟩], some (9, false)⟩) (v := undef) rfl (by kernel_rfl) (Or.inr ⟨by rfl, rfl⟩) ?_
      try simp only [Act.put, sT, s0, s1]
      refine tk (i := 13) (oi := ⟨some 30, .load 38 (.tmp 29), 38, "slot.go:172", #[⟨12, .data⟩, ⟨9, .guard⟩], some (9, false)⟩) (v := undef) rfl (by kernel_rfl) (Or.inr ⟨by rfl, rfl⟩) ?_
      try simp only [Act.put, sT, s0, s1]
      refine tk (i := 14) (oi := ⟨some 31, .move (.tmp 5), 3, "slot.go:172", #[⟨9, .guard⟩], some (9, false)⟩) (v := undef) rfl (by kernel_rfl) (Or.inr ⟨by rfl, rfl⟩) ?_
      try simp only [Act.put, sT, s0, s1]
      refine tk (i := 15) (oi := ⟨some 32, .indexAddr 150 (.tmp 3) (.tmp 31), 0, "slot.go:172", #[⟨14, .data⟩, ⟨9, .guard⟩], some (9, false)⟩) (v := undef) rfl (by kernel_rfl) (Or.inr ⟨by rfl, rfl⟩) ?_
      try simp only [Act.put, sT, s0, s1]
      refine tk (i := 16) (oi := ⟨some 33, .fieldAddr 149 (.tmp 32) 2, 0, "slot.go:172", #[⟨15, .data⟩, ⟨9, .guard⟩], some (9, false)⟩) (v := undef) rfl (by kernel_rfl) (Or.inr ⟨by rfl, rfl⟩) ?_
      try simp only [Act.put, sT, s0, s1]
      refine tk (i := 17) (oi := ⟨some 34, .load 38 (.tmp 33), 38, "slot.go:172", #[⟨16, .data⟩, ⟨9, .guard⟩], some (9, false)⟩) (v := undef) rfl (by kernel_rfl) (Or.inr ⟨by rfl, rfl⟩) ?_
      try simp only [Act.put, sT, s0, s1]
      refine tk (i := 18) (oi := ⟨some 35, .call { callee := .value (.func 266), args := #[.tmp 30, .tmp 34], argTypes := #[38, 38] }, 3, "slot.go:172", #[⟨13, .data⟩, ⟨17, .data⟩, ⟨9, .chain⟩, ⟨9, .guard⟩], some (9, false)⟩) (v := undef) rfl (by kernel_rfl) (Or.inr ⟨by rfl, rfl⟩) ?_
      try simp only [Act.put, sT, s0, s1]
      refine tk (i := 19) (oi := ⟨some 36, .binOp .gtr 3 (.tmp 35) (.const (.int .i64 0)) 3, 4, "slot.go:172", #[⟨18, .data⟩, ⟨9, .guard⟩], some (9, false)⟩) (v := undef) rfl (by kernel_rfl) (Or.inr ⟨by rfl, rfl⟩) ?_
      try simp only [Act.put, sT, s0, s1]
      refine tj (i := 20) (oi := ⟨some 37, .pick (.tmp 26) (.const (.bool true)) (.tmp 36), 4, "slot.go:172", #[⟨9, .data⟩, ⟨19, .data⟩, ⟨6, .guard⟩], some (6, true)⟩) rfl (by kernel_rfl) ?_
      try simp only [Act.put, sT, s0, s1]
      refine tj (i := 21) (oi := ⟨some 38, .pick (.tmp 23) (.tmp 37) (.const (.bool false)), 4, "slot.go:172", #[⟨6, .data⟩, ⟨20, .data⟩], none⟩) rfl (by kernel_rfl) ?_
      try simp only [Act.put, sT, s0, s1]
      refine wpAnyH_done (by kernel_rfl) ?_ _
      clear hHeld
      go_wp2_with fail
      rw [rounds_succ]
      go_upto_region 5 with (fail)
      have HX := Lib.hid HX.out.drew
      refine wp_region_held_drew (S := fun w' => w'.cell? ⟨g, 0, none⟩ = some (.func (.func F) #[] caps) ∧ w'.cell? ⟨g, 1, none⟩ = some (.int .i64 1) ∧ w'.cell? ⟨g2, 0, none⟩ = some (.int .u8 (f0.st : Int)) ∧ w'.cell? ⟨g2, 1, none⟩ = some (.int .i64 f0.ix) ∧ w'.cell? ⟨g2, 2, none⟩ = some (.int .i64 f0.bx) ∧ w'.cell? ⟨g2, 3, none⟩ = some (.int .i64 f0.yb) ∧ w'.cell? ⟨g2, 4, none⟩ = some (.int .u8 (f0.e.k : Int)) ∧ w'.cell? ⟨g2, 5, none⟩ = some (.int .i64 f0.e.cl) ∧ w'.cell? ⟨g2, 6, none⟩ = some (.int .i64 f0.e.sq) ∧ w'.cell? ⟨g2, 7, none⟩ = some (.int .u8 (f0.e.ok : Int)) ∧ w'.cell? ⟨g2, 8, none⟩ = some (.string f0.e.key) ∧ w'.cell? ⟨g2, 9, none⟩ = some (.string f0.e.old) ∧ w'.cell? ⟨g2, 10, none⟩ = some (.string f0.e.val) ∧ w'.cell? ⟨g2, 11, none⟩ = some (.int .u8 (f1.st : Int)) ∧ w'.cell? ⟨g2, 12, none⟩ = some (.int .i64 f1.ix) ∧ w'.cell? ⟨g2, 13, none⟩ = some (.int .i64 f1.bx) ∧ w'.cell? ⟨g2, 14, none⟩ = some (.int .i64 f1.yb) ∧ w'.cell? ⟨g2, 15, none⟩ = some (.int .u8 (f1.e.k : Int)) ∧ w'.cell? ⟨g2, 16, none⟩ = some (.int .i64 f1.e.cl) ∧ w'.cell? ⟨g2, 17, none⟩ = some (.int .i64 f1.e.sq) ∧ w'.cell? ⟨g2, 18, none⟩ = some (.int .u8 (f1.e.ok : Int)) ∧ w'.cell? ⟨g2, 19, none⟩ = some (.string f1.e.key) ∧ w'.cell? ⟨g2, 20, none⟩ = some (.string f1.e.old) ∧ w'.cell? ⟨g2, 21, none⟩ = some (.string f1.e.val)) (by kernel_rfl) (use_keep HR.out HT.out HX.out) (fun hHeld => ?_)
      refine tj (i := 0) (oi := ⟨some 17, .fieldAddr 300 (.tmp 2) 0, 0, "slot.go:172", #[], none⟩) rfl (by kernel_rfl) ?_
      try simp only [Act.put, sT, s0, s1]
      refine tj (i := 1) (oi := ⟨some 18, .load 298 (.tmp 17), 298, "slot.go:172", #[⟨0, .data⟩], none⟩) rfl (by kernel_rfl) ?_
      try simp only [Act.put, sT, s0, s1]
      refine tj (i := 2) (oi := ⟨some 19, .move (.tmp 7), 3, "slot.go:172", #[], none⟩) rfl (by kernel_rfl) ?_
      try simp only [Act.put, sT, s0, s1]
      refine tj (i := 3) (oi := ⟨some 20, .indexAddr 150 (.tmp 3) (.tmp 19), 0, "slot.go:172", #[⟨2, .data⟩], none⟩) rfl (by kernel_rfl) ?_
      try simp only [Act.put, sT, s0, s1]
      refine tj (i := 4) (oi := ⟨some 21, .load 149 (.tmp 20), 149, "slot.go:172", #[⟨3, .data⟩], none⟩) rfl (by kernel_rfl) ?_
      try simp only [Act.put, sT, s0, s1]
      refine wpAnyH_ready (rs := [5]) (by kernel_rfl) (by simp) ?_
      refine AllReadyH.cons (o := ⟨some 22, .call { callee := .value (.tmp 18), args := #[.tmp 21], argTypes := #[149] }, 4, "slot.go:172", #[⟨1, .data⟩, ⟨4, .data⟩], none⟩) rfl (fun K hK => ?_) AllReadyH.nil
      go_simp
      refine (H0.out _ HX.out).mono ?_
      rintro e w2 ⟨rfl, hx⟩
      have HX := Lib.hid (HX.out.trans hx)
      clear hx hHeld
      go_wp2_with fail
      refine hK.out _ _ (use_keep HR.out HT.out HX.out) (fun hHeld => ?_)
      clear hK K
      try simp only [Act.put, sT, s0, s1]
      refine tj (i := 6) (oi := ⟨some 23, .move (.tmp 22), 4, "slot.go:172", #[⟨5, .data⟩, ⟨5, .chain⟩], none⟩) rfl (by kernel_rfl) ?_
      try simp only [Act.put, sT, s0, s1]
      refine tj (i := 7) (oi := ⟨some 24, .move (.tmp 5), 3, "slot.go:172", #[⟨6, .guard⟩], some (6, true)⟩) rfl (by kernel_rfl) ?_
      try simp only [Act.put, sT, s0, s1]
      refine tj (i := 8) (oi := ⟨some 25, .binOp .eql 3 (.tmp 24) (.const (.int .i64 (-1))) 3, 4, "slot.go:172", #[⟨7, .data⟩, ⟨6, .guard⟩], some (6, true)⟩) rfl (by kernel_rfl) ?_
      try simp only [Act.put, sT, s0, s1]
      refine tj (i := 9) (oi := ⟨some 26, .move (.tmp 25), 4, "slot.go:172", #[⟨8, .data⟩, ⟨6, .chain⟩, ⟨6, .guard⟩], some (6, true)⟩) rfl (by kernel_rfl) ?_
      try simp only [Act.put, sT, s0, s1]
      refine tj (i := 10) (oi := ⟨some 27, .move (.tmp 7), 3, "slot.go:172", #[⟨9, .guard⟩], some (9, false)⟩) rfl (by kernel_rfl) ?_
      try simp only [Act.put, sT, s0, s1]
      refine tj (i := 11) (oi := ⟨some 28, .indexAddr 150 (.tmp 3) (.tmp 27), 0, "slot.go:172", #[⟨10, .data⟩, ⟨9, .guard⟩], some (9, false)⟩) rfl (by kernel_rfl) ?_
      try simp only [Act.put, sT, s0, s1]
      refine tj (i := 12) (oi := ⟨some 29, .fieldAddr 149 (.tmp 28) 2, 0, "slot.go:172", #[⟨11, .data⟩, ⟨9, .guard⟩], some (9, false)⟩) rfl (by kernel_rfl) ?_
      try simp only [Act.put, sT, s0, s1]
      refine tj (i := 13) (oi := ⟨some 30, .load 38 (.tmp 29), 38, "slot.go:172", #[⟨12, .data⟩, ⟨9, .guard⟩], some (9, false)⟩) rfl (by kernel_rfl) ?_
      try simp only [Act.put, sT, s0, s1]
      refine tj (i := 14) (oi := ⟨some 31, .move (.tmp 5), 3, "slot.go:172", #[⟨9, .guard⟩], some (9, false)⟩) rfl (by kernel_rfl) ?_
      try simp only [Act.put, sT, s0, s1]
      refine tj (i := 15) (oi := ⟨some 32, .indexAddr 150 (.tmp 3) (.tmp 31), 0, "slot.go:172", #[⟨14, .data⟩, ⟨9, .guard⟩], some (9, false)⟩) rfl (by kernel_rfl) ?_
      try simp only [Act.put, sT, s0, s1]
      refine tj (i := 16) (oi := ⟨some 33, .fieldAddr 149 (.tmp 32) 2, 0, "slot.go:172", #[⟨15, .data⟩, ⟨9, .guard⟩], some (9, false)⟩) rfl (by kernel_rfl) ?_
      try simp only [Act.put, sT, s0, s1]
      refine tj (i := 17) (oi := ⟨some 34, .load 38 (.tmp 33), 38, "slot.go:172", #[⟨16, .data⟩, ⟨9, .guard⟩], some (9, false)⟩) rfl (by kernel_rfl) ?_
      try simp only [Act.put, sT, s0, s1]
      refine wpAnyH_ready (rs := [18]) (by kernel_rfl) (by simp) ?_
      refine AllReadyH.cons (o := ⟨some 35, .call { callee := .value (.func 266), args := #[.tmp 30, .tmp 34], argTypes := #[38, 38] }, 3, "slot.go:172", #[⟨13, .data⟩, ⟨17, .data⟩, ⟨9, .chain⟩, ⟨9, .guard⟩], some (9, false)⟩) rfl (fun K hK => ?_) AllReadyH.nil
      go_simp
      refine (HZ.out _).mono ?_
      rintro e w12 ⟨rfl, hx⟩
      have HX := Lib.hid (HX.out.trans hx)
      clear hx hHeld
      go_wp2_with fail
      refine hK.out _ _ (use_keep HR.out HT.out HX.out) (fun hHeld => ?_)
      clear hK K
      try simp only [Act.put, sT, s0, s1]
      refine tj (i := 19) (oi := ⟨some 36, .binOp .gtr 3 (.tmp 35) (.const (.int .i64 0)) 3, 4, "slot.go:172", #[⟨18, .data⟩, ⟨9, .guard⟩], some (9, false)⟩) rfl (by kernel_rfl) ?_
      try simp only [Act.put, sT, s0, s1]
      refine tj (i := 20) (oi := ⟨some 37, .pick (.tmp 26) (.const (.bool true)) (.tmp 36), 4, "slot.go:172", #[⟨9, .data⟩, ⟨19, .data⟩, ⟨6, .guard⟩], some (6, true)⟩) rfl (by kernel_rfl) ?_
      try simp only [Act.put, sT, s0, s1]
      refine tj (i := 21) (oi := ⟨some 38, .pick (.tmp 23) (.tmp 37) (.const (.bool false)), 4, "slot.go:172", #[⟨6, .data⟩, ⟨20, .data⟩], none⟩) rfl (by kernel_rfl) ?_
      try simp only [Act.put, sT, s0, s1]
      refine wpAnyH_done (by kernel_rfl) ?_ _
      clear hHeld
      go_wp2_with fail
      rw [rounds_succ]
      go_wp2_with fail
      go_ret
      exact ⟨rfl, HE.out.trans HX.out⟩
  · rw [if_neg hp]
    have hpb : decide (0 < z) = false := decide_eq_false hp
    clear hp
    go_enter Tryz.func221, Tryz.ntmps221
    go_upto_region 2 with (fail)
    generalize ((w.alloc (.cells #[.func (.func F) #[] caps, .int .i64 1, x2, x3, x4, x5, x6, x7, x8, x9, x10, x11, x12, x13] 300)).alloc (.cells #[.int .u8 (f0.st : Int), .int .i64 f0.ix, .int .i64 f0.bx, .int .i64 f0.yb, .int .u8 (f0.e.k : Int), .int .i64 f0.e.cl, .int .i64 f0.e.sq, .int .u8 (f0.e.ok : Int), .string f0.e.key, .string f0.e.old, .string f0.e.val, .int .u8 (f1.st : Int), .int .i64 f1.ix, .int .i64 f1.bx, .int .i64 f1.yb, .int .u8 (f1.e.k : Int), .int .i64 f1.e.cl, .int .i64 f1.e.sq, .int .u8 (f1.e.ok : Int), .string f1.e.key, .string f1.e.old, .string f1.e.val] 150)) = W at *
    generalize w.heap.size + 1 = g2 at *
    generalize w.heap.size = g at *
    obtain ⟨c0, c1, d0, d1, d2, d3, d4, d5, d6, d7, d8, d9, d10, d11, d12, d13, d14, d15, d16, d17, d18, d19, d20, d21⟩ := use_keep HR.out HT.out (Ext.refl W)
    go_region_held3 (fun w' => w'.cell? ⟨g, 1, none⟩ = some (.int .i64 1))
      (first | assumption | (refine (use_keep HR.out HT.out ?_).2.1; repeat (first | exact Ext.refl _ | refine Ext.drew ?_)))
      (first
        | (go_at_call 145; ((with_reducible refine (HO.out _ (by simp) _).mono ?_); rintro e w1 ⟨rfl, rfl⟩)))
    all_goals
      clear c0 c1 d0 d1 d2 d3 d4 d5 d6 d7 d8 d9 d10 d11 d12 d13 d14 d15 d16 d17 d18 d19 d20 d21
      go_wp2_with fail
      refine wp_loop_rounds 3 ?_
      rw [rounds_succ]
      go_upto_region 5 with (fail)
      have HX := Lib.hid (Ext.refl W).drew.drew
      refine wp_region_held_drew (S := fun w' => w'.cell? ⟨g, 0, none⟩ = some (.func (.func F) #[] caps) ∧ w'.cell? ⟨g, 1, none⟩ = some (.int .i64 1) ∧ w'.cell? ⟨g2, 0, none⟩ = some (.int .u8 (f0.st : Int)) ∧ w'.cell? ⟨g2, 1, none⟩ = some (.int .i64 f0.ix) ∧ w'.cell? ⟨g2, 2, none⟩ = some (.int .i64 f0.bx) ∧ w'.cell? ⟨g2, 3, none⟩ = some (.int .i64 f0.yb) ∧ w'.cell? ⟨g2, 4, none⟩ = some (.int .u8 (f0.e.k : Int)) ∧ w'.cell? ⟨g2, 5, none⟩ = some (.int .i64 f0.e.cl) ∧ w'.cell? ⟨g2, 6, none⟩ = some (.int .i64 f0.e.sq) ∧ w'.cell? ⟨g2, 7, none⟩ = some (.int .u8 (f0.e.ok : Int)) ∧ w'.cell? ⟨g2, 8, none⟩ = some (.string f0.e.key) ∧ w'.cell? ⟨g2, 9, none⟩ = some (.string f0.e.old) ∧ w'.cell? ⟨g2, 10, none⟩ = some (.string f0.e.val) ∧ w'.cell? ⟨g2, 11, none⟩ = some (.int .u8 (f1.st : Int)) ∧ w'.cell? ⟨g2, 12, none⟩ = some (.int .i64 f1.ix) ∧ w'.cell? ⟨g2, 13, none⟩ = some (.int .i64 f1.bx) ∧ w'.cell? ⟨g2, 14, none⟩ = some (.int .i64 f1.yb) ∧ w'.cell? ⟨g2, 15, none⟩ = some (.int .u8 (f1.e.k : Int)) ∧ w'.cell? ⟨g2, 16, none⟩ = some (.int .i64 f1.e.cl) ∧ w'.cell? ⟨g2, 17, none⟩ = some (.int .i64 f1.e.sq) ∧ w'.cell? ⟨g2, 18, none⟩ = some (.int .u8 (f1.e.ok : Int)) ∧ w'.cell? ⟨g2, 19, none⟩ = some (.string f1.e.key) ∧ w'.cell? ⟨g2, 20, none⟩ = some (.string f1.e.old) ∧ w'.cell? ⟨g2, 21, none⟩ = some (.string f1.e.val)) (by kernel_rfl) (use_keep HR.out HT.out HX.out) (fun hHeld => ?_)
      refine tj (i := 0) (oi := ⟨some 17, .fieldAddr 300 (.tmp 2) 0, 0, "slot.go:172", #[], none⟩) rfl (by kernel_rfl) ?_
      try simp only [Act.put, sT, s0, s1]
      refine tj (i := 1) (oi := ⟨some 18, .load 298 (.tmp 17), 298, "slot.go:172", #[⟨0, .data⟩], none⟩) rfl (by kernel_rfl) ?_
      try simp only [Act.put, sT, s0, s1]
      refine tj (i := 2) (oi := ⟨some 19, .move (.tmp 7), 3, "slot.go:172", #[], none⟩) rfl (by kernel_rfl) ?_
      try simp only [Act.put, sT, s0, s1]
      refine tj (i := 3) (oi := ⟨some 20, .indexAddr 150 (.tmp 3) (.tmp 19), 0, "slot.go:172", #[⟨2, .data⟩], none⟩) rfl (by kernel_rfl) ?_
      try simp only [Act.put, sT, s0, s1]
      refine tj (i := 4) (oi := ⟨some 21, .load 149 (.tmp 20), 149, "slot.go:172", #[⟨3, .data⟩], none⟩) rfl (by kernel_rfl) ?_
      try simp only [Act.put, sT, s0, s1]
      refine wpAnyH_ready (rs := [5]) (by kernel_rfl) (by simp) ?_
      refine AllReadyH.cons (o := ⟨some 22, .call { callee := .value (.tmp 18), args := #[.tmp 21], argTypes := #[149] }, 4, "slot.go:172", #[⟨1, .data⟩, ⟨4, .data⟩], none⟩) rfl (fun K hK => ?_) AllReadyH.nil
      go_simp
      refine (H1.out _ HX.out).mono ?_
      rintro e w1 ⟨rfl, hx⟩
      have HX := Lib.hid (HX.out.trans hx)
      clear hx hHeld
      go_wp2_with fail
      refine hK.out _ _ (use_keep HR.out HT.out HX.out) (fun hHeld => ?_)
      clear hK K
      try simp only [Act.put, sT, s0, s1]
      refine tj (i := 6) (oi := ⟨some 23, .move (.tmp 22), 4, "slot.go:172", #[⟨5, .data⟩, ⟨5, .chain⟩], none⟩) rfl (by kernel_rfl) ?_
      try simp only [Act.put, sT, s0, s1]
      refine tj (i := 7) (oi := ⟨some 24, .move (.tmp 5), 3, "slot.go:172", #[⟨6, .guard⟩], some (6, true)⟩) rfl (by kernel_rfl) ?_
      try simp only [Act.put, sT, s0, s1]
      refine tj (i := 8) (oi := ⟨some 25, .binOp .eql 3 (.tmp 24) (.const (.int .i64 (-1))) 3, 4, "slot.go:172", #[⟨7, .data⟩, ⟨6, .guard⟩], some (6, true)⟩) rfl (by kernel_rfl) ?_
      try simp only [Act.put, sT, s0, s1]
      refine tj (i := 9) (oi := ⟨some 26, .move (.tmp 25), 4, "slot.go:172", #[⟨8, .data⟩, ⟨6, .chain⟩, ⟨6, .guard⟩], some (6, true)⟩) rfl (by kernel_rfl) ?_
      try simp only [Act.put, sT, s0, s1]
      refine tk (i := 10) (oi := ⟨some 27, .move (.tmp 7), 3, "slot.go:172", #[⟨9, .guard⟩], some (9, false)⟩) (v := undef) rfl (by kernel_rfl) (Or.inr ⟨by rfl, rfl⟩) ?_
      try simp only [Act.put, sT, s0, s1]
      refine tk (i := 11) (oi := ⟨some 28, .indexAddr 150 (.tmp 3) (.tmp 27), 0, "slot.go:172", #[⟨10, .data⟩, ⟨9, .guard⟩], some (9, false)⟩) (v := undef) rfl (by kernel_rfl) (Or.inr ⟨by rfl, rfl⟩) ?_
      try simp only [Act.put, sT, s0, s1]
      refine tk (i := 12) (oi := ⟨some 29, .fieldAddr 149 (.tmp 28) 2, 0, "slot.go:172", #[⟨11, .data⟩, ⟨9, .guard⟩], some (9, false)⟩) (v := undef) rfl (by kernel_rfl) (Or.inr ⟨by rfl, rfl⟩) ?_
      try simp only [Act.put, sT, s0, s1]
      refine tk (i := 13) (oi := ⟨some 30, .load 38 (.tmp 29), 38, "slot.go:172", #[⟨12, .data⟩, ⟨9, .guard⟩], some (9, false)⟩) (v := undef) rfl (by kernel_rfl) (Or.inr ⟨by rfl, rfl⟩) ?_
      try simp only [Act.put, sT, s0, s1]
      refine tk (i := 14) (oi := ⟨some 31, .move (.tmp 5), 3, "slot.go:172", #[⟨9, .guard⟩], some (9, false)⟩) (v := undef) rfl (by kernel_rfl) (Or.inr ⟨by rfl, rfl⟩) ?_
      try simp only [Act.put, sT, s0, s1]
      refine tk (i := 15) (oi := ⟨some 32, .indexAddr 150 (.tmp 3) (.tmp 31), 0, "slot.go:172", #[⟨14, .data⟩, ⟨9, .guard⟩], some (9, false)⟩) (v := undef) rfl (by kernel_rfl) (Or.inr ⟨by rfl, rfl⟩) ?_
      try simp only [Act.put, sT, s0, s1]
      refine tk (i := 16) (oi := ⟨some 33, .fieldAddr 149 (.tmp 32) 2, 0, "slot.go:172", #[⟨15, .data⟩, ⟨9, .guard⟩], some (9, false)⟩) (v := undef) rfl (by kernel_rfl) (Or.inr ⟨by rfl, rfl⟩) ?_
      try simp only [Act.put, sT, s0, s1]
      refine tk (i := 17) (oi := ⟨some 34, .load 38 (.tmp 33), 38, "slot.go:172", #[⟨16, .data⟩, ⟨9, .guard⟩], some (9, false)⟩) (v := undef) rfl (by kernel_rfl) (Or.inr ⟨by rfl, rfl⟩) ?_
      try simp only [Act.put, sT, s0, s1]
      refine tk (i := 18) (oi := ⟨some 35, .call { callee := .value (.func 266), args := #[.tmp 30, .tmp 34], argTypes := #[38, 38] }, 3, "slot.go:172", #[⟨13, .data⟩, ⟨17, .data⟩, ⟨9, .chain⟩, ⟨9, .guard⟩], some (9, false)⟩) (v := undef) rfl (by kernel_rfl) (Or.inr ⟨by rfl, rfl⟩) ?_
      try simp only [Act.put, sT, s0, s1]
      refine tk (i := 19) (oi := ⟨some 36, .binOp .gtr 3 (.tmp 35) (.const (.int .i64 0)) 3, 4, "slot.go:172", #[⟨18, .data⟩, ⟨9, .guard⟩], some (9, false)⟩) (v := undef) rfl (by kernel_rfl) (Or.inr ⟨by rfl, rfl⟩) ?_
      try simp only [Act.put, sT, s0, s1]
      refine tj (i := 20) (oi := ⟨some 37, .pick (.tmp 26) (.const (.bool true)) (.tmp 36), 4, "slot.go:172", #[⟨9, .data⟩, ⟨19, .data⟩, ⟨6, .guard⟩], some (6, true)⟩) rfl (by kernel_rfl) ?_
      try simp only [Act.put, sT, s0, s1]
      refine tj (i := 21) (oi := ⟨some 38, .pick (.tmp 23) (.tmp 37) (.const (.bool false)), 4, "slot.go:172", #[⟨6, .data⟩, ⟨20, .data⟩], none⟩) rfl (by kernel_rfl) ?_
      try simp only [Act.put, sT, s0, s1]
      refine wpAnyH_done (by kernel_rfl) ?_ _
      clear hHeld
      go_wp2_with fail
      rw [rounds_succ]
      go_upto_region 5 with (fail)
      have HX := Lib.hid HX.out.drew
      refine wp_region_held_drew (S := fun w' => w'.cell? ⟨g, 0, none⟩ = some (.func (.func F) #[] caps) ∧ w'.cell? ⟨g, 1, none⟩ = some (.int .i64 1) ∧ w'.cell? ⟨g2, 0, none⟩ = some (.int .u8 (f0.st : Int)) ∧ w'.cell? ⟨g2, 1, none⟩ = some (.int .i64 f0.ix) ∧ w'.cell? ⟨g2, 2, none⟩ = some (.int .i64 f0.bx) ∧ w'.cell? ⟨g2, 3, none⟩ = some (.int .i64 f0.yb) ∧ w'.cell? ⟨g2, 4, none⟩ = some (.int .u8 (f0.e.k : Int)) ∧ w'.cell? ⟨g2, 5, none⟩ = some (.int .i64 f0.e.cl) ∧ w'.cell? ⟨g2, 6, none⟩ = some (.int .i64 f0.e.sq) ∧ w'.cell? ⟨g2, 7, none⟩ = some (.int .u8 (f0.e.ok : Int)) ∧ w'.cell? ⟨g2, 8, none⟩ = some (.string f0.e.key) ∧ w'.cell? ⟨g2, 9, none⟩ = some (.string f0.e.old) ∧ w'.cell? ⟨g2, 10, none⟩ = some (.string f0.e.val) ∧ w'.cell? ⟨g2, 11, none⟩ = some (.int .u8 (f1.st : Int)) ∧ w'.cell? ⟨g2, 12, none⟩ = some (.int .i64 f1.ix) ∧ w'.cell? ⟨g2, 13, none⟩ = some (.int .i64 f1.bx) ∧ w'.cell? ⟨g2, 14, none⟩ = some (.int .i64 f1.yb) ∧ w'.cell? ⟨g2, 15, none⟩ = some (.int .u8 (f1.e.k : Int)) ∧ w'.cell? ⟨g2, 16, none⟩ = some (.int .i64 f1.e.cl) ∧ w'.cell? ⟨g2, 17, none⟩ = some (.int .i64 f1.e.sq) ∧ w'.cell? ⟨g2, 18, none⟩ = some (.int .u8 (f1.e.ok : Int)) ∧ w'.cell? ⟨g2, 19, none⟩ = some (.string f1.e.key) ∧ w'.cell? ⟨g2, 20, none⟩ = some (.string f1.e.old) ∧ w'.cell? ⟨g2, 21, none⟩ = some (.string f1.e.val)) (by kernel_rfl) (use_keep HR.out HT.out HX.out) (fun hHeld => ?_)
      refine tj (i := 0) (oi := ⟨some 17, .fieldAddr 300 (.tmp 2) 0, 0, "slot.go:172", #[], none⟩) rfl (by kernel_rfl) ?_
      try simp only [Act.put, sT, s0, s1]
      refine tj (i := 1) (oi := ⟨some 18, .load 298 (.tmp 17), 298, "slot.go:172", #[⟨0, .data⟩], none⟩) rfl (by kernel_rfl) ?_
      try simp only [Act.put, sT, s0, s1]
      refine tj (i := 2) (oi := ⟨some 19, .move (.tmp 7), 3, "slot.go:172", #[], none⟩) rfl (by kernel_rfl) ?_
      try simp only [Act.put, sT, s0, s1]
      refine tj (i := 3) (oi := ⟨some 20, .indexAddr 150 (.tmp 3) (.tmp 19), 0, "slot.go:172", #[⟨2, .data⟩], none⟩) rfl (by kernel_rfl) ?_
      try simp only [Act.put, sT, s0, s1]
      refine tj (i := 4) (oi := ⟨some 21, .load 149 (.tmp 20), 149, "slot.go:172", #[⟨3, .data⟩], none⟩) rfl (by kernel_rfl) ?_
      try simp only [Act.put, sT, s0, s1]
      refine wpAnyH_ready (rs := [5]) (by kernel_rfl) (by simp) ?_
      refine AllReadyH.cons (o := ⟨some 22, .call { callee := .value (.tmp 18), args := #[.tmp 21], argTypes := #[149] }, 4, "slot.go:172", #[⟨1, .data⟩, ⟨4, .data⟩], none⟩) rfl (fun K hK => ?_) AllReadyH.nil
      go_simp
      refine (H0.out _ HX.out).mono ?_
      rintro e w2 ⟨rfl, hx⟩
      have HX := Lib.hid (HX.out.trans hx)
      clear hx hHeld
      go_wp2_with fail
      refine hK.out _ _ (use_keep HR.out HT.out HX.out) (fun hHeld => ?_)
      clear hK K
      try simp only [Act.put, sT, s0, s1]
      refine tj (i := 6) (oi := ⟨some 23, .move (.tmp 22), 4, "slot.go:172", #[⟨5, .data⟩, ⟨5, .chain⟩], none⟩) rfl (by kernel_rfl) ?_
      try simp only [Act.put, sT, s0, s1]
      refine tj (i := 7) (oi := ⟨some 24, .move (.tmp 5), 3, "slot.go:172", #[⟨6, .guard⟩], some (6, true)⟩) rfl (by kernel_rfl) ?_
      try simp only [Act.put, sT, s0, s1]
      refine tj (i := 8) (oi := ⟨some 25, .binOp .eql 3 (.tmp 24) (.const (.int .i64 (-1))) 3, 4, "slot.go:172", #[⟨7, .data⟩, ⟨6, .guard⟩], some (6, true)⟩) rfl (by kernel_rfl) ?_
      try simp only [Act.put, sT, s0, s1]
      refine tj (i := 9) (oi := ⟨some 26, .move (.tmp 25), 4, "slot.go:172", #[⟨8, .data⟩, ⟨6, .chain⟩, ⟨6, .guard⟩], some (6, true)⟩) rfl (by kernel_rfl) ?_
      try simp only [Act.put, sT, s0, s1]
      refine tj (i := 10) (oi := ⟨some 27, .move (.tmp 7), 3, "slot.go:172", #[⟨9, .guard⟩], some (9, false)⟩) rfl (by kernel_rfl) ?_
      try simp only [Act.put, sT, s0, s1]
      refine tj (i := 11) (oi := ⟨some 28, .indexAddr 150 (.tmp 3) (.tmp 27), 0, "slot.go:172", #[⟨10, .data⟩, ⟨9, .guard⟩], some (9, false)⟩) rfl (by kernel_rfl) ?_
      try simp only [Act.put, sT, s0, s1]
      refine tj (i := 12) (oi := ⟨some 29, .fieldAddr 149 (.tmp 28) 2, 0, "slot.go:172", #[⟨11, .data⟩, ⟨9, .guard⟩], some (9, false)⟩) rfl (by kernel_rfl) ?_
      try simp only [Act.put, sT, s0, s1]
      refine tj (i := 13) (oi := ⟨some 30, .load 38 (.tmp 29), 38, "slot.go:172", #[⟨12, .data⟩, ⟨9, .guard⟩], some (9, false)⟩) rfl (by kernel_rfl) ?_
      try simp only [Act.put, sT, s0, s1]
      refine tj (i := 14) (oi := ⟨some 31, .move (.tmp 5), 3, "slot.go:172", #[⟨9, .guard⟩], some (9, false)⟩) rfl (by kernel_rfl) ?_
      try simp only [Act.put, sT, s0, s1]
      refine tj (i := 15) (oi := ⟨some 32, .indexAddr 150 (.tmp 3) (.tmp 31), 0, "slot.go:172", #[⟨14, .data⟩, ⟨9, .guard⟩], some (9, false)⟩) rfl (by kernel_rfl) ?_
      try simp only [Act.put, sT, s0, s1]
      refine tj (i := 16) (oi := ⟨some 33, .fieldAddr 149 (.tmp 32) 2, 0, "slot.go:172", #[⟨15, .data⟩, ⟨9, .guard⟩], some (9, false)⟩) rfl (by kernel_rfl) ?_
      try simp only [Act.put, sT, s0, s1]
      refine tj (i := 17) (oi := ⟨some 34, .load 38 (.tmp 33), 38, "slot.go:172", #[⟨16, .data⟩, ⟨9, .guard⟩], some (9, false)⟩) rfl (by kernel_rfl) ?_
      try simp only [Act.put, sT, s0, s1]
      refine wpAnyH_ready (rs := [18]) (by kernel_rfl) (by simp) ?_
      refine AllReadyH.cons (o := ⟨some 35, .call { callee := .value (.func 266), args := #[.tmp 30, .tmp 34], argTypes := #[38, 38] }, 3, "slot.go:172", #[⟨13, .data⟩, ⟨17, .data⟩, ⟨9, .chain⟩, ⟨9, .guard⟩], some (9, false)⟩) rfl (fun K hK => ?_) AllReadyH.nil
      go_simp
      refine (HZ.out _).mono ?_
      rintro e w12 ⟨rfl, hx⟩
      have HX := Lib.hid (HX.out.trans hx)
      clear hx hHeld
      go_wp2_with fail
      refine hK.out _ _ (use_keep HR.out HT.out HX.out) (fun hHeld => ?_)
      clear hK K
      try simp only [Act.put, sT, s0, s1]
      refine tj (i := 19) (oi := ⟨some 36, .binOp .gtr 3 (.tmp 35) (.const (.int .i64 0)) 3, 4, "slot.go:172", #[⟨18, .data⟩, ⟨9, .guard⟩], some (9, false)⟩) rfl (by kernel_rfl) ?_
      try simp only [Act.put, sT, s0, s1]
      refine tj (i := 20) (oi := ⟨some 37, .pick (.tmp 26) (.const (.bool true)) (.tmp 36), 4, "slot.go:172", #[⟨9, .data⟩, ⟨19, .data⟩, ⟨6, .guard⟩], some (6, true)⟩) rfl (by kernel_rfl) ?_
      try simp only [Act.put, sT, s0, s1]
      refine tj (i := 21) (oi := ⟨some 38, .pick (.tmp 23) (.tmp 37) (.const (.bool false)), 4, "slot.go:172", #[⟨6, .data⟩, ⟨20, .data⟩], none⟩) rfl (by kernel_rfl) ?_
      try simp only [Act.put, sT, s0, s1]
      refine wpAnyH_done (by kernel_rfl) ?_ _
      clear hHeld
      go_wp2_with fail
      rw [rounds_succ]
      go_wp2_with fail
      go_ret
      exact ⟨rfl, HE.out.trans HX.out⟩
end
section
open Go Go.RowKit
theorem use_of (F : Nat) (caps : Array Value) (fi : Int) (hfi : fi = 0 ∨ fi = 1) (x2 x3 x4 x5 x6 x7 x8 x9 x10 x11 x12 x13 : Value) (f0 f1 : CopL) (b0 b1 : Bool) (w : World) (hgo : Enters Tryz.prog F) (h0 : Asks w F caps f0 b0) (h1 : Asks w F caps f1 b1) :
    Calls Tryz.prog 221 #[.agg #[.func (.func F) #[] caps, .int .i64 fi, x2, x3, x4, x5, x6, x7, x8, x9, x10, x11, x12, x13], .agg #[.int .u8 (f0.st : Int), .int .i64 f0.ix, .int .i64 f0.bx, .int .i64 f0.yb, .int .u8 (f0.e.k : Int), .int .i64 f0.e.cl, .int .i64 f0.e.sq, .int .u8 (f0.e.ok : Int), .string f0.e.key, .string f0.e.old, .string f0.e.val, .int .u8 (f1.st : Int), .int .i64 f1.ix, .int .i64 f1.bx, .int .i64 f1.yb, .int .u8 (f1.e.k : Int), .int .i64 f1.e.cl, .int .i64 f1.e.sq, .int .u8 (f1.e.ok : Int), .string f1.e.key, .string f1.e.old, .string f1.e.val]] w fun e w' => e = .returned (.int .i64 (useL fi b0 b1 f0 f1)) ∧ Ext w w' := by
  have hv : ∀ a b : Int, a = b → (Ending.returned (Value.int .i64 a)) = .returned (.int .i64 b) := fun a b h => by rw [h]
  rcases hfi with rfl | rfl <;> cases b0 <;> cases b1
  · exact (use0_ff F caps x2 x3 x4 x5 x6 x7 x8 x9 x10 x11 x12 x13 f0 f1 w hgo h0 h1).mono fun e w' ⟨he, hx⟩ => ⟨he.trans (hv _ _ (by unfold useL pickW; simp)), hx⟩
  · exact (use0_ft F caps x2 x3 x4 x5 x6 x7 x8 x9 x10 x11 x12 x13 f0 f1 w hgo h0 h1).mono fun e w' ⟨he, hx⟩ => ⟨he.trans (hv _ _ (by unfold useL pickW; simp)), hx⟩
  · exact (use0_tf F caps x2 x3 x4 x5 x6 x7 x8 x9 x10 x11 x12 x13 f0 f1 w hgo h0 h1).mono fun e w' ⟨he, hx⟩ => ⟨he.trans (hv _ _ (by unfold useL pickW; simp)), hx⟩
  · refine (use0_tt F caps x2 x3 x4 x5 x6 x7 x8 x9 x10 x11 x12 x13 f0 f1 w hgo h0 h1).mono fun e w' ⟨he, hx⟩ => ⟨he.trans (hv _ _ ?_), hx⟩
    by_cases hh : gtL f1.bx f1.yb f0.bx f0.yb
    · have hp := balI_pos.2 hh
      unfold useL pickW
      simp [hh, hp]
    · have hp : ¬ 0 < balI f1.bx f1.yb f0.bx f0.yb := fun h => hh (balI_pos.1 h)
      unfold useL pickW
      simp [hh, hp]
  · exact (use1_ff F caps x2 x3 x4 x5 x6 x7 x8 x9 x10 x11 x12 x13 f0 f1 w hgo h0 h1).mono fun e w' ⟨he, hx⟩ => ⟨he.trans (hv _ _ (by unfold useL pickW; simp)), hx⟩
  · exact (use1_ft F caps x2 x3 x4 x5 x6 x7 x8 x9 x10 x11 x12 x13 f0 f1 w hgo h0 h1).mono fun e w' ⟨he, hx⟩ => ⟨he.trans (hv _ _ (by unfold useL pickW; simp)), hx⟩
  · exact (use1_tf F caps x2 x3 x4 x5 x6 x7 x8 x9 x10 x11 x12 x13 f0 f1 w hgo h0 h1).mono fun e w' ⟨he, hx⟩ => ⟨he.trans (hv _ _ (by unfold useL pickW; simp)), hx⟩
  · refine (use1_tt F caps x2 x3 x4 x5 x6 x7 x8 x9 x10 x11 x12 x13 f0 f1 w hgo h0 h1).mono fun e w' ⟨he, hx⟩ => ⟨he.trans (hv _ _ ?_), hx⟩
    by_cases hh : gtL f0.bx f0.yb f1.bx f1.yb
    · have hp := balI_pos.2 hh
      unfold useL pickW
      simp [hh, hp]
    · have hp : ¬ 0 < balI f0.bx f0.yb f1.bx f1.yb := fun h => hh (balI_pos.1 h)
      unfold useL pickW
      simp [hh, hp]
end
section
open Go Go.RowKit
structure WhS (w W : World) (p : Rec) (f0 f1 : CopL) (g g1 g2 : Nat) (rp : Array Value) : Prop where
  rec_ : RecAt W g p
  two : TwoL W g1 f0 f1
  rep : W.heap[g2]? = some (.cells rp 80 (0, 0))
  ext : Ext w W
  ne : g ≠ g2 ∧ g1 ≠ g2 ∧ w.heap.size ≤ g2
theorem WhS.make (w : World) (p : Rec) (f0 f1 : CopL) : WhS w (((w.alloc (.cells #[.int .u8 (p.st : Int), .int .i64 p.ix, .int .i64 p.bx, .int .i64 p.yb, .int .i64 p.wh] 147)).alloc (.cells #[.int .u8 (f0.st : Int), .int .i64 f0.ix, .int .i64 f0.bx, .int .i64 f0.yb, .int .u8 (f0.e.k : Int), .int .i64 f0.e.cl, .int .i64 f0.e.sq, .int .u8 (f0.e.ok : Int), .string f0.e.key, .string f0.e.old, .string f0.e.val, .int .u8 (f1.st : Int), .int .i64 f1.ix, .int .i64 f1.bx, .int .i64 f1.yb, .int .u8 (f1.e.k : Int), .int .i64 f1.e.cl, .int .i64 f1.e.sq, .int .u8 (f1.e.ok : Int), .string f1.e.key, .string f1.e.old, .string f1.e.val] 150)).alloc (.cells #[.int .i64 0, .int .u8 0, .int .i64 0, .int .i64 0, .int .u8 0, .int .i64 0, .int .i64 0, .int .u8 0, .string ⟨#[]⟩, .string ⟨#[]⟩, .string ⟨#[]⟩] 80)) p f0 f1 w.heap.size (w.heap.size + 1) (w.heap.size + 1 + 1) #[.int .i64 0, .int .u8 0, .int .i64 0, .int .i64 0, .int .u8 0, .int .i64 0, .int .i64 0, .int .u8 0, .string ⟨#[]⟩, .string ⟨#[]⟩, .string ⟨#[]⟩] := by
  have row : ∀ (V : World) (cs : Array Value) (t : TypeId) (k : Nat), k = V.heap.size → (V.alloc (.cells cs t)).heap[k]? = some (.cells cs t (0, 0)) := fun V cs t k hk => by subst hk; exact heap_alloc_new V _
  have past : ∀ (V : World) (o ob : Obj) (k : Nat), V.heap[k]? = some ob → (V.alloc o).heap[k]? = some ob := fun V o ob k h => keep_row ((Ext.refl V).alloc o) h
  refine ⟨?_, ?_, ?_, ?_, ?_⟩
  · exact past _ _ _ _ (past _ _ _ _ (row _ _ _ _ rfl))
  · exact past _ _ _ _ (row _ _ _ _ (by simp))
  · exact row _ _ _ _ (by simp)
  · exact ((((Ext.refl w).alloc _).alloc _).alloc _)
  · omega
theorem WhS.mono {w W W' : World} {p : Rec} {f0 f1 : CopL} {g g1 g2 : Nat} {rp : Array Value} (h : WhS w W p f0 f1 g g1 g2 rp) (k : Ext W W') : WhS w W' p f0 f1 g g1 g2 rp :=
  ⟨h.rec_.ext k, h.two.ext k, keep_row k h.rep, h.ext.trans k, h.ne⟩
theorem rep_cells {w : World} {g2 : Nat} {x0 x1 x2 x3 x4 x5 x6 x7 x8 x9 x10 : Value} (h : w.heap[g2]? = some (.cells #[x0, x1, x2, x3, x4, x5, x6, x7, x8, x9, x10] 80 (0, 0))) : w.cell? ⟨g2, 0, none⟩ = some (x0) ∧ w.cell? ⟨g2, 1, none⟩ = some (x1) ∧ w.cell? ⟨g2, 2, none⟩ = some (x2) ∧ w.cell? ⟨g2, 3, none⟩ = some (x3) ∧ w.cell? ⟨g2, 4, none⟩ = some (x4) ∧ w.cell? ⟨g2, 5, none⟩ = some (x5) ∧ w.cell? ⟨g2, 6, none⟩ = some (x6) ∧ w.cell? ⟨g2, 7, none⟩ = some (x7) ∧ w.cell? ⟨g2, 8, none⟩ = some (x8) ∧ w.cell? ⟨g2, 9, none⟩ = some (x9) ∧ w.cell? ⟨g2, 10, none⟩ = some (x10) := ⟨cell_of_row w g2 0 _ _ _ h, cell_of_row w g2 1 _ _ _ h, cell_of_row w g2 2 _ _ _ h, cell_of_row w g2 3 _ _ _ h, cell_of_row w g2 4 _ _ _ h, cell_of_row w g2 5 _ _ _ h, cell_of_row w g2 6 _ _ _ h, cell_of_row w g2 7 _ _ _ h, cell_of_row w g2 8 _ _ _ h, cell_of_row w g2 9 _ _ _ h, cell_of_row w g2 10 _ _ _ h⟩
theorem row_range {w : World} {g : Nat} {t : TypeId} (l : List Value) (h : w.heap[g]? = some (.cells l.toArray t (0, 0))) (o : Nat) : w.rangeAt g o (l.drop o) := fun j v hv => by
  rw [cell_of_row w g (o + j) _ _ _ h, List.getElem?_toArray, ← List.getElem?_drop]
  exact hv
theorem half0 {w : World} {g1 : Nat} {f0 f1 : CopL} (h : TwoL w g1 f0 f1) : w.cell? ⟨g1, 2, none⟩ = some (.int .i64 f0.bx) ∧ w.cell? ⟨g1, 3, none⟩ = some (.int .i64 f0.yb) ∧ w.cell? ⟨g1, 4, none⟩ = some (.int .u8 (f0.e.k : Int)) ∧ w.cell? ⟨g1, 5, none⟩ = some (.int .i64 f0.e.cl) ∧ w.cell? ⟨g1, 6, none⟩ = some (.int .i64 f0.e.sq) ∧ w.cell? ⟨g1, 7, none⟩ = some (.int .u8 (f0.e.ok : Int)) ∧ w.cell? ⟨g1, 8, none⟩ = some (.string f0.e.key) ∧ w.cell? ⟨g1, 9, none⟩ = some (.string f0.e.old) ∧ w.cell? ⟨g1, 10, none⟩ = some (.string f0.e.val) := ⟨cell_of_row w g1 2 _ _ _ h, cell_of_row w g1 3 _ _ _ h, cell_of_row w g1 4 _ _ _ h, cell_of_row w g1 5 _ _ _ h, cell_of_row w g1 6 _ _ _ h, cell_of_row w g1 7 _ _ _ h, cell_of_row w g1 8 _ _ _ h, cell_of_row w g1 9 _ _ _ h, cell_of_row w g1 10 _ _ _ h⟩
theorem half1 {w : World} {g1 : Nat} {f0 f1 : CopL} (h : TwoL w g1 f0 f1) : w.cell? ⟨g1, 13, none⟩ = some (.int .i64 f1.bx) ∧ w.cell? ⟨g1, 14, none⟩ = some (.int .i64 f1.yb) ∧ w.cell? ⟨g1, 15, none⟩ = some (.int .u8 (f1.e.k : Int)) ∧ w.cell? ⟨g1, 16, none⟩ = some (.int .i64 f1.e.cl) ∧ w.cell? ⟨g1, 17, none⟩ = some (.int .i64 f1.e.sq) ∧ w.cell? ⟨g1, 18, none⟩ = some (.int .u8 (f1.e.ok : Int)) ∧ w.cell? ⟨g1, 19, none⟩ = some (.string f1.e.key) ∧ w.cell? ⟨g1, 20, none⟩ = some (.string f1.e.old) ∧ w.cell? ⟨g1, 21, none⟩ = some (.string f1.e.val) := ⟨cell_of_row w g1 13 _ _ _ h, cell_of_row w g1 14 _ _ _ h, cell_of_row w g1 15 _ _ _ h, cell_of_row w g1 16 _ _ _ h, cell_of_row w g1 17 _ _ _ h, cell_of_row w g1 18 _ _ _ h, cell_of_row w g1 19 _ _ _ h, cell_of_row w g1 20 _ _ _ h, cell_of_row w g1 21 _ _ _ h⟩
theorem WhS.put {w W : World} {p : Rec} {f0 f1 : CopL} {g g1 g2 : Nat} {z0 z1 z2 z3 z4 z5 z6 z7 z8 z9 z10 : Value} (h : WhS w W p f0 f1 g g1 g2 #[z0, z1, z2, z3, z4, z5, z6, z7, z8, z9, z10]) (x0 x1 x2 x3 x4 x5 x6 x7 x8 x9 x10 : Value) :
    WhS w ((((((((((((W.setCell ⟨g2, 0, none⟩ (x0)).setCell ⟨g2, 1, none⟩ (x1)).setCell ⟨g2, 2, none⟩ (x2)).setCell ⟨g2, 3, none⟩ (x3)).setCell ⟨g2, 4, none⟩ (x4)).setCell ⟨g2, 5, none⟩ (x5)).setCell ⟨g2, 6, none⟩ (x6)).setCell ⟨g2, 7, none⟩ (x7)).setCell ⟨g2, 8, none⟩ (x8)).setCell ⟨g2, 9, none⟩ (x9)).setCell ⟨g2, 10, none⟩ (x10))) p f0 f1 g g1 g2 #[x0, x1, x2, x3, x4, x5, x6, x7, x8, x9, x10] :=
  ⟨off11 h.rec_ h.ne.1 _ _ _ _ _ _ _ _ _ _ _, off11 h.two h.ne.2.1 _ _ _ _ _ _ _ _ _ _ _, row11 h.rep _ _ _ _ _ _ _ _ _ _ _, ext11 h.ext h.ne.2.2 _ _ _ _ _ _ _ _ _ _ _, h.ne⟩
theorem WhS.put0 {w W : World} {p : Rec} {f0 f1 : CopL} {g g1 g2 : Nat} {z0 z1 z2 z3 z4 z5 z6 z7 z8 z9 z10 : Value} (h : WhS w W p f0 f1 g g1 g2 #[z0, z1, z2, z3, z4, z5, z6, z7, z8, z9, z10]) (x : Value) :
    WhS w (W.setCell ⟨g2, 0, none⟩ x) p f0 f1 g g1 g2 #[x, z1, z2, z3, z4, z5, z6, z7, z8, z9, z10] :=
  ⟨off_setL h.rec_ h.ne.1 [x] 0, off_setL h.two h.ne.2.1 [x] 0, row_set1 h.rep x, ext_setL h.ext h.ne.2.2 [x] 0, h.ne⟩
end
end Go.Proofs.YtmbmpabjclkhlaaGreatDoor
