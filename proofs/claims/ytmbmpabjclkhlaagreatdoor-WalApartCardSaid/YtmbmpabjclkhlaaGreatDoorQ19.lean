/-
  The contract of slot's Parse.
-/
import Derived.Test.YtmbmpabjclkhlaaGreatDoorQ00
import Derived.Test.YtmbmpabjclkhlaaGreatDoorQ18
import Derived.Deep.DeepCutAuto
namespace Go.Proofs.YtmbmpabjclkhlaaGreatDoor
set_option maxRecDepth 100000
section
open Go Go.RowKit
set_option maxHeartbeats 600000 in
theorem sparse_0 (A : Option Addr) (n c : Nat) (l : List Nat) (w : World) (hL : LaidS w) (hb : By w A n c l) (hm : n ≤ 1000) (hg0 : getS l 0 6 = (0, 0, 10)) :
    Calls Tryz.prog 219 #[.slice A n c] w fun e w' => e = .returned (.tuple #[.agg #[.int .i64 0, .int .i64 0], .int .i64 0, .int .i64 90]) ∧ Ext w w' := by
  have HL := Lib.hid hL
  have HB := Lib.hid hb
  have G0 := Lib.hid (sget A l n c 0 6 _ _ _ hg0 · · · (by omega))
  clear hg0
  have HS := Lib.hid (PaS.make w)
  have i0 := fun w => (idx_three 6 1 1 w).1
  have i1 := fun w => (idx_three 6 1 1 w).2.1
  have i2 := fun w => (idx_three 6 1 1 w).2.2
  clear hL hb hm
  go_enter Tryz.func219, Tryz.ntmps219
  go_upto_region 3 with (fail)
  generalize ((w.alloc (.cells #[.int .i64 0, .int .i64 0] 38)).alloc (.cells #[.int .i64 0, .int .i64 0, .int .i64 0] 233)) = W0 at *
  generalize w.heap.size + 1 = g1 at *
  generalize hg : w.heap.size = g at *
  have HGG := Lib.hid hg
  clear hg
  obtain ⟨t0, t1, t2⟩ := (HL.out.ext HS.out.ext).t
  go_wp2_with fail
  refine wp_loop_rounds 4 ?_
  clear t0 t1 t2
  rw [rounds_succ]
  go_wp2_with fail
  refine (G0.out W0 (HL.out.ext HS.out.ext).o (HB.out.ext HS.out.ext)).mono ?_
  rintro e v0 ⟨rfl, hw⟩
  subst v0
  have e0 := frozen_of_row W0 g 0 _ _ HS.out.bal
  have e1 := frozen_of_row W0 g 1 _ _ HS.out.bal
  have z0 := cell_of_row W0 g 0 _ _ _ HS.out.bal
  have z1 := cell_of_row W0 g 1 _ _ _ HS.out.bal
  have HS := Lib.hid (HS.out.ball 0 0)
  go_wp2_with fail
  generalize ((W0.setCell ⟨g, 0, none⟩ (.int .i64 0)).setCell ⟨g, 1, none⟩ (.int .i64 0)) = V at *
  clear e0 e1 z0 z1
  have z0 := cell_of_row V g 0 _ _ _ HS.out.bal
  have z1 := cell_of_row V g 1 _ _ _ HS.out.bal
  refine bodyPost_ret (v := .tuple #[.agg #[.int .i64 0, .int .i64 0], .int .i64 0, .int .i64 90]) (by simp [results, Tryz.results219, go_sem, z0, z1]) rfl ⟨rfl, HS.out.ext⟩
set_option maxHeartbeats 600000 in
theorem sparse_1 (A : Option Addr) (n c : Nat) (l : List Nat) (w : World) (hL : LaidS w) (hb : By w A n c l) (hm : n ≤ 1000) (X0 : Nat) (hg0 : getS l 0 6 = (X0, 6, 0)) (hg1 : getS l 6 1 = (0, 0, 10)) :
    Calls Tryz.prog 219 #[.slice A n c] w fun e w' => e = .returned (.tuple #[.agg #[.int .i64 0, .int .i64 0], .int .i64 0, .int .i64 90]) ∧ Ext w w' := by
  have HL := Lib.hid hL
  have HB := Lib.hid hb
  have G0 := Lib.hid (sget A l n c 0 6 _ _ _ hg0 · · · (by omega))
  clear hg0
  have G1 := Lib.hid (sget A l n c 6 1 _ _ _ hg1 · · · (by omega))
  clear hg1
  have HS := Lib.hid (PaS.make w)
  have i0 := fun w => (idx_three 6 1 1 w).1
  have i1 := fun w => (idx_three 6 1 1 w).2.1
  have i2 := fun w => (idx_three 6 1 1 w).2.2
  clear hL hb hm
  go_enter Tryz.func219, Tryz.ntmps219
  go_upto_region 3 with (fail)
  generalize ((w.alloc (.cells #[.int .i64 0, .int .i64 0] 38)).alloc (.cells #[.int .i64 0, .int .i64 0, .int .i64 0] 233)) = W0 at *
  generalize w.heap.size + 1 = g1 at *
  generalize hg : w.heap.size = g at *
  have HGG := Lib.hid hg
  clear hg
  obtain ⟨t0, t1, t2⟩ := (HL.out.ext HS.out.ext).t
  go_wp2_with fail
  refine wp_loop_rounds 4 ?_
  clear t0 t1 t2
  rw [rounds_succ]
  go_wp2_with fail
  refine (G0.out W0 (HL.out.ext HS.out.ext).o (HB.out.ext HS.out.ext)).mono ?_
  rintro e v0 ⟨rfl, hw⟩
  subst v0
  have s0 := cell_of_row W0 g1 0 _ _ _ HS.out.num
  have s1 := frozen_of_row W0 g1 0 _ _ HS.out.num
  have HS := Lib.hid (HS.out.put0 (X0 : Int))
  go_upto_region 10 with (fail)
  generalize (W0.setCell ⟨g1, 0, none⟩ (.int .i64 (X0 : Int))) = W1 at *
  clear s0 s1
  go_wp2_with fail
  rw [rounds_succ]
  go_wp2_with fail
  refine (G1.out W1 (HL.out.ext HS.out.ext).o (HB.out.ext HS.out.ext)).mono ?_
  rintro e v1 ⟨rfl, hw⟩
  subst v1
  have e0 := frozen_of_row W1 g 0 _ _ HS.out.bal
  have e1 := frozen_of_row W1 g 1 _ _ HS.out.bal
  have z0 := cell_of_row W1 g 0 _ _ _ HS.out.bal
  have z1 := cell_of_row W1 g 1 _ _ _ HS.out.bal
  have HS := Lib.hid (HS.out.ball 0 0)
  go_wp2_with fail
  generalize ((W1.setCell ⟨g, 0, none⟩ (.int .i64 0)).setCell ⟨g, 1, none⟩ (.int .i64 0)) = V at *
  clear e0 e1 z0 z1
  have z0 := cell_of_row V g 0 _ _ _ HS.out.bal
  have z1 := cell_of_row V g 1 _ _ _ HS.out.bal
  refine bodyPost_ret (v := .tuple #[.agg #[.int .i64 0, .int .i64 0], .int .i64 0, .int .i64 90]) (by simp [results, Tryz.results219, go_sem, z0, z1]) rfl ⟨rfl, HS.out.ext⟩
set_option maxHeartbeats 600000 in
theorem sparse_2 (A : Option Addr) (n c : Nat) (l : List Nat) (w : World) (hL : LaidS w) (hb : By w A n c l) (hm : n ≤ 1000) (X0 : Nat) (hg0 : getS l 0 6 = (X0, 6, 0)) (X1 : Nat) (hg1 : getS l 6 1 = (X1, 7, 0)) (hg2 : getS l 7 1 = (0, 0, 10)) :
    Calls Tryz.prog 219 #[.slice A n c] w fun e w' => e = .returned (.tuple #[.agg #[.int .i64 0, .int .i64 0], .int .i64 0, .int .i64 90]) ∧ Ext w w' := by
  have HL := Lib.hid hL
  have HB := Lib.hid hb
  have G0 := Lib.hid (sget A l n c 0 6 _ _ _ hg0 · · · (by omega))
  clear hg0
  have G1 := Lib.hid (sget A l n c 6 1 _ _ _ hg1 · · · (by omega))
  clear hg1
  have G2 := Lib.hid (sget A l n c 7 1 _ _ _ hg2 · · · (by omega))
  clear hg2
  have HS := Lib.hid (PaS.make w)
  have i0 := fun w => (idx_three 6 1 1 w).1
  have i1 := fun w => (idx_three 6 1 1 w).2.1
  have i2 := fun w => (idx_three 6 1 1 w).2.2
  clear hL hb hm
  go_enter Tryz.func219, Tryz.ntmps219
  go_upto_region 3 with (fail)
  generalize ((w.alloc (.cells #[.int .i64 0, .int .i64 0] 38)).alloc (.cells #[.int .i64 0, .int .i64 0, .int .i64 0] 233)) = W0 at *
  generalize w.heap.size + 1 = g1 at *
  generalize hg : w.heap.size = g at *
  have HGG := Lib.hid hg
  clear hg
  obtain ⟨t0, t1, t2⟩ := (HL.out.ext HS.out.ext).t
  go_wp2_with fail
  refine wp_loop_rounds 4 ?_
  clear t0 t1 t2
  rw [rounds_succ]
  go_wp2_with fail
  refine (G0.out W0 (HL.out.ext HS.out.ext).o (HB.out.ext HS.out.ext)).mono ?_
  rintro e v0 ⟨rfl, hw⟩
  subst v0
  have s0 := cell_of_row W0 g1 0 _ _ _ HS.out.num
  have s1 := frozen_of_row W0 g1 0 _ _ HS.out.num
  have HS := Lib.hid (HS.out.put0 (X0 : Int))
  go_upto_region 10 with (fail)
  generalize (W0.setCell ⟨g1, 0, none⟩ (.int .i64 (X0 : Int))) = W1 at *
  clear s0 s1
  go_wp2_with fail
  rw [rounds_succ]
  go_wp2_with fail
  refine (G1.out W1 (HL.out.ext HS.out.ext).o (HB.out.ext HS.out.ext)).mono ?_
  rintro e v1 ⟨rfl, hw⟩
  subst v1
  have s0 := cell_of_row W1 g1 1 _ _ _ HS.out.num
  have s1 := frozen_of_row W1 g1 1 _ _ HS.out.num
  have HS := Lib.hid (HS.out.put1 (X1 : Int))
  go_upto_region 10 with (fail)
  generalize (W1.setCell ⟨g1, 1, none⟩ (.int .i64 (X1 : Int))) = W2 at *
  clear s0 s1
  go_wp2_with fail
  rw [rounds_succ]
  go_wp2_with fail
  refine (G2.out W2 (HL.out.ext HS.out.ext).o (HB.out.ext HS.out.ext)).mono ?_
  rintro e v2 ⟨rfl, hw⟩
  subst v2
  have e0 := frozen_of_row W2 g 0 _ _ HS.out.bal
  have e1 := frozen_of_row W2 g 1 _ _ HS.out.bal
  have z0 := cell_of_row W2 g 0 _ _ _ HS.out.bal
  have z1 := cell_of_row W2 g 1 _ _ _ HS.out.bal
  have HS := Lib.hid (HS.out.ball 0 0)
  go_wp2_with fail
  generalize ((W2.setCell ⟨g, 0, none⟩ (.int .i64 0)).setCell ⟨g, 1, none⟩ (.int .i64 0)) = V at *
  clear e0 e1 z0 z1
  have z0 := cell_of_row V g 0 _ _ _ HS.out.bal
  have z1 := cell_of_row V g 1 _ _ _ HS.out.bal
  refine bodyPost_ret (v := .tuple #[.agg #[.int .i64 0, .int .i64 0], .int .i64 0, .int .i64 90]) (by simp [results, Tryz.results219, go_sem, z0, z1]) rfl ⟨rfl, HS.out.ext⟩
set_option maxHeartbeats 600000 in
theorem sparse_long (A : Option Addr) (n c : Nat) (l : List Nat) (w : World) (hL : LaidS w) (hb : By w A n c l) (hm : n ≤ 1000) (X0 : Nat) (hg0 : getS l 0 6 = (X0, 6, 0)) (X1 : Nat) (hg1 : getS l 6 1 = (X1, 7, 0)) (X2 : Nat) (hg2 : getS l 7 1 = (X2, 8, 0)) (hn8 : n ≠ 8) :
    Calls Tryz.prog 219 #[.slice A n c] w fun e w' => e = .returned (.tuple #[.agg #[.int .i64 0, .int .i64 0], .int .i64 0, .int .i64 90]) ∧ Ext w w' := by
  have HL := Lib.hid hL
  have HB := Lib.hid hb
  have G0 := Lib.hid (sget A l n c 0 6 _ _ _ hg0 · · · (by omega))
  clear hg0
  have G1 := Lib.hid (sget A l n c 6 1 _ _ _ hg1 · · · (by omega))
  clear hg1
  have G2 := Lib.hid (sget A l n c 7 1 _ _ _ hg2 · · · (by omega))
  clear hg2
  have hne : ((8 : Int) != (n : Int)) = true := by rw [bne_iff_ne]; omega
  clear hn8
  have HS := Lib.hid (PaS.make w)
  have i0 := fun w => (idx_three 6 1 1 w).1
  have i1 := fun w => (idx_three 6 1 1 w).2.1
  have i2 := fun w => (idx_three 6 1 1 w).2.2
  clear hL hb hm
  go_enter Tryz.func219, Tryz.ntmps219
  go_upto_region 3 with (fail)
  generalize ((w.alloc (.cells #[.int .i64 0, .int .i64 0] 38)).alloc (.cells #[.int .i64 0, .int .i64 0, .int .i64 0] 233)) = W0 at *
  generalize w.heap.size + 1 = g1 at *
  generalize hg : w.heap.size = g at *
  have HGG := Lib.hid hg
  clear hg
  obtain ⟨t0, t1, t2⟩ := (HL.out.ext HS.out.ext).t
  go_wp2_with fail
  refine wp_loop_rounds 4 ?_
  clear t0 t1 t2
  rw [rounds_succ]
  go_wp2_with fail
  refine (G0.out W0 (HL.out.ext HS.out.ext).o (HB.out.ext HS.out.ext)).mono ?_
  rintro e v0 ⟨rfl, hw⟩
  subst v0
  have s0 := cell_of_row W0 g1 0 _ _ _ HS.out.num
  have s1 := frozen_of_row W0 g1 0 _ _ HS.out.num
  have HS := Lib.hid (HS.out.put0 (X0 : Int))
  go_upto_region 10 with (fail)
  generalize (W0.setCell ⟨g1, 0, none⟩ (.int .i64 (X0 : Int))) = W1 at *
  clear s0 s1
  go_wp2_with fail
  rw [rounds_succ]
  go_wp2_with fail
  refine (G1.out W1 (HL.out.ext HS.out.ext).o (HB.out.ext HS.out.ext)).mono ?_
  rintro e v1 ⟨rfl, hw⟩
  subst v1
  have s0 := cell_of_row W1 g1 1 _ _ _ HS.out.num
  have s1 := frozen_of_row W1 g1 1 _ _ HS.out.num
  have HS := Lib.hid (HS.out.put1 (X1 : Int))
  go_upto_region 10 with (fail)
  generalize (W1.setCell ⟨g1, 1, none⟩ (.int .i64 (X1 : Int))) = W2 at *
  clear s0 s1
  go_wp2_with fail
  rw [rounds_succ]
  go_wp2_with fail
  refine (G2.out W2 (HL.out.ext HS.out.ext).o (HB.out.ext HS.out.ext)).mono ?_
  rintro e v2 ⟨rfl, hw⟩
  subst v2
  have s0 := cell_of_row W2 g1 2 _ _ _ HS.out.num
  have s1 := frozen_of_row W2 g1 2 _ _ HS.out.num
  have HS := Lib.hid (HS.out.put2 (X2 : Int))
  go_upto_region 10 with (fail)
  generalize (W2.setCell ⟨g1, 2, none⟩ (.int .i64 (X2 : Int))) = W3 at *
  clear s0 s1
  go_wp2_with fail
  rw [rounds_succ]
  go_upto_region 11 with (fail)
  refine wp_region_held_drew (S := fun w' => w'.cell? ⟨g1, 0, none⟩ = some (.int .i64 (X0 : Int)) ∧ w'.cell? ⟨g1, 1, none⟩ = some (.int .i64 (X1 : Int)) ∧ w'.cell? ⟨g1, 2, none⟩ = some (.int .i64 (X2 : Int))) (by kernel_rfl) (⟨cell_of_row _ g1 0 _ _ _ (HS.out.mono (Ext.refl W3).drew).num, cell_of_row _ g1 1 _ _ _ (HS.out.mono (Ext.refl W3).drew).num, cell_of_row _ g1 2 _ _ _ (HS.out.mono (Ext.refl W3).drew).num⟩) (fun hHeld => ?_)
  refine tj (i := 0) (oi := ⟨some 33, .indexAddr 233 (.tmp 5) (.const (.int .i64 0)), 0, "slot.go:80", #[], none⟩) rfl (by kernel_rfl) ?_
  try simp only [Act.put, sT, s0, s1]
  refine tj (i := 1) (oi := ⟨some 34, .load 3 (.tmp 33), 3, "slot.go:80", #[⟨0, .data⟩], none⟩) rfl (by kernel_rfl) ?_
  try simp only [Act.put, sT, s0, s1]
  refine tj (i := 2) (oi := ⟨some 35, .indexAddr 233 (.tmp 5) (.const (.int .i64 1)), 0, "slot.go:80", #[], none⟩) rfl (by kernel_rfl) ?_
  try simp only [Act.put, sT, s0, s1]
  refine tj (i := 3) (oi := ⟨some 36, .load 3 (.tmp 35), 3, "slot.go:80", #[⟨2, .data⟩], none⟩) rfl (by kernel_rfl) ?_
  try simp only [Act.put, sT, s0, s1]
  refine tj (i := 4) (oi := ⟨some 37, .build 38 #[(0, .tmp 34), (1, .tmp 36)], 38, "slot.go:80", #[⟨1, .data⟩, ⟨3, .data⟩], none⟩) rfl (by kernel_rfl) ?_
  try simp only [Act.put, sT, s0, s1]
  refine tj (i := 5) (oi := ⟨some 38, .indexAddr 233 (.tmp 5) (.const (.int .i64 2)), 0, "slot.go:80", #[⟨7, .gcOnly .lateStores⟩], none⟩) rfl (by kernel_rfl) ?_
  try simp only [Act.put, sT, s0, s1]
  refine tj (i := 6) (oi := ⟨some 39, .load 3 (.tmp 38), 3, "slot.go:80", #[⟨5, .data⟩, ⟨7, .gcOnly .lateStores⟩], none⟩) rfl (by kernel_rfl) ?_
  try simp only [Act.put, sT, s0, s1]
  have HS := Lib.hid (HS.out.mono (Ext.refl W3).drew)
  generalize W3.drew = W4 at *
  have e0 := frozen_of_row W4 g 0 _ _ HS.out.bal
  have e1 := frozen_of_row W4 g 1 _ _ HS.out.bal
  have z0 := cell_of_row W4 g 0 _ _ _ HS.out.bal
  have z1 := cell_of_row W4 g 1 _ _ _ HS.out.bal
  have HS := Lib.hid (HS.out.ball (X0 : Int) (X1 : Int))
  refine wpAnyH_ready (rs := [7]) (by kernel_rfl) (by simp) ?_
  refine AllReadyH.cons (o := ⟨none, .store 38 (.tmp 2) (.tmp 37), 0, "slot.go:80", #[⟨4, .data⟩, ⟨0, .phase⟩, ⟨1, .phase⟩, ⟨2, .phase⟩, ⟨3, .phase⟩, ⟨4, .phase⟩, ⟨5, .textOnly .lateStores⟩, ⟨6, .textOnly .lateStores⟩], none⟩) rfl (fun K hK => ?_) AllReadyH.nil
  clear hHeld
  go_simp
  refine hK.out _ _ (⟨cell_of_row _ g1 0 _ _ _ HS.out.num, cell_of_row _ g1 1 _ _ _ HS.out.num, cell_of_row _ g1 2 _ _ _ HS.out.num⟩) (fun hHeld => ?_)
  clear hK K
  try simp only [Act.put, sT, s0, s1]
  refine tj (i := 8) (oi := ⟨some 3, .assign (.tmp 39), 3, "slot.go:80", #[⟨6, .data⟩, ⟨7, .chain⟩, ⟨0, .phase⟩, ⟨1, .phase⟩, ⟨2, .phase⟩, ⟨3, .phase⟩, ⟨4, .phase⟩, ⟨5, .phase⟩, ⟨6, .phase⟩, ⟨7, .phase⟩], none⟩) rfl (by kernel_rfl) ?_
  try simp only [Act.put, sT, s0, s1]
  refine wpAnyH_done (by kernel_rfl) ?_ _
  clear hHeld
  generalize ((W4.setCell ⟨g, 0, none⟩ (.int .i64 (X0 : Int))).setCell ⟨g, 1, none⟩ (.int .i64 (X1 : Int))) = W5 at *
  clear e0 e1 z0 z1
  have e0 := frozen_of_row W5 g 0 _ _ HS.out.bal
  have e1 := frozen_of_row W5 g 1 _ _ HS.out.bal
  have z0 := cell_of_row W5 g 0 _ _ _ HS.out.bal
  have z1 := cell_of_row W5 g 1 _ _ _ HS.out.bal
  have HS := Lib.hid (HS.out.ball 0 0)
  go_wp2_with fail
  generalize ((W5.setCell ⟨g, 0, none⟩ (.int .i64 0)).setCell ⟨g, 1, none⟩ (.int .i64 0)) = V at *
  clear e0 e1 z0 z1
  have z0 := cell_of_row V g 0 _ _ _ HS.out.bal
  have z1 := cell_of_row V g 1 _ _ _ HS.out.bal
  refine bodyPost_ret (v := .tuple #[.agg #[.int .i64 0, .int .i64 0], .int .i64 0, .int .i64 90]) (by simp [results, Tryz.results219, go_sem, z0, z1]) rfl ⟨rfl, HS.out.ext⟩
set_option maxHeartbeats 600000 in
theorem sparse_bad (A : Option Addr) (n c : Nat) (l : List Nat) (w : World) (hL : LaidS w) (hb : By w A n c l) (hm : n ≤ 1000) (X0 : Nat) (hg0 : getS l 0 6 = (X0, 6, 0)) (X1 : Nat) (hg1 : getS l 6 1 = (X1, 7, 0)) (X2 : Nat) (hg2 : getS l 7 1 = (X2, 8, 0)) (hn8 : n = 8) (hr : recB (X0 : Int) (X1 : Int) (X2 : Int) = false) :
    Calls Tryz.prog 219 #[.slice A n c] w fun e w' => e = .returned (.tuple #[.agg #[.int .i64 0, .int .i64 0], .int .i64 0, .int .i64 90]) ∧ Ext w w' := by
  have HL := Lib.hid hL
  have HB := Lib.hid hb
  have G0 := Lib.hid (sget A l n c 0 6 _ _ _ hg0 · · · (by omega))
  clear hg0
  have G1 := Lib.hid (sget A l n c 6 1 _ _ _ hg1 · · · (by omega))
  clear hg1
  have G2 := Lib.hid (sget A l n c 7 1 _ _ _ hg2 · · · (by omega))
  clear hg2
  subst hn8
  have HM := Lib.hid (fun V hV => may_of (X0 : Int) (X1 : Int) (X2 : Int) V hV)
  rw [hr] at HM
  clear hr
  have HS := Lib.hid (PaS.make w)
  have i0 := fun w => (idx_three 6 1 1 w).1
  have i1 := fun w => (idx_three 6 1 1 w).2.1
  have i2 := fun w => (idx_three 6 1 1 w).2.2
  clear hL hb hm
  go_enter Tryz.func219, Tryz.ntmps219
  go_upto_region 3 with (fail)
  generalize ((w.alloc (.cells #[.int .i64 0, .int .i64 0] 38)).alloc (.cells #[.int .i64 0, .int .i64 0, .int .i64 0] 233)) = W0 at *
  generalize w.heap.size + 1 = g1 at *
  generalize hg : w.heap.size = g at *
  have HGG := Lib.hid hg
  clear hg
  obtain ⟨t0, t1, t2⟩ := (HL.out.ext HS.out.ext).t
  go_wp2_with fail
  refine wp_loop_rounds 4 ?_
  clear t0 t1 t2
  rw [rounds_succ]
  go_wp2_with fail
  refine (G0.out W0 (HL.out.ext HS.out.ext).o (HB.out.ext HS.out.ext)).mono ?_
  rintro e v0 ⟨rfl, hw⟩
  subst v0
  have s0 := cell_of_row W0 g1 0 _ _ _ HS.out.num
  have s1 := frozen_of_row W0 g1 0 _ _ HS.out.num
  have HS := Lib.hid (HS.out.put0 (X0 : Int))
  go_upto_region 10 with (fail)
  generalize (W0.setCell ⟨g1, 0, none⟩ (.int .i64 (X0 : Int))) = W1 at *
  clear s0 s1
  go_wp2_with fail
  rw [rounds_succ]
  go_wp2_with fail
  refine (G1.out W1 (HL.out.ext HS.out.ext).o (HB.out.ext HS.out.ext)).mono ?_
  rintro e v1 ⟨rfl, hw⟩
  subst v1
  have s0 := cell_of_row W1 g1 1 _ _ _ HS.out.num
  have s1 := frozen_of_row W1 g1 1 _ _ HS.out.num
  have HS := Lib.hid (HS.out.put1 (X1 : Int))
  go_upto_region 10 with (fail)
  generalize (W1.setCell ⟨g1, 1, none⟩ (.int .i64 (X1 : Int))) = W2 at *
  clear s0 s1
  go_wp2_with fail
  rw [rounds_succ]
  go_wp2_with fail
  refine (G2.out W2 (HL.out.ext HS.out.ext).o (HB.out.ext HS.out.ext)).mono ?_
  rintro e v2 ⟨rfl, hw⟩
  subst v2
  have s0 := cell_of_row W2 g1 2 _ _ _ HS.out.num
  have s1 := frozen_of_row W2 g1 2 _ _ HS.out.num
  have HS := Lib.hid (HS.out.put2 (X2 : Int))
  go_upto_region 10 with (fail)
  generalize (W2.setCell ⟨g1, 2, none⟩ (.int .i64 (X2 : Int))) = W3 at *
  clear s0 s1
  go_wp2_with fail
  rw [rounds_succ]
  go_upto_region 11 with (fail)
  refine wp_region_held_drew (S := fun w' => w'.cell? ⟨g1, 0, none⟩ = some (.int .i64 (X0 : Int)) ∧ w'.cell? ⟨g1, 1, none⟩ = some (.int .i64 (X1 : Int)) ∧ w'.cell? ⟨g1, 2, none⟩ = some (.int .i64 (X2 : Int))) (by kernel_rfl) (⟨cell_of_row _ g1 0 _ _ _ (HS.out.mono (Ext.refl W3).drew).num, cell_of_row _ g1 1 _ _ _ (HS.out.mono (Ext.refl W3).drew).num, cell_of_row _ g1 2 _ _ _ (HS.out.mono (Ext.refl W3).drew).num⟩) (fun hHeld => ?_)
  refine tj (i := 0) (oi := ⟨some 33, .indexAddr 233 (.tmp 5) (.const (.int .i64 0)), 0, "slot.go:80", #[], none⟩) rfl (by kernel_rfl) ?_
  try simp only [Act.put, sT, s0, s1]
  refine tj (i := 1) (oi := ⟨some 34, .load 3 (.tmp 33), 3, "slot.go:80", #[⟨0, .data⟩], none⟩) rfl (by kernel_rfl) ?_
  try simp only [Act.put, sT, s0, s1]
  refine tj (i := 2) (oi := ⟨some 35, .indexAddr 233 (.tmp 5) (.const (.int .i64 1)), 0, "slot.go:80", #[], none⟩) rfl (by kernel_rfl) ?_
  try simp only [Act.put, sT, s0, s1]
  refine tj (i := 3) (oi := ⟨some 36, .load 3 (.tmp 35), 3, "slot.go:80", #[⟨2, .data⟩], none⟩) rfl (by kernel_rfl) ?_
  try simp only [Act.put, sT, s0, s1]
  refine tj (i := 4) (oi := ⟨some 37, .build 38 #[(0, .tmp 34), (1, .tmp 36)], 38, "slot.go:80", #[⟨1, .data⟩, ⟨3, .data⟩], none⟩) rfl (by kernel_rfl) ?_
  try simp only [Act.put, sT, s0, s1]
  refine tj (i := 5) (oi := ⟨some 38, .indexAddr 233 (.tmp 5) (.const (.int .i64 2)), 0, "slot.go:80", #[⟨7, .gcOnly .lateStores⟩], none⟩) rfl (by kernel_rfl) ?_
  try simp only [Act.put, sT, s0, s1]
  refine tj (i := 6) (oi := ⟨some 39, .load 3 (.tmp 38), 3, "slot.go:80", #[⟨5, .data⟩, ⟨7, .gcOnly .lateStores⟩], none⟩) rfl (by kernel_rfl) ?_
  try simp only [Act.put, sT, s0, s1]
  have HS := Lib.hid (HS.out.mono (Ext.refl W3).drew)
  generalize W3.drew = W4 at *
  have e0 := frozen_of_row W4 g 0 _ _ HS.out.bal
  have e1 := frozen_of_row W4 g 1 _ _ HS.out.bal
  have z0 := cell_of_row W4 g 0 _ _ _ HS.out.bal
  have z1 := cell_of_row W4 g 1 _ _ _ HS.out.bal
  have HS := Lib.hid (HS.out.ball (X0 : Int) (X1 : Int))
  refine wpAnyH_ready (rs := [7]) (by kernel_rfl) (by simp) ?_
  refine AllReadyH.cons (o := ⟨none, .store 38 (.tmp 2) (.tmp 37), 0, "slot.go:80", #[⟨4, .data⟩, ⟨0, .phase⟩, ⟨1, .phase⟩, ⟨2, .phase⟩, ⟨3, .phase⟩, ⟨4, .phase⟩, ⟨5, .textOnly .lateStores⟩, ⟨6, .textOnly .lateStores⟩], none⟩) rfl (fun K hK => ?_) AllReadyH.nil
  clear hHeld
  go_simp
  refine hK.out _ _ (⟨cell_of_row _ g1 0 _ _ _ HS.out.num, cell_of_row _ g1 1 _ _ _ HS.out.num, cell_of_row _ g1 2 _ _ _ HS.out.num⟩) (fun hHeld => ?_)
  clear hK K
  try simp only [Act.put, sT, s0, s1]
  refine tj (i := 8) (oi := ⟨some 3, .assign (.tmp 39), 3, "slot.go:80", #[⟨6, .data⟩, ⟨7, .chain⟩, ⟨0, .phase⟩, ⟨1, .phase⟩, ⟨2, .phase⟩, ⟨3, .phase⟩, ⟨4, .phase⟩, ⟨5, .phase⟩, ⟨6, .phase⟩, ⟨7, .phase⟩], none⟩) rfl (by kernel_rfl) ?_
  try simp only [Act.put, sT, s0, s1]
  refine wpAnyH_done (by kernel_rfl) ?_ _
  clear hHeld
  generalize ((W4.setCell ⟨g, 0, none⟩ (.int .i64 (X0 : Int))).setCell ⟨g, 1, none⟩ (.int .i64 (X1 : Int))) = W5 at *
  clear e0 e1 z0 z1
  have z0 := cell_of_row W5 g 0 _ _ _ HS.out.bal
  have z1 := cell_of_row W5 g 1 _ _ _ HS.out.bal
  go_wp2_with fail
  refine (HM.out W5 (HL.out.ext HS.out.ext).o).mono ?_
  rintro e W6 ⟨rfl, hx⟩
  have HS := Lib.hid (HS.out.mono hx)
  clear hx z0 z1
  have e0 := frozen_of_row W6 g 0 _ _ HS.out.bal
  have e1 := frozen_of_row W6 g 1 _ _ HS.out.bal
  have z0 := cell_of_row W6 g 0 _ _ _ HS.out.bal
  have z1 := cell_of_row W6 g 1 _ _ _ HS.out.bal
  have HS := Lib.hid (HS.out.ball 0 0)
  go_wp2_with fail
  generalize ((W6.setCell ⟨g, 0, none⟩ (.int .i64 0)).setCell ⟨g, 1, none⟩ (.int .i64 0)) = V at *
  clear e0 e1 z0 z1
  have z0 := cell_of_row V g 0 _ _ _ HS.out.bal
  have z1 := cell_of_row V g 1 _ _ _ HS.out.bal
  refine bodyPost_ret (v := .tuple #[.agg #[.int .i64 0, .int .i64 0], .int .i64 0, .int .i64 90]) (by simp [results, Tryz.results219, go_sem, z0, z1]) rfl ⟨rfl, HS.out.ext⟩
set_option maxHeartbeats 600000 in
theorem sparse_good (A : Option Addr) (n c : Nat) (l : List Nat) (w : World) (hL : LaidS w) (hb : By w A n c l) (hm : n ≤ 1000) (X0 : Nat) (hg0 : getS l 0 6 = (X0, 6, 0)) (X1 : Nat) (hg1 : getS l 6 1 = (X1, 7, 0)) (X2 : Nat) (hg2 : getS l 7 1 = (X2, 8, 0)) (hn8 : n = 8) (hr : recB (X0 : Int) (X1 : Int) (X2 : Int) = true) :
    Calls Tryz.prog 219 #[.slice A n c] w fun e w' => e = .returned (.tuple #[.agg #[.int .i64 (X0 : Int), .int .i64 (X1 : Int)], .int .i64 (X2 : Int), .int .i64 0]) ∧ Ext w w' := by
  have HL := Lib.hid hL
  have HB := Lib.hid hb
  have G0 := Lib.hid (sget A l n c 0 6 _ _ _ hg0 · · · (by omega))
  clear hg0
  have G1 := Lib.hid (sget A l n c 6 1 _ _ _ hg1 · · · (by omega))
  clear hg1
  have G2 := Lib.hid (sget A l n c 7 1 _ _ _ hg2 · · · (by omega))
  clear hg2
  subst hn8
  have HM := Lib.hid (fun V hV => may_of (X0 : Int) (X1 : Int) (X2 : Int) V hV)
  rw [hr] at HM
  clear hr
  have HS := Lib.hid (PaS.make w)
  have i0 := fun w => (idx_three 6 1 1 w).1
  have i1 := fun w => (idx_three 6 1 1 w).2.1
  have i2 := fun w => (idx_three 6 1 1 w).2.2
  clear hL hb hm
  go_enter Tryz.func219, Tryz.ntmps219
  go_upto_region 3 with (fail)
  generalize ((w.alloc (.cells #[.int .i64 0, .int .i64 0] 38)).alloc (.cells #[.int .i64 0, .int .i64 0, .int .i64 0] 233)) = W0 at *
  generalize w.heap.size + 1 = g1 at *
  generalize hg : w.heap.size = g at *
  have HGG := Lib.hid hg
  clear hg
  obtain ⟨t0, t1, t2⟩ := (HL.out.ext HS.out.ext).t
  go_wp2_with fail
  refine wp_loop_rounds 4 ?_
  clear t0 t1 t2
  rw [rounds_succ]
  go_wp2_with fail
  refine (G0.out W0 (HL.out.ext HS.out.ext).o (HB.out.ext HS.out.ext)).mono ?_
  rintro e v0 ⟨rfl, hw⟩
  subst v0
  have s0 := cell_of_row W0 g1 0 _ _ _ HS.out.num
  have s1 := frozen_of_row W0 g1 0 _ _ HS.out.num
  have HS := Lib.hid (HS.out.put0 (X0 : Int))
  go_upto_region 10 with (fail)
  generalize (W0.setCell ⟨g1, 0, none⟩ (.int .i64 (X0 : Int))) = W1 at *
  clear s0 s1
  go_wp2_with fail
  rw [rounds_succ]
  go_wp2_with fail
  refine (G1.out W1 (HL.out.ext HS.out.ext).o (HB.out.ext HS.out.ext)).mono ?_
  rintro e v1 ⟨rfl, hw⟩
  subst v1
  have s0 := cell_of_row W1 g1 1 _ _ _ HS.out.num
  have s1 := frozen_of_row W1 g1 1 _ _ HS.out.num
  have HS := Lib.hid (HS.out.put1 (X1 : Int))
  go_upto_region 10 with (fail)
  generalize (W1.setCell ⟨g1, 1, none⟩ (.int .i64 (X1 : Int))) = W2 at *
  clear s0 s1
  go_wp2_with fail
  rw [rounds_succ]
  go_wp2_with fail
  refine (G2.out W2 (HL.out.ext HS.out.ext).o (HB.out.ext HS.out.ext)).mono ?_
  rintro e v2 ⟨rfl, hw⟩
  subst v2
  have s0 := cell_of_row W2 g1 2 _ _ _ HS.out.num
  have s1 := frozen_of_row W2 g1 2 _ _ HS.out.num
  have HS := Lib.hid (HS.out.put2 (X2 : Int))
  go_upto_region 10 with (fail)
  generalize (W2.setCell ⟨g1, 2, none⟩ (.int .i64 (X2 : Int))) = W3 at *
  clear s0 s1
  go_wp2_with fail
  rw [rounds_succ]
  go_upto_region 11 with (fail)
  refine wp_region_held_drew (S := fun w' => w'.cell? ⟨g1, 0, none⟩ = some (.int .i64 (X0 : Int)) ∧ w'.cell? ⟨g1, 1, none⟩ = some (.int .i64 (X1 : Int)) ∧ w'.cell? ⟨g1, 2, none⟩ = some (.int .i64 (X2 : Int))) (by kernel_rfl) (⟨cell_of_row _ g1 0 _ _ _ (HS.out.mono (Ext.refl W3).drew).num, cell_of_row _ g1 1 _ _ _ (HS.out.mono (Ext.refl W3).drew).num, cell_of_row _ g1 2 _ _ _ (HS.out.mono (Ext.refl W3).drew).num⟩) (fun hHeld => ?_)
  refine tj (i := 0) (oi := ⟨some 33, .indexAddr 233 (.tmp 5) (.const (.int .i64 0)), 0, "slot.go:80", #[], none⟩) rfl (by kernel_rfl) ?_
  try simp only [Act.put, sT, s0, s1]
  refine tj (i := 1) (oi := ⟨some 34, .load 3 (.tmp 33), 3, "slot.go:80", #[⟨0, .data⟩], none⟩) rfl (by kernel_rfl) ?_
  try simp only [Act.put, sT, s0, s1]
  refine tj (i := 2) (oi := ⟨some 35, .indexAddr 233 (.tmp 5) (.const (.int .i64 1)), 0, "slot.go:80", #[], none⟩) rfl (by kernel_rfl) ?_
  try simp only [Act.put, sT, s0, s1]
  refine tj (i := 3) (oi := ⟨some 36, .load 3 (.tmp 35), 3, "slot.go:80", #[⟨2, .data⟩], none⟩) rfl (by kernel_rfl) ?_
  try simp only [Act.put, sT, s0, s1]
  refine tj (i := 4) (oi := ⟨some 37, .build 38 #[(0, .tmp 34), (1, .tmp 36)], 38, "slot.go:80", #[⟨1, .data⟩, ⟨3, .data⟩], none⟩) rfl (by kernel_rfl) ?_
  try simp only [Act.put, sT, s0, s1]
  refine tj (i := 5) (oi := ⟨some 38, .indexAddr 233 (.tmp 5) (.const (.int .i64 2)), 0, "slot.go:80", #[⟨7, .gcOnly .lateStores⟩], none⟩) rfl (by kernel_rfl) ?_
  try simp only [Act.put, sT, s0, s1]
  refine tj (i := 6) (oi := ⟨some 39, .load 3 (.tmp 38), 3, "slot.go:80", #[⟨5, .data⟩, ⟨7, .gcOnly .lateStores⟩], none⟩) rfl (by kernel_rfl) ?_
  try simp only [Act.put, sT, s0, s1]
  have HS := Lib.hid (HS.out.mono (Ext.refl W3).drew)
  generalize W3.drew = W4 at *
  have e0 := frozen_of_row W4 g 0 _ _ HS.out.bal
  have e1 := frozen_of_row W4 g 1 _ _ HS.out.bal
  have z0 := cell_of_row W4 g 0 _ _ _ HS.out.bal
  have z1 := cell_of_row W4 g 1 _ _ _ HS.out.bal
  have HS := Lib.hid (HS.out.ball (X0 : Int) (X1 : Int))
  refine wpAnyH_ready (rs := [7]) (by kernel_rfl) (by simp) ?_
  refine AllReadyH.cons (o := ⟨none, .store 38 (.tmp 2) (.tmp 37), 0, "slot.go:80", #[⟨4, .data⟩, ⟨0, .phase⟩, ⟨1, .phase⟩, ⟨2, .phase⟩, ⟨3, .phase⟩, ⟨4, .phase⟩, ⟨5, .textOnly .lateStores⟩, ⟨6, .textOnly .lateStores⟩], none⟩) rfl (fun K hK => ?_) AllReadyH.nil
  clear hHeld
  go_simp
  refine hK.out _ _ (⟨cell_of_row _ g1 0 _ _ _ HS.out.num, cell_of_row _ g1 1 _ _ _ HS.out.num, cell_of_row _ g1 2 _ _ _ HS.out.num⟩) (fun hHeld => ?_)
  clear hK K
  try simp only [Act.put, sT, s0, s1]
  refine tj (i := 8) (oi := ⟨some 3, .assign (.tmp 39), 3, "slot.go:80", #[⟨6, .data⟩, ⟨7, .chain⟩, ⟨0, .phase⟩, ⟨1, .phase⟩, ⟨2, .phase⟩, ⟨3, .phase⟩, ⟨4, .phase⟩, ⟨5, .phase⟩, ⟨6, .phase⟩, ⟨7, .phase⟩], none⟩) rfl (by kernel_rfl) ?_
  try simp only [Act.put, sT, s0, s1]
  refine wpAnyH_done (by kernel_rfl) ?_ _
  clear hHeld
  generalize ((W4.setCell ⟨g, 0, none⟩ (.int .i64 (X0 : Int))).setCell ⟨g, 1, none⟩ (.int .i64 (X1 : Int))) = W5 at *
  clear e0 e1 z0 z1
  have z0 := cell_of_row W5 g 0 _ _ _ HS.out.bal
  have z1 := cell_of_row W5 g 1 _ _ _ HS.out.bal
  go_wp2_with fail
  refine (HM.out W5 (HL.out.ext HS.out.ext).o).mono ?_
  rintro e W6 ⟨rfl, hx⟩
  have HS := Lib.hid (HS.out.mono hx)
  clear hx z0 z1
  have e0 := frozen_of_row W6 g 0 _ _ HS.out.bal
  have e1 := frozen_of_row W6 g 1 _ _ HS.out.bal
  have z0 := cell_of_row W6 g 0 _ _ _ HS.out.bal
  have z1 := cell_of_row W6 g 1 _ _ _ HS.out.bal
  have HS := Lib.hid (HS.out.ball (X0 : Int) (X1 : Int))
  go_wp2_with fail
  generalize ((W6.setCell ⟨g, 0, none⟩ (.int .i64 (X0 : Int))).setCell ⟨g, 1, none⟩ (.int .i64 (X1 : Int))) = V at *
  clear e0 e1 z0 z1
  have z0 := cell_of_row V g 0 _ _ _ HS.out.bal
  have z1 := cell_of_row V g 1 _ _ _ HS.out.bal
  refine bodyPost_ret (v := .tuple #[.agg #[.int .i64 (X0 : Int), .int .i64 (X1 : Int)], .int .i64 (X2 : Int), .int .i64 0]) (by simp [results, Tryz.results219, go_sem, z0, z1]) rfl ⟨rfl, HS.out.ext⟩
theorem num_oneL (y : Nat) : num [y] = y := by simp [num]
theorem sparse_of (A : Option Addr) (n c : Nat) (l : List Nat) (w : World) (hL : LaidS w) (hb : By w A n c l) (hm : n ≤ 1000) :
    Calls Tryz.prog 219 #[.slice A n c] w fun e w' => e = .returned (.tuple #[.agg #[.int .i64 ((rcR l).1 : Int), .int .i64 ((rcR l).2.1 : Int)], .int .i64 ((rcR l).2.2.1 : Int), .int .i64 (rcR l).2.2.2]) ∧ Ext w w' := by
  have hl := hb.len
  have w6 : wOk 6 = true := by rfl
  have w1 : wOk 1 = true := by rfl
  have none : l.length ≠ 8 → rcR l = (0, 0, 0, 90) := fun h => rcR_none (recR_len h)
  by_cases h6 : n < 6
  · rw [none (by omega)]
    exact sparse_0 A n c l w hL hb hm (getS_short w6 (by omega) (by omega) (by omega))
  have g0 : getS l 0 6 = (num (l.take 6), 6, 0) := by rw [getS_yes w6 (by omega) (by omega) (by omega)]; rfl
  by_cases h7 : n < 7
  · rw [none (by omega)]
    exact sparse_1 A n c l w hL hb hm _ g0 (getS_short w1 (by omega) (by omega) (by omega))
  obtain ⟨y, hy⟩ : ∃ y, l[6]? = some y := ⟨_, List.getElem?_eq_getElem (by omega)⟩
  have g1 : getS l 6 1 = (y, 7, 0) := by
    rw [getS_yes w1 (by omega) (by omega) (by omega)]
    show (num ((l.drop 6).take 1), 7, 0) = _
    rw [take_one hy, num_oneL]
  by_cases h8 : n < 8
  · rw [none (by omega)]
    exact sparse_2 A n c l w hL hb hm _ g0 _ g1 (getS_short w1 (by omega) (by omega) (by omega))
  obtain ⟨h, hh⟩ : ∃ h, l[7]? = some h := ⟨_, List.getElem?_eq_getElem (by omega)⟩
  have g2 : getS l 7 1 = (h, 8, 0) := by
    rw [getS_yes w1 (by omega) (by omega) (by omega)]
    show (num ((l.drop 7).take 1), 8, 0) = _
    rw [take_one hh, num_oneL]
  by_cases hn : n = 8
  · cases hr : recB (num (l.take 6) : Nat) (y : Nat) (h : Nat) with
    | true =>
      have hrr := recB_iff.1 hr
      rw [rcR_some (recR_yes (by omega) hy hh (by omega) (balE_iff.2 hrr.1))]
      exact sparse_good A n c l w hL hb hm _ g0 _ g1 _ g2 hn hr
    | false =>
      have hno : recR l = Option.none := by
        by_cases hh1 : 1 < h
        · exact recR_which hh hh1
        · refine recR_bal hy ?_
          cases hbal : balE (num (l.take 6) : Nat) (y : Nat) with
          | false => rfl
          | true =>
            rw [recB_iff.2 ⟨balE_iff.1 hbal, by omega⟩] at hr
            cases hr
      rw [rcR_none hno]
      exact sparse_bad A n c l w hL hb hm _ g0 _ g1 _ g2 hn hr
  · rw [none (by omega)]
    exact sparse_long A n c l w hL hb hm _ g0 _ g1 _ g2 hn
end
end Go.Proofs.YtmbmpabjclkhlaaGreatDoor
