/-
  The contracts of the manifest's print and parse, and of load.
-/
import Derived.Test.YtmpaocpgoihliaaGreatDoorP00
import Derived.Test.YtmpaocpgoihliaaGreatDoorP02
import Derived.Test.YtmpaocpgoihliaaGreatDoorP07
import Derived.Test.YtmpaocpgoihliaaGreatDoorP09
import Derived.Test.YtmpaocpgoihliaaGreatDoorP15
import Derived.Test.YtmpaocpgoihliaaGreatDoorP18
import Derived.Stop.LaidErr
namespace Go.Proofs.YtmpaocpgoihliaaGreatDoor
set_option maxRecDepth 100000
section
open Go Go.RowKit
structure LaidY (w : World) : Prop where
 f : LaidF w
 t : w.cell? ⟨1, 0, none⟩ = some (.int .i64 6) ∧ w.cell? ⟨1, 1, none⟩ = some (.int .i64 1) ∧ w.cell? ⟨1, 2, none⟩ = some (.int .i64 1)
theorem LaidY.ext {a b : World} (h : LaidY a) (k : Ext a b) : LaidY b := ⟨h.f.ext k, ext_of_cell k h.t.1, ext_of_cell k h.t.2.1, ext_of_cell k h.t.2.2⟩
set_option maxHeartbeats 800000 in
theorem yprint_of (s : ShM) (w : World) (hL : LaidY w) (hs : manOk s = true) :
 Calls Tryz.prog 78 #[.agg #[.int .i64 (s.ix : Int), .int .i64 (s.ar : Int), .int .i64 (s.ct : Int)]] w fun e w' => ∃ A' c', e = .returned (.slice A' 8 c') ∧ By w' A' 8 c' (manL s) ∧ Ext w w' := by
 obtain ⟨x, y, h⟩ := s
 have hrr := manOk_iff.1 hs
 dsimp only at hrr
 have hE := (Ext.refl w).alloc (.cells #[.int .i64 (x : Int), .int .i64 (y : Int), .int .i64 (h : Int)] 137)
 have hrow := heap_alloc_new w (.cells #[.int .i64 (x : Int), .int .i64 (y : Int), .int .i64 (h : Int)] 137)
 have HB := Lib.hid (show x ≤ 1099511627776 ∧ y < 256 ∧ h < 256 by omega)
 have HL := Lib.hid (hL.ext hE)
 have HR := Lib.hid hrow
 have HE := Lib.hid hE
 have i0 := fun w => (idx_three (x : Int) (y : Int) (h : Int) w).1
 have i1 := fun w => (idx_three (x : Int) (y : Int) (h : Int) w).2.1
 have i2 := fun w => (idx_three (x : Int) (y : Int) (h : Int) w).2.2
 have HRL : Hid (manL ⟨x, y, h⟩ = digs 6 x ++ [y] ++ [h]) := Lib.hid (by unfold manL; rw [digs_byte (n := y) (by omega), digs_byte (n := h) (by omega)])
 clear hrr hs hE hL hrow
 go_enter Tryz.func78, Tryz.ntmps78
 go_upto_region 1 with (fail)
 generalize (w.alloc (.cells #[.int .i64 (x : Int), .int .i64 (y : Int), .int .i64 (h : Int)] 137)) = w1 at *
 generalize hg : w.heap.size = g at *
 have HG := Lib.hid hg
 clear hg
 have b0 := cell_of_row w1 g 0 _ _ _ HR.out
 have b1 := cell_of_row w1 g 1 _ _ _ HR.out
 have b2 := cell_of_row w1 g 2 _ _ _ HR.out
 obtain ⟨t0, t1, t2⟩ := HL.out.t
 go_wp2_with fail
 refine wp_loop_rounds 4 ?_
 rw [rounds_succ]
 go_wp2_with fail
 refine (sput6 x _ HL.out.f.a.o HB.out.1).mono ?_
 rintro e w2 ⟨A1, c1, rfl, hb, hx⟩
 have HE := Lib.hid (HE.out.trans hx)
 have HL := Lib.hid (HL.out.ext hx)
 have HBy := Lib.hid hb
 clear hx hb b0 b1 b2 t0 t1 t2
 go_wp2_with fail
 refine (sjoin1 w2 (By.none_ w2) HBy.out).mono ?_
 rintro e w3 ⟨A2, c2, rfl, hb, hx⟩
 have HE := Lib.hid (HE.out.trans hx)
 have HL := Lib.hid (HL.out.ext hx)
 have HBy := Lib.hid hb
 clear hx hb
 obtain ⟨t0, t1, t2⟩ := HL.out.t
 go_wp2_with fail
 rw [rounds_succ]
 go_wp2_with fail
 refine (sput1 y _ HL.out.f.a.o HB.out.2.1).mono ?_
 rintro e w4 ⟨A3, c3, rfl, hb, hx⟩
 have HE := Lib.hid (HE.out.trans hx)
 have HL := Lib.hid (HL.out.ext hx)
 have HBy := Lib.hid (HBy.out.ext hx)
 have HB2 := Lib.hid hb
 clear hx hb t0 t1 t2
 go_wp2_with fail
 refine (sjoin2 w4 HBy.out HB2.out).mono ?_
 rintro e w5 ⟨A4, c4, rfl, hb, hx⟩
 have HE := Lib.hid (HE.out.trans hx)
 have HL := Lib.hid (HL.out.ext hx)
 have HBy := Lib.hid hb
 clear hx hb HB2
 obtain ⟨t0, t1, t2⟩ := HL.out.t
 go_wp2_with fail
 rw [rounds_succ]
 go_wp2_with fail
 refine (sput1 h _ HL.out.f.a.o HB.out.2.2).mono ?_
 rintro e w6 ⟨A5, c5, rfl, hb, hx⟩
 have HE := Lib.hid (HE.out.trans hx)
 have HL := Lib.hid (HL.out.ext hx)
 have HBy := Lib.hid (HBy.out.ext hx)
 have HB2 := Lib.hid hb
 clear hx hb t0 t1 t2
 go_wp2_with fail
 refine (sjoin3 w6 HBy.out HB2.out).mono ?_
 rintro e w7 ⟨A6, c6, rfl, hb, hx⟩
 have HE := Lib.hid (HE.out.trans hx)
 have HBy := Lib.hid hb
 clear hx hb HB2
 go_wp2_with fail
 rw [rounds_succ]
 go_wp2_with fail
 go_ret
 exact ⟨A6, c6, rfl, HRL.out ▸ HBy.out, HE.out⟩
theorem ysget (A : Option Addr) (l : List Nat) (n c : Nat) (a x : Int) (X p : Nat) (q : Int) (hg : getS l a x = (X, p, q)) (w : World) (hL : Laid w) (hb : By w A n c l) (hm : n ≤ 9000000000000000000) :
 Calls Tryz.prog 209 #[.slice A n c, .int .i64 a, .int .i64 x] w fun e w' => e = .returned (.tuple #[.int .i64 (X : Int), .int .i64 (p : Int), .int .i64 q]) ∧ w' = w := by
 have h := oget_any A l n c _ a x w hL hb.len hb.rd hm
 rw [hg] at h
 exact h.mono fun _ _ ⟨h, hw⟩ => ⟨h, by subst hw; rfl⟩
structure PaY (w W : World) (g g1 : Nat) (x y z a b d : Int) : Prop where
 res : W.heap[g]? = some (.cells #[.int .i64 x, .int .i64 y, .int .i64 z] 137 (0, 0))
 num : W.heap[g1]? = some (.cells #[.int .i64 a, .int .i64 b, .int .i64 d] 137 (0, 0))
 ext : Ext w W
 ne : g ≠ g1 ∧ w.heap.size ≤ g ∧ w.heap.size ≤ g1
theorem PaY.make (w : World) : PaY w ((w.alloc (.cells #[.int .i64 0, .int .i64 0, .int .i64 0] 137)).alloc (.cells #[.int .i64 0, .int .i64 0, .int .i64 0] 137)) w.heap.size (w.heap.size + 1) 0 0 0 0 0 0 := by
 refine ⟨keep_row ((Ext.refl _).alloc _) (heap_alloc_new w _), ?_, ((Ext.refl w).alloc _).alloc _, by omega⟩
 have h := heap_alloc_new (w.alloc (.cells #[.int .i64 0, .int .i64 0, .int .i64 0] 137)) (.cells #[.int .i64 0, .int .i64 0, .int .i64 0] 137)
 rw [World.size_alloc] at h
 exact h
section
variable {w W W' : World} {g g1 : Nat} {x y z a b d : Int}
theorem PaY.put0 (h : PaY w W g g1 x y z a b d) (v : Int) : PaY w (W.setCell ⟨g1, 0, none⟩ (.int .i64 v)) g g1 x y z v b d := ⟨off_setL h.res h.ne.1 [.int .i64 v] 0, row_set1 h.num _, ext_setL h.ext h.ne.2.2 [.int .i64 v] 0, h.ne⟩
theorem PaY.put1 (h : PaY w W g g1 x y z a b d) (v : Int) : PaY w (W.setCell ⟨g1, 1, none⟩ (.int .i64 v)) g g1 x y z a v d := ⟨off_setL h.res h.ne.1 [.int .i64 v] 1, row_set1 h.num _, ext_setL h.ext h.ne.2.2 [.int .i64 v] 1, h.ne⟩
theorem PaY.put2 (h : PaY w W g g1 x y z a b d) (v : Int) : PaY w (W.setCell ⟨g1, 2, none⟩ (.int .i64 v)) g g1 x y z a b v := ⟨off_setL h.res h.ne.1 [.int .i64 v] 2, row_set1 h.num _, ext_setL h.ext h.ne.2.2 [.int .i64 v] 2, h.ne⟩
theorem PaY.out (h : PaY w W g g1 x y z a b d) (u v t : Int) : PaY w (((W.setCell ⟨g, 0, none⟩ (.int .i64 u)).setCell ⟨g, 1, none⟩ (.int .i64 v)).setCell ⟨g, 2, none⟩ (.int .i64 t)) g g1 u v t a b d :=
 ⟨row_set1 (row_set1 (row_set1 h.res (.int .i64 u)) (.int .i64 v)) (.int .i64 t), off_setL h.num (fun e => h.ne.1 e.symm) [.int .i64 u, .int .i64 v, .int .i64 t] 0, ext_setL h.ext h.ne.2.1 [.int .i64 u, .int .i64 v, .int .i64 t] 0, h.ne⟩
end
theorem idx_ptrs (a b c : Addr) (w : World) : (Instr.index 277 (.agg #[.pointer (some a), .pointer (some b), .pointer (some c)]) (.int .i64 0)).run Tryz.prog w = .ok (.pointer (some a)) w ∧ (Instr.index 277 (.agg #[.pointer (some a), .pointer (some b), .pointer (some c)]) (.int .i64 1)).run Tryz.prog w = .ok (.pointer (some b)) w ∧ (Instr.index 277 (.agg #[.pointer (some a), .pointer (some b), .pointer (some c)]) (.int .i64 2)).run Tryz.prog w = .ok (.pointer (some c)) w := by
 refine ⟨?_, ?_, ?_⟩ <;> kernel_rfl
set_option maxHeartbeats 800000 in
theorem yparse_g0 (A : Option Addr) (n c : Nat) (l : List Nat) (w : World) (hL : LaidY w) (hb : By w A n c l) (hm : n ≤ 1000) (hg0 : getS l 0 6 = (0, 0, 10)) :
 Calls Tryz.prog 153 #[.slice A n c] w fun e w' => e = .returned (.tuple #[.agg #[.int .i64 0, .int .i64 0, .int .i64 0], .int .i64 130]) ∧ Ext w w' := by
 have HL := Lib.hid hL
 have HB := Lib.hid hb
 have G0 := Lib.hid (ysget A l n c 0 6 _ _ _ hg0 · · · (by omega))
 clear hg0
 have HS := Lib.hid (PaY.make w)
 clear hL hb hm
 go_enter Tryz.func153, Tryz.ntmps153
 go_upto_region 3 with (fail)
 generalize ((w.alloc (.cells #[.int .i64 0, .int .i64 0, .int .i64 0] 137)).alloc (.cells #[.int .i64 0, .int .i64 0, .int .i64 0] 137)) = W0 at *
 generalize w.heap.size + 1 = g1 at *
 generalize hg : w.heap.size = g at *
 have HGG := Lib.hid hg
 clear hg
 have i0 := fun w => (idx_ptrs ⟨g1, 0, none⟩ ⟨g1, 1, none⟩ ⟨g1, 2, none⟩ w).1
 have i1 := fun w => (idx_ptrs ⟨g1, 0, none⟩ ⟨g1, 1, none⟩ ⟨g1, 2, none⟩ w).2.1
 have i2 := fun w => (idx_ptrs ⟨g1, 0, none⟩ ⟨g1, 1, none⟩ ⟨g1, 2, none⟩ w).2.2
 have HI := Lib.hid (And.intro i0 (And.intro i1 i2))
 obtain ⟨t0, t1, t2⟩ := (HL.out.ext HS.out.ext).t
 go_wp2_with fail
 refine wp_loop_rounds 4 ?_
 rw [rounds_succ]
 go_wp2_with fail
 refine (G0.out W0 (HL.out.ext HS.out.ext).f.a.o (HB.out.ext HS.out.ext)).mono ?_
 rintro e v0 ⟨rfl, hw⟩
 subst v0
 clear t0 t1 t2
 have e0 := frozen_of_row W0 g 0 _ _ HS.out.res
 have e1 := frozen_of_row W0 g 1 _ _ HS.out.res
 have e2 := frozen_of_row W0 g 2 _ _ HS.out.res
 have z0 := cell_of_row W0 g 0 _ _ _ HS.out.res
 have z1 := cell_of_row W0 g 1 _ _ _ HS.out.res
 have z2 := cell_of_row W0 g 2 _ _ _ HS.out.res
 have HS := Lib.hid (HS.out.out 0 0 0)
 go_wp2_with fail
 generalize (((W0.setCell ⟨g, 0, none⟩ (.int .i64 0)).setCell ⟨g, 1, none⟩ (.int .i64 0)).setCell ⟨g, 2, none⟩ (.int .i64 0)) = V at *
 clear e0 e1 e2 z0 z1 z2
 have z0 := cell_of_row V g 0 _ _ _ HS.out.res
 have z1 := cell_of_row V g 1 _ _ _ HS.out.res
 have z2 := cell_of_row V g 2 _ _ _ HS.out.res
 refine bodyPost_ret (v := .tuple #[.agg #[.int .i64 0, .int .i64 0, .int .i64 0], .int .i64 130]) (by simp [results, Tryz.results153, go_sem, z0, z1, z2]) rfl ⟨rfl, HS.out.ext⟩
set_option maxHeartbeats 800000 in
theorem yparse_g1 (A : Option Addr) (n c : Nat) (l : List Nat) (w : World) (hL : LaidY w) (hb : By w A n c l) (hm : n ≤ 1000) (X0 : Nat) (hg0 : getS l 0 6 = (X0, 6, 0)) (hg1 : getS l 6 1 = (0, 0, 10)) :
 Calls Tryz.prog 153 #[.slice A n c] w fun e w' => e = .returned (.tuple #[.agg #[.int .i64 0, .int .i64 0, .int .i64 0], .int .i64 130]) ∧ Ext w w' := by
 have HL := Lib.hid hL
 have HB := Lib.hid hb
 have G0 := Lib.hid (ysget A l n c 0 6 _ _ _ hg0 · · · (by omega))
 clear hg0
 have G1 := Lib.hid (ysget A l n c 6 1 _ _ _ hg1 · · · (by omega))
 clear hg1
 have HS := Lib.hid (PaY.make w)
 clear hL hb hm
 go_enter Tryz.func153, Tryz.ntmps153
 go_upto_region 3 with (fail)
 generalize ((w.alloc (.cells #[.int .i64 0, .int .i64 0, .int .i64 0] 137)).alloc (.cells #[.int .i64 0, .int .i64 0, .int .i64 0] 137)) = W0 at *
 generalize w.heap.size + 1 = g1 at *
 generalize hg : w.heap.size = g at *
 have HGG := Lib.hid hg
 clear hg
 have i0 := fun w => (idx_ptrs ⟨g1, 0, none⟩ ⟨g1, 1, none⟩ ⟨g1, 2, none⟩ w).1
 have i1 := fun w => (idx_ptrs ⟨g1, 0, none⟩ ⟨g1, 1, none⟩ ⟨g1, 2, none⟩ w).2.1
 have i2 := fun w => (idx_ptrs ⟨g1, 0, none⟩ ⟨g1, 1, none⟩ ⟨g1, 2, none⟩ w).2.2
 have HI := Lib.hid (And.intro i0 (And.intro i1 i2))
 obtain ⟨t0, t1, t2⟩ := (HL.out.ext HS.out.ext).t
 go_wp2_with fail
 refine wp_loop_rounds 4 ?_
 rw [rounds_succ]
 go_wp2_with fail
 refine (G0.out W0 (HL.out.ext HS.out.ext).f.a.o (HB.out.ext HS.out.ext)).mono ?_
 rintro e v0 ⟨rfl, hw⟩
 subst v0
 clear t0 t1 t2
 have z0 := cell_of_row W0 g1 0 _ _ _ HS.out.num
 have e0 := frozen_of_row W0 g1 0 _ _ HS.out.num
 have HS := Lib.hid (HS.out.put0 (X0 : Int))
 go_wp2_with fail
 generalize (W0.setCell ⟨g1, 0, none⟩ (.int .i64 (X0 : Int))) = W1 at *
 clear z0 e0
 obtain ⟨t0, t1, t2⟩ := (HL.out.ext HS.out.ext).t
 rw [rounds_succ]
 go_wp2_with fail
 refine (G1.out W1 (HL.out.ext HS.out.ext).f.a.o (HB.out.ext HS.out.ext)).mono ?_
 rintro e v0 ⟨rfl, hw⟩
 subst v0
 clear t0 t1 t2
 have e0 := frozen_of_row W1 g 0 _ _ HS.out.res
 have e1 := frozen_of_row W1 g 1 _ _ HS.out.res
 have e2 := frozen_of_row W1 g 2 _ _ HS.out.res
 have z0 := cell_of_row W1 g 0 _ _ _ HS.out.res
 have z1 := cell_of_row W1 g 1 _ _ _ HS.out.res
 have z2 := cell_of_row W1 g 2 _ _ _ HS.out.res
 have HS := Lib.hid (HS.out.out 0 0 0)
 go_wp2_with fail
 generalize (((W1.setCell ⟨g, 0, none⟩ (.int .i64 0)).setCell ⟨g, 1, none⟩ (.int .i64 0)).setCell ⟨g, 2, none⟩ (.int .i64 0)) = V at *
 clear e0 e1 e2 z0 z1 z2
 have z0 := cell_of_row V g 0 _ _ _ HS.out.res
 have z1 := cell_of_row V g 1 _ _ _ HS.out.res
 have z2 := cell_of_row V g 2 _ _ _ HS.out.res
 refine bodyPost_ret (v := .tuple #[.agg #[.int .i64 0, .int .i64 0, .int .i64 0], .int .i64 130]) (by simp [results, Tryz.results153, go_sem, z0, z1, z2]) rfl ⟨rfl, HS.out.ext⟩
set_option maxHeartbeats 800000 in
theorem yparse_g2 (A : Option Addr) (n c : Nat) (l : List Nat) (w : World) (hL : LaidY w) (hb : By w A n c l) (hm : n ≤ 1000) (X0 : Nat) (X1 : Nat) (hg0 : getS l 0 6 = (X0, 6, 0)) (hg1 : getS l 6 1 = (X1, 7, 0)) (hg2 : getS l 7 1 = (0, 0, 10)) :
 Calls Tryz.prog 153 #[.slice A n c] w fun e w' => e = .returned (.tuple #[.agg #[.int .i64 0, .int .i64 0, .int .i64 0], .int .i64 130]) ∧ Ext w w' := by
 have HL := Lib.hid hL
 have HB := Lib.hid hb
 have G0 := Lib.hid (ysget A l n c 0 6 _ _ _ hg0 · · · (by omega))
 clear hg0
 have G1 := Lib.hid (ysget A l n c 6 1 _ _ _ hg1 · · · (by omega))
 clear hg1
 have G2 := Lib.hid (ysget A l n c 7 1 _ _ _ hg2 · · · (by omega))
 clear hg2
 have HS := Lib.hid (PaY.make w)
 clear hL hb hm
 go_enter Tryz.func153, Tryz.ntmps153
 go_upto_region 3 with (fail)
 generalize ((w.alloc (.cells #[.int .i64 0, .int .i64 0, .int .i64 0] 137)).alloc (.cells #[.int .i64 0, .int .i64 0, .int .i64 0] 137)) = W0 at *
 generalize w.heap.size + 1 = g1 at *
 generalize hg : w.heap.size = g at *
 have HGG := Lib.hid hg
 clear hg
 have i0 := fun w => (idx_ptrs ⟨g1, 0, none⟩ ⟨g1, 1, none⟩ ⟨g1, 2, none⟩ w).1
 have i1 := fun w => (idx_ptrs ⟨g1, 0, none⟩ ⟨g1, 1, none⟩ ⟨g1, 2, none⟩ w).2.1
 have i2 := fun w => (idx_ptrs ⟨g1, 0, none⟩ ⟨g1, 1, none⟩ ⟨g1, 2, none⟩ w).2.2
 have HI := Lib.hid (And.intro i0 (And.intro i1 i2))
 obtain ⟨t0, t1, t2⟩ := (HL.out.ext HS.out.ext).t
 go_wp2_with fail
 refine wp_loop_rounds 4 ?_
 rw [rounds_succ]
 go_wp2_with fail
 refine (G0.out W0 (HL.out.ext HS.out.ext).f.a.o (HB.out.ext HS.out.ext)).mono ?_
 rintro e v0 ⟨rfl, hw⟩
 subst v0
 clear t0 t1 t2
 have z0 := cell_of_row W0 g1 0 _ _ _ HS.out.num
 have e0 := frozen_of_row W0 g1 0 _ _ HS.out.num
 have HS := Lib.hid (HS.out.put0 (X0 : Int))
 go_wp2_with fail
 generalize (W0.setCell ⟨g1, 0, none⟩ (.int .i64 (X0 : Int))) = W1 at *
 clear z0 e0
 obtain ⟨t0, t1, t2⟩ := (HL.out.ext HS.out.ext).t
 rw [rounds_succ]
 go_wp2_with fail
 refine (G1.out W1 (HL.out.ext HS.out.ext).f.a.o (HB.out.ext HS.out.ext)).mono ?_
 rintro e v0 ⟨rfl, hw⟩
 subst v0
 clear t0 t1 t2
 have z1 := cell_of_row W1 g1 1 _ _ _ HS.out.num
 have e1 := frozen_of_row W1 g1 1 _ _ HS.out.num
 have HS := Lib.hid (HS.out.put1 (X1 : Int))
 go_wp2_with fail
 generalize (W1.setCell ⟨g1, 1, none⟩ (.int .i64 (X1 : Int))) = W2 at *
 clear z1 e1
 obtain ⟨t0, t1, t2⟩ := (HL.out.ext HS.out.ext).t
 rw [rounds_succ]
 go_wp2_with fail
 refine (G2.out W2 (HL.out.ext HS.out.ext).f.a.o (HB.out.ext HS.out.ext)).mono ?_
 rintro e v0 ⟨rfl, hw⟩
 subst v0
 clear t0 t1 t2
 have e0 := frozen_of_row W2 g 0 _ _ HS.out.res
 have e1 := frozen_of_row W2 g 1 _ _ HS.out.res
 have e2 := frozen_of_row W2 g 2 _ _ HS.out.res
 have z0 := cell_of_row W2 g 0 _ _ _ HS.out.res
 have z1 := cell_of_row W2 g 1 _ _ _ HS.out.res
 have z2 := cell_of_row W2 g 2 _ _ _ HS.out.res
 have HS := Lib.hid (HS.out.out 0 0 0)
 go_wp2_with fail
 generalize (((W2.setCell ⟨g, 0, none⟩ (.int .i64 0)).setCell ⟨g, 1, none⟩ (.int .i64 0)).setCell ⟨g, 2, none⟩ (.int .i64 0)) = V at *
 clear e0 e1 e2 z0 z1 z2
 have z0 := cell_of_row V g 0 _ _ _ HS.out.res
 have z1 := cell_of_row V g 1 _ _ _ HS.out.res
 have z2 := cell_of_row V g 2 _ _ _ HS.out.res
 refine bodyPost_ret (v := .tuple #[.agg #[.int .i64 0, .int .i64 0, .int .i64 0], .int .i64 130]) (by simp [results, Tryz.results153, go_sem, z0, z1, z2]) rfl ⟨rfl, HS.out.ext⟩
set_option maxHeartbeats 800000 in
theorem yparse_len (A : Option Addr) (n c : Nat) (l : List Nat) (w : World) (hL : LaidY w) (hb : By w A n c l) (hm : n ≤ 1000) (X0 : Nat) (X1 : Nat) (X2 : Nat) (hg0 : getS l 0 6 = (X0, 6, 0)) (hg1 : getS l 6 1 = (X1, 7, 0)) (hg2 : getS l 7 1 = (X2, 8, 0)) (hn : n ≠ 8) :
 Calls Tryz.prog 153 #[.slice A n c] w fun e w' => e = .returned (.tuple #[.agg #[.int .i64 0, .int .i64 0, .int .i64 0], .int .i64 130]) ∧ Ext w w' := by
 have HL := Lib.hid hL
 have HB := Lib.hid hb
 have HN := Lib.hid hn
 clear hn
 have G0 := Lib.hid (ysget A l n c 0 6 _ _ _ hg0 · · · (by omega))
 clear hg0
 have G1 := Lib.hid (ysget A l n c 6 1 _ _ _ hg1 · · · (by omega))
 clear hg1
 have G2 := Lib.hid (ysget A l n c 7 1 _ _ _ hg2 · · · (by omega))
 clear hg2
 have HS := Lib.hid (PaY.make w)
 clear hL hb hm
 go_enter Tryz.func153, Tryz.ntmps153
 go_upto_region 3 with (fail)
 generalize ((w.alloc (.cells #[.int .i64 0, .int .i64 0, .int .i64 0] 137)).alloc (.cells #[.int .i64 0, .int .i64 0, .int .i64 0] 137)) = W0 at *
 generalize w.heap.size + 1 = g1 at *
 generalize hg : w.heap.size = g at *
 have HGG := Lib.hid hg
 clear hg
 have i0 := fun w => (idx_ptrs ⟨g1, 0, none⟩ ⟨g1, 1, none⟩ ⟨g1, 2, none⟩ w).1
 have i1 := fun w => (idx_ptrs ⟨g1, 0, none⟩ ⟨g1, 1, none⟩ ⟨g1, 2, none⟩ w).2.1
 have i2 := fun w => (idx_ptrs ⟨g1, 0, none⟩ ⟨g1, 1, none⟩ ⟨g1, 2, none⟩ w).2.2
 have HI := Lib.hid (And.intro i0 (And.intro i1 i2))
 obtain ⟨t0, t1, t2⟩ := (HL.out.ext HS.out.ext).t
 go_wp2_with fail
 refine wp_loop_rounds 4 ?_
 rw [rounds_succ]
 go_wp2_with fail
 refine (G0.out W0 (HL.out.ext HS.out.ext).f.a.o (HB.out.ext HS.out.ext)).mono ?_
 rintro e v0 ⟨rfl, hw⟩
 subst v0
 clear t0 t1 t2
 have z0 := cell_of_row W0 g1 0 _ _ _ HS.out.num
 have e0 := frozen_of_row W0 g1 0 _ _ HS.out.num
 have HS := Lib.hid (HS.out.put0 (X0 : Int))
 go_wp2_with fail
 generalize (W0.setCell ⟨g1, 0, none⟩ (.int .i64 (X0 : Int))) = W1 at *
 clear z0 e0
 obtain ⟨t0, t1, t2⟩ := (HL.out.ext HS.out.ext).t
 rw [rounds_succ]
 go_wp2_with fail
 refine (G1.out W1 (HL.out.ext HS.out.ext).f.a.o (HB.out.ext HS.out.ext)).mono ?_
 rintro e v0 ⟨rfl, hw⟩
 subst v0
 clear t0 t1 t2
 have z1 := cell_of_row W1 g1 1 _ _ _ HS.out.num
 have e1 := frozen_of_row W1 g1 1 _ _ HS.out.num
 have HS := Lib.hid (HS.out.put1 (X1 : Int))
 go_wp2_with fail
 generalize (W1.setCell ⟨g1, 1, none⟩ (.int .i64 (X1 : Int))) = W2 at *
 clear z1 e1
 obtain ⟨t0, t1, t2⟩ := (HL.out.ext HS.out.ext).t
 rw [rounds_succ]
 go_wp2_with fail
 refine (G2.out W2 (HL.out.ext HS.out.ext).f.a.o (HB.out.ext HS.out.ext)).mono ?_
 rintro e v0 ⟨rfl, hw⟩
 subst v0
 clear t0 t1 t2
 have z2 := cell_of_row W2 g1 2 _ _ _ HS.out.num
 have e2 := frozen_of_row W2 g1 2 _ _ HS.out.num
 have HS := Lib.hid (HS.out.put2 (X2 : Int))
 go_wp2_with fail
 generalize (W2.setCell ⟨g1, 2, none⟩ (.int .i64 (X2 : Int))) = W3 at *
 clear z2 e2
 obtain ⟨t0, t1, t2⟩ := (HL.out.ext HS.out.ext).t
 rw [rounds_succ]
 have q0 := cell_of_row W3 g1 0 _ _ _ HS.out.num
 have q1 := cell_of_row W3 g1 1 _ _ _ HS.out.num
 have q2 := cell_of_row W3 g1 2 _ _ _ HS.out.num
 have e0 := frozen_of_row W3 g 0 _ _ HS.out.res
 have e1 := frozen_of_row W3 g 1 _ _ HS.out.res
 have e2 := frozen_of_row W3 g 2 _ _ HS.out.res
 have z0 := cell_of_row W3 g 0 _ _ _ HS.out.res
 have z1 := cell_of_row W3 g 1 _ _ _ HS.out.res
 have z2 := cell_of_row W3 g 2 _ _ _ HS.out.res
 have hn0 : ¬ (8 : Int) = (n : Int) := by have := HN.out; omega
 have hn8 : ((8 : Int) == (n : Int)) = false := by simpa using hn0
 have hn9 : ((8 : Int) != (n : Int)) = true := by simpa using hn0
 clear t0 t1 t2
 have HS := Lib.hid (HS.out.out 0 0 0)
 go_wp2_with fail
 generalize (((W3.setCell ⟨g, 0, none⟩ (.int .i64 0)).setCell ⟨g, 1, none⟩ (.int .i64 0)).setCell ⟨g, 2, none⟩ (.int .i64 0)) = V at *
 clear e0 e1 e2 z0 z1 z2
 have z0 := cell_of_row V g 0 _ _ _ HS.out.res
 have z1 := cell_of_row V g 1 _ _ _ HS.out.res
 have z2 := cell_of_row V g 2 _ _ _ HS.out.res
 refine bodyPost_ret (v := .tuple #[.agg #[.int .i64 0, .int .i64 0, .int .i64 0], .int .i64 130]) (by simp [results, Tryz.results153, go_sem, z0, z1, z2]) rfl ⟨rfl, HS.out.ext⟩
set_option maxHeartbeats 800000 in
theorem yparse_ix (A : Option Addr) (n c : Nat) (l : List Nat) (w : World) (hL : LaidY w) (hb : By w A n c l) (hm : n ≤ 1000) (X0 : Nat) (X1 : Nat) (X2 : Nat) (hg0 : getS l 0 6 = (X0, 6, 0)) (hg1 : getS l 6 1 = (X1, 7, 0)) (hg2 : getS l 7 1 = (X2, 8, 0)) (hn : n = 8) (hix : inI 1 (X0 : Int) 1099511627752 = false) :
 Calls Tryz.prog 153 #[.slice A n c] w fun e w' => e = .returned (.tuple #[.agg #[.int .i64 0, .int .i64 0, .int .i64 0], .int .i64 130]) ∧ Ext w w' := by
 have HL := Lib.hid hL
 have HB := Lib.hid hb
 have HN := Lib.hid hn
 clear hn
 have G0 := Lib.hid (ysget A l n c 0 6 _ _ _ hg0 · · · (by omega))
 clear hg0
 have G1 := Lib.hid (ysget A l n c 6 1 _ _ _ hg1 · · · (by omega))
 clear hg1
 have G2 := Lib.hid (ysget A l n c 7 1 _ _ _ hg2 · · · (by omega))
 clear hg2
 have HIix := Lib.hid hix
 clear hix
 have HS := Lib.hid (PaY.make w)
 clear hL hb hm
 go_enter Tryz.func153, Tryz.ntmps153
 go_upto_region 3 with (fail)
 generalize ((w.alloc (.cells #[.int .i64 0, .int .i64 0, .int .i64 0] 137)).alloc (.cells #[.int .i64 0, .int .i64 0, .int .i64 0] 137)) = W0 at *
 generalize w.heap.size + 1 = g1 at *
 generalize hg : w.heap.size = g at *
 have HGG := Lib.hid hg
 clear hg
 have i0 := fun w => (idx_ptrs ⟨g1, 0, none⟩ ⟨g1, 1, none⟩ ⟨g1, 2, none⟩ w).1
 have i1 := fun w => (idx_ptrs ⟨g1, 0, none⟩ ⟨g1, 1, none⟩ ⟨g1, 2, none⟩ w).2.1
 have i2 := fun w => (idx_ptrs ⟨g1, 0, none⟩ ⟨g1, 1, none⟩ ⟨g1, 2, none⟩ w).2.2
 have HI := Lib.hid (And.intro i0 (And.intro i1 i2))
 obtain ⟨t0, t1, t2⟩ := (HL.out.ext HS.out.ext).t
 go_wp2_with fail
 refine wp_loop_rounds 4 ?_
 rw [rounds_succ]
 go_wp2_with fail
 refine (G0.out W0 (HL.out.ext HS.out.ext).f.a.o (HB.out.ext HS.out.ext)).mono ?_
 rintro e v0 ⟨rfl, hw⟩
 subst v0
 clear t0 t1 t2
 have z0 := cell_of_row W0 g1 0 _ _ _ HS.out.num
 have e0 := frozen_of_row W0 g1 0 _ _ HS.out.num
 have HS := Lib.hid (HS.out.put0 (X0 : Int))
 go_wp2_with fail
 generalize (W0.setCell ⟨g1, 0, none⟩ (.int .i64 (X0 : Int))) = W1 at *
 clear z0 e0
 obtain ⟨t0, t1, t2⟩ := (HL.out.ext HS.out.ext).t
 rw [rounds_succ]
 go_wp2_with fail
 refine (G1.out W1 (HL.out.ext HS.out.ext).f.a.o (HB.out.ext HS.out.ext)).mono ?_
 rintro e v0 ⟨rfl, hw⟩
 subst v0
 clear t0 t1 t2
 have z1 := cell_of_row W1 g1 1 _ _ _ HS.out.num
 have e1 := frozen_of_row W1 g1 1 _ _ HS.out.num
 have HS := Lib.hid (HS.out.put1 (X1 : Int))
 go_wp2_with fail
 generalize (W1.setCell ⟨g1, 1, none⟩ (.int .i64 (X1 : Int))) = W2 at *
 clear z1 e1
 obtain ⟨t0, t1, t2⟩ := (HL.out.ext HS.out.ext).t
 rw [rounds_succ]
 go_wp2_with fail
 refine (G2.out W2 (HL.out.ext HS.out.ext).f.a.o (HB.out.ext HS.out.ext)).mono ?_
 rintro e v0 ⟨rfl, hw⟩
 subst v0
 clear t0 t1 t2
 have z2 := cell_of_row W2 g1 2 _ _ _ HS.out.num
 have e2 := frozen_of_row W2 g1 2 _ _ HS.out.num
 have HS := Lib.hid (HS.out.put2 (X2 : Int))
 go_wp2_with fail
 generalize (W2.setCell ⟨g1, 2, none⟩ (.int .i64 (X2 : Int))) = W3 at *
 clear z2 e2
 obtain ⟨t0, t1, t2⟩ := (HL.out.ext HS.out.ext).t
 rw [rounds_succ]
 have q0 := cell_of_row W3 g1 0 _ _ _ HS.out.num
 have q1 := cell_of_row W3 g1 1 _ _ _ HS.out.num
 have q2 := cell_of_row W3 g1 2 _ _ _ HS.out.num
 have e0 := frozen_of_row W3 g 0 _ _ HS.out.res
 have e1 := frozen_of_row W3 g 1 _ _ HS.out.res
 have e2 := frozen_of_row W3 g 2 _ _ HS.out.res
 have z0 := cell_of_row W3 g 0 _ _ _ HS.out.res
 have z1 := cell_of_row W3 g 1 _ _ _ HS.out.res
 have z2 := cell_of_row W3 g 2 _ _ _ HS.out.res
 have hn8 : ((8 : Int) == (n : Int)) = true := by rw [HN.out]; rfl
 have hn9 : ((8 : Int) != (n : Int)) = false := by rw [HN.out]; rfl
 clear t0 t1 t2
 go_wp2_with fail
 refine (ywithin_of 1 (X0 : Int) 1099511627752 _).mono ?_
 rw [HIix.out]
 rintro e v0 ⟨rfl, hw⟩
 subst hw
 have HS := Lib.hid (HS.out.out 0 0 0)
 go_wp2_with fail
 generalize (((W3.setCell ⟨g, 0, none⟩ (.int .i64 0)).setCell ⟨g, 1, none⟩ (.int .i64 0)).setCell ⟨g, 2, none⟩ (.int .i64 0)) = V at *
 clear e0 e1 e2 z0 z1 z2
 have z0 := cell_of_row V g 0 _ _ _ HS.out.res
 have z1 := cell_of_row V g 1 _ _ _ HS.out.res
 have z2 := cell_of_row V g 2 _ _ _ HS.out.res
 refine bodyPost_ret (v := .tuple #[.agg #[.int .i64 0, .int .i64 0, .int .i64 0], .int .i64 130]) (by simp [results, Tryz.results153, go_sem, z0, z1, z2]) rfl ⟨rfl, HS.out.ext⟩
set_option maxHeartbeats 800000 in
theorem yparse_ar (A : Option Addr) (n c : Nat) (l : List Nat) (w : World) (hL : LaidY w) (hb : By w A n c l) (hm : n ≤ 1000) (X0 : Nat) (X1 : Nat) (X2 : Nat) (hg0 : getS l 0 6 = (X0, 6, 0)) (hg1 : getS l 6 1 = (X1, 7, 0)) (hg2 : getS l 7 1 = (X2, 8, 0)) (hn : n = 8) (hix : inI 1 (X0 : Int) 1099511627752 = true) (har : inI 0 (X1 : Int) 1 = false) :
 Calls Tryz.prog 153 #[.slice A n c] w fun e w' => e = .returned (.tuple #[.agg #[.int .i64 0, .int .i64 0, .int .i64 0], .int .i64 130]) ∧ Ext w w' := by
 have HL := Lib.hid hL
 have HB := Lib.hid hb
 have HN := Lib.hid hn
 clear hn
 have G0 := Lib.hid (ysget A l n c 0 6 _ _ _ hg0 · · · (by omega))
 clear hg0
 have G1 := Lib.hid (ysget A l n c 6 1 _ _ _ hg1 · · · (by omega))
 clear hg1
 have G2 := Lib.hid (ysget A l n c 7 1 _ _ _ hg2 · · · (by omega))
 clear hg2
 have HIix := Lib.hid hix
 clear hix
 have HIar := Lib.hid har
 clear har
 have HS := Lib.hid (PaY.make w)
 clear hL hb hm
 go_enter Tryz.func153, Tryz.ntmps153
 go_upto_region 3 with (fail)
 generalize ((w.alloc (.cells #[.int .i64 0, .int .i64 0, .int .i64 0] 137)).alloc (.cells #[.int .i64 0, .int .i64 0, .int .i64 0] 137)) = W0 at *
 generalize w.heap.size + 1 = g1 at *
 generalize hg : w.heap.size = g at *
 have HGG := Lib.hid hg
 clear hg
 have i0 := fun w => (idx_ptrs ⟨g1, 0, none⟩ ⟨g1, 1, none⟩ ⟨g1, 2, none⟩ w).1
 have i1 := fun w => (idx_ptrs ⟨g1, 0, none⟩ ⟨g1, 1, none⟩ ⟨g1, 2, none⟩ w).2.1
 have i2 := fun w => (idx_ptrs ⟨g1, 0, none⟩ ⟨g1, 1, none⟩ ⟨g1, 2, none⟩ w).2.2
 have HI := Lib.hid (And.intro i0 (And.intro i1 i2))
 obtain ⟨t0, t1, t2⟩ := (HL.out.ext HS.out.ext).t
 go_wp2_with fail
 refine wp_loop_rounds 4 ?_
 rw [rounds_succ]
 go_wp2_with fail
 refine (G0.out W0 (HL.out.ext HS.out.ext).f.a.o (HB.out.ext HS.out.ext)).mono ?_
 rintro e v0 ⟨rfl, hw⟩
 subst v0
 clear t0 t1 t2
 have z0 := cell_of_row W0 g1 0 _ _ _ HS.out.num
 have e0 := frozen_of_row W0 g1 0 _ _ HS.out.num
 have HS := Lib.hid (HS.out.put0 (X0 : Int))
 go_wp2_with fail
 generalize (W0.setCell ⟨g1, 0, none⟩ (.int .i64 (X0 : Int))) = W1 at *
 clear z0 e0
 obtain ⟨t0, t1, t2⟩ := (HL.out.ext HS.out.ext).t
 rw [rounds_succ]
 go_wp2_with fail
 refine (G1.out W1 (HL.out.ext HS.out.ext).f.a.o (HB.out.ext HS.out.ext)).mono ?_
 rintro e v0 ⟨rfl, hw⟩
 subst v0
 clear t0 t1 t2
 have z1 := cell_of_row W1 g1 1 _ _ _ HS.out.num
 have e1 := frozen_of_row W1 g1 1 _ _ HS.out.num
 have HS := Lib.hid (HS.out.put1 (X1 : Int))
 go_wp2_with fail
 generalize (W1.setCell ⟨g1, 1, none⟩ (.int .i64 (X1 : Int))) = W2 at *
 clear z1 e1
 obtain ⟨t0, t1, t2⟩ := (HL.out.ext HS.out.ext).t
 rw [rounds_succ]
 go_wp2_with fail
 refine (G2.out W2 (HL.out.ext HS.out.ext).f.a.o (HB.out.ext HS.out.ext)).mono ?_
 rintro e v0 ⟨rfl, hw⟩
 subst v0
 clear t0 t1 t2
 have z2 := cell_of_row W2 g1 2 _ _ _ HS.out.num
 have e2 := frozen_of_row W2 g1 2 _ _ HS.out.num
 have HS := Lib.hid (HS.out.put2 (X2 : Int))
 go_wp2_with fail
 generalize (W2.setCell ⟨g1, 2, none⟩ (.int .i64 (X2 : Int))) = W3 at *
 clear z2 e2
 obtain ⟨t0, t1, t2⟩ := (HL.out.ext HS.out.ext).t
 rw [rounds_succ]
 have q0 := cell_of_row W3 g1 0 _ _ _ HS.out.num
 have q1 := cell_of_row W3 g1 1 _ _ _ HS.out.num
 have q2 := cell_of_row W3 g1 2 _ _ _ HS.out.num
 have e0 := frozen_of_row W3 g 0 _ _ HS.out.res
 have e1 := frozen_of_row W3 g 1 _ _ HS.out.res
 have e2 := frozen_of_row W3 g 2 _ _ HS.out.res
 have z0 := cell_of_row W3 g 0 _ _ _ HS.out.res
 have z1 := cell_of_row W3 g 1 _ _ _ HS.out.res
 have z2 := cell_of_row W3 g 2 _ _ _ HS.out.res
 have hn8 : ((8 : Int) == (n : Int)) = true := by rw [HN.out]; rfl
 have hn9 : ((8 : Int) != (n : Int)) = false := by rw [HN.out]; rfl
 clear t0 t1 t2
 go_wp2_with fail
 refine (ywithin_of 1 (X0 : Int) 1099511627752 _).mono ?_
 rw [HIix.out]
 rintro e v0 ⟨rfl, hw⟩
 subst hw
 go_wp2_with fail
 refine (ywithin_of 0 (X1 : Int) 1 _).mono ?_
 rw [HIar.out]
 rintro e v0 ⟨rfl, hw⟩
 subst hw
 have HS := Lib.hid (HS.out.out 0 0 0)
 go_wp2_with fail
 generalize (((W3.setCell ⟨g, 0, none⟩ (.int .i64 0)).setCell ⟨g, 1, none⟩ (.int .i64 0)).setCell ⟨g, 2, none⟩ (.int .i64 0)) = V at *
 clear e0 e1 e2 z0 z1 z2
 have z0 := cell_of_row V g 0 _ _ _ HS.out.res
 have z1 := cell_of_row V g 1 _ _ _ HS.out.res
 have z2 := cell_of_row V g 2 _ _ _ HS.out.res
 refine bodyPost_ret (v := .tuple #[.agg #[.int .i64 0, .int .i64 0, .int .i64 0], .int .i64 130]) (by simp [results, Tryz.results153, go_sem, z0, z1, z2]) rfl ⟨rfl, HS.out.ext⟩
set_option maxHeartbeats 800000 in
theorem yparse_ct (A : Option Addr) (n c : Nat) (l : List Nat) (w : World) (hL : LaidY w) (hb : By w A n c l) (hm : n ≤ 1000) (X0 : Nat) (X1 : Nat) (X2 : Nat) (hg0 : getS l 0 6 = (X0, 6, 0)) (hg1 : getS l 6 1 = (X1, 7, 0)) (hg2 : getS l 7 1 = (X2, 8, 0)) (hn : n = 8) (hix : inI 1 (X0 : Int) 1099511627752 = true) (har : inI 0 (X1 : Int) 1 = true) (hct : inI 1 (X2 : Int) 8 = false) :
 Calls Tryz.prog 153 #[.slice A n c] w fun e w' => e = .returned (.tuple #[.agg #[.int .i64 0, .int .i64 0, .int .i64 0], .int .i64 130]) ∧ Ext w w' := by
 have HL := Lib.hid hL
 have HB := Lib.hid hb
 have HN := Lib.hid hn
 clear hn
 have G0 := Lib.hid (ysget A l n c 0 6 _ _ _ hg0 · · · (by omega))
 clear hg0
 have G1 := Lib.hid (ysget A l n c 6 1 _ _ _ hg1 · · · (by omega))
 clear hg1
 have G2 := Lib.hid (ysget A l n c 7 1 _ _ _ hg2 · · · (by omega))
 clear hg2
 have HIix := Lib.hid hix
 clear hix
 have HIar := Lib.hid har
 clear har
 have HIct := Lib.hid hct
 clear hct
 have HS := Lib.hid (PaY.make w)
 clear hL hb hm
 go_enter Tryz.func153, Tryz.ntmps153
 go_upto_region 3 with (fail)
 generalize ((w.alloc (.cells #[.int .i64 0, .int .i64 0, .int .i64 0] 137)).alloc (.cells #[.int .i64 0, .int .i64 0, .int .i64 0] 137)) = W0 at *
 generalize w.heap.size + 1 = g1 at *
 generalize hg : w.heap.size = g at *
 have HGG := Lib.hid hg
 clear hg
 have i0 := fun w => (idx_ptrs ⟨g1, 0, none⟩ ⟨g1, 1, none⟩ ⟨g1, 2, none⟩ w).1
 have i1 := fun w => (idx_ptrs ⟨g1, 0, none⟩ ⟨g1, 1, none⟩ ⟨g1, 2, none⟩ w).2.1
 have i2 := fun w => (idx_ptrs ⟨g1, 0, none⟩ ⟨g1, 1, none⟩ ⟨g1, 2, none⟩ w).2.2
 have HI := Lib.hid (And.intro i0 (And.intro i1 i2))
 obtain ⟨t0, t1, t2⟩ := (HL.out.ext HS.out.ext).t
 go_wp2_with fail
 refine wp_loop_rounds 4 ?_
 rw [rounds_succ]
 go_wp2_with fail
 refine (G0.out W0 (HL.out.ext HS.out.ext).f.a.o (HB.out.ext HS.out.ext)).mono ?_
 rintro e v0 ⟨rfl, hw⟩
 subst v0
 clear t0 t1 t2
 have z0 := cell_of_row W0 g1 0 _ _ _ HS.out.num
 have e0 := frozen_of_row W0 g1 0 _ _ HS.out.num
 have HS := Lib.hid (HS.out.put0 (X0 : Int))
 go_wp2_with fail
 generalize (W0.setCell ⟨g1, 0, none⟩ (.int .i64 (X0 : Int))) = W1 at *
 clear z0 e0
 obtain ⟨t0, t1, t2⟩ := (HL.out.ext HS.out.ext).t
 rw [rounds_succ]
 go_wp2_with fail
 refine (G1.out W1 (HL.out.ext HS.out.ext).f.a.o (HB.out.ext HS.out.ext)).mono ?_
 rintro e v0 ⟨rfl, hw⟩
 subst v0
 clear t0 t1 t2
 have z1 := cell_of_row W1 g1 1 _ _ _ HS.out.num
 have e1 := frozen_of_row W1 g1 1 _ _ HS.out.num
 have HS := Lib.hid (HS.out.put1 (X1 : Int))
 go_wp2_with fail
 generalize (W1.setCell ⟨g1, 1, none⟩ (.int .i64 (X1 : Int))) = W2 at *
 clear z1 e1
 obtain ⟨t0, t1, t2⟩ := (HL.out.ext HS.out.ext).t
 rw [rounds_succ]
 go_wp2_with fail
 refine (G2.out W2 (HL.out.ext HS.out.ext).f.a.o (HB.out.ext HS.out.ext)).mono ?_
 rintro e v0 ⟨rfl, hw⟩
 subst v0
 clear t0 t1 t2
 have z2 := cell_of_row W2 g1 2 _ _ _ HS.out.num
 have e2 := frozen_of_row W2 g1 2 _ _ HS.out.num
 have HS := Lib.hid (HS.out.put2 (X2 : Int))
 go_wp2_with fail
 generalize (W2.setCell ⟨g1, 2, none⟩ (.int .i64 (X2 : Int))) = W3 at *
 clear z2 e2
 obtain ⟨t0, t1, t2⟩ := (HL.out.ext HS.out.ext).t
 rw [rounds_succ]
 have q0 := cell_of_row W3 g1 0 _ _ _ HS.out.num
 have q1 := cell_of_row W3 g1 1 _ _ _ HS.out.num
 have q2 := cell_of_row W3 g1 2 _ _ _ HS.out.num
 have e0 := frozen_of_row W3 g 0 _ _ HS.out.res
 have e1 := frozen_of_row W3 g 1 _ _ HS.out.res
 have e2 := frozen_of_row W3 g 2 _ _ HS.out.res
 have z0 := cell_of_row W3 g 0 _ _ _ HS.out.res
 have z1 := cell_of_row W3 g 1 _ _ _ HS.out.res
 have z2 := cell_of_row W3 g 2 _ _ _ HS.out.res
 have hn8 : ((8 : Int) == (n : Int)) = true := by rw [HN.out]; rfl
 have hn9 : ((8 : Int) != (n : Int)) = false := by rw [HN.out]; rfl
 clear t0 t1 t2
 go_wp2_with fail
 refine (ywithin_of 1 (X0 : Int) 1099511627752 _).mono ?_
 rw [HIix.out]
 rintro e v0 ⟨rfl, hw⟩
 subst hw
 go_wp2_with fail
 refine (ywithin_of 0 (X1 : Int) 1 _).mono ?_
 rw [HIar.out]
 rintro e v0 ⟨rfl, hw⟩
 subst hw
 go_wp2_with fail
 refine (ywithin_of 1 (X2 : Int) 8 _).mono ?_
 rw [HIct.out]
 rintro e v0 ⟨rfl, hw⟩
 subst hw
 have HS := Lib.hid (HS.out.out 0 0 0)
 go_wp2_with fail
 generalize (((W3.setCell ⟨g, 0, none⟩ (.int .i64 0)).setCell ⟨g, 1, none⟩ (.int .i64 0)).setCell ⟨g, 2, none⟩ (.int .i64 0)) = V at *
 clear e0 e1 e2 z0 z1 z2
 have z0 := cell_of_row V g 0 _ _ _ HS.out.res
 have z1 := cell_of_row V g 1 _ _ _ HS.out.res
 have z2 := cell_of_row V g 2 _ _ _ HS.out.res
 refine bodyPost_ret (v := .tuple #[.agg #[.int .i64 0, .int .i64 0, .int .i64 0], .int .i64 130]) (by simp [results, Tryz.results153, go_sem, z0, z1, z2]) rfl ⟨rfl, HS.out.ext⟩
set_option maxHeartbeats 800000 in
theorem yparse_yes (A : Option Addr) (n c : Nat) (l : List Nat) (w : World) (hL : LaidY w) (hb : By w A n c l) (hm : n ≤ 1000) (X0 : Nat) (X1 : Nat) (X2 : Nat) (hg0 : getS l 0 6 = (X0, 6, 0)) (hg1 : getS l 6 1 = (X1, 7, 0)) (hg2 : getS l 7 1 = (X2, 8, 0)) (hn : n = 8) (hix : inI 1 (X0 : Int) 1099511627752 = true) (har : inI 0 (X1 : Int) 1 = true) (hct : inI 1 (X2 : Int) 8 = true) :
 Calls Tryz.prog 153 #[.slice A n c] w fun e w' => e = .returned (.tuple #[.agg #[.int .i64 (X0 : Int), .int .i64 (X1 : Int), .int .i64 (X2 : Int)], .int .i64 0]) ∧ Ext w w' := by
 have HL := Lib.hid hL
 have HB := Lib.hid hb
 have HN := Lib.hid hn
 clear hn
 have G0 := Lib.hid (ysget A l n c 0 6 _ _ _ hg0 · · · (by omega))
 clear hg0
 have G1 := Lib.hid (ysget A l n c 6 1 _ _ _ hg1 · · · (by omega))
 clear hg1
 have G2 := Lib.hid (ysget A l n c 7 1 _ _ _ hg2 · · · (by omega))
 clear hg2
 have HIix := Lib.hid hix
 clear hix
 have HIar := Lib.hid har
 clear har
 have HIct := Lib.hid hct
 clear hct
 have HS := Lib.hid (PaY.make w)
 clear hL hb hm
 go_enter Tryz.func153, Tryz.ntmps153
 go_upto_region 3 with (fail)
 generalize ((w.alloc (.cells #[.int .i64 0, .int .i64 0, .int .i64 0] 137)).alloc (.cells #[.int .i64 0, .int .i64 0, .int .i64 0] 137)) = W0 at *
 generalize w.heap.size + 1 = g1 at *
 generalize hg : w.heap.size = g at *
 have HGG := Lib.hid hg
 clear hg
 have i0 := fun w => (idx_ptrs ⟨g1, 0, none⟩ ⟨g1, 1, none⟩ ⟨g1, 2, none⟩ w).1
 have i1 := fun w => (idx_ptrs ⟨g1, 0, none⟩ ⟨g1, 1, none⟩ ⟨g1, 2, none⟩ w).2.1
 have i2 := fun w => (idx_ptrs ⟨g1, 0, none⟩ ⟨g1, 1, none⟩ ⟨g1, 2, none⟩ w).2.2
 have HI := Lib.hid (And.intro i0 (And.intro i1 i2))
 obtain ⟨t0, t1, t2⟩ := (HL.out.ext HS.out.ext).t
 go_wp2_with fail
 refine wp_loop_rounds 4 ?_
 rw [rounds_succ]
 go_wp2_with fail
 refine (G0.out W0 (HL.out.ext HS.out.ext).f.a.o (HB.out.ext HS.out.ext)).mono ?_
 rintro e v0 ⟨rfl, hw⟩
 subst v0
 clear t0 t1 t2
 have z0 := cell_of_row W0 g1 0 _ _ _ HS.out.num
 have e0 := frozen_of_row W0 g1 0 _ _ HS.out.num
 have HS := Lib.hid (HS.out.put0 (X0 : Int))
 go_wp2_with fail
 generalize (W0.setCell ⟨g1, 0, none⟩ (.int .i64 (X0 : Int))) = W1 at *
 clear z0 e0
 obtain ⟨t0, t1, t2⟩ := (HL.out.ext HS.out.ext).t
 rw [rounds_succ]
 go_wp2_with fail
 refine (G1.out W1 (HL.out.ext HS.out.ext).f.a.o (HB.out.ext HS.out.ext)).mono ?_
 rintro e v0 ⟨rfl, hw⟩
 subst v0
 clear t0 t1 t2
 have z1 := cell_of_row W1 g1 1 _ _ _ HS.out.num
 have e1 := frozen_of_row W1 g1 1 _ _ HS.out.num
 have HS := Lib.hid (HS.out.put1 (X1 : Int))
 go_wp2_with fail
 generalize (W1.setCell ⟨g1, 1, none⟩ (.int .i64 (X1 : Int))) = W2 at *
 clear z1 e1
 obtain ⟨t0, t1, t2⟩ := (HL.out.ext HS.out.ext).t
 rw [rounds_succ]
 go_wp2_with fail
 refine (G2.out W2 (HL.out.ext HS.out.ext).f.a.o (HB.out.ext HS.out.ext)).mono ?_
 rintro e v0 ⟨rfl, hw⟩
 subst v0
 clear t0 t1 t2
 have z2 := cell_of_row W2 g1 2 _ _ _ HS.out.num
 have e2 := frozen_of_row W2 g1 2 _ _ HS.out.num
 have HS := Lib.hid (HS.out.put2 (X2 : Int))
 go_wp2_with fail
 generalize (W2.setCell ⟨g1, 2, none⟩ (.int .i64 (X2 : Int))) = W3 at *
 clear z2 e2
 obtain ⟨t0, t1, t2⟩ := (HL.out.ext HS.out.ext).t
 rw [rounds_succ]
 have q0 := cell_of_row W3 g1 0 _ _ _ HS.out.num
 have q1 := cell_of_row W3 g1 1 _ _ _ HS.out.num
 have q2 := cell_of_row W3 g1 2 _ _ _ HS.out.num
 have e0 := frozen_of_row W3 g 0 _ _ HS.out.res
 have e1 := frozen_of_row W3 g 1 _ _ HS.out.res
 have e2 := frozen_of_row W3 g 2 _ _ HS.out.res
 have z0 := cell_of_row W3 g 0 _ _ _ HS.out.res
 have z1 := cell_of_row W3 g 1 _ _ _ HS.out.res
 have z2 := cell_of_row W3 g 2 _ _ _ HS.out.res
 have hn8 : ((8 : Int) == (n : Int)) = true := by rw [HN.out]; rfl
 have hn9 : ((8 : Int) != (n : Int)) = false := by rw [HN.out]; rfl
 clear t0 t1 t2
 go_wp2_with fail
 refine (ywithin_of 1 (X0 : Int) 1099511627752 _).mono ?_
 rw [HIix.out]
 rintro e v0 ⟨rfl, hw⟩
 subst hw
 go_wp2_with fail
 refine (ywithin_of 0 (X1 : Int) 1 _).mono ?_
 rw [HIar.out]
 rintro e v0 ⟨rfl, hw⟩
 subst hw
 go_wp2_with fail
 refine (ywithin_of 1 (X2 : Int) 8 _).mono ?_
 rw [HIct.out]
 rintro e v0 ⟨rfl, hw⟩
 subst hw
 have HS := Lib.hid (HS.out.out (X0 : Int) (X1 : Int) (X2 : Int))
 go_wp2_with fail
 generalize (((W3.setCell ⟨g, 0, none⟩ (.int .i64 (X0 : Int))).setCell ⟨g, 1, none⟩ (.int .i64 (X1 : Int))).setCell ⟨g, 2, none⟩ (.int .i64 (X2 : Int))) = V at *
 clear e0 e1 e2 z0 z1 z2
 have z0 := cell_of_row V g 0 _ _ _ HS.out.res
 have z1 := cell_of_row V g 1 _ _ _ HS.out.res
 have z2 := cell_of_row V g 2 _ _ _ HS.out.res
 refine bodyPost_ret (v := .tuple #[.agg #[.int .i64 (X0 : Int), .int .i64 (X1 : Int), .int .i64 (X2 : Int)], .int .i64 0]) (by simp [results, Tryz.results153, go_sem, z0, z1, z2]) rfl ⟨rfl, HS.out.ext⟩
end
section
open Go Go.ChangeShapes Go.WideShapes Go.ChangeAt Go.WideMaps Go.WideElems Go.RowKit Go.Deep
def laidList : List (String × DataW Unit) := [("sexton/crc.halves", Rows.laid_sexton_crc_halves), ("sexton/octet.bounds", Rows.laid_sexton_octet_bounds), ("sexton/tag.regions", Rows.laid_sexton_tag_regions), ("sexton/tag.widths", Rows.laid_sexton_tag_widths), ("sexton/snap.widths", Rows.laid_sexton_snap_widths)]
theorem door_met (os : Os) (args : Array Value) : laidMetH Tryz.prog laidList ((World.doorLaid Tryz.prog 400 os).forCall (fun _ _ => 0) ⟨#[], args, []⟩).memory :=
 laidMetH_of_parts3 (fuel := 8) (laidMet_of_run' 8 (by kernel_rfl) (by kernel_rfl)) (by kernel_rfl) (by kernel_rfl)
theorem laid_of {W : World} (h : laidMetH Tryz.prog laidList W) : LaidY W := by
 rw [MakeChecks.laidMetH_plain _ _ _ (by kernel_rfl)] at h
 have hF : LaidF W := ⟨⟨laid_o h.tail, laid_t h.tail.tail, laid_w h.tail.tail.tail⟩, laid_h h⟩
 have hg : Tryz.prog.globalNamed "sexton/snap.widths" = some 1 := by kernel_rfl
 have ht : (Tryz.prog.globals[1]?).map (·.type) = some 183 := by kernel_rfl
 have hv : W.var? Tryz.prog "sexton/snap.widths" = some (([6, 1, 1] : List Int).map fun z => Value.int .i64 z).toArray :=
  Lib.tabIs_of_head hg ht Tryz.underlying183 Tryz.underlying3 (by kernel_rfl) (by kernel_rfl) h.tail.tail.tail.tail
 have hc := fun i => World.var?_cell hg hv i
 exact ⟨hF, hc 0, hc 1, hc 2⟩
end
section
open Go Go.RowKit Go.ChangeShapes Go.WideShapes Go.Deep
structure Ls {α : Type} (cells : α → List Value) (N : Nat) (w : World) (B : Nat) (A : Option Addr) (n c : Nat) (l : List α) : Prop where
 len : l.length = n
 cap : n ≤ c
 most : c ≤ 9223372036854775807
 rd : 0 < n → ∃ g o, A = some ⟨g, o, none⟩ ∧ g < B ∧ ∀ j a, l[j]? = some a → ∀ k v, (cells a)[k]? = some v → w.cell? ⟨g, o + (j * N + k), none⟩ = some v
 nil_ : A = none → c = 0
theorem Ls.at_ {α : Type} {cells : α → List Value} {N : Nat} {w : World} {B : Nat} {A : Option Addr} {n c : Nat} {l : List α} (h : Ls cells N w B A n c l) {j : Nat} (hj : j < n) :
 ∃ g o a, A = some ⟨g, o, none⟩ ∧ g < B ∧ l[j]? = some a ∧ ∀ k v, (cells a)[k]? = some v → w.cell? ⟨g, o + (j * N + k), none⟩ = some v := by
 obtain ⟨g, o, e, hg, hc⟩ := h.rd (by omega)
 have hj' : j < l.length := by rw [h.len]; exact hj
 have ha : l[j]? = some l[j] := List.getElem?_eq_getElem hj'
 exact ⟨g, o, l[j], e, hg, ha, fun k v hv => hc j _ ha k v hv⟩
section
variable {H : Type} {enc : TypeId × Value → H} {P : Program} {w : World} {base : Nat} {spare : Nat → Bool} {held : Bool}
theorem trod_list {α : Type} [Inhabited α] {cells : α → List Value} {N : Nat} {Ok : α → Prop} (hN : ∀ a, (cells a).length = N) (h0 : 0 < N) {t e : TypeId} (ht : P.underlying t = some (.slice e)) (hce : P.cellsOf e = N)
 (one : ∀ {fuel : Nat} {cs : List Value} {x : DataW H × List MemPlace}, DataW.trod enc P w base spare held fuel e cs = some x → ∃ a, cs = cells a ∧ Ok a) {fuel : Nat} {cs : List Value} {x : DataW H × List MemPlace} (h : DataW.trod enc P w base spare held fuel t cs = some x) :
 ∃ (A : Option Addr) (n c : Nat) (l : List α), cs = [.slice A n c] ∧ Ls cells N w w.heap.size A n c l ∧ ∀ a ∈ l, Ok a := by
 rcases open_slice ht h with ⟨rfl, _⟩ | ⟨a, len, cap, m, n, D, Pl, rfl, _, hl, hm, hmm, _, hi⟩
 ·exact ⟨none, 0, 0, [], rfl, ⟨rfl, Nat.le_refl _, by omega, fun h => absurd h (by omega), fun _ => rfl⟩, fun a ha => (by cases ha)⟩
 ·have hle : len ≤ m := by rw [hmm]; split <;> omega
  have each : ∀ i, i < len → ∃ b : α, (∀ k v, (cells b)[k]? = some v → w.cell? ((a.add (i * N)).add k) = some v) ∧ Ok b := fun i hil => by
   obtain ⟨cs', h1, h2⟩ := hi i (by omega)
   rw [hce] at h1
   obtain ⟨_, _, hcell⟩ := World.cells?_some h1
   obtain ⟨b, rfl, hb⟩ := one h2
   refine ⟨b, fun k v hv => ?_, hb⟩
   have hk5 : k < N := by rw [← hN b]; exact (List.getElem?_eq_some_iff.1 hv).1
   rw [hcell k hk5, hv]
  obtain ⟨f, hf⟩ := choose_lt each
  refine ⟨some a, len, cap, (List.range len).map f, rfl, ⟨by simp, hl, by unfold maxLen at hm; exact hm, fun hn => ?_, fun h => by cases h⟩, fun b hb => ?_⟩
  ·obtain ⟨g, o, spot⟩ := a
   have hc := (hf 0 hn).1 0 _ (List.getElem?_eq_getElem (by rw [hN]; exact h0))
   have hspot : spot = none := by simpa [Addr.add] using World.cell?_spot hc
   subst hspot
   refine ⟨g, o, rfl, ?_, fun j b hb k v hv => ?_⟩
   ·have := World.block_lt_of_cell? w _ hc
    simpa [Addr.add] using this
   ·rw [List.getElem?_map] at hb
    obtain ⟨i, hi2, rfl⟩ := Option.map_eq_some_iff.1 hb
    obtain ⟨hjl, hji⟩ := List.getElem?_eq_some_iff.1 hi2
    simp at hjl hji
    subst hji
    have := (hf j hjl).1 k v hv
    rw [Addr.add_lit, Addr.add_lit, Nat.add_assoc] at this
    exact this
  ·obtain ⟨i, hil, rfl⟩ := List.mem_map.1 hb
   exact (hf i (List.mem_range.1 hil)).2
theorem open_list {α : Type} [Inhabited α] {cells : α → List Value} {N : Nat} {Ok : α → Prop} (hN : ∀ a, (cells a).length = N) (h0 : 0 < N) {t e : TypeId} (ht : P.underlying t = some (.slice e)) (hce : P.cellsOf e = N)
 (one : ∀ {fuel : Nat} {cs : List Value} {x : DataW H × List MemPlace}, DataW.trod enc P w base spare held fuel e cs = some x → ∃ a, cs = cells a ∧ Ok a) {r : Reach} {b0 : Nat} {v : Value} {d : DataW H} {p : List MemPlace}
 (hv : Value.okWide P w r b0 t v) (h : DataW.Trod enc P w base spare held t v d p) : ∃ (A : Option Addr) (n c : Nat) (l : List α), v = .slice A n c ∧ Ls cells N w w.heap.size A n c l ∧ ∀ a ∈ l, Ok a := by
 obtain ⟨A, n, c, rfl⟩ := okWide_slice ht hv
 obtain ⟨fuel, hf⟩ := h
 obtain ⟨A', n', c', l, hcs, hl⟩ := trod_list hN h0 ht hce one hf
 simp [Value.cells] at hcs
 obtain ⟨rfl, rfl, rfl⟩ := hcs
 exact ⟨_, _, _, l, rfl, hl⟩
structure Bal where
 x : Int := 0
 y : Int := 0
instance : Inhabited Bal := ⟨{}⟩
structure StepU where
 p : Bool := false
 x : Int := 0
 y : Int := 0
 w : Int := 0
 kA : Option Addr := none
 kn : Nat := 0
 kc : Nat := 0
 kl : List Bool := []
instance : Inhabited StepU := ⟨{}⟩
end
end
end Go.Proofs.YtmpaocpgoihliaaGreatDoor
