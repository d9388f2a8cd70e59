/-
  The contract of the program's Print.
-/
import Derived.Test.YtmpaocpgoihliaaGreatDoorP00
import Derived.Test.YtmpaocpgoihliaaGreatDoorP01
import Derived.Test.YtmpaocpgoihliaaGreatDoorP05
import Derived.Test.YtmpaocpgoihliaaGreatDoorP06
import Derived.Test.YtmpaocpgoihliaaGreatDoorP07
import Derived.Test.YtmpaocpgoihliaaGreatDoorProg
import Derived.WalkKit
import Derived.WalkSpells
import Derived.WalkLawsBesides
import Derived.BigQuiet
import Derived.Lib.Hide
import Derived.Outline
import Derived.Deep.QuietTactic
import Derived.Laws.OwnMore
import Derived.Laws.BitsAllLaws
namespace Go.Proofs.YtmpaocpgoihliaaGreatDoor
set_option maxRecDepth 100000
section
open Go Go.RowKit
def LaidW (w : World) : Prop := ∀ k : Nat, k < 5 → w.cell? ⟨3, k, none⟩ = some (.int .i64 (wth k))
theorem LaidW.ext {a b : World} (h : LaidW a) (k : Ext a b) : LaidW b := fun i hi => Ext.cell k (h i hi)
structure LaidA (w : World) : Prop where
 o : Laid w
 t : LaidT w
 w : LaidW w
theorem LaidA.ext {a b : World} (h : LaidA a) (k : Ext a b) : LaidA b := ⟨h.o.ext k, h.t.ext k, h.w.ext k⟩
theorem five_index (a b c d e k : Nat) (hk : k < 5) (w : World) : (Instr.index 309 (.agg #[.int .i64 a, .int .i64 b, .int .i64 c, .int .i64 d, .int .i64 e]) (.int .i64 k)).run Tryz.prog w = .ok (.int .i64 (fld a b c d e k)) w := by
 have hj' : k = 0 ∨ k = 1 ∨ k = 2 ∨ k = 3 ∨ k = 4 := by omega
 rcases hj' with rfl | rfl | rfl | rfl | rfl <;> (show _ = _; kernel_rfl)
set_option maxHeartbeats 1600000 in
theorem print_no (a b c d e : Int) (w : World) (hL : LaidT w) (hm : mayB a b c d e = false) :
 Calls Tryz.prog 194 #[.agg #[.int .i64 a, .int .i64 b, .int .i64 c, .int .i64 d, .int .i64 e]] w fun r w' => r = .returned (.tuple #[.slice none 0 0, .int .i64 2]) ∧ Ext w w' := by
 have hE := (Ext.refl w).alloc (.cells #[.int .i64 a, .int .i64 b, .int .i64 c, .int .i64 d, .int .i64 e] 44)
 have HL := Lib.hid (hL.ext hE)
 have HE := Lib.hid hE
 have HM := Lib.hid hm
 clear hL hE hm
 go_enter Tryz.func194, Tryz.ntmps194
 go_wp2_with fail
 refine (may_any _ _ _ _ _ _ HL.out).mono ?_
 rw [HM.out]
 rintro r w1 ⟨rfl, hx⟩
 have HE := Lib.hid (HE.out.trans hx)
 clear hx
 go_wp2_with fail
 go_ret2
 exact ⟨rfl, HE.out⟩
set_option maxHeartbeats 3200000 in
theorem print_yes (a b c d e : Nat) (w : World) (hL : LaidA w) (hm : mayB a b c d e = true) :
 Calls Tryz.prog 194 #[.agg #[.int .i64 a, .int .i64 b, .int .i64 c, .int .i64 d, .int .i64 e]] w fun r w' => ∃ A cp, r = .returned (.tuple #[.slice A 15 cp, .int .i64 0]) ∧ By w' A 15 cp (tagBytes a b c d e) ∧ Ext w w' := by
 have hE := (Ext.refl w).alloc (.cells #[.int .i64 a, .int .i64 b, .int .i64 c, .int .i64 d, .int .i64 e] 44)
 have hc := fun i => (cell_of_row _ w.heap.size i _ 44 (0, 0) (heap_alloc_new w (.cells #[.int .i64 a, .int .i64 b, .int .i64 c, .int .i64 d, .int .i64 e] 44)))
 have HC := Lib.hid hc
 have HL := Lib.hid (hL.ext hE)
 have HE := Lib.hid hE
 have HM := Lib.hid hm
 clear hL hE hm hc
 go_enter Tryz.func194, Tryz.ntmps194
 go_wp2_with fail
 refine (may_any _ _ _ _ _ _ HL.out.t).mono ?_
 rw [HM.out]
 rintro r w1 ⟨rfl, hx⟩
 have i0 : w1.cell? ⟨w.heap.size, 0, none⟩ = some (.int .i64 a) := Ext.cell hx (HC.out 0)
 have i1 : w1.cell? ⟨w.heap.size, 1, none⟩ = some (.int .i64 b) := Ext.cell hx (HC.out 1)
 have i2 : w1.cell? ⟨w.heap.size, 2, none⟩ = some (.int .i64 c) := Ext.cell hx (HC.out 2)
 have i3 : w1.cell? ⟨w.heap.size, 3, none⟩ = some (.int .i64 d) := Ext.cell hx (HC.out 3)
 have i4 : w1.cell? ⟨w.heap.size, 4, none⟩ = some (.int .i64 e) := Ext.cell hx (HC.out 4)
 have HL := Lib.hid (HL.out.ext hx)
 have HE := Lib.hid (HE.out.trans hx)
 clear hx HC
 go_wp2_with fail
 clear i0 i1 i2 i3 i4
 go_loopw [4, 23] (fun v i wr => ∃ k : Nat, k ≤ 5 ∧ i = .int .i64 k ∧ ∃ A n cp, v = .slice A n cp ∧ Hid (By wr A n cp (pre (fld a b c d e) k)) ∧ Hid (Ext w1 wr)) (fun _ i _ => 5 - (intOf i).toNat)
 case atStart => exact ⟨0, Nat.zero_le _, rfl, none, 0, 0, rfl, Lib.hid (By.nil_ _), Lib.hid (Ext.refl _)⟩
 case round =>
  obtain ⟨k, hk, rfl, A, n, cp, rfl, HB, HX⟩ := hrel
  by_cases hlt : k < 5
  ·have hn : n ≤ 30 := by
    have h1 := HB.out.len
    have h2 := pre_len_le (fld a b c d e) k
    omega
   have hcap := HB.out.cap
   have hW := (HL.out.ext HX.out).w k hlt
   have hI := five_index a b c d e k hlt
   have hwl := wth_le k
   go_wp2_with fail
   refine (put_by _ _ _ (HL.out.ext HX.out).o (fld_fits HM.out k)).mono ?_
   rintro r w2 ⟨A2, c2, rfl, hb, hx⟩
   have HB2 := Lib.hid hb
   have HB := Lib.hid (HB.out.ext hx)
   have HX := Lib.hid (HX.out.trans hx)
   clear hx hb hW hI
   go_wp2_with fail
   refine (join2_by _ HB.out HB2.out (by omega)).mono ?_
   rintro r w3 ⟨A3, c3, rfl, hb, hx⟩
   have HB3 := Lib.hid hb
   have HX := Lib.hid (HX.out.trans hx)
   clear hx hb
   go_wp2_with fail
   go_roundw
   case rel => exact ⟨k + 1, by omega, by go_num, A3, _, c3, rfl, HB3, HX⟩
   case measure => simp [intOf]; omega
  ·have HK : Hid (k = 5) := Lib.hid (by omega)
   have hb := HB.out
   rw [HK.out] at hb
   have hn : n = 15 := hb.len.symm.trans (tagBytes_len a b c d e)
   subst hn
   have HB := Lib.hid hb
   clear hb
   go_wp2_with fail
   go_ret2
   exact ⟨A, cp, rfl, HB.out, HE.out.trans HX.out⟩
end
section
open Go Go.RowKit
theorem rplaces_any (r : Int) (w : World) :
 Calls Tryz.prog 204 #[.int .i64 r] w fun e w' => e = .returned (.int .i64 (plc r)) ∧ w = w' := by
 by_cases h : r < 1 ∨ 5 < r
 ·have HF := Lib.hid (plc_out h)
  have g1 : (r == 1) = false := by simp; omega
  have g2 : (r == 2) = false := by simp; omega
  have g3 : (r == 3) = false := by simp; omega
  have g4 : (r == 4) = false := by simp; omega
  have g5 : (r == 5) = false := by simp; omega
  clear h
  go_enter Tryz.func204, Tryz.ntmps204
  go_wp2_with fail
  go_ret
  exact ⟨by rw [HF.out]; rfl, rfl⟩
 ·rcases region_cases (r := r) (by omega) with rfl | rfl | rfl | rfl | rfl
  all_goals
   go_enter Tryz.func204, Tryz.ntmps204
   go_wp2_with fail
   go_ret
   exact ⟨rfl, rfl⟩
end
section
open Go Go.RowKit
theorem mayB_no {a b c d e : Int} (h : ¬ (0 ≤ a ∧ a ≤ 6 ∧ 1 ≤ b ∧ b ≤ 5 ∧ 0 ≤ c ∧ c < plc b ∧ 0 ≤ d ∧ d ≤ 1099511627776 ∧ 1 ≤ e ∧ e ≤ 1099511627776)) : mayB a b c d e = false := by
 unfold mayB
 exact decide_eq_false h
set_option maxHeartbeats 3200000 in
theorem rmay_any (a b c d e : Int) (w : World) :
 Calls Tryz.prog 206 #[.agg #[.int .i64 a, .int .i64 b, .int .i64 c, .int .i64 d, .int .i64 e]] w fun r w' => r = .returned (.bool (mayB a b c d e)) ∧ Ext w w' := by
 have hE := (Ext.refl w).alloc (.cells #[.int .i64 a, .int .i64 b, .int .i64 c, .int .i64 d, .int .i64 e] 44)
 have HE := Lib.hid hE
 clear hE
 by_cases h1 : a < 0
 ·have HM := Lib.hid (mayB_no (a := a) (b := b) (c := c) (d := d) (e := e) (by omega))
  have g1 : decide (a < 0) = true := by simpa using h1
  clear h1
  go_enter Tryz.func206, Tryz.ntmps206
  go_wp2_with fail
  go_quiet ((go_at_call 204; exact Calls.quiet_of_same ((rplaces_any _ _).mono fun _ _ h => ⟨h.1, h.2.symm⟩)))
  go_wp2_with fail
  go_ret
  exact ⟨by rw [HM.out]; rfl, HE.out.drewN _⟩
 by_cases h2 : 6 < a
 ·have HM := Lib.hid (mayB_no (a := a) (b := b) (c := c) (d := d) (e := e) (by omega))
  have g2 : decide (6 < a) = true := by simpa using h2
  have g1 : decide (a < 0) = false := by simpa using h1
  clear h1 h2
  go_enter Tryz.func206, Tryz.ntmps206
  go_wp2_with fail
  go_quiet ((go_at_call 204; exact Calls.quiet_of_same ((rplaces_any _ _).mono fun _ _ h => ⟨h.1, h.2.symm⟩)))
  go_wp2_with fail
  go_ret
  exact ⟨by rw [HM.out]; rfl, HE.out.drewN _⟩
 by_cases h3 : b < 1
 ·have HM := Lib.hid (mayB_no (a := a) (b := b) (c := c) (d := d) (e := e) (by omega))
  have g3 : decide (b < 1) = true := by simpa using h3
  have g1 : decide (a < 0) = false := by simpa using h1
  have g2 : decide (6 < a) = false := by simpa using h2
  clear h1 h2 h3
  go_enter Tryz.func206, Tryz.ntmps206
  go_wp2_with fail
  go_quiet ((go_at_call 204; exact Calls.quiet_of_same ((rplaces_any _ _).mono fun _ _ h => ⟨h.1, h.2.symm⟩)))
  go_wp2_with fail
  go_ret
  exact ⟨by rw [HM.out]; rfl, HE.out.drewN _⟩
 by_cases h4 : 5 < b
 ·have HM := Lib.hid (mayB_no (a := a) (b := b) (c := c) (d := d) (e := e) (by omega))
  have g4 : decide (5 < b) = true := by simpa using h4
  have g1 : decide (a < 0) = false := by simpa using h1
  have g2 : decide (6 < a) = false := by simpa using h2
  have g3 : decide (b < 1) = false := by simpa using h3
  clear h1 h2 h3 h4
  go_enter Tryz.func206, Tryz.ntmps206
  go_wp2_with fail
  go_quiet ((go_at_call 204; exact Calls.quiet_of_same ((rplaces_any _ _).mono fun _ _ h => ⟨h.1, h.2.symm⟩)))
  go_wp2_with fail
  go_ret
  exact ⟨by rw [HM.out]; rfl, HE.out.drewN _⟩
 by_cases h5 : c < 0
 ·have HM := Lib.hid (mayB_no (a := a) (b := b) (c := c) (d := d) (e := e) (by omega))
  have g5 : decide (c < 0) = true := by simpa using h5
  have g1 : decide (a < 0) = false := by simpa using h1
  have g2 : decide (6 < a) = false := by simpa using h2
  have g3 : decide (b < 1) = false := by simpa using h3
  have g4 : decide (5 < b) = false := by simpa using h4
  clear h1 h2 h3 h4 h5
  go_enter Tryz.func206, Tryz.ntmps206
  go_wp2_with fail
  go_quiet ((go_at_call 204; exact Calls.quiet_of_same ((rplaces_any _ _).mono fun _ _ h => ⟨h.1, h.2.symm⟩)))
  go_wp2_with fail
  go_ret
  exact ⟨by rw [HM.out]; rfl, HE.out.drewN _⟩
 by_cases h6 : (plc b : Int) ≤ c
 ·have HM := Lib.hid (mayB_no (a := a) (b := b) (c := c) (d := d) (e := e) (by omega))
  have g6 : decide ((plc b : Int) ≤ c) = true := by simpa using h6
  have g1 : decide (a < 0) = false := by simpa using h1
  have g2 : decide (6 < a) = false := by simpa using h2
  have g3 : decide (b < 1) = false := by simpa using h3
  have g4 : decide (5 < b) = false := by simpa using h4
  have g5 : decide (c < 0) = false := by simpa using h5
  clear h1 h2 h3 h4 h5 h6
  go_enter Tryz.func206, Tryz.ntmps206
  go_wp2_with fail
  go_quiet ((go_at_call 204; exact Calls.quiet_of_same ((rplaces_any _ _).mono fun _ _ h => ⟨h.1, h.2.symm⟩)))
  go_wp2_with fail
  go_ret
  exact ⟨by rw [HM.out]; rfl, HE.out.drewN _⟩
 have g1 : decide (a < 0) = false := by simpa using h1
 have g2 : decide (6 < a) = false := by simpa using h2
 have g3 : decide (b < 1) = false := by simpa using h3
 have g4 : decide (5 < b) = false := by simpa using h4
 have g5 : decide (c < 0) = false := by simpa using h5
 have g6 : decide ((plc b : Int) ≤ c) = false := by simpa using h6
 by_cases k1 : ¬ 0 ≤ d
 ·have HM := Lib.hid (mayB_no (a := a) (b := b) (c := c) (d := d) (e := e) (by omega))
  have j1 : decide (0 ≤ d) = false := by simpa using k1
  clear h1 h2 h3 h4 h5 h6 k1
  go_enter Tryz.func206, Tryz.ntmps206
  go_wp2_with fail
  go_quiet ((go_at_call 204; exact Calls.quiet_of_same ((rplaces_any _ _).mono fun _ _ h => ⟨h.1, h.2.symm⟩)))
  go_wp2_with fail
  go_ret
  exact ⟨by rw [HM.out]; rfl, HE.out.drewN _⟩
 by_cases k2 : ¬ d ≤ 1099511627776
 ·have HM := Lib.hid (mayB_no (a := a) (b := b) (c := c) (d := d) (e := e) (by omega))
  have j2 : decide (d ≤ 1099511627776) = false := by simpa using k2
  have j1 : decide (0 ≤ d) = true := by simpa using k1
  clear h1 h2 h3 h4 h5 h6 k1 k2
  go_enter Tryz.func206, Tryz.ntmps206
  go_wp2_with fail
  go_quiet ((go_at_call 204; exact Calls.quiet_of_same ((rplaces_any _ _).mono fun _ _ h => ⟨h.1, h.2.symm⟩)))
  go_wp2_with fail
  go_ret
  exact ⟨by rw [HM.out]; rfl, HE.out.drewN _⟩
 by_cases k3 : ¬ 1 ≤ e
 ·have HM := Lib.hid (mayB_no (a := a) (b := b) (c := c) (d := d) (e := e) (by omega))
  have j3 : decide (1 ≤ e) = false := by simpa using k3
  have j1 : decide (0 ≤ d) = true := by simpa using k1
  have j2 : decide (d ≤ 1099511627776) = true := by simpa using k2
  clear h1 h2 h3 h4 h5 h6 k1 k2 k3
  go_enter Tryz.func206, Tryz.ntmps206
  go_wp2_with fail
  go_quiet ((go_at_call 204; exact Calls.quiet_of_same ((rplaces_any _ _).mono fun _ _ h => ⟨h.1, h.2.symm⟩)))
  go_wp2_with fail
  go_ret
  exact ⟨by rw [HM.out]; rfl, HE.out.drewN _⟩
 by_cases k4 : ¬ e ≤ 1099511627776
 ·have HM := Lib.hid (mayB_no (a := a) (b := b) (c := c) (d := d) (e := e) (by omega))
  have j4 : decide (e ≤ 1099511627776) = false := by simpa using k4
  have j1 : decide (0 ≤ d) = true := by simpa using k1
  have j2 : decide (d ≤ 1099511627776) = true := by simpa using k2
  have j3 : decide (1 ≤ e) = true := by simpa using k3
  clear h1 h2 h3 h4 h5 h6 k1 k2 k3 k4
  go_enter Tryz.func206, Tryz.ntmps206
  go_wp2_with fail
  go_quiet ((go_at_call 204; exact Calls.quiet_of_same ((rplaces_any _ _).mono fun _ _ h => ⟨h.1, h.2.symm⟩)))
  go_wp2_with fail
  go_ret
  exact ⟨by rw [HM.out]; rfl, HE.out.drewN _⟩
 have j1 : decide (0 ≤ d) = true := by simpa using k1
 have j2 : decide (d ≤ 1099511627776) = true := by simpa using k2
 have j3 : decide (1 ≤ e) = true := by simpa using k3
 have j4 : decide (e ≤ 1099511627776) = true := by simpa using k4
 have HM := Lib.hid (mayB_iff (a := a) (b := b) (c := c) (d := d) (e := e) |>.2 (by omega))
 clear h1 h2 h3 h4 h5 h6 k1 k2 k3 k4
 go_enter Tryz.func206, Tryz.ntmps206
 go_wp2_with fail
 go_quiet ((go_at_call 204; exact Calls.quiet_of_same ((rplaces_any _ _).mono fun _ _ h => ⟨h.1, h.2.symm⟩)))
 go_wp2_with fail
 go_ret
 exact ⟨by rw [HM.out]; rfl, HE.out.drewN _⟩
end
section
open Go Go.RowKit
theorem own_ext {w w' : World} {base : Nat} {e : TypeId} {size : Nat} {v : Value} {n : Nat} {xs : List Value} (h : w.ownsRow base e size v n xs) (k : Ext w w') : w'.ownsRow base e size v n xs := by
 refine ⟨h.1, ?_⟩
 rcases h.2 with h0 | ⟨g, cap, cur, hv, hb, hg, h1⟩
 ·exact .inl h0
 ·exact .inr ⟨g, cap, cur, hv, hb, (k.block g (Array.getElem?_eq_some_iff.1 hg).1).trans hg, h1⟩
theorem own_lit (w : World) (l : List Nat) (base : Nat) (e : TypeId) (hb : base ≤ w.heap.size) (hm : l.length ≤ 9223372036854775807) (cs : Array Value) (hcs : cs = (vb l).toArray) : (w.alloc (.cells cs e)).ownsRow base e 1 (.slice (some ⟨w.heap.size, 0, none⟩) l.length l.length) l.length (vb l) := by
 subst hcs
 have h := World.ownsRow_lit (e := e) (size := 1) w (vb l).toArray l.length hb (by unfold maxLen; omega) (by simp [vb_length])
 simpa using h
end
section
open Go Go.RowKit
theorem Ext.cellv {a b : World} {p : Addr} {v : Value} (k : Ext a b) (h : a.cell? p = some v) : b.cell? p = some v := (Below.cell k (World.block_lt_of_cell? a _ h)).trans h
theorem tagBytes_eq {a b c d e : Nat} (h : mayB a b c d e = true) : tagBytes a b c d e = [a, b, c] ++ digs 6 d ++ digs 6 e := by
 rw [mayB_iff] at h
 have hp := plc_le (b : Int)
 simp only [tagBytes, pre, wth, fld, digs, List.nil_append]
 rw [show a % 256 = a by omega, show b % 256 = b by omega, show c % 256 = c by omega]
 rfl
set_option maxHeartbeats 1600000 in
theorem rprint_no (a b c d e : Int) (w : World) (hm : mayB a b c d e = false) :
 Calls Tryz.prog 134 #[.agg #[.int .i64 a, .int .i64 b, .int .i64 c, .int .i64 d, .int .i64 e]] w fun r w' => r = .returned (.tuple #[.slice none 0 0, .int .i64 2]) ∧ Ext w w' := by
 have hE := (Ext.refl w).alloc (.cells #[.int .i64 a, .int .i64 b, .int .i64 c, .int .i64 d, .int .i64 e] 44)
 have HE := Lib.hid hE
 have HM := Lib.hid hm
 clear hE hm
 go_enter Tryz.func134, Tryz.ntmps134
 go_wp2_with fail
 refine (rmay_any _ _ _ _ _ _).mono ?_
 rw [HM.out]
 rintro r w1 ⟨rfl, hx⟩
 have HE := Lib.hid (HE.out.trans hx)
 clear hx
 go_wp2_with fail
 go_ret2
 exact ⟨rfl, HE.out⟩
set_option maxHeartbeats 3200000 in
theorem rprint_yes (a b c d e : Nat) (w : World) (hm : mayB a b c d e = true) :
 Calls Tryz.prog 134 #[.agg #[.int .i64 a, .int .i64 b, .int .i64 c, .int .i64 d, .int .i64 e]] w fun r w' => ∃ A cp, r = .returned (.tuple #[.slice A 15 cp, .int .i64 0]) ∧ By w' A 15 cp (tagBytes a b c d e) ∧ Ext w w' := by
 obtain ⟨i0, hi, hz0, hz1, hz2⟩ := info_parts byte_info
 have hE := (Ext.refl w).alloc (.cells #[.int .i64 a, .int .i64 b, .int .i64 c, .int .i64 d, .int .i64 e] 44)
 have hc := fun i => (cell_of_row _ w.heap.size i _ 44 (0, 0) (heap_alloc_new w (.cells #[.int .i64 a, .int .i64 b, .int .i64 c, .int .i64 d, .int .i64 e] 44)))
 have HC := Lib.hid hc
 have HE := Lib.hid hE
 have HM := Lib.hid hm
 have HT := Lib.hid (tagBytes_eq hm)
 rw [mayB_iff] at hm
 have hp := plc_le (b : Int)
 have ha : a < 256 := by omega
 have hb : b < 256 := by omega
 have hc' : c < 256 := by omega
 generalize tagBytes a b c d e = T at *
 clear hE hm hc hp
 go_enter Tryz.func134, Tryz.ntmps134
 go_wp2_with fail
 refine (rmay_any _ _ _ _ _ _).mono ?_
 rw [HM.out]
 rintro r w1 ⟨rfl, hx⟩
 have j0 : w1.cell? ⟨w.heap.size, 0, none⟩ = some (.int .i64 a) := Ext.cellv hx (HC.out 0)
 have j1 : w1.cell? ⟨w.heap.size, 1, none⟩ = some (.int .i64 b) := Ext.cellv hx (HC.out 1)
 have j2 : w1.cell? ⟨w.heap.size, 2, none⟩ = some (.int .i64 c) := Ext.cellv hx (HC.out 2)
 have j3 : w1.cell? ⟨w.heap.size, 3, none⟩ = some (.int .i64 d) := Ext.cellv hx (HC.out 3)
 have j4 : w1.cell? ⟨w.heap.size, 4, none⟩ = some (.int .i64 e) := Ext.cellv hx (HC.out 4)
 have HE := Lib.hid (HE.out.trans hx)
 have k3 : (w1.alloc (.cells #[.int .u8 a, .int .u8 b, .int .u8 c] 5)).cell? ⟨w.heap.size, 3, none⟩ = some (.int .i64 d) := Ext.cellv ((Ext.refl w1).alloc _) j3
 have k4 : (w1.alloc (.cells #[.int .u8 a, .int .u8 b, .int .u8 c] 5)).cell? ⟨w.heap.size, 4, none⟩ = some (.int .i64 e) := Ext.cellv ((Ext.refl w1).alloc _) j4
 have HK4 := Lib.hid k4
 have HO : Hid ((w1.alloc (.cells #[.int .u8 a, .int .u8 b, .int .u8 c] 5)).ownsRow w.heap.size 5 1 (.slice (some ⟨w1.heap.size, 0, none⟩) 3 3) 3 (vb [a, b, c])) := Lib.hid (own_lit w1 [a, b, c] w.heap.size 5 (Ext.size HE.out) (by simp) _ rfl)
 have HE := Lib.hid (HE.out.alloc (.cells #[.int .u8 a, .int .u8 b, .int .u8 c] 5))
 clear hx HC j3 j4 k4
 go_wp2_with fail
 clear j0 j1 j2 k3
 refine (rput_yes 6 d _ (fld_fits HM.out 3)).mono ?_
 rintro r w2 ⟨A2, c2, rfl, hown, hx⟩
 have HB2 : Hid (By w2 A2 6 c2 (digs 6 d)) := Lib.hid (Bs.of_own hown (digs_lt 6 d))
 have j4 : w2.cell? ⟨w.heap.size, 4, none⟩ = some (.int .i64 e) := Ext.cellv hx HK4.out
 have HO := Lib.hid (own_ext HO.out hx)
 have HE := Lib.hid (HE.out.trans hx)
 have hs := Ext.size hx
 have hs12 : w1.heap.size < w2.heap.size := by simp at hs; omega
 have HS12 := Lib.hid hs12
 clear hown hx HK4 hs hs12
 go_wp2_with fail
 clear j4
 refine (rput_yes 6 e _ (fld_fits HM.out 4)).mono ?_
 rintro r w3 ⟨A3, c3, rfl, hown, hx⟩
 have HO3 := Lib.hid hown
 have HB2 := Lib.hid (HB2.out.ext hx)
 have HO := Lib.hid (own_ext HO.out hx)
 have HE := Lib.hid (HE.out.trans hx)
 have hsz := Ext.size HE.out
 clear hown hx
 go_wp2_with (at_builtin; refine wpList_append_by rfl _ _ 45 rfl w.heap.size 5 i0 Tryz.underlying45 hi hz0 hz1 hz2 _ 3 (vb [a, b, c]) rfl HO.out _ 6 _ (digs 6 d) rfl HB2.out (by omega) hsz ?_)
 intro v4 w4 hown hg
 obtain ⟨hx, A4, c4, rfl, hb4, hown⟩ := app_step HE.out HO.out hg hown (by intro x hx; simp at hx; omega) (digs_lt 6 d)
 have HO4 := Lib.hid hown
 have hne : (Value.slice A3 6 c3).ownBlock ≠ (Value.slice (some ⟨w1.heap.size, 0, none⟩) 3 3).ownBlock := fun h => by
  have h1 : w2.heap.size ≤ w1.heap.size := (HO3.out.lt _ h).1
  have h2 := HS12.out
  omega
 have HB3 : Hid (By w4 A3 6 c3 (digs 6 e)) := Lib.hid (Bs.of_own (HO3.out.kept hg (.inr hne)) (digs_lt 6 e))
 have HE := Lib.hid hx
 have hsz4 := Ext.size HE.out
 clear hown hg hx hb4 hne
 go_wp2_with (at_builtin; refine wpList_append_by rfl _ _ 45 rfl w.heap.size 5 i0 Tryz.underlying45 hi hz0 hz1 hz2 _ 9 (vb ([a, b, c] ++ digs 6 d)) rfl HO4.out _ 6 _ (digs 6 e) rfl HB3.out (by omega) hsz4 ?_)
 intro v5 w5 hown hg
 obtain ⟨hx, A5, c5, rfl, hb5, _⟩ := app_step HE.out HO4.out hg hown (by
  intro x hx
  rcases List.mem_append.1 (show x ∈ [a, b, c] ++ digs 6 d from hx) with h | h
  ·simp at h; omega
  ·exact digs_lt 6 d x h) (digs_lt 6 e)
 have HB5 := Lib.hid hb5
 have HX5 := Lib.hid hx
 clear hown hg hx hb5 hsz hsz4
 go_wp2_with fail
 go_ret2
 exact ⟨A5, c5, rfl, by rw [HT.out]; exact HB5.out, HX5.out⟩
end
section
open Go Go.RowKit
theorem print_any (a b c d e : Int) (w : World) (hL : LaidA w) :
 Calls Tryz.prog 194 #[.agg #[.int .i64 a, .int .i64 b, .int .i64 c, .int .i64 d, .int .i64 e]] w fun r w' => ∃ A cp, r = .returned (.tuple #[.slice A (pl a b c d e).length cp, .int .i64 (pr a b c d e)]) ∧ By w' A (pl a b c d e).length cp (pl a b c d e) ∧ Ext w w' := by
 by_cases h : mayB a b c d e = true
 ·obtain ⟨a, b, c, d, e, rfl, rfl, rfl, rfl, rfl⟩ := may_nat h
  rw [pl_yes h, pr_yes h]
  simp only [Int.toNat_natCast, tagBytes_len]
  exact print_yes a b c d e w hL h
 ·have h' : mayB a b c d e = false := by simpa using h
  rw [pl_no h', pr_no h']
  exact (print_no a b c d e w hL.t h').mono fun _ w' ⟨h1, h2⟩ => ⟨none, 0, h1, By.nil_ w', h2⟩
theorem rprint_any (a b c d e : Int) (w : World) :
 Calls Tryz.prog 134 #[.agg #[.int .i64 a, .int .i64 b, .int .i64 c, .int .i64 d, .int .i64 e]] w fun r w' => ∃ A cp, r = .returned (.tuple #[.slice A (pl a b c d e).length cp, .int .i64 (pr a b c d e)]) ∧ By w' A (pl a b c d e).length cp (pl a b c d e) ∧ Ext w w' := by
 by_cases h : mayB a b c d e = true
 ·obtain ⟨a, b, c, d, e, rfl, rfl, rfl, rfl, rfl⟩ := may_nat h
  rw [pl_yes h, pr_yes h]
  simp only [Int.toNat_natCast, tagBytes_len]
  exact rprint_yes a b c d e w h
 ·have h' : mayB a b c d e = false := by simpa using h
  rw [pl_no h', pr_no h']
  exact (rprint_no a b c d e w h').mono fun _ w' ⟨h1, h2⟩ => ⟨none, 0, h1, By.nil_ w', h2⟩
end
section
open Go Go.RowKit
def LaidH (w : World) : Prop := ∀ i, i < 16 → w.cell? ⟨5, i, none⟩ = some (.int .u32 ((stps 4 i : Nat) : Int))
theorem half_any (r : Nat) (w : World) (hL : LaidH w) (hr : r < 4294967296) :
 Calls Tryz.prog 262 #[.int .u32 r] w fun e w' => e = .returned (.int .u32 ((stps 4 r : Nat) : Int)) ∧ w = w' := by
 have ha : bits .and .u32 (r : Int) 15 = ((r % 16 : Nat) : Int) := by
  have := u32_and_nat r 15 hr (by omega)
  rw [nat_mask4] at this
  exact this
 have hm : r % 16 < 16 := Nat.mod_lt _ (by omega)
 have hc := hL (r % 16) hm
 have HS : Hid ((r / 16) ^^^ stps 4 (r % 16) = stps 4 r) := Lib.hid (stps_split 4 r).symm
 have hlt : stps 4 (r % 16) < 4294967296 := stps_lt (by omega)
 have hx : bits .xor .u32 ((r : Int) / 16) ((stps 4 (r % 16) : Nat) : Int) = ((r / 16 ^^^ stps 4 (r % 16) : Nat) : Int) := u32_xor_nat (r / 16) _ (by omega) hlt
 clear hL hlt
 go_enter Tryz.func262, Tryz.ntmps262
 go_wp2_with fail
 go_ret
 exact ⟨by rw [HS.out]; rfl, rfl⟩
theorem not_u32 (s : Nat) (h : s < 4294967296) : bits .xor .u32 IntKind.u32.max (s : Int) = ((inv s : Nat) : Int) := by
 have e : IntKind.u32.max = ((4294967295 : Nat) : Int) := by decide
 rw [e, u32_xor_nat 4294967295 s (by omega) h, inv_xor h, Nat.xor_comm]
set_option maxHeartbeats 400000 in
theorem ext_any (A : Option Addr) (l : List Nat) (n c B s : Nat) (w : World) (hL : LaidH w) (hl : l.length = n) (hr : Rd w B A l) (hm : n ≤ maxLen) (hs : s < 4294967296) :
 Calls Tryz.prog 241 #[.int .u32 s, .slice A n c] w fun e w' => e = .returned (.int .u32 ((crcE s l : Nat) : Int)) ∧ w = w' := by
 unfold maxLen at hm
 have H := Lib.hid hL
 have HL := Lib.hid hl
 clear hl hL
 go_enter Tryz.func241, Tryz.ntmps241
 go_wp2_with fail
 go_loop [5, 12] (fun vr vi => ∃ k t : Nat, k ≤ n ∧ vi = .int .i64 k ∧ vr = .int .u32 t ∧ t < 4294967296 ∧ Hid (t = feed (inv s) (l.take k))) (fun _ vi => n - (intOf vi).toNat)
 case atStart => exact ⟨0, inv s, Nat.zero_le _, rfl, by rw [not_u32 s hs], inv_lt s, Lib.hid rfl⟩
 case round =>
  obtain ⟨k, t, hk, rfl, rfl, ht, HT⟩ := hrel
  by_cases hlt : k < n
  ·obtain ⟨g, o, x, hA, _, hx, hx2, hcx⟩ := hr.at_ (k := k) (by rw [HL.out]; exact hlt)
   subst hA
   have HX : Hid (inb t x = feed (inv s) (l.take (k + 1))) := Lib.hid (by rw [feed_take hx, ← HT.out])
   have hin := inb_lt ht hx2
   have hxor := u32_xor_nat t x ht (by omega)
   have h1 : t ^^^ x < 4294967296 := xor_lt32 ht (by omega)
   have h2 : stps 4 (t ^^^ x) < 4294967296 := stps_lt h1
   have HI : Hid (stps 4 (stps 4 (t ^^^ x)) = inb t x) := Lib.hid (by rw [← stps_add]; rfl)
   clear hx HT
   go_wp2_with fail
   refine (half_any _ _ H.out h1).mono ?_
   rintro e w' ⟨rfl, rfl⟩
   go_wp2_with fail
   refine (half_any _ _ H.out h2).mono ?_
   rintro e w' ⟨rfl, rfl⟩
   rw [HI.out]
   go_wp2_with fail
   go_round
   case rel => exact ⟨k + 1, inb t x, by omega, by go_num, rfl, hin, HX⟩
   case measure => simp [intOf]; omega
  ·have HF : Hid (inv t = crcE s l) := by
    have := HT.out
    rw [List.take_of_length_le (by have := HL.out; omega)] at this
    exact Lib.hid (by rw [this]; rfl)
   go_wp2_with fail
   go_ret
   exact ⟨by rw [← HF.out, ← not_u32 t ht]; rfl, rfl⟩
theorem sum_any (A : Option Addr) (l : List Nat) (n c B : Nat) (w : World) (hL : LaidH w) (hl : l.length = n) (hr : Rd w B A l) (hm : n ≤ maxLen) :
 Calls Tryz.prog 195 #[.slice A n c] w fun e w' => e = .returned (.int .u32 ((crcS l : Nat) : Int)) ∧ w = w' := by
 have HM := Lib.hid hm
 have H := Lib.hid hL
 clear hm hL
 go_enter Tryz.func195, Tryz.ntmps195
 go_wp2_with fail
 refine (ext_any A l n c B 0 _ H.out hl hr HM.out (by omega)).mono ?_
 rintro e w' ⟨rfl, rfl⟩
 go_wp2_with fail
 go_ret
 exact ⟨rfl, rfl⟩
end
section
open Go Go.RowKit
def pc (l : List Nat) (k j : Nat) : Value := .int .i64 ((if j < k then pfld l j else 0 : Nat) : Int)
def prow (l : List Nat) (k : Nat) : Array Value := #[pc l k 0, pc l k 1, pc l k 2, pc l k 3, pc l k 4]
theorem prow_step (l : List Nat) {k : Nat} (h : k < 5) : (prow l k).setIfInBounds k (.int .i64 (pfld l k : Nat)) = prow l (k + 1) := by
 have hj' : k = 0 ∨ k = 1 ∨ k = 2 ∨ k = 3 ∨ k = 4 := by omega
 rcases hj' with rfl | rfl | rfl | rfl | rfl <;> simp [prow, pc]
structure PS (w : World) (l : List Nat) (k : Nat) (w' : World) : Prop where
 blank : w'.heap[w.heap.size]? = some (.cells #[.int .i64 0, .int .i64 0, .int .i64 0, .int .i64 0, .int .i64 0] 44 (0, 0))
 row : w'.heap[w.heap.size + 1]? = some (.cells (prow l k) 44 (0, 0))
 ext : Ext w w'
theorem PS.start (w : World) (l : List Nat) : PS w l 0 ((w.alloc (.cells #[.int .i64 0, .int .i64 0, .int .i64 0, .int .i64 0, .int .i64 0] 44)).alloc (.cells #[.int .i64 0, .int .i64 0, .int .i64 0, .int .i64 0, .int .i64 0] 44)) := by
 refine ⟨?_, heap_alloc2_new w _ _, ((Ext.refl w).alloc _).alloc _⟩
 rw [heap_alloc_old _ _ (by simp)]
 exact heap_alloc_new w _
theorem PS.step {w w' : World} {l : List Nat} {k : Nat} (h : PS w l k w') (hk : k < 5) : PS w l (k + 1) (w'.setCell ⟨w.heap.size + 1, k, none⟩ (.int .i64 (pfld l k : Nat))) := by
 have hs := setCell_eq_setRow w' (w.heap.size + 1) k (prow l k) 44 (0, 0) (.int .i64 (pfld l k : Nat)) h.row
 rw [hs, prow_step l hk]
 exact ⟨(setRow_other w' _ _ _ (by omega)).trans h.blank, setRow_heap w' _ _ _ _ _ h.row, below_setRow h.ext (by omega) _⟩
theorem PS.cell {w w' : World} {l : List Nat} {k : Nat} (h : PS w l k w') (j : Nat) : w'.cell? ⟨w.heap.size + 1, j, none⟩ = (prow l k)[j]? := cell_of_row w' _ j _ _ _ h.row
theorem PS.free {w w' : World} {l : List Nat} {k : Nat} (h : PS w l k w') (j : Nat) : w'.frozen? ⟨w.heap.size + 1, j, none⟩ = false := frozen_of_row w' _ j _ _ h.row
theorem ptr_index (g k : Nat) (hk : k < 5) (w : World) : (Instr.index 342 (.agg #[.pointer (some ⟨g, 0, none⟩), .pointer (some ⟨g, 1, none⟩), .pointer (some ⟨g, 2, none⟩), .pointer (some ⟨g, 3, none⟩), .pointer (some ⟨g, 4, none⟩)]) (.int .i64 k)).run Tryz.prog w = .ok (.pointer (some ⟨g, k, none⟩)) w := by
 have hj' : k = 0 ∨ k = 1 ∨ k = 2 ∨ k = 3 ∨ k = 4 := by omega
 rcases hj' with rfl | rfl | rfl | rfl | rfl <;> (show _ = _; kernel_rfl)
theorem get_fld {l : List Nat} {k : Nat} (hk : k < 5) (h : pos k + wth k ≤ l.length) : getS l (pos k) (wth k) = (pfld l k, pos (k + 1), 0) := by
 rw [getS_yes (wth_wOk k) (by omega) (by omega) (by omega), pos_step hk]
 rfl
theorem get_no {l : List Nat} {k : Nat} (h : l.length < pos k + wth k) (hp : pos k ≤ l.length) : getS l (pos k) (wth k) = (0, 0, 10) := getS_short (wth_wOk k) (by omega) (by omega) (by omega)
theorem five_cells {w : World} {g : Nat} {x0 x1 x2 x3 x4 : Value} (h : w.heap[g]? = some (.cells #[x0, x1, x2, x3, x4] 44 (0, 0))) :
 (w.cell? ⟨g, 0, none⟩ = some x0 ∧ w.cell? ⟨g, 1, none⟩ = some x1 ∧ w.cell? ⟨g, 2, none⟩ = some x2 ∧ w.cell? ⟨g, 3, none⟩ = some x3 ∧ w.cell? ⟨g, 4, none⟩ = some x4) ∧
  (w.frozen? ⟨g, 0, none⟩ = false ∧ w.frozen? ⟨g, 1, none⟩ = false ∧ w.frozen? ⟨g, 2, none⟩ = false ∧ w.frozen? ⟨g, 3, none⟩ = false ∧ w.frozen? ⟨g, 4, none⟩ = false) :=
 ⟨⟨cell_of_row w g 0 _ _ _ h, cell_of_row w g 1 _ _ _ h, cell_of_row w g 2 _ _ _ h, cell_of_row w g 3 _ _ _ h, cell_of_row w g 4 _ _ _ h⟩,
   ⟨frozen_of_row w g 0 _ _ h, frozen_of_row w g 1 _ _ h, frozen_of_row w g 2 _ _ h, frozen_of_row w g 3 _ _ h, frozen_of_row w g 4 _ _ h⟩⟩
theorem five_ext {w w' : World} (h : Ext w w') {g : Nat} (hg : w.heap.size ≤ g) (x0 x1 x2 x3 x4 : Value) :
 Ext w (((((w'.setCell ⟨g, 0, none⟩ x0).setCell ⟨g, 1, none⟩ x1).setCell ⟨g, 2, none⟩ x2).setCell ⟨g, 3, none⟩ x3).setCell ⟨g, 4, none⟩ x4) :=
 ((((h.setCell (p := ⟨g, 0, none⟩) hg _).setCell (p := ⟨g, 1, none⟩) hg _).setCell (p := ⟨g, 2, none⟩) hg _).setCell (p := ⟨g, 3, none⟩) hg _).setCell (p := ⟨g, 4, none⟩) hg _
set_option maxHeartbeats 3200000 in
theorem parse_any (A : Option Addr) (n cp : Nat) (l : List Nat) (w : World) (hL : LaidA w) (hb : By w A n cp l) (hn : n ≤ 9000000000000000000) :
 Calls Tryz.prog 271 #[.slice A n cp] w fun r w' => r = .returned (.tuple #[.agg #[.int .i64 (pf l 0), .int .i64 (pf l 1), .int .i64 (pf l 2), .int .i64 (pf l 3), .int .i64 (pf l 4)], .int .i64 (pe l)]) ∧ Ext w w' := by
 have HS := Lib.hid (PS.start w l)
 have HL := Lib.hid hL
 have HB := Lib.hid hb
 clear hL hb
 go_enter Tryz.func271, Tryz.ntmps271
 go_wp2_with fail
 go_loopw [5, 17] (fun p i wr => ∃ k : Nat, k ≤ 5 ∧ i = .int .i64 k ∧ p = .int .i64 (pos k) ∧ pos k ≤ n ∧ Hid (PS w l k wr)) (fun _ i _ => 5 - (intOf i).toNat)
 case atStart => exact ⟨0, Nat.zero_le _, rfl, rfl, Nat.zero_le _, HS⟩
 case round =>
  obtain ⟨k, hk, rfl, rfl, hp, HP⟩ := hrel
  by_cases hlt : k < 5
  ·have hW := (HL.out.ext HP.out.ext).w k hlt
   have hI := ptr_index (w.heap.size + 1) k hlt
   have hwl := wth_le k
   by_cases hsh : n < pos k + wth k
   ·have HG := Lib.hid (get_no (l := l) (k := k) (by rw [HB.out.len]; exact hsh) (by rw [HB.out.len]; exact hp))
    have hp15 := pos_le (k + 1)
    rw [pos_step hlt] at hp15
    have HV := Lib.hid (PV_len (l := l) (by rw [HB.out.len]; omega))
    clear hp15
    go_wp2_with fail
    refine (oget_any A l n cp _ _ _ _ (HL.out.ext HP.out.ext).o HB.out.len (HB.out.ext HP.out.ext).rd hn).mono ?_
    rw [HG.out]
    rintro r w2 ⟨rfl, rfl⟩
    obtain ⟨⟨c0, c1, c2, c3, c4⟩, f0, f1, f2, f3, f4⟩ := five_cells HP.out.blank
    go_wp2_with fail
    refine bodyPost_ret (v := .tuple #[.agg #[.int .i64 0, .int .i64 0, .int .i64 0, .int .i64 0, .int .i64 0], .int .i64 30]) ?_ rfl ⟨?_, ?_⟩
    ·simp [results, Tryz.results271, go_sem, c0, c1, c2, c3, c4]
    ·rw [pf_no HV.out, pf_no HV.out, pf_no HV.out, pf_no HV.out, pf_no HV.out, pe_no HV.out]; rfl
    ·exact five_ext HP.out.ext (Nat.le_refl _) _ _ _ _ _
   ·have HG := Lib.hid (get_fld (l := l) hlt (by rw [HB.out.len]; omega))
    have c := HP.out.cell k
    obtain ⟨v, hv⟩ : ∃ v, (prow l k)[k]? = some v := ⟨_, Array.getElem?_eq_getElem (by simpa [prow] using hlt)⟩
    rw [hv] at c
    have f := HP.out.free k
    have HPS := Lib.hid (HP.out.step hlt)
    have hle : pos (k + 1) ≤ n := by rw [pos_step hlt]; omega
    clear hv
    go_wp2_with fail
    refine (oget_any A l n cp _ _ _ _ (HL.out.ext HP.out.ext).o HB.out.len (HB.out.ext HP.out.ext).rd hn).mono ?_
    rw [HG.out]
    rintro r w2 ⟨rfl, rfl⟩
    go_wp2_with fail
    go_roundw
    case rel => exact ⟨k + 1, by omega, by go_num, rfl, hle, HPS⟩
    case measure => simp [intOf]; omega
  ·have hk5 : k = 5 := by omega
   subst hk5
   have hle : 15 ≤ n := hp
   obtain ⟨⟨c0, c1, c2, c3, c4⟩, f0, f1, f2, f3, f4⟩ := five_cells HP.out.blank
   have hrow : wr.heap[w.heap.size + 1]? = some (.cells #[.int .i64 (pfld l 0), .int .i64 (pfld l 1), .int .i64 (pfld l 2), .int .i64 (pfld l 3), .int .i64 (pfld l 4)] 44 (0, 0)) := HP.out.row
   have HR := Lib.hid hrow
   rw [show pos 5 = 15 from rfl]
   obtain ⟨⟨d0, d1, d2, d3, d4⟩, _⟩ := five_cells hrow
   clear hrow
   by_cases h15 : n = 15
   ·subst h15
    have hlt0 : w.heap.size < wr.heap.size := (Array.getElem?_eq_some_iff.1 HP.out.blank).1
    have hlt1 : w.heap.size + 1 < wr.heap.size := (Array.getElem?_eq_some_iff.1 HR.out).1
    by_cases hm : mayB (pfld l 0) (pfld l 1) (pfld l 2) (pfld l 3) (pfld l 4) = true
    ·have HV := Lib.hid (PV_both HB.out.len hm)
     have HM := Lib.hid hm
     clear hm
     go_wp2_with fail
     refine (may_any _ _ _ _ _ _ (HL.out.ext HP.out.ext).t).mono ?_
     rw [HM.out]
     rintro r w2 ⟨rfl, hx⟩
     have hb2 := (hx.block _ hlt0).trans HP.out.blank
     have hr2 := (hx.block _ hlt1).trans HR.out
     have HE := Lib.hid (HP.out.ext.trans hx)
     clear c0 c1 c2 c3 c4 f0 f1 f2 f3 f4 d0 d1 d2 d3 d4 hx hlt0 hlt1
     obtain ⟨⟨c0, c1, c2, c3, c4⟩, f0, f1, f2, f3, f4⟩ := five_cells hb2
     obtain ⟨⟨d0, d1, d2, d3, d4⟩, _⟩ := five_cells hr2
     clear hb2 hr2
     go_wp2_with fail
     refine bodyPost_ret (v := .tuple #[.agg #[.int .i64 (pfld l 0), .int .i64 (pfld l 1), .int .i64 (pfld l 2), .int .i64 (pfld l 3), .int .i64 (pfld l 4)], .int .i64 0]) ?_ rfl ⟨?_, ?_⟩
     ·simp [results, Tryz.results271, go_sem, c0, c1, c2, c3, c4]
     ·rw [pf_yes HV.out, pf_yes HV.out, pf_yes HV.out, pf_yes HV.out, pf_yes HV.out, pe_yes HV.out]
     ·exact five_ext HE.out (Nat.le_refl _) _ _ _ _ _
    ·have hm' : mayB (pfld l 0) (pfld l 1) (pfld l 2) (pfld l 3) (pfld l 4) = false := by simpa using hm
     have HV := Lib.hid (PV_may hm')
     have HM := Lib.hid hm'
     clear hm hm'
     go_wp2_with fail
     refine (may_any _ _ _ _ _ _ (HL.out.ext HP.out.ext).t).mono ?_
     rw [HM.out]
     rintro r w2 ⟨rfl, hx⟩
     have hb2 := (hx.block _ hlt0).trans HP.out.blank
     have HE := Lib.hid (HP.out.ext.trans hx)
     clear c0 c1 c2 c3 c4 f0 f1 f2 f3 f4 d0 d1 d2 d3 d4 hx hlt0 hlt1
     obtain ⟨⟨c0, c1, c2, c3, c4⟩, f0, f1, f2, f3, f4⟩ := five_cells hb2
     clear hb2
     go_wp2_with fail
     refine bodyPost_ret (v := .tuple #[.agg #[.int .i64 0, .int .i64 0, .int .i64 0, .int .i64 0, .int .i64 0], .int .i64 30]) ?_ rfl ⟨?_, ?_⟩
     ·simp [results, Tryz.results271, go_sem, c0, c1, c2, c3, c4]
     ·rw [pf_no HV.out, pf_no HV.out, pf_no HV.out, pf_no HV.out, pf_no HV.out, pe_no HV.out]; rfl
     ·exact five_ext HE.out (Nat.le_refl _) _ _ _ _ _
   ·have HV := Lib.hid (PV_len (l := l) (by rw [HB.out.len]; exact h15))
    have hne : ((15 : Int) != (n : Int)) = true := by rw [bne_iff_ne]; omega
    go_wp2_with fail
    refine bodyPost_ret (v := .tuple #[.agg #[.int .i64 0, .int .i64 0, .int .i64 0, .int .i64 0, .int .i64 0], .int .i64 30]) ?_ rfl ⟨?_, ?_⟩
    ·simp [results, Tryz.results271, go_sem, c0, c1, c2, c3, c4]
    ·rw [pf_no HV.out, pf_no HV.out, pf_no HV.out, pf_no HV.out, pf_no HV.out, pe_no HV.out]; rfl
    ·exact five_ext HP.out.ext (Nat.le_refl _) _ _ _ _ _
end
end Go.Proofs.YtmpaocpgoihliaaGreatDoor
