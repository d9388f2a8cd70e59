/-
  The contract of the document's own May.
  Rows of bytes that the call itself has made: kept over calls that write nothing that was there.
  The contract of the document's own Print.
  The contracts of Print, the program's and the document's, in one form for valid tags and others.
  The contracts of the program's checksum: half a byte by the table, bytes.
-/
import Derived.Test.YtlikhmhomkiadaaGreatDoorQ01
import Derived.Test.YtlikhmhomkiadaaGreatDoorQ02
import Derived.Test.YtlikhmhomkiadaaGreatDoorQ13
import Derived.Test.YtlikhmhomkiadaaGreatDoorQ16
import Derived.Deep.QuietTactic
import Derived.Laws.OwnMore
import Derived.Test.YtlikhmhomkiadaaGreatDoorProg
import Derived.WalkKit
import Derived.WalkSpells
import Derived.BigQuiet
import Derived.Lib.Hide
import Derived.Laws.BitsAllLaws
namespace Go.Proofs.YtlikhmhomkiadaaGreatDoor
set_option maxRecDepth 100000
open Go Go.RowKit

theorem mayB_no {a b c d e : Int} (h : ¬ (0 ≤ a ∧ a ≤ 6 ∧ 1 ≤ b ∧ b ≤ 5 ∧ 0 ≤ c ∧ c < plc b ∧ 0 ≤ d ∧ d ≤ 1099511627776 ∧ 1 ≤ e ∧ e ≤ 1099511627776)) : mayB a b c d e = false := by
  unfold mayB
  exact decide_eq_false h

set_option maxRecDepth 100000 in
set_option maxHeartbeats 3200000 in
theorem rmay_any (a b c d e : Int) (w : World) :
    Calls Tryz.prog 134 #[.agg #[.int .i64 a, .int .i64 b, .int .i64 c, .int .i64 d, .int .i64 e]] w fun r w' => r = .returned (.bool (mayB a b c d e)) ∧ Ext w w' := by
  have hE := (Ext.refl w).alloc (.cells #[.int .i64 a, .int .i64 b, .int .i64 c, .int .i64 d, .int .i64 e] 33)
  have HE := Lib.hid hE
  clear hE
  by_cases h1 : a < 0
  · have HM := Lib.hid (mayB_no (a := a) (b := b) (c := c) (d := d) (e := e) (by omega))
    have g1 : decide (a < 0) = true := by simpa using h1
    clear h1
    go_enter Tryz.func134, Tryz.ntmps134
    go_wp2_with fail
    go_quiet ((go_at_call 59; exact Calls.quiet_of_same ((rplaces_any _ _).mono fun _ _ h => ⟨h.1, h.2.symm⟩)))
    go_wp2_with fail
    go_ret
    exact ⟨by rw [HM.out]; rfl, HE.out.drewN _⟩
  by_cases h2 : 6 < a
  · have HM := Lib.hid (mayB_no (a := a) (b := b) (c := c) (d := d) (e := e) (by omega))
    have g2 : decide (6 < a) = true := by simpa using h2
    have g1 : decide (a < 0) = false := by simpa using h1
    clear h1 h2
    go_enter Tryz.func134, Tryz.ntmps134
    go_wp2_with fail
    go_quiet ((go_at_call 59; exact Calls.quiet_of_same ((rplaces_any _ _).mono fun _ _ h => ⟨h.1, h.2.symm⟩)))
    go_wp2_with fail
    go_ret
    exact ⟨by rw [HM.out]; rfl, HE.out.drewN _⟩
  by_cases h3 : b < 1
  · have HM := Lib.hid (mayB_no (a := a) (b := b) (c := c) (d := d) (e := e) (by omega))
    have g3 : decide (b < 1) = true := by simpa using h3
    have g1 : decide (a < 0) = false := by simpa using h1
    have g2 : decide (6 < a) = false := by simpa using h2
    clear h1 h2 h3
    go_enter Tryz.func134, Tryz.ntmps134
    go_wp2_with fail
    go_quiet ((go_at_call 59; exact Calls.quiet_of_same ((rplaces_any _ _).mono fun _ _ h => ⟨h.1, h.2.symm⟩)))
    go_wp2_with fail
    go_ret
    exact ⟨by rw [HM.out]; rfl, HE.out.drewN _⟩
  by_cases h4 : 5 < b
  · have HM := Lib.hid (mayB_no (a := a) (b := b) (c := c) (d := d) (e := e) (by omega))
    have g4 : decide (5 < b) = true := by simpa using h4
    have g1 : decide (a < 0) = false := by simpa using h1
    have g2 : decide (6 < a) = false := by simpa using h2
    have g3 : decide (b < 1) = false := by simpa using h3
    clear h1 h2 h3 h4
    go_enter Tryz.func134, Tryz.ntmps134
    go_wp2_with fail
    go_quiet ((go_at_call 59; exact Calls.quiet_of_same ((rplaces_any _ _).mono fun _ _ h => ⟨h.1, h.2.symm⟩)))
    go_wp2_with fail
    go_ret
    exact ⟨by rw [HM.out]; rfl, HE.out.drewN _⟩
  by_cases h5 : c < 0
  · have HM := Lib.hid (mayB_no (a := a) (b := b) (c := c) (d := d) (e := e) (by omega))
    have g5 : decide (c < 0) = true := by simpa using h5
    have g1 : decide (a < 0) = false := by simpa using h1
    have g2 : decide (6 < a) = false := by simpa using h2
    have g3 : decide (b < 1) = false := by simpa using h3
    have g4 : decide (5 < b) = false := by simpa using h4
    clear h1 h2 h3 h4 h5
    go_enter Tryz.func134, Tryz.ntmps134
    go_wp2_with fail
    go_quiet ((go_at_call 59; exact Calls.quiet_of_same ((rplaces_any _ _).mono fun _ _ h => ⟨h.1, h.2.symm⟩)))
    go_wp2_with fail
    go_ret
    exact ⟨by rw [HM.out]; rfl, HE.out.drewN _⟩
  by_cases h6 : (plc b : Int) ≤ c
  · have HM := Lib.hid (mayB_no (a := a) (b := b) (c := c) (d := d) (e := e) (by omega))
    have g6 : decide ((plc b : Int) ≤ c) = true := by simpa using h6
    have g1 : decide (a < 0) = false := by simpa using h1
    have g2 : decide (6 < a) = false := by simpa using h2
    have g3 : decide (b < 1) = false := by simpa using h3
    have g4 : decide (5 < b) = false := by simpa using h4
    have g5 : decide (c < 0) = false := by simpa using h5
    clear h1 h2 h3 h4 h5 h6
    go_enter Tryz.func134, Tryz.ntmps134
    go_wp2_with fail
    go_quiet ((go_at_call 59; exact Calls.quiet_of_same ((rplaces_any _ _).mono fun _ _ h => ⟨h.1, h.2.symm⟩)))
    go_wp2_with fail
    go_ret
    exact ⟨by rw [HM.out]; rfl, HE.out.drewN _⟩
  have g1 : decide (a < 0) = false := by simpa using h1
  have g2 : decide (6 < a) = false := by simpa using h2
  have g3 : decide (b < 1) = false := by simpa using h3
  have g4 : decide (5 < b) = false := by simpa using h4
  have g5 : decide (c < 0) = false := by simpa using h5
  have g6 : decide ((plc b : Int) ≤ c) = false := by simpa using h6
  by_cases k1 : ¬ 0 ≤ d
  · have HM := Lib.hid (mayB_no (a := a) (b := b) (c := c) (d := d) (e := e) (by omega))
    have j1 : decide (0 ≤ d) = false := by simpa using k1
    clear h1 h2 h3 h4 h5 h6 k1
    go_enter Tryz.func134, Tryz.ntmps134
    go_wp2_with fail
    go_quiet ((go_at_call 59; exact Calls.quiet_of_same ((rplaces_any _ _).mono fun _ _ h => ⟨h.1, h.2.symm⟩)))
    go_wp2_with fail
    go_ret
    exact ⟨by rw [HM.out]; rfl, HE.out.drewN _⟩
  by_cases k2 : ¬ d ≤ 1099511627776
  · have HM := Lib.hid (mayB_no (a := a) (b := b) (c := c) (d := d) (e := e) (by omega))
    have j2 : decide (d ≤ 1099511627776) = false := by simpa using k2
    have j1 : decide (0 ≤ d) = true := by simpa using k1
    clear h1 h2 h3 h4 h5 h6 k1 k2
    go_enter Tryz.func134, Tryz.ntmps134
    go_wp2_with fail
    go_quiet ((go_at_call 59; exact Calls.quiet_of_same ((rplaces_any _ _).mono fun _ _ h => ⟨h.1, h.2.symm⟩)))
    go_wp2_with fail
    go_ret
    exact ⟨by rw [HM.out]; rfl, HE.out.drewN _⟩
  by_cases k3 : ¬ 1 ≤ e
  · have HM := Lib.hid (mayB_no (a := a) (b := b) (c := c) (d := d) (e := e) (by omega))
    have j3 : decide (1 ≤ e) = false := by simpa using k3
    have j1 : decide (0 ≤ d) = true := by simpa using k1
    have j2 : decide (d ≤ 1099511627776) = true := by simpa using k2
    clear h1 h2 h3 h4 h5 h6 k1 k2 k3
    go_enter Tryz.func134, Tryz.ntmps134
    go_wp2_with fail
    go_quiet ((go_at_call 59; exact Calls.quiet_of_same ((rplaces_any _ _).mono fun _ _ h => ⟨h.1, h.2.symm⟩)))
    go_wp2_with fail
    go_ret
    exact ⟨by rw [HM.out]; rfl, HE.out.drewN _⟩
  by_cases k4 : ¬ e ≤ 1099511627776
  · have HM := Lib.hid (mayB_no (a := a) (b := b) (c := c) (d := d) (e := e) (by omega))
    have j4 : decide (e ≤ 1099511627776) = false := by simpa using k4
    have j1 : decide (0 ≤ d) = true := by simpa using k1
    have j2 : decide (d ≤ 1099511627776) = true := by simpa using k2
    have j3 : decide (1 ≤ e) = true := by simpa using k3
    clear h1 h2 h3 h4 h5 h6 k1 k2 k3 k4
    go_enter Tryz.func134, Tryz.ntmps134
    go_wp2_with fail
    go_quiet ((go_at_call 59; exact Calls.quiet_of_same ((rplaces_any _ _).mono fun _ _ h => ⟨h.1, h.2.symm⟩)))
    go_wp2_with fail
    go_ret
    exact ⟨by rw [HM.out]; rfl, HE.out.drewN _⟩
  have j1 : decide (0 ≤ d) = true := by simpa using k1
  have j2 : decide (d ≤ 1099511627776) = true := by simpa using k2
  have j3 : decide (1 ≤ e) = true := by simpa using k3
  have j4 : decide (e ≤ 1099511627776) = true := by simpa using k4
  have HM := Lib.hid (mayB_iff (a := a) (b := b) (c := c) (d := d) (e := e) |>.2 (by omega))
  clear h1 h2 h3 h4 h5 h6 k1 k2 k3 k4
  go_enter Tryz.func134, Tryz.ntmps134
  go_wp2_with fail
  go_quiet ((go_at_call 59; exact Calls.quiet_of_same ((rplaces_any _ _).mono fun _ _ h => ⟨h.1, h.2.symm⟩)))
  go_wp2_with fail
  go_ret
  exact ⟨by rw [HM.out]; rfl, HE.out.drewN _⟩
end Go.Proofs.YtlikhmhomkiadaaGreatDoor

namespace Go.Proofs.YtlikhmhomkiadaaGreatDoor
set_option maxRecDepth 100000
open Go Go.RowKit

theorem own_ext {w w' : World} {base : Nat} {e : TypeId} {size : Nat} {v : Value} {n : Nat} {xs : List Value} (h : w.ownsRow base e size v n xs) (k : Ext w w') : w'.ownsRow base e size v n xs := by
  refine ⟨h.1, ?_⟩
  rcases h.2 with h0 | ⟨g, cap, cur, hv, hb, hg, h1⟩
  · exact .inl h0
  · exact .inr ⟨g, cap, cur, hv, hb, (k.block g (Array.getElem?_eq_some_iff.1 hg).1).trans hg, h1⟩
/-- A literal of bytes that the call has just made is its own. -/
theorem own_lit (w : World) (l : List Nat) (base : Nat) (e : TypeId) (hb : base ≤ w.heap.size) (hm : l.length ≤ 9223372036854775807) (cs : Array Value) (hcs : cs = (vb l).toArray) : (w.alloc (.cells cs e)).ownsRow base e 1 (.slice (some ⟨w.heap.size, 0, none⟩) l.length l.length) l.length (vb l) := by
  subst hcs
  have h := World.ownsRow_lit (e := e) (size := 1) w (vb l).toArray l.length hb (by unfold maxLen; omega) (by simp [vb_length])
  simpa using h
end Go.Proofs.YtlikhmhomkiadaaGreatDoor

namespace Go.Proofs.YtlikhmhomkiadaaGreatDoor
set_option maxRecDepth 100000
open Go Go.RowKit

theorem Ext.cellv {a b : World} {p : Addr} {v : Value} (k : Ext a b) (h : a.cell? p = some v) : b.cell? p = some v := (Below.cell k (World.block_lt_of_cell? a _ h)).trans h
theorem tagBytes_eq {a b c d e : Nat} (h : mayB a b c d e = true) : tagBytes a b c d e = [a, b, c] ++ digs 6 d ++ digs 6 e := by
  rw [mayB_iff] at h
  have hp := plc_le (b : Int)
  simp only [tagBytes, pre, wth, fld, digs, List.nil_append]
  rw [show a % 256 = a by omega, show b % 256 = b by omega, show c % 256 = c by omega]
  rfl

set_option maxRecDepth 100000 in
set_option maxHeartbeats 1600000 in
theorem rprint_no (a b c d e : Int) (w : World) (hm : mayB a b c d e = false) :
    Calls Tryz.prog 93 #[.agg #[.int .i64 a, .int .i64 b, .int .i64 c, .int .i64 d, .int .i64 e]] w fun r w' => r = .returned (.tuple #[.slice none 0 0, .int .i64 2]) ∧ Ext w w' := by
  have hE := (Ext.refl w).alloc (.cells #[.int .i64 a, .int .i64 b, .int .i64 c, .int .i64 d, .int .i64 e] 33)
  have HE := Lib.hid hE
  have HM := Lib.hid hm
  clear hE hm
  go_enter Tryz.func93, Tryz.ntmps93
  go_wp2_with fail
  refine (rmay_any _ _ _ _ _ _).mono ?_
  rw [HM.out]
  rintro r w1 ⟨rfl, hx⟩
  have HE := Lib.hid (HE.out.trans hx)
  clear hx
  go_wp2_with fail
  go_ret2
  exact ⟨rfl, HE.out⟩

set_option maxRecDepth 100000 in
set_option maxHeartbeats 3200000 in
theorem rprint_yes (a b c d e : Nat) (w : World) (hm : mayB a b c d e = true) :
    Calls Tryz.prog 93 #[.agg #[.int .i64 a, .int .i64 b, .int .i64 c, .int .i64 d, .int .i64 e]] w fun r w' => ∃ A cp, r = .returned (.tuple #[.slice A 15 cp, .int .i64 0]) ∧ By w' A 15 cp (tagBytes a b c d e) ∧ Ext w w' := by
  obtain ⟨i0, hi, hz0, hz1, hz2⟩ := info_parts byte_info
  have hE := (Ext.refl w).alloc (.cells #[.int .i64 a, .int .i64 b, .int .i64 c, .int .i64 d, .int .i64 e] 33)
  have hc := fun i => (cell_of_row _ w.heap.size i _ 33 (0, 0) (heap_alloc_new w (.cells #[.int .i64 a, .int .i64 b, .int .i64 c, .int .i64 d, .int .i64 e] 33)))
  have HC := Lib.hid hc
  have HE := Lib.hid hE
  have HM := Lib.hid hm
  have HT := Lib.hid (tagBytes_eq hm)
  rw [mayB_iff] at hm
  have hp := plc_le (b : Int)
  have ha : a < 256 := by omega
  have hb : b < 256 := by omega
  have hc' : c < 256 := by omega
  generalize tagBytes a b c d e = T at *
  clear hE hm hc hp
  go_enter Tryz.func93, Tryz.ntmps93
  go_wp2_with fail
  refine (rmay_any _ _ _ _ _ _).mono ?_
  rw [HM.out]
  rintro r w1 ⟨rfl, hx⟩
  have j0 : w1.cell? ⟨w.heap.size, 0, none⟩ = some (.int .i64 a) := Ext.cellv hx (HC.out 0)
  have j1 : w1.cell? ⟨w.heap.size, 1, none⟩ = some (.int .i64 b) := Ext.cellv hx (HC.out 1)
  have j2 : w1.cell? ⟨w.heap.size, 2, none⟩ = some (.int .i64 c) := Ext.cellv hx (HC.out 2)
  have j3 : w1.cell? ⟨w.heap.size, 3, none⟩ = some (.int .i64 d) := Ext.cellv hx (HC.out 3)
  have j4 : w1.cell? ⟨w.heap.size, 4, none⟩ = some (.int .i64 e) := Ext.cellv hx (HC.out 4)
  have HE := Lib.hid (HE.out.trans hx)
  have k3 : (w1.alloc (.cells #[.int .u8 a, .int .u8 b, .int .u8 c] 5)).cell? ⟨w.heap.size, 3, none⟩ = some (.int .i64 d) := Ext.cellv ((Ext.refl w1).alloc _) j3
  have k4 : (w1.alloc (.cells #[.int .u8 a, .int .u8 b, .int .u8 c] 5)).cell? ⟨w.heap.size, 4, none⟩ = some (.int .i64 e) := Ext.cellv ((Ext.refl w1).alloc _) j4
  have HK4 := Lib.hid k4
  have HO : Hid ((w1.alloc (.cells #[.int .u8 a, .int .u8 b, .int .u8 c] 5)).ownsRow w.heap.size 5 1 (.slice (some ⟨w1.heap.size, 0, none⟩) 3 3) 3 (vb [a, b, c])) := Lib.hid (own_lit w1 [a, b, c] w.heap.size 5 (Ext.size HE.out) (by simp) _ rfl)
  have HE := Lib.hid (HE.out.alloc (.cells #[.int .u8 a, .int .u8 b, .int .u8 c] 5))
  clear hx HC j3 j4 k4
  go_wp2_with fail
  clear j0 j1 j2 k3
  refine (rput_yes 6 d _ (fld_fits HM.out 3)).mono ?_
  rintro r w2 ⟨A2, c2, rfl, hown, hx⟩
  have HB2 : Hid (By w2 A2 6 c2 (digs 6 d)) := Lib.hid (Bs.of_own hown (digs_lt 6 d))
  have j4 : w2.cell? ⟨w.heap.size, 4, none⟩ = some (.int .i64 e) := Ext.cellv hx HK4.out
  have HO := Lib.hid (own_ext HO.out hx)
  have HE := Lib.hid (HE.out.trans hx)
  have hs := Ext.size hx
  have hs12 : w1.heap.size < w2.heap.size := by simp at hs; omega
  have HS12 := Lib.hid hs12
  clear hown hx HK4 hs hs12
  go_wp2_with fail
  clear j4
  refine (rput_yes 6 e _ (fld_fits HM.out 4)).mono ?_
  rintro r w3 ⟨A3, c3, rfl, hown, hx⟩
  have HO3 := Lib.hid hown
  have HB2 := Lib.hid (HB2.out.ext hx)
  have HO := Lib.hid (own_ext HO.out hx)
  have HE := Lib.hid (HE.out.trans hx)
  have hsz := Ext.size HE.out
  clear hown hx
  go_wp2_with (at_builtin; refine wpList_append_by rfl _ _ 34 rfl w.heap.size 5 i0 Tryz.underlying34 hi hz0 hz1 hz2 _ 3 (vb [a, b, c]) rfl HO.out _ 6 _ (digs 6 d) rfl HB2.out (by omega) hsz ?_)
  intro v4 w4 hown hg
  obtain ⟨hx, A4, c4, rfl, hb4, hown⟩ := app_step HE.out HO.out hg hown (by intro x hx; simp at hx; omega) (digs_lt 6 d)
  have HO4 := Lib.hid hown
  have hne : (Value.slice A3 6 c3).ownBlock ≠ (Value.slice (some ⟨w1.heap.size, 0, none⟩) 3 3).ownBlock := fun h => by
    have h1 : w2.heap.size ≤ w1.heap.size := (HO3.out.lt _ h).1
    have h2 := HS12.out
    omega
  have HB3 : Hid (By w4 A3 6 c3 (digs 6 e)) := Lib.hid (Bs.of_own (HO3.out.kept hg (.inr hne)) (digs_lt 6 e))
  have HE := Lib.hid hx
  have hsz4 := Ext.size HE.out
  clear hown hg hx hb4 hne
  go_wp2_with (at_builtin; refine wpList_append_by rfl _ _ 34 rfl w.heap.size 5 i0 Tryz.underlying34 hi hz0 hz1 hz2 _ 9 (vb ([a, b, c] ++ digs 6 d)) rfl HO4.out _ 6 _ (digs 6 e) rfl HB3.out (by omega) hsz4 ?_)
  intro v5 w5 hown hg
  obtain ⟨hx, A5, c5, rfl, hb5, _⟩ := app_step HE.out HO4.out hg hown (by
    intro x hx
    rcases List.mem_append.1 (show x ∈ [a, b, c] ++ digs 6 d from hx) with h | h
    · simp at h; omega
    · exact digs_lt 6 d x h) (digs_lt 6 e)
  have HB5 := Lib.hid hb5
  have HX5 := Lib.hid hx
  clear hown hg hx hb5 hsz hsz4
  go_wp2_with fail
  go_ret2
  exact ⟨A5, c5, rfl, by rw [HT.out]; exact HB5.out, HX5.out⟩
end Go.Proofs.YtlikhmhomkiadaaGreatDoor

namespace Go.Proofs.YtlikhmhomkiadaaGreatDoor
set_option maxRecDepth 100000
open Go Go.RowKit

theorem print_any (a b c d e : Int) (w : World) (hL : LaidA w) :
    Calls Tryz.prog 147 #[.agg #[.int .i64 a, .int .i64 b, .int .i64 c, .int .i64 d, .int .i64 e]] w fun r w' => ∃ A cp, r = .returned (.tuple #[.slice A (pl a b c d e).length cp, .int .i64 (pr a b c d e)]) ∧ By w' A (pl a b c d e).length cp (pl a b c d e) ∧ Ext w w' := by
  by_cases h : mayB a b c d e = true
  · obtain ⟨a, b, c, d, e, rfl, rfl, rfl, rfl, rfl⟩ := may_nat h
    rw [pl_yes h, pr_yes h]
    simp only [Int.toNat_natCast, tagBytes_len]
    exact print_yes a b c d e w hL h
  · have h' : mayB a b c d e = false := by simpa using h
    rw [pl_no h', pr_no h']
    exact (print_no a b c d e w hL.t h').mono fun _ w' ⟨h1, h2⟩ => ⟨none, 0, h1, By.nil_ w', h2⟩
theorem rprint_any (a b c d e : Int) (w : World) :
    Calls Tryz.prog 93 #[.agg #[.int .i64 a, .int .i64 b, .int .i64 c, .int .i64 d, .int .i64 e]] w fun r w' => ∃ A cp, r = .returned (.tuple #[.slice A (pl a b c d e).length cp, .int .i64 (pr a b c d e)]) ∧ By w' A (pl a b c d e).length cp (pl a b c d e) ∧ Ext w w' := by
  by_cases h : mayB a b c d e = true
  · obtain ⟨a, b, c, d, e, rfl, rfl, rfl, rfl, rfl⟩ := may_nat h
    rw [pl_yes h, pr_yes h]
    simp only [Int.toNat_natCast, tagBytes_len]
    exact rprint_yes a b c d e w h
  · have h' : mayB a b c d e = false := by simpa using h
    rw [pl_no h', pr_no h']
    exact (rprint_no a b c d e w h').mono fun _ w' ⟨h1, h2⟩ => ⟨none, 0, h1, By.nil_ w', h2⟩
end Go.Proofs.YtlikhmhomkiadaaGreatDoor

namespace Go.Proofs.YtlikhmhomkiadaaGreatDoor
set_option maxRecDepth 100000
open Go Go.RowKit

/-- What the table of halves holds. -/
def LaidH (w : World) : Prop := ∀ i, i < 16 → w.cell? ⟨4, i, none⟩ = some (.int .u32 ((stps 4 i : Nat) : Int))

theorem half_any (r : Nat) (w : World) (hL : LaidH w) (hr : r < 4294967296) :
    Calls Tryz.prog 168 #[.int .u32 r] w fun e w' => e = .returned (.int .u32 ((stps 4 r : Nat) : Int)) ∧ w = w' := by
  have ha : bits .and .u32 (r : Int) 15 = ((r % 16 : Nat) : Int) := by
    have := u32_and_nat r 15 hr (by omega)
    rw [nat_mask4] at this
    exact this
  have hm : r % 16 < 16 := Nat.mod_lt _ (by omega)
  have hc := hL (r % 16) hm
  have HS : Hid ((r / 16) ^^^ stps 4 (r % 16) = stps 4 r) := Lib.hid (stps_split 4 r).symm
  have hlt : stps 4 (r % 16) < 4294967296 := stps_lt (by omega)
  have hx : bits .xor .u32 ((r : Int) / 16) ((stps 4 (r % 16) : Nat) : Int) = ((r / 16 ^^^ stps 4 (r % 16) : Nat) : Int) := u32_xor_nat (r / 16) _ (by omega) hlt
  clear hL hlt
  go_enter Tryz.func168, Tryz.ntmps168
  go_wp2_with fail
  go_ret
  exact ⟨by rw [HS.out]; rfl, rfl⟩

theorem not_u32 (s : Nat) (h : s < 4294967296) : bits .xor .u32 IntKind.u32.max (s : Int) = ((inv s : Nat) : Int) := by
  have e : IntKind.u32.max = ((4294967295 : Nat) : Int) := by decide
  rw [e, u32_xor_nat 4294967295 s (by omega) h, inv_xor h, Nat.xor_comm]
set_option maxHeartbeats 400000 in
theorem ext_any (A : Option Addr) (l : List Nat) (n c B s : Nat) (w : World) (hL : LaidH w) (hl : l.length = n) (hr : Rd w B A l) (hm : n ≤ maxLen) (hs : s < 4294967296) :
    Calls Tryz.prog 161 #[.int .u32 s, .slice A n c] w fun e w' => e = .returned (.int .u32 ((crcE s l : Nat) : Int)) ∧ w = w' := by
  unfold maxLen at hm
  have H := Lib.hid hL
  have HL := Lib.hid hl
  clear hl hL
  go_enter Tryz.func161, Tryz.ntmps161
  go_wp2_with fail
  go_loop [5, 12] (fun vr vi => ∃ k t : Nat, k ≤ n ∧ vi = .int .i64 k ∧ vr = .int .u32 t ∧ t < 4294967296 ∧ Hid (t = feed (inv s) (l.take k))) (fun _ vi => n - (intOf vi).toNat)
  case atStart => exact ⟨0, inv s, Nat.zero_le _, rfl, by rw [not_u32 s hs], inv_lt s, Lib.hid rfl⟩
  case round =>
    obtain ⟨k, t, hk, rfl, rfl, ht, HT⟩ := hrel
    by_cases hlt : k < n
    · obtain ⟨g, o, x, hA, _, hx, hx2, hcx⟩ := hr.at_ (k := k) (by rw [HL.out]; exact hlt)
      subst hA
      have HX : Hid (inb t x = feed (inv s) (l.take (k + 1))) := Lib.hid (by rw [feed_take hx, ← HT.out])
      have hin := inb_lt ht hx2
      have hxor := u32_xor_nat t x ht (by omega)
      have h1 : t ^^^ x < 4294967296 := xor_lt32 ht (by omega)
      have h2 : stps 4 (t ^^^ x) < 4294967296 := stps_lt h1
      have HI : Hid (stps 4 (stps 4 (t ^^^ x)) = inb t x) := Lib.hid (by rw [← stps_add]; rfl)
      clear hx HT
      go_wp2_with fail
      refine (half_any _ _ H.out h1).mono ?_
      rintro e w' ⟨rfl, rfl⟩
      go_wp2_with fail
      refine (half_any _ _ H.out h2).mono ?_
      rintro e w' ⟨rfl, rfl⟩
      rw [HI.out]
      go_wp2_with fail
      go_round
      case rel => exact ⟨k + 1, inb t x, by omega, by go_num, rfl, hin, HX⟩
      case measure => simp [intOf]; omega
    · have HF : Hid (inv t = crcE s l) := by
        have := HT.out
        rw [List.take_of_length_le (by have := HL.out; omega)] at this
        exact Lib.hid (by rw [this]; rfl)
      go_wp2_with fail
      go_ret
      exact ⟨by rw [← HF.out, ← not_u32 t ht]; rfl, rfl⟩
theorem sum_any (A : Option Addr) (l : List Nat) (n c B : Nat) (w : World) (hL : LaidH w) (hl : l.length = n) (hr : Rd w B A l) (hm : n ≤ maxLen) :
    Calls Tryz.prog 149 #[.slice A n c] w fun e w' => e = .returned (.int .u32 ((crcS l : Nat) : Int)) ∧ w = w' := by
  have HM := Lib.hid hm
  have H := Lib.hid hL
  clear hm hL
  go_enter Tryz.func149, Tryz.ntmps149
  go_wp2_with fail
  refine (ext_any A l n c B 0 _ H.out hl hr HM.out (by omega)).mono ?_
  rintro e w' ⟨rfl, rfl⟩
  go_wp2_with fail
  go_ret
  exact ⟨rfl, rfl⟩
end Go.Proofs.YtlikhmhomkiadaaGreatDoor
