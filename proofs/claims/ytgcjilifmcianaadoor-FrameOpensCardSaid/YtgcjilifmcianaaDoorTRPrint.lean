/-
  The contract of the document's own Print.
-/
import Derived.Test.YtgcjilifmcianaaDoorTRMay
import Derived.Test.YtgcjilifmcianaaDoorOwn
import Derived.Test.YtgcjilifmcianaaDoorPut
namespace Go.Proofs.YtgcjilifmcianaaDoor
open Go Go.RowKit

theorem Ext.cellv {a b : World} {p : Addr} {v : Value} (k : Ext a b) (h : a.cell? p = some v) : b.cell? p = some v := (Below.cell k (World.block_lt_of_cell? a _ h)).trans h
theorem tagBytes_eq {a b c d e : Nat} (h : mayB a b c d e = true) : tagBytes a b c d e = [a, b, c] ++ digs 6 d ++ digs 6 e := by
  rw [mayB_iff] at h
  have hp := plc_le (b : Int)
  simp only [tagBytes, pre, wth, fld, digs, List.nil_append]
  rw [show a % 256 = a by omega, show b % 256 = b by omega, show c % 256 = c by omega]
  rfl

set_option maxRecDepth 100000 in
set_option maxHeartbeats 1600000 in
theorem rprint_no (a b c d e : Int) (w : World) (hm : mayB a b c d e = false) :
    Calls Tryd.prog 27 #[.agg #[.int .i64 a, .int .i64 b, .int .i64 c, .int .i64 d, .int .i64 e]] w fun r w' => r = .returned (.tuple #[.slice none 0 0, .int .i64 2]) ∧ Ext w w' := by
  have hE := (Ext.refl w).alloc (.cells #[.int .i64 a, .int .i64 b, .int .i64 c, .int .i64 d, .int .i64 e] 23)
  have HE := Lib.hid hE
  have HM := Lib.hid hm
  clear hE hm
  go_enter Tryd.func27, Tryd.ntmps27
  go_wp2_with fail
  refine (rmay_any _ _ _ _ _ _).mono ?_
  rw [HM.out]
  rintro r w1 ⟨rfl, hx⟩
  have HE := Lib.hid (HE.out.trans hx)
  clear hx
  go_wp2_with fail
  go_ret2
  exact ⟨rfl, HE.out⟩

set_option maxRecDepth 100000 in
set_option maxHeartbeats 3200000 in
theorem rprint_yes (a b c d e : Nat) (w : World) (hm : mayB a b c d e = true) :
    Calls Tryd.prog 27 #[.agg #[.int .i64 a, .int .i64 b, .int .i64 c, .int .i64 d, .int .i64 e]] w fun r w' => ∃ A cp, r = .returned (.tuple #[.slice A 15 cp, .int .i64 0]) ∧ By w' A 15 cp (tagBytes a b c d e) ∧ Ext w w' := by
  obtain ⟨i0, hi, hz0, hz1, hz2⟩ := info_parts byte_info
  have hE := (Ext.refl w).alloc (.cells #[.int .i64 a, .int .i64 b, .int .i64 c, .int .i64 d, .int .i64 e] 23)
  have hc := fun i => (cell_of_row _ w.heap.size i _ 23 (0, 0) (heap_alloc_new w (.cells #[.int .i64 a, .int .i64 b, .int .i64 c, .int .i64 d, .int .i64 e] 23)))
  have HC := Lib.hid hc
  have HE := Lib.hid hE
  have HM := Lib.hid hm
  have HT := Lib.hid (tagBytes_eq hm)
  rw [mayB_iff] at hm
  have hp := plc_le (b : Int)
  have ha : a < 256 := by omega
  have hb : b < 256 := by omega
  have hc' : c < 256 := by omega
  generalize tagBytes a b c d e = T at *
  clear hE hm hc hp
  go_enter Tryd.func27, Tryd.ntmps27
  go_wp2_with fail
  refine (rmay_any _ _ _ _ _ _).mono ?_
  rw [HM.out]
  rintro r w1 ⟨rfl, hx⟩
  have j0 : w1.cell? ⟨w.heap.size, 0, none⟩ = some (.int .i64 a) := Ext.cellv hx (HC.out 0)
  have j1 : w1.cell? ⟨w.heap.size, 1, none⟩ = some (.int .i64 b) := Ext.cellv hx (HC.out 1)
  have j2 : w1.cell? ⟨w.heap.size, 2, none⟩ = some (.int .i64 c) := Ext.cellv hx (HC.out 2)
  have j3 : w1.cell? ⟨w.heap.size, 3, none⟩ = some (.int .i64 d) := Ext.cellv hx (HC.out 3)
  have j4 : w1.cell? ⟨w.heap.size, 4, none⟩ = some (.int .i64 e) := Ext.cellv hx (HC.out 4)
  have HE := Lib.hid (HE.out.trans hx)
  have k3 : (w1.alloc (.cells #[.int .u8 a, .int .u8 b, .int .u8 c] 5)).cell? ⟨w.heap.size, 3, none⟩ = some (.int .i64 d) := Ext.cellv ((Ext.refl w1).alloc _) j3
  have k4 : (w1.alloc (.cells #[.int .u8 a, .int .u8 b, .int .u8 c] 5)).cell? ⟨w.heap.size, 4, none⟩ = some (.int .i64 e) := Ext.cellv ((Ext.refl w1).alloc _) j4
  have HK4 := Lib.hid k4
  have HO : Hid ((w1.alloc (.cells #[.int .u8 a, .int .u8 b, .int .u8 c] 5)).ownsRow w.heap.size 5 1 (.slice (some ⟨w1.heap.size, 0, none⟩) 3 3) 3 (vb [a, b, c])) := Lib.hid (own_lit w1 [a, b, c] w.heap.size 5 (Ext.size HE.out) (by simp) _ rfl)
  have HE := Lib.hid (HE.out.alloc (.cells #[.int .u8 a, .int .u8 b, .int .u8 c] 5))
  clear hx HC j3 j4 k4
  go_wp2_with fail
  clear j0 j1 j2 k3
  refine (rput_yes 6 d _ (fld_fits HM.out 3)).mono ?_
  rintro r w2 ⟨A2, c2, rfl, hown, hx⟩
  have HB2 : Hid (By w2 A2 6 c2 (digs 6 d)) := Lib.hid (Bs.of_own hown (digs_lt 6 d))
  have j4 : w2.cell? ⟨w.heap.size, 4, none⟩ = some (.int .i64 e) := Ext.cellv hx HK4.out
  have HO := Lib.hid (own_ext HO.out hx)
  have HE := Lib.hid (HE.out.trans hx)
  have hs := Ext.size hx
  have hs12 : w1.heap.size < w2.heap.size := by simp at hs; omega
  have HS12 := Lib.hid hs12
  clear hown hx HK4 hs hs12
  go_wp2_with fail
  clear j4
  refine (rput_yes 6 e _ (fld_fits HM.out 4)).mono ?_
  rintro r w3 ⟨A3, c3, rfl, hown, hx⟩
  have HO3 := Lib.hid hown
  have HB2 := Lib.hid (HB2.out.ext hx)
  have HO := Lib.hid (own_ext HO.out hx)
  have HE := Lib.hid (HE.out.trans hx)
  have hsz := Ext.size HE.out
  clear hown hx
  go_wp2_with (at_builtin; refine wpList_append_by rfl _ _ 24 rfl w.heap.size 5 i0 Tryd.underlying24 hi hz0 hz1 hz2 _ 3 (vb [a, b, c]) rfl HO.out _ 6 _ (digs 6 d) rfl HB2.out (by omega) hsz ?_)
  intro v4 w4 hown hg
  obtain ⟨hx, A4, c4, rfl, hb4, hown⟩ := app_step HE.out HO.out hg hown (by intro x hx; simp at hx; omega) (digs_lt 6 d)
  have HO4 := Lib.hid hown
  have hne : (Value.slice A3 6 c3).ownBlock ≠ (Value.slice (some ⟨w1.heap.size, 0, none⟩) 3 3).ownBlock := fun h => by
    have h1 : w2.heap.size ≤ w1.heap.size := (HO3.out.lt _ h).1
    have h2 := HS12.out
    omega
  have HB3 : Hid (By w4 A3 6 c3 (digs 6 e)) := Lib.hid (Bs.of_own (HO3.out.kept hg (.inr hne)) (digs_lt 6 e))
  have HE := Lib.hid hx
  have hsz4 := Ext.size HE.out
  clear hown hg hx hb4 hne
  go_wp2_with (at_builtin; refine wpList_append_by rfl _ _ 24 rfl w.heap.size 5 i0 Tryd.underlying24 hi hz0 hz1 hz2 _ 9 (vb ([a, b, c] ++ digs 6 d)) rfl HO4.out _ 6 _ (digs 6 e) rfl HB3.out (by omega) hsz4 ?_)
  intro v5 w5 hown hg
  obtain ⟨hx, A5, c5, rfl, hb5, _⟩ := app_step HE.out HO4.out hg hown (by
    intro x hx
    rcases List.mem_append.1 (show x ∈ [a, b, c] ++ digs 6 d from hx) with h | h
    · simp at h; omega
    · exact digs_lt 6 d x h) (digs_lt 6 e)
  have HB5 := Lib.hid hb5
  have HX5 := Lib.hid hx
  clear hown hg hx hb5 hsz hsz4
  go_wp2_with fail
  go_ret2
  exact ⟨A5, c5, rfl, by rw [HT.out]; exact HB5.out, HX5.out⟩
end Go.Proofs.YtgcjilifmcianaaDoor
