/-
  The contract of the program's Print.
-/
import Derived.Test.YtgcjilifmcianaaDoorTMay
import Derived.Test.YtgcjilifmcianaaDoorJBy
import Derived.Test.YtgcjilifmcianaaDoorOBy
namespace Go.Proofs.YtgcjilifmcianaaDoor
open Go Go.RowKit

/-- What the table of widths holds; what all three tables hold. -/
def LaidW (w : World) : Prop := ∀ k : Nat, k < 5 → w.cell? ⟨0, k, none⟩ = some (.int .i64 (wth k))
theorem LaidW.ext {a b : World} (h : LaidW a) (k : Ext a b) : LaidW b := fun i hi => Ext.cell k (h i hi)
structure LaidA (w : World) : Prop where
  o : Laid w
  t : LaidT w
  w : LaidW w
theorem LaidA.ext {a b : World} (h : LaidA a) (k : Ext a b) : LaidA b := ⟨h.o.ext k, h.t.ext k, h.w.ext k⟩

theorem five_index (a b c d e k : Nat) (hk : k < 5) (w : World) : (Instr.index 65 (.agg #[.int .i64 a, .int .i64 b, .int .i64 c, .int .i64 d, .int .i64 e]) (.int .i64 k)).run Tryd.prog w = .ok (.int .i64 (fld a b c d e k)) w := by
  have hj' : k = 0 ∨ k = 1 ∨ k = 2 ∨ k = 3 ∨ k = 4 := by omega
  rcases hj' with rfl | rfl | rfl | rfl | rfl <;> (show _ = _; kernel_rfl)

set_option maxRecDepth 100000 in
set_option maxHeartbeats 1600000 in
theorem print_no (a b c d e : Int) (w : World) (hL : LaidT w) (hm : mayB a b c d e = false) :
    Calls Tryd.prog 24 #[.agg #[.int .i64 a, .int .i64 b, .int .i64 c, .int .i64 d, .int .i64 e]] w fun r w' => r = .returned (.tuple #[.slice none 0 0, .int .i64 2]) ∧ Ext w w' := by
  have hE := (Ext.refl w).alloc (.cells #[.int .i64 a, .int .i64 b, .int .i64 c, .int .i64 d, .int .i64 e] 23)
  have HL := Lib.hid (hL.ext hE)
  have HE := Lib.hid hE
  have HM := Lib.hid hm
  clear hL hE hm
  go_enter Tryd.func24, Tryd.ntmps24
  go_wp2_with fail
  refine (may_any _ _ _ _ _ _ HL.out).mono ?_
  rw [HM.out]
  rintro r w1 ⟨rfl, hx⟩
  have HE := Lib.hid (HE.out.trans hx)
  clear hx
  go_wp2_with fail
  go_ret2
  exact ⟨rfl, HE.out⟩

set_option maxRecDepth 100000 in
set_option maxHeartbeats 3200000 in
theorem print_yes (a b c d e : Nat) (w : World) (hL : LaidA w) (hm : mayB a b c d e = true) :
    Calls Tryd.prog 24 #[.agg #[.int .i64 a, .int .i64 b, .int .i64 c, .int .i64 d, .int .i64 e]] w fun r w' => ∃ A cp, r = .returned (.tuple #[.slice A 15 cp, .int .i64 0]) ∧ By w' A 15 cp (tagBytes a b c d e) ∧ Ext w w' := by
  have hE := (Ext.refl w).alloc (.cells #[.int .i64 a, .int .i64 b, .int .i64 c, .int .i64 d, .int .i64 e] 23)
  have hc := fun i => (cell_of_row _ w.heap.size i _ 23 (0, 0) (heap_alloc_new w (.cells #[.int .i64 a, .int .i64 b, .int .i64 c, .int .i64 d, .int .i64 e] 23)))
  have HC := Lib.hid hc
  have HL := Lib.hid (hL.ext hE)
  have HE := Lib.hid hE
  have HM := Lib.hid hm
  clear hL hE hm hc
  go_enter Tryd.func24, Tryd.ntmps24
  go_wp2_with fail
  refine (may_any _ _ _ _ _ _ HL.out.t).mono ?_
  rw [HM.out]
  rintro r w1 ⟨rfl, hx⟩
  have i0 : w1.cell? ⟨w.heap.size, 0, none⟩ = some (.int .i64 a) := Ext.cell hx (HC.out 0)
  have i1 : w1.cell? ⟨w.heap.size, 1, none⟩ = some (.int .i64 b) := Ext.cell hx (HC.out 1)
  have i2 : w1.cell? ⟨w.heap.size, 2, none⟩ = some (.int .i64 c) := Ext.cell hx (HC.out 2)
  have i3 : w1.cell? ⟨w.heap.size, 3, none⟩ = some (.int .i64 d) := Ext.cell hx (HC.out 3)
  have i4 : w1.cell? ⟨w.heap.size, 4, none⟩ = some (.int .i64 e) := Ext.cell hx (HC.out 4)
  have HL := Lib.hid (HL.out.ext hx)
  have HE := Lib.hid (HE.out.trans hx)
  clear hx HC
  go_wp2_with fail
  clear i0 i1 i2 i3 i4
  go_loopw [4, 23] (fun v i wr => ∃ k : Nat, k ≤ 5 ∧ i = .int .i64 k ∧ ∃ A n cp, v = .slice A n cp ∧ Hid (By wr A n cp (pre (fld a b c d e) k)) ∧ Hid (Ext w1 wr)) (fun _ i _ => 5 - (intOf i).toNat)
  case atStart => exact ⟨0, Nat.zero_le _, rfl, none, 0, 0, rfl, Lib.hid (By.nil_ _), Lib.hid (Ext.refl _)⟩
  case round =>
    obtain ⟨k, hk, rfl, A, n, cp, rfl, HB, HX⟩ := hrel
    by_cases hlt : k < 5
    · have hn : n ≤ 30 := by
        have h1 := HB.out.len
        have h2 := pre_len_le (fld a b c d e) k
        omega
      have hcap := HB.out.cap
      have hW := (HL.out.ext HX.out).w k hlt
      have hI := five_index a b c d e k hlt
      have hwl := wth_le k
      go_wp2_with fail
      refine (put_by _ _ _ (HL.out.ext HX.out).o (fld_fits HM.out k)).mono ?_
      rintro r w2 ⟨A2, c2, rfl, hb, hx⟩
      have HB2 := Lib.hid hb
      have HB := Lib.hid (HB.out.ext hx)
      have HX := Lib.hid (HX.out.trans hx)
      clear hx hb hW hI
      go_wp2_with fail
      refine (join2_by _ HB.out HB2.out (by omega)).mono ?_
      rintro r w3 ⟨A3, c3, rfl, hb, hx⟩
      have HB3 := Lib.hid hb
      have HX := Lib.hid (HX.out.trans hx)
      clear hx hb
      go_wp2_with fail
      go_roundw
      case rel => exact ⟨k + 1, by omega, by go_num, A3, _, c3, rfl, HB3, HX⟩
      case measure => simp [intOf]; omega
    · have HK : Hid (k = 5) := Lib.hid (by omega)
      have hb := HB.out
      rw [HK.out] at hb
      have hn : n = 15 := hb.len.symm.trans (tagBytes_len a b c d e)
      subst hn
      have HB := Lib.hid hb
      clear hb
      go_wp2_with fail
      go_ret2
      exact ⟨A, cp, rfl, HB.out, HE.out.trans HX.out⟩
end Go.Proofs.YtgcjilifmcianaaDoor
