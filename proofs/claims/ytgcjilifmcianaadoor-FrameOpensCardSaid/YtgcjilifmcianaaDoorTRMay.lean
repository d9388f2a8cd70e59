/-
  The contract of the document's own May.
-/
import Derived.Test.YtgcjilifmcianaaDoorTRefP
import Derived.Test.YtgcjilifmcianaaDoorMem
import Derived.Deep.QuietTactic
namespace Go.Proofs.YtgcjilifmcianaaDoor
open Go Go.RowKit

theorem mayB_no {a b c d e : Int} (h : ¬ (0 ≤ a ∧ a ≤ 6 ∧ 1 ≤ b ∧ b ≤ 5 ∧ 0 ≤ c ∧ c < plc b ∧ 0 ≤ d ∧ d ≤ 1099511627776 ∧ 1 ≤ e ∧ e ≤ 1099511627776)) : mayB a b c d e = false := by
  unfold mayB
  exact decide_eq_false h

set_option maxRecDepth 100000 in
set_option maxHeartbeats 3200000 in
theorem rmay_any (a b c d e : Int) (w : World) :
    Calls Tryd.prog 41 #[.agg #[.int .i64 a, .int .i64 b, .int .i64 c, .int .i64 d, .int .i64 e]] w fun r w' => r = .returned (.bool (mayB a b c d e)) ∧ Ext w w' := by
  have hE := (Ext.refl w).alloc (.cells #[.int .i64 a, .int .i64 b, .int .i64 c, .int .i64 d, .int .i64 e] 23)
  have HE := Lib.hid hE
  clear hE
  by_cases h1 : a < 0
  · have HM := Lib.hid (mayB_no (a := a) (b := b) (c := c) (d := d) (e := e) (by omega))
    have g1 : decide (a < 0) = true := by simpa using h1
    clear h1
    go_enter Tryd.func41, Tryd.ntmps41
    go_wp2_with fail
    go_quiet ((go_at_call 53; exact Calls.quiet_of_same ((rplaces_any _ _).mono fun _ _ h => ⟨h.1, h.2.symm⟩)))
    go_wp2_with fail
    go_ret
    exact ⟨by rw [HM.out]; rfl, HE.out.drewN _⟩
  by_cases h2 : 6 < a
  · have HM := Lib.hid (mayB_no (a := a) (b := b) (c := c) (d := d) (e := e) (by omega))
    have g2 : decide (6 < a) = true := by simpa using h2
    have g1 : decide (a < 0) = false := by simpa using h1
    clear h1 h2
    go_enter Tryd.func41, Tryd.ntmps41
    go_wp2_with fail
    go_quiet ((go_at_call 53; exact Calls.quiet_of_same ((rplaces_any _ _).mono fun _ _ h => ⟨h.1, h.2.symm⟩)))
    go_wp2_with fail
    go_ret
    exact ⟨by rw [HM.out]; rfl, HE.out.drewN _⟩
  by_cases h3 : b < 1
  · have HM := Lib.hid (mayB_no (a := a) (b := b) (c := c) (d := d) (e := e) (by omega))
    have g3 : decide (b < 1) = true := by simpa using h3
    have g1 : decide (a < 0) = false := by simpa using h1
    have g2 : decide (6 < a) = false := by simpa using h2
    clear h1 h2 h3
    go_enter Tryd.func41, Tryd.ntmps41
    go_wp2_with fail
    go_quiet ((go_at_call 53; exact Calls.quiet_of_same ((rplaces_any _ _).mono fun _ _ h => ⟨h.1, h.2.symm⟩)))
    go_wp2_with fail
    go_ret
    exact ⟨by rw [HM.out]; rfl, HE.out.drewN _⟩
  by_cases h4 : 5 < b
  · have HM := Lib.hid (mayB_no (a := a) (b := b) (c := c) (d := d) (e := e) (by omega))
    have g4 : decide (5 < b) = true := by simpa using h4
    have g1 : decide (a < 0) = false := by simpa using h1
    have g2 : decide (6 < a) = false := by simpa using h2
    have g3 : decide (b < 1) = false := by simpa using h3
    clear h1 h2 h3 h4
    go_enter Tryd.func41, Tryd.ntmps41
    go_wp2_with fail
    go_quiet ((go_at_call 53; exact Calls.quiet_of_same ((rplaces_any _ _).mono fun _ _ h => ⟨h.1, h.2.symm⟩)))
    go_wp2_with fail
    go_ret
    exact ⟨by rw [HM.out]; rfl, HE.out.drewN _⟩
  by_cases h5 : c < 0
  · have HM := Lib.hid (mayB_no (a := a) (b := b) (c := c) (d := d) (e := e) (by omega))
    have g5 : decide (c < 0) = true := by simpa using h5
    have g1 : decide (a < 0) = false := by simpa using h1
    have g2 : decide (6 < a) = false := by simpa using h2
    have g3 : decide (b < 1) = false := by simpa using h3
    have g4 : decide (5 < b) = false := by simpa using h4
    clear h1 h2 h3 h4 h5
    go_enter Tryd.func41, Tryd.ntmps41
    go_wp2_with fail
    go_quiet ((go_at_call 53; exact Calls.quiet_of_same ((rplaces_any _ _).mono fun _ _ h => ⟨h.1, h.2.symm⟩)))
    go_wp2_with fail
    go_ret
    exact ⟨by rw [HM.out]; rfl, HE.out.drewN _⟩
  by_cases h6 : (plc b : Int) ≤ c
  · have HM := Lib.hid (mayB_no (a := a) (b := b) (c := c) (d := d) (e := e) (by omega))
    have g6 : decide ((plc b : Int) ≤ c) = true := by simpa using h6
    have g1 : decide (a < 0) = false := by simpa using h1
    have g2 : decide (6 < a) = false := by simpa using h2
    have g3 : decide (b < 1) = false := by simpa using h3
    have g4 : decide (5 < b) = false := by simpa using h4
    have g5 : decide (c < 0) = false := by simpa using h5
    clear h1 h2 h3 h4 h5 h6
    go_enter Tryd.func41, Tryd.ntmps41
    go_wp2_with fail
    go_quiet ((go_at_call 53; exact Calls.quiet_of_same ((rplaces_any _ _).mono fun _ _ h => ⟨h.1, h.2.symm⟩)))
    go_wp2_with fail
    go_ret
    exact ⟨by rw [HM.out]; rfl, HE.out.drewN _⟩
  have g1 : decide (a < 0) = false := by simpa using h1
  have g2 : decide (6 < a) = false := by simpa using h2
  have g3 : decide (b < 1) = false := by simpa using h3
  have g4 : decide (5 < b) = false := by simpa using h4
  have g5 : decide (c < 0) = false := by simpa using h5
  have g6 : decide ((plc b : Int) ≤ c) = false := by simpa using h6
  by_cases k1 : ¬ 0 ≤ d
  · have HM := Lib.hid (mayB_no (a := a) (b := b) (c := c) (d := d) (e := e) (by omega))
    have j1 : decide (0 ≤ d) = false := by simpa using k1
    clear h1 h2 h3 h4 h5 h6 k1
    go_enter Tryd.func41, Tryd.ntmps41
    go_wp2_with fail
    go_quiet ((go_at_call 53; exact Calls.quiet_of_same ((rplaces_any _ _).mono fun _ _ h => ⟨h.1, h.2.symm⟩)))
    go_wp2_with fail
    go_ret
    exact ⟨by rw [HM.out]; rfl, HE.out.drewN _⟩
  by_cases k2 : ¬ d ≤ 1099511627776
  · have HM := Lib.hid (mayB_no (a := a) (b := b) (c := c) (d := d) (e := e) (by omega))
    have j2 : decide (d ≤ 1099511627776) = false := by simpa using k2
    have j1 : decide (0 ≤ d) = true := by simpa using k1
    clear h1 h2 h3 h4 h5 h6 k1 k2
    go_enter Tryd.func41, Tryd.ntmps41
    go_wp2_with fail
    go_quiet ((go_at_call 53; exact Calls.quiet_of_same ((rplaces_any _ _).mono fun _ _ h => ⟨h.1, h.2.symm⟩)))
    go_wp2_with fail
    go_ret
    exact ⟨by rw [HM.out]; rfl, HE.out.drewN _⟩
  by_cases k3 : ¬ 1 ≤ e
  · have HM := Lib.hid (mayB_no (a := a) (b := b) (c := c) (d := d) (e := e) (by omega))
    have j3 : decide (1 ≤ e) = false := by simpa using k3
    have j1 : decide (0 ≤ d) = true := by simpa using k1
    have j2 : decide (d ≤ 1099511627776) = true := by simpa using k2
    clear h1 h2 h3 h4 h5 h6 k1 k2 k3
    go_enter Tryd.func41, Tryd.ntmps41
    go_wp2_with fail
    go_quiet ((go_at_call 53; exact Calls.quiet_of_same ((rplaces_any _ _).mono fun _ _ h => ⟨h.1, h.2.symm⟩)))
    go_wp2_with fail
    go_ret
    exact ⟨by rw [HM.out]; rfl, HE.out.drewN _⟩
  by_cases k4 : ¬ e ≤ 1099511627776
  · have HM := Lib.hid (mayB_no (a := a) (b := b) (c := c) (d := d) (e := e) (by omega))
    have j4 : decide (e ≤ 1099511627776) = false := by simpa using k4
    have j1 : decide (0 ≤ d) = true := by simpa using k1
    have j2 : decide (d ≤ 1099511627776) = true := by simpa using k2
    have j3 : decide (1 ≤ e) = true := by simpa using k3
    clear h1 h2 h3 h4 h5 h6 k1 k2 k3 k4
    go_enter Tryd.func41, Tryd.ntmps41
    go_wp2_with fail
    go_quiet ((go_at_call 53; exact Calls.quiet_of_same ((rplaces_any _ _).mono fun _ _ h => ⟨h.1, h.2.symm⟩)))
    go_wp2_with fail
    go_ret
    exact ⟨by rw [HM.out]; rfl, HE.out.drewN _⟩
  have j1 : decide (0 ≤ d) = true := by simpa using k1
  have j2 : decide (d ≤ 1099511627776) = true := by simpa using k2
  have j3 : decide (1 ≤ e) = true := by simpa using k3
  have j4 : decide (e ≤ 1099511627776) = true := by simpa using k4
  have HM := Lib.hid (mayB_iff (a := a) (b := b) (c := c) (d := d) (e := e) |>.2 (by omega))
  clear h1 h2 h3 h4 h5 h6 k1 k2 k3 k4
  go_enter Tryd.func41, Tryd.ntmps41
  go_wp2_with fail
  go_quiet ((go_at_call 53; exact Calls.quiet_of_same ((rplaces_any _ _).mono fun _ _ h => ⟨h.1, h.2.symm⟩)))
  go_wp2_with fail
  go_ret
  exact ⟨by rw [HM.out]; rfl, HE.out.drewN _⟩
end Go.Proofs.YtgcjilifmcianaaDoor
