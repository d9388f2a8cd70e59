/-
  The walk of VoteWindow: just 24 slots are inside; behind a farther snapshot no slot that was covered is.
-/
import Derived.Test.YtdbpdhlecgoclaaDoorVoAwake
namespace Go.Proofs.YtdbpdhlecgoclaaDoor
open Go Go.RowKit

theorem whV_in {s : Int} (h0 : 0 ≤ s) (h1 : s ≤ 1099511627676) {j : Nat} (hj : 1 ≤ j ∧ j ≤ 40) : whV s (s + (j : Int)) = (if j ≤ 24 then 1 else 2) ∧ errV s (s + (j : Int)) = 0 := by
  have hin : inV s (s + (j : Int)) := ⟨h0, by omega, by omega, by omega⟩
  unfold whV errV
  rw [if_pos hin, if_pos hin, if_neg (by omega)]
  refine ⟨?_, rfl⟩
  by_cases h : j ≤ 24
  · rw [if_pos (by omega), if_pos h]
  · rw [if_neg (by omega), if_neg h]
/-- What is told of a slot beside a snapshot, and beside a farther one. -/
theorem window_facts {s m : Int} (i : Int) (h0 : 0 ≤ s) (h1 : s ≤ 1099511627676) (m0 : 0 ≤ m) (m1 : m ≤ 60) : (errV s i = 2 ∧ errV (s + m) i = 2) ∨ (errV s i = 0 ∧ errV (s + m) i = 0 ∧ ((i ≤ s ∧ whV s i = 0 ∧ whV (s + m) i = 0) ∨ (¬ i ≤ s ∧ whV s i = 1 ∧ (whV (s + m) i = 0 ∨ whV (s + m) i = 1)) ∨ (¬ i ≤ s ∧ whV s i = 2))) := by
  by_cases hi : 1 ≤ i ∧ i ≤ 1099511627776
  · have hin : inV s i := ⟨h0, by omega, hi.1, hi.2⟩
    have hin2 : inV (s + m) i := ⟨by omega, by omega, hi.1, hi.2⟩
    refine .inr ⟨if_pos hin, if_pos hin2, ?_⟩
    rcases whV_three s i hin with ⟨k1, e⟩ | ⟨k1, k2, e⟩ | ⟨k1, k2, e⟩
    · rcases whV_three (s + m) i hin2 with ⟨_, e2⟩ | ⟨l1, _, _⟩ | ⟨l1, _, _⟩
      · exact .inl ⟨k1, e, e2⟩
      · omega
      · omega
    · rcases whV_three (s + m) i hin2 with ⟨_, e2⟩ | ⟨l1, _, e2⟩ | ⟨l1, l2, _⟩
      · exact .inr (.inl ⟨k1, e, .inl e2⟩)
      · exact .inr (.inl ⟨k1, e, .inr e2⟩)
      · omega
    · exact .inr (.inr ⟨k1, e⟩)
  · refine .inl ⟨if_neg fun h => hi ⟨h.2.2.1, h.2.2.2⟩, if_neg fun h => hi ⟨h.2.2.1, h.2.2.2⟩⟩
set_option maxRecDepth 100000 in
set_option maxHeartbeats 1600000 in
theorem voteWindow_law (s m i : Int) (w : World) (_ : (Lit.int .i64 s).wf = true) (_ : (Lit.int .i64 m).wf = true) (_ : (Lit.int .i64 i).wf = true) (hL : LaidV w) :
    Calls Tryd.prog 5 #[.int .i64 s, .int .i64 m, .int .i64 i] w fun e w' => e = .returned (.bool true) ∧ Below w.heap.size w w' := by
  show Calls Tryd.prog 5 #[.int .i64 s, .int .i64 m, .int .i64 i] w fun e w' => e = .returned (.bool true) ∧ Ext w w'
  have HAW := Lib.hid (vawake_any w hL)
  clear hL
  by_cases hbad : s < 0 ∨ 1099511627676 < s ∨ m < 0 ∨ 60 < m
  · have hc : s < 0 ∨ (¬ s < 0 ∧ 1099511627676 < s) ∨ (¬ s < 0 ∧ ¬ 1099511627676 < s ∧ m < 0) ∨ (¬ s < 0 ∧ ¬ 1099511627676 < s ∧ ¬ m < 0 ∧ 60 < m) := by omega
    clear hbad
    rcases hc with h1 | ⟨h1, h2⟩ | ⟨h1, h2, h3⟩ | ⟨h1, h2, h3, h4⟩
    all_goals
      go_enter Tryd.func5, Tryd.ntmps5
      go_wp2_with fail
      refine HAW.out.mono ?_
      rintro e w1 ⟨rfl, hx⟩
      have HX := Lib.hid hx
      clear hx
      go_wp2_with fail
      go_ret
      exact ⟨rfl, HX.out⟩
  have n1 : ¬ s < 0 := by omega
  have n2 : ¬ 1099511627676 < s := by omega
  have n3 : ¬ m < 0 := by omega
  have n4 : ¬ 60 < m := by omega
  have HWF := Lib.hid (window_facts i (show 0 ≤ s by omega) (show s ≤ 1099511627676 by omega) (show 0 ≤ m by omega) (show m ≤ 60 by omega))
  have HIN := Lib.hid (fun (j : Nat) (hj : 1 ≤ j ∧ j ≤ 40) => whV_in (s := s) (by omega) (by omega) hj)
  have HWS := Lib.hid (fun V => whereV_of s i V)
  have HWM := Lib.hid (fun V => whereV_of (s + m) i V)
  have hwm : IntKind.i64.wrap (s + m) = s + m := by rw [IntKind.wrap_i64]; omega
  have HB := Lib.hid hbad
  clear hbad
  go_enter Tryd.func5, Tryd.ntmps5
  go_wp2_with fail
  refine HAW.out.mono ?_
  rintro e w1 ⟨rfl, hx⟩
  have HX := Lib.hid hx
  clear hx
  go_wp2_with fail
  go_loopw [7, 8] (fun c v wr => ∃ (j z : Nat), 1 ≤ j ∧ j ≤ 41 ∧ v = .int .i64 (j : Int) ∧ c = .int .i64 (z : Int) ∧ z ≤ 24 ∧ Hid (z = if j ≤ 25 then j - 1 else 24) ∧ Hid (Ext w wr)) (fun _ v _ => 42 - (intOf v).toNat)
  case atStart => exact ⟨1, 0, by omega, by omega, by rfl, by rfl, by omega, Lib.hid (by rfl), HX⟩
  case round =>
    obtain ⟨j, z, hj1, hj2, rfl, rfl, hz24, HZ, HX⟩ := hrel
    by_cases hlt : j ≤ 40
    · obtain ⟨e1, e2⟩ := HIN.out j ⟨hj1, hlt⟩
      have hwr : IntKind.i64.wrap (s + (j : Int)) = s + (j : Int) := by have := HB.out; rw [IntKind.wrap_i64]; omega
      have HW := Lib.hid (fun V => whereV_of s (s + (j : Int)) V)
      rw [e1, e2] at HW
      clear e1 e2
      by_cases h24 : j ≤ 24
      · rw [if_pos h24] at HW
        have hdj : decide ((j : Int) ≤ 24) = true := decide_eq_true (by omega)
        have hdk : ((j : Int) ≤ 24) := by omega
        go_wp2_with fail
        refine (HW.out _).mono ?_
        rintro e w2 ⟨rfl, rfl⟩
        go_wp2_with fail
        go_roundw
        case rel => exact ⟨j + 1, z + 1, by omega, by omega, by go_num, by go_num, by have := HZ.out; rw [if_pos (by omega)] at this; omega, Lib.hid (by have := HZ.out; rw [if_pos (by omega)] at this; rw [if_pos (by omega)]; omega), HX⟩
        case measure => simp [intOf]; omega
      · rw [if_neg h24] at HW
        have hdj : decide ((j : Int) ≤ 24) = false := decide_eq_false (by omega)
        go_wp2_with fail
        refine (HW.out _).mono ?_
        rintro e w2 ⟨rfl, rfl⟩
        go_wp2_with fail
        go_roundw
        case rel => exact ⟨j + 1, z, by omega, by omega, by go_num, rfl, hz24, Lib.hid (by have := HZ.out; split at this <;> (rw [if_neg (by omega)]; omega)), HX⟩
        case measure => simp [intOf]; omega
    · obtain rfl : z = 24 := by have := HZ.out; rw [if_neg (by omega)] at this; exact this
      clear HIN HB HZ
      rcases HWF.out with ⟨f1, f2⟩ | ⟨f1, f2, hr⟩
      · rw [f1] at HWS
        rw [f2] at HWM
        clear f1 f2 HWF
        generalize whV s i = p at *
        generalize whV (s + m) i = p2 at *
        go_wp2_with fail
        refine (HWS.out _).mono ?_
        rintro e w2 ⟨rfl, rfl⟩
        go_wp2_with fail
        refine (HWM.out _).mono ?_
        rintro e w2 ⟨rfl, rfl⟩
        go_wp2_with fail
        go_ret
        exact ⟨rfl, HX.out⟩
      · rw [f1] at HWS
        rw [f2] at HWM
        clear f1 f2 HWF
        rcases hr with ⟨k1, k2, k3⟩ | ⟨k1, k2, k3 | k3⟩ | ⟨k1, k2⟩
        case' inl => rw [k2] at HWS; rw [k3] at HWM
        case' inr.inl.inl => rw [k2] at HWS; rw [k3] at HWM; have hdi : decide (i ≤ s) = false := decide_eq_false (by omega)
        case' inr.inl.inr => rw [k2] at HWS; rw [k3] at HWM; have hdi : decide (i ≤ s) = false := decide_eq_false (by omega)
        case' inr.inr =>
          rw [k2] at HWS
          generalize whV (s + m) i = p2 at *
          have hdi : decide (i ≤ s) = false := decide_eq_false (by omega)
        all_goals
          go_wp2_with fail
          refine (HWS.out _).mono ?_
          rintro e w2 ⟨rfl, rfl⟩
          go_wp2_with fail
          refine (HWM.out _).mono ?_
          rintro e w2 ⟨rfl, rfl⟩
          go_wp2_with fail
          first | (go_ret; exact ⟨rfl, HX.out⟩) | (refine bodyPost_ret (v := .bool true) (by simp [results, Tryd.results5, go_sem, hdi]) rfl ⟨rfl, HX.out⟩)
end Go.Proofs.YtdbpdhlecgoclaaDoor
