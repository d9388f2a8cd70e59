/-
  The walk of the statement on Put: for every width and every number both answers are the same, and nothing that was there is written.
-/
import Derived.Test.YtcnjhblboedbpaaDoorLaws
import Derived.Test.YtcnjhblboedbpaaDoorSame
import Derived.Test.YtcnjhblboedbpaaDoorOpen
namespace Go.Proofs.YtcnjhblboedbpaaDoor
open Go Go.RowKit

set_option maxHeartbeats 1000000 in
theorem puts_walk (x n : Int) (w : World) (hn : n ≤ 9223372036854775807) (hL : Laid w) :
    Calls Tryd.prog 3 #[.int .i64 x, .int .i64 n] w fun e w' => e = .returned (.bool true) ∧ Below w.heap.size w w' := by
  have HL := Lib.hid hL
  clear hL
  by_cases hf : fitsB x n = true
  · obtain ⟨x, n, rfl, rfl⟩ := fits_nat hf
    obtain ⟨hw, _, _⟩ := fits_iff.1 hf
    have hx0 : 1 ≤ x ∧ x ≤ 6 := by rcases wOk_cases hw with h | h | h | h <;> omega
    have HF := Lib.hid hf
    clear hf hw
    go_enter Tryd.func3, Tryd.ntmps3
    go_wp2_with fail
    refine (oput_yes x n _ HL.out HF.out).mono ?_
    rintro e w1 ⟨A, c, rfl, hown, hbel⟩
    have HB1 := Lib.hid (Bs.of_own hown (digs_lt x n))
    have HL1 := Lib.hid (HL.out.below hbel)
    have HBel := Lib.hid hbel
    clear hown hbel
    go_wp2_with fail
    refine (rput_yes x n _ HF.out).mono ?_
    rintro e w2 ⟨A', c', rfl, hown, hbel⟩
    have HB2 := Lib.hid (Bs.of_own hown (digs_lt x n))
    have HB1' := Lib.hid ((HB1.out.below hbel).more hbel.size)
    have HL2 := Lib.hid (HL1.out.below hbel)
    have HBel2 := Lib.hid (HBel.out.trans (hbel.mono HBel.out.size))
    clear hown hbel
    go_wp2_with (first
      | (go_at_call 11; refine (fits_any _ _ _ HL2.out).mono ?_; rintro e w' ⟨rfl, rfl⟩; rw [HF.out])
      | (go_at_call 12; refine (rfits_any _ _ _ hn).mono ?_; rintro e w' ⟨rfl, rfl⟩; rw [HF.out]))
    refine (same_any _ _ _ _ _ _ _ _ _ _ HB1'.out.len HB2.out.len HB1'.out.rd HB2.out.rd (by unfold maxLen; omega)).mono ?_
    rintro e w3 ⟨rfl, k, rfl⟩
    go_wp2_with fail
    go_ret
    exact ⟨by simp, below_drewN HBel2.out k⟩
  · have HF := Lib.hid (show fitsB x n = false by simpa using hf)
    clear hf
    go_enter Tryd.func3, Tryd.ntmps3
    go_wp2_with fail
    refine (oput_no x n _ HL.out HF.out).mono ?_
    rintro e w1 ⟨rfl, rfl⟩
    go_wp2_with fail
    refine (rput_no x n _ hn HF.out).mono ?_
    rintro e w2 ⟨rfl, rfl⟩
    go_wp2_with (first
      | (go_at_call 11; refine (fits_any _ _ _ HL.out).mono ?_; rintro e w' ⟨rfl, rfl⟩; rw [HF.out])
      | (go_at_call 12; refine (rfits_any _ _ _ hn).mono ?_; rintro e w' ⟨rfl, rfl⟩; rw [HF.out]))
    refine (same_any none none [] [] 0 0 0 0 0 _ rfl rfl Rd.nil_ Rd.nil_ (Nat.zero_le _)).mono ?_
    rintro e w3 ⟨rfl, k, rfl⟩
    go_wp2_with fail
    go_ret
    exact ⟨by simp, below_drewN (Below.refl _ _) k⟩

theorem octetPuts_law (x n : Int) (w : World) (_ : (Lit.int .i64 x).wf = true) (h1 : (Lit.int .i64 n).wf = true) (hL : Laid w) :
    Calls Tryd.prog 3 #[.int .i64 x, .int .i64 n] w fun e w' => e = .returned (.bool true) ∧ Below w.heap.size w w' := puts_walk x n w (bounds_i64 h1).2 hL
end Go.Proofs.YtcnjhblboedbpaaDoor
