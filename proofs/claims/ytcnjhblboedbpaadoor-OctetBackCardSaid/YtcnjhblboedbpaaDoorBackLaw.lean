/-
  The walk of the stage's theorem: what was put is got, whatever stands ahead of and behind it; what is got, put again, is those bytes.
-/
import Derived.Test.YtcnjhblboedbpaaDoorLaws
namespace Go.Proofs.YtcnjhblboedbpaaDoor
open Go Go.RowKit

set_option maxHeartbeats 2000000 in
set_option maxRecDepth 100000 in
theorem octetBack_law (x n : Int) (A : Option Addr) (m c : Nat) (l : List Nat) (A' : Option Addr) (m' c' : Nat) (l' : List Nat) (w : World) (_ : (Lit.int .i64 x).wf = true) (_ : (Lit.int .i64 n).wf = true) (hb : Bs w w.heap.size A m c l) (hb' : Bs w w.heap.size A' m' c' l') (hL : Laid w) :
    Calls Tryd.prog 5 #[.int .i64 x, .int .i64 n, .slice A m c, .slice A' m' c'] w fun e w' => e = .returned (.bool true) ∧ Below w.heap.size w w' := by
  show Calls Tryd.prog 5 #[.int .i64 x, .int .i64 n, .slice A m c, .slice A' m' c'] w fun e w' => e = .returned (.bool true) ∧ Ext w w'
  have HL := Lib.hid hL
  have HA : Hid (By w A m c l) := Lib.hid hb
  have HA' : Hid (By w A' m' c' l') := Lib.hid hb'
  clear hL hb hb'
  have big : 300 < m ∨ (m ≤ 300 ∧ 300 < m') → Calls Tryd.prog 5 #[.int .i64 x, .int .i64 n, .slice A m c, .slice A' m' c'] w fun e w' => e = .returned (.bool true) ∧ Ext w w' := by
    rintro (h | ⟨h, h'⟩)
    all_goals
      go_enter Tryd.func5, Tryd.ntmps5
      go_wp2_with fail
      refine (awake_any _ HL.out).mono ?_
      rintro e w1 ⟨rfl, hx⟩
      have HE := Lib.hid hx
      clear hx
      go_wp2_with fail
      go_ret
      exact ⟨rfl, HE.out⟩
  by_cases hm : 300 < m
  · exact big (.inl hm)
  by_cases hm' : 300 < m'
  · exact big (.inr ⟨by omega, hm'⟩)
  clear big
  by_cases hf : fitsB x n = true
  · obtain ⟨x, n, rfl, rfl⟩ := fits_nat hf
    obtain ⟨hw, _, _⟩ := fits_iff.1 hf
    have hx0 : 1 ≤ x ∧ x ≤ 6 := by rcases wOk_cases hw with h | h | h | h <;> omega
    have HF := Lib.hid hf
    have HW := Lib.hid hw
    clear hf hw
    go_enter Tryd.func5, Tryd.ntmps5
    go_wp2_with fail
    refine (awake_any _ HL.out).mono ?_
    rintro e w1 ⟨rfl, hx⟩
    have HE := Lib.hid hx
    have HA := Lib.hid (HA.out.ext hx)
    have HA' := Lib.hid (HA'.out.ext hx)
    have HL := Lib.hid (HL.out.ext hx)
    clear hx
    go_wp2_with fail
    refine (put_by x n _ HL.out HF.out).mono ?_
    rintro e w2 ⟨A1, c1, rfl, hb, hx⟩
    have HB := Lib.hid hb
    have HA := Lib.hid (HA.out.ext hx)
    have HA' := Lib.hid (HA'.out.ext hx)
    have HE := Lib.hid (HE.out.trans hx)
    have HL := Lib.hid (HL.out.ext hx)
    clear hb hx
    go_wp2_with fail
    refine (join3_by _ HA.out HB.out HA'.out (by omega)).mono ?_
    rintro e w3 ⟨AJ, cJ, rfl, hb, hx⟩
    have HJ := Lib.hid hb
    have HE := Lib.hid (HE.out.trans hx)
    have HL := Lib.hid (HL.out.ext hx)
    have hlen : (l ++ digs x n ++ l').length = m + x + m' := hb.len
    have hlt := hb.rd.lt
    have hg := getS_put (l1 := l) (l3 := l') HF.out
    rw [HA.out.len] at hg
    generalize hall : l ++ digs x n ++ l' = all at *
    have HLEN := Lib.hid hlen
    have HLT := Lib.hid hlt
    have HG := Lib.hid hg
    have hcJ : m + x + m' ≤ cJ := HJ.out.cap
    clear hb hx hlen hlt hg hall
    go_wp2_with fail
    refine (get_by _ all _ _ _ _ _ HL.out HJ.out (by omega)).mono ?_
    rw [HG.out]
    rintro e w4 ⟨rfl, hx⟩
    have HJ := Lib.hid (HJ.out.ext hx)
    have HE := Lib.hid (HE.out.trans hx)
    have HL := Lib.hid (HL.out.ext hx)
    clear hx
    go_wp2_with fail
    refine (get_by _ all _ _ _ _ _ HL.out HJ.out (by omega)).mono ?_
    rw [getS_zero HW.out (by rw [HLEN.out]; omega)]
    rintro e w5 ⟨rfl, hx⟩
    have HJ := Lib.hid (HJ.out.ext hx)
    have HE := Lib.hid (HE.out.trans hx)
    have HL := Lib.hid (HL.out.ext hx)
    have HFN := Lib.hid (fits_num HW.out (by rw [HLEN.out]; omega) HLT.out)
    have HD := Lib.hid (digs_num_take (l := all) (x := x) (by rw [HLEN.out]; omega) HLT.out)
    generalize num (all.take x) = q at *
    clear hx
    go_wp2_with fail
    refine (put_by x q _ HL.out HFN.out).mono ?_
    rw [HD.out]
    rintro e w6 ⟨A6, c6, rfl, hb, hx⟩
    have HB := Lib.hid hb
    have HJ := Lib.hid (HJ.out.ext hx)
    have HE := Lib.hid (HE.out.trans hx)
    clear hb hx
    go_wp2_with fail
    refine (same_by _ _ _ _ _ _ _ _ _ HB.out (HJ.out.drop_last x (by omega))).mono ?_
    rintro e w7 ⟨rfl, hx⟩
    have HE := Lib.hid (HE.out.trans hx)
    clear hx
    go_wp2_with fail
    go_ret
    exact ⟨by simp, HE.out⟩
  · have HF := Lib.hid (show fitsB x n = false by simpa using hf)
    clear hf
    go_enter Tryd.func5, Tryd.ntmps5
    go_wp2_with fail
    refine (awake_any _ HL.out).mono ?_
    rintro e w1 ⟨rfl, hx⟩
    have HE := Lib.hid hx
    have HL := Lib.hid (HL.out.ext hx)
    clear hx
    go_wp2_with fail
    refine (put_no_by x n _ HL.out HF.out).mono ?_
    rintro e w2 ⟨rfl, hx⟩
    have HE := Lib.hid (HE.out.trans hx)
    have HL := Lib.hid (HL.out.ext hx)
    clear hx
    go_wp2_with fail
    refine (fits_by x n _ HL.out).mono ?_
    rw [HF.out]
    rintro e w3 ⟨rfl, hx⟩
    have HE := Lib.hid (HE.out.trans hx)
    clear hx
    go_wp2_with fail
    go_ret
    exact ⟨rfl, HE.out⟩
end Go.Proofs.YtcnjhblboedbpaaDoor
