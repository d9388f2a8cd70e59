/-
  The walk of the statement on the first byte of a number.
-/
import Derived.Test.YtcnjhblboedbpaaDoorLaws
namespace Go.Proofs.YtcnjhblboedbpaaDoor
open Go Go.RowKit

def LowOk (n : Nat) : Prop := n < 281474976710656
theorem low6 {n : Nat} (h : LowOk n) : fitsB (6 : Nat) n = true := by
  unfold LowOk at h
  exact fits_iff.2 ⟨rfl, by omega, by simp; omega⟩
theorem low4 {n q : Nat} (h : n % 4294967296 = q) : fitsB (4 : Nat) q = true := fits_iff.2 ⟨rfl, by omega, by simp; omega⟩
theorem low2 {n q : Nat} (h : LowOk n) (hq : n / 4294967296 = q) : fitsB (2 : Nat) q = true := by
  unfold LowOk at h
  exact fits_iff.2 ⟨rfl, by omega, by simp; omega⟩
theorem low1 {n q : Nat} (h : n % 256 = q) : fitsB (1 : Nat) q = true := fits_iff.2 ⟨rfl, by omega, by simp; omega⟩

set_option maxHeartbeats 2000000 in
set_option maxRecDepth 100000 in
theorem octetLowest_law (n : Int) (w : World) (_ : (Lit.int .i64 n).wf = true) (hL : Laid w) :
    Calls Tryd.prog 7 #[.int .i64 n] w fun e w' => e = .returned (.bool true) ∧ Below w.heap.size w w' := by
  show Calls Tryd.prog 7 #[.int .i64 n] w fun e w' => e = .returned (.bool true) ∧ Ext w w'
  have HL := Lib.hid hL
  clear hL
  by_cases hr : 0 ≤ n ∧ n < 281474976710656
  · obtain ⟨h0, h1⟩ := hr
    obtain ⟨n, rfl⟩ := Int.eq_ofNat_of_zero_le h0
    have HN : LowOk n := by unfold LowOk; omega
    have hd2 : decide ((281474976710656 : Int) ≤ (n : Int)) = false := by simp; omega
    have h2 : n < 281474976710656 := by omega
    clear h0 h1
    go_enter Tryd.func7, Tryd.ntmps7
    go_wp2_with fail
    refine (awake_any _ HL.out).mono ?_
    rintro e w1 ⟨rfl, hx⟩
    have HE := Lib.hid hx
    have HL := Lib.hid (HL.out.ext hx)
    clear hx
    go_wp2_with fail
    refine (put_by 6 n _ HL.out (low6 HN)).mono ?_
    rintro e w2 ⟨A6, c6, rfl, hb, hx⟩
    have HB6 := Lib.hid hb
    have HE := Lib.hid (HE.out.trans hx)
    have HL := Lib.hid (HL.out.ext hx)
    clear hb hx
    go_wp2_with fail
    rw [show ((n : Int) % 4294967296) = ((n % 4294967296 : Nat) : Int) from by omega]
    generalize hq4 : n % 4294967296 = q4 at *
    have HQ4 := Lib.hid hq4
    clear hq4
    refine (put_by 4 q4 _ HL.out (low4 HQ4.out)).mono ?_
    rintro e w3 ⟨A4, c4, rfl, hb, hx⟩
    have HB4 := Lib.hid hb
    have HB6 := Lib.hid (HB6.out.ext hx)
    have HE := Lib.hid (HE.out.trans hx)
    have HL := Lib.hid (HL.out.ext hx)
    clear hb hx
    go_wp2_with fail
    rw [show ((n : Int) / 4294967296) = ((n / 4294967296 : Nat) : Int) from by omega]
    generalize hq2 : n / 4294967296 = q2 at *
    have HQ2 := Lib.hid hq2
    clear hq2
    refine (put_by 2 q2 _ HL.out (low2 HN HQ2.out)).mono ?_
    rintro e w4 ⟨A2, c2, rfl, hb, hx⟩
    have HB2 := Lib.hid hb
    have HB4 := Lib.hid (HB4.out.ext hx)
    have HB6 := Lib.hid (HB6.out.ext hx)
    have HE := Lib.hid (HE.out.trans hx)
    have HL := Lib.hid (HL.out.ext hx)
    clear hb hx
    go_wp2_with fail
    rw [show ((n : Int) % 256) = ((n % 256 : Nat) : Int) from by omega]
    generalize hq1 : n % 256 = q1 at *
    have HQ1 := Lib.hid hq1
    clear hq1
    refine (put_by 1 q1 _ HL.out (low1 HQ1.out)).mono ?_
    rintro e w5 ⟨A1, c1, rfl, hb, hx⟩
    have HB1 := Lib.hid hb
    have HB2 := Lib.hid (HB2.out.ext hx)
    have HB4 := Lib.hid (HB4.out.ext hx)
    have HB6 := Lib.hid (HB6.out.ext hx)
    have HE := Lib.hid (HE.out.trans hx)
    have HL := Lib.hid (HL.out.ext hx)
    clear hb hx
    go_wp2_with fail
    refine (join2_by _ HB4.out HB2.out (by omega)).mono ?_
    rintro e w6 ⟨AJ, cJ, rfl, hb, hx⟩
    have HBJ := Lib.hid hb
    have HB1 := Lib.hid (HB1.out.ext hx)
    have HB6 := Lib.hid (HB6.out.ext hx)
    have HE := Lib.hid (HE.out.trans hx)
    clear hb hx
    go_wp2_with fail
    refine (same_by _ _ _ _ _ _ _ _ _ HBJ.out HB6.out).mono ?_
    rw [show decide (digs 4 q4 ++ digs 2 q2 = digs 6 n) = true by rw [decide_eq_true_eq, ← HQ4.out, ← HQ2.out]; exact (digs_split 4 2 n).symm]
    rintro e w7 ⟨rfl, hx⟩
    have HB1 := Lib.hid (HB1.out.ext hx)
    have HB6 := Lib.hid (HB6.out.ext hx)
    have HE := Lib.hid (HE.out.trans hx)
    clear hx
    have hc6 : 1 ≤ c6 := by have := HB6.out.cap; omega
    go_wp2_with fail
    refine (same_by _ _ _ _ _ _ _ _ _ HB1.out (HB6.out.drop_last 1 (by omega))).mono ?_
    rw [show decide (digs 1 q1 = (digs 6 n).take 1) = true by rw [decide_eq_true_eq, ← HQ1.out]; exact digs_one n]
    rintro e w8 ⟨rfl, hx⟩
    have HE := Lib.hid (HE.out.trans hx)
    clear hx
    go_wp2_with fail
    go_ret
    exact ⟨rfl, HE.out⟩
  · have HF := Lib.hid (show fitsB 6 n = false by
      rw [← Bool.not_eq_true]
      intro h
      obtain ⟨_, h2, h3⟩ := fits_iff.1 h
      simp at h3
      omega)
    have hb : n < 0 ∨ (0 ≤ n ∧ 281474976710656 ≤ n) := by omega
    clear hr
    rcases hb with hb | ⟨hb, hb2⟩
    all_goals
      go_enter Tryd.func7, Tryd.ntmps7
      go_wp2_with fail
      refine (awake_any _ HL.out).mono ?_
      rintro e w1 ⟨rfl, hx⟩
      have HE := Lib.hid hx
      have HL1 := Lib.hid (HL.out.ext hx)
      clear hx
      go_wp2_with fail
      refine (put_no_by 6 n _ HL1.out HF.out).mono ?_
      rintro e w2 ⟨rfl, hx⟩
      have HE := Lib.hid (HE.out.trans hx)
      clear hx
      go_wp2_with fail
      go_ret
      exact ⟨rfl, HE.out⟩
end Go.Proofs.YtcnjhblboedbpaaDoor
