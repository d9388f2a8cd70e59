/-
  The contracts of the crc functions that only reckon with registers: timesX, product, afterZeros, Combine.
-/
import Derived.Test.YtpfclldpebfocaaDoorProg
import Derived.Test.YtpfclldpebfocaaDoorPoly
import Derived.WalkKit
import Derived.WalkSpells
import Derived.BigQuiet
import Derived.Lib.Hide
import Derived.Laws.BitsAllLaws
import Derived.Deep.LoopGhost
namespace Go.Proofs.YtpfclldpebfocaaDoor
open Go Go.RowKit

theorem timesx_any (p : Nat) (w : World) (h : p < 4294967296) :
    Calls Tryd.prog 25 #[.int .u32 p] w fun e w' => e = .returned (.int .u32 ((stp p : Nat) : Int)) ∧ w = w' := by
  have ha : bits .and .u32 (p : Int) 1 = ((p % 2 : Nat) : Int) := by
    have := u32_and_nat p 1 h (by omega)
    rw [nat_mask1] at this
    exact this
  rcases Nat.mod_two_eq_zero_or_one p with h2 | h2
  · have hs : stp p = p / 2 := by unfold stp; rw [h2]; simp
    have HS := Lib.hid hs
    rw [h2] at ha
    clear hs h2
    go_enter Tryd.func25, Tryd.ntmps25
    go_wp2_with fail
    go_ret
    exact ⟨by rw [HS.out] <;> rfl, rfl⟩
  · have hs : stp p = (p / 2) ^^^ 2197175160 := by unfold stp; rw [h2]
    have HS := Lib.hid hs
    rw [h2] at ha
    have hx : bits .xor .u32 ((p : Int) / 2) 2197175160 = ((p / 2 ^^^ 2197175160 : Nat) : Int) := u32_xor_nat (p / 2) 2197175160 (by omega) (by omega)
    clear hs h2
    go_enter Tryd.func25, Tryd.ntmps25
    go_wp2_with fail
    go_ret
    exact ⟨by rw [HS.out] <;> rfl, rfl⟩

set_option maxHeartbeats 400000 in
theorem product_any (a b : Nat) (w : World) (ha : a < 4294967296) (hb : b < 4294967296) :
    Calls Tryd.prog 24 #[.int .u32 a, .int .u32 b] w fun e w' => e = .returned (.int .u32 ((mulg 32 a b : Nat) : Int)) ∧ w = w' := by
  go_enter Tryd.func24, Tryd.ntmps24
  go_wp2_with fail
  go_step3
  go_wp2_with fail
  go_step3
  go_wp2_with fail
  go_loopg [0, 1, 5] 32 (fun k va vb vs wr => ∃ x y s : Nat, va = .int .u32 x ∧ vb = .int .u32 y ∧ vs = .int .u32 s ∧ x < 4294967296 ∧ y < 4294967296 ∧ s < 4294967296 ∧ k ≤ 32 ∧ Hid (x % 2 ^ (32 - k) = 0) ∧ Hid (s ^^^ mulg k x y = mulg 32 a b) ∧ w = wr)
  case atStart => exact ⟨a, b, 0, rfl, rfl, rfl, ha, hb, by omega, Nat.le_refl _, Lib.hid (by simp [Nat.mod_one]), Lib.hid (Nat.zero_xor _), rfl⟩
  case round =>
    obtain ⟨x, y, s, rfl, rfl, rfl, hx, hy, hs, hk, HX, HM, rfl⟩ := hrel
    by_cases h0 : x = 0
    · subst h0
      have hfin : s = mulg 32 a b := by rw [← HM.out, mulg_zero, Nat.xor_zero]
      have HF := Lib.hid hfin
      clear hfin
      go_wp2_with fail
      rw [Exit.noGoto_ret]
      go_ret
      exact ⟨by rw [HF.out]; rfl, rfl⟩
    · obtain ⟨k, rfl⟩ : ∃ g, gk = g + 1 := by
        cases gk with
        | zero => exact absurd (by have := HX.out; rw [Nat.mod_eq_of_lt (by simpa using hx)] at this; exact this) h0
        | succ g => exact ⟨g, rfl⟩
      have hx0 : ((x : Int) == 0) = false := by simp [h0]
      have HL := Lib.hid (mulg_low hk HX.out)
      have HS := Lib.hid (mulg_step HM.out)
      have hsy := xor_lt32 hs hy
      have hx2 : 2 * x % 4294967296 < 4294967296 := Nat.mod_lt _ (by omega)
      have hst := stp_lt hy
      clear h0 HM HX
      by_cases ht : 2147483648 ≤ x
      · have ht1 : ((x : Int) / 2147483648 == 1) = true := by simp; omega
        have HS2 : Hid ((s ^^^ y) ^^^ mulg k (2 * x % 4294967296) (stp y) = mulg 32 a b) := by
          have := HS.out
          rw [if_pos ht] at this
          exact Lib.hid this
        have hxor := u32_xor_nat s y hs hy
        clear HS
        go_wp2_with (go_at_call 25; refine (timesx_any _ _ hy).mono ?_; rintro e w' ⟨rfl, rfl⟩)
        go_roundg k
        case rel => exact ⟨2 * x % 4294967296, stp y, s ^^^ y, by go_num, rfl, rfl, hx2, hst, hsy, by omega, HL, HS2, rfl⟩
        case measure => exact Nat.lt_succ_self k
      · have ht1 : ((x : Int) / 2147483648 == 1) = false := by simp; omega
        have HS2 : Hid (s ^^^ mulg k (2 * x % 4294967296) (stp y) = mulg 32 a b) := by
          have := HS.out
          rw [if_neg ht, Nat.xor_zero] at this
          exact Lib.hid this
        clear HS
        go_wp2_with (go_at_call 25; refine (timesx_any _ _ hy).mono ?_; rintro e w' ⟨rfl, rfl⟩)
        go_roundg k
        case rel => exact ⟨2 * x % 4294967296, stp y, s, by go_num, rfl, rfl, hx2, hst, hs, by omega, HL, HS2, rfl⟩
        case measure => exact Nat.lt_succ_self k

theorem product_pw (a n : Nat) (w : World) (ha : a < 4294967296) :
    Calls Tryd.prog 24 #[.int .u32 a, .int .u32 ((pw n : Nat) : Int)] w fun e w' => e = .returned (.int .u32 ((stps n a : Nat) : Int)) ∧ w = w' := by
  have h := product_any a (pw n) w ha (pw_lt n)
  rw [mulg_pw n a ha] at h
  exact h

theorem and1_i64 (m : Nat) (h : m ≤ 1048576) : bits .and .i64 (m : Int) 1 = ((m % 2 : Nat) : Int) := by
  have := bits_mask .i64 30 (by decide) (fun n h0 h1 => by rw [IntKind.wrap_i64]; omega) 1 (by decide) (m : Int) (by omega) (by omega)
  simpa using this

set_option maxHeartbeats 400000 in
theorem zeros_any (a n : Nat) (w : World) (ha : a < 4294967296) (hn : n ≤ 1048576) :
    Calls Tryd.prog 22 #[.int .u32 a, .int .i64 n] w fun e w' => e = .returned (.int .u32 ((stps (8 * n) a : Nat) : Int)) ∧ w = w' := by
  go_enter Tryd.func22, Tryd.ntmps22
  go_wp2_with fail
  go_loop [0, 1, 5] (fun va vn ve => ∃ j m r : Nat, vn = .int .i64 m ∧ va = .int .u32 r ∧ ve = .int .u32 ((pw (8 * 2 ^ j) : Nat) : Int) ∧ m ≤ 1048576 ∧ r < 4294967296 ∧ Hid (m = n / 2 ^ j) ∧ Hid (r = stps (8 * (n % 2 ^ j)) a)) (fun _ vn _ => (intOf vn).toNat)
  case atStart => exact ⟨0, n, a, rfl, rfl, by rw [show 8 * 2 ^ 0 = 8 from rfl, pw_eight]; rfl, hn, ha, Lib.hid (by simp), Lib.hid (by simp [Nat.mod_one, stps])⟩
  case round =>
    obtain ⟨j, m, r, rfl, rfl, rfl, hm, hr, HM, HR⟩ := hrel
    by_cases h0 : 0 < m
    · have HE : Hid (stps (8 * 2 ^ j) (pw (8 * 2 ^ j)) = pw (8 * 2 ^ (j + 1))) := Lib.hid (by rw [stps_pw, Nat.pow_succ]; congr 1; omega)
      have HH := Lib.hid (az_half HM.out)
      have ha1 := and1_i64 m hm
      rcases Nat.mod_two_eq_zero_or_one m with h2 | h2
      · have HR2 := Lib.hid (HR.out.trans (az_even HM.out h2))
        rw [h2] at ha1
        clear h2
        go_wp2_with fail
        refine (product_pw _ _ _ (pw_lt _)).mono ?_
        rw [HE.out]
        rintro e w' ⟨rfl, rfl⟩
        go_wp2_with fail
        go_round
        case rel => exact ⟨j + 1, m / 2, r, by go_num, rfl, rfl, by omega, hr, HH, HR2⟩
        case measure => simp [intOf]; omega
      · have HR2 := Lib.hid (az_odd (a := a) HM.out h2)
        rw [← HR.out] at HR2
        have hr2 : stps (8 * 2 ^ j) r < 4294967296 := stps_lt hr
        rw [h2] at ha1
        clear h2
        go_wp2_with fail
        refine (product_pw _ _ _ hr).mono ?_
        rintro e w' ⟨rfl, rfl⟩
        go_wp2_with fail
        refine (product_pw _ _ _ (pw_lt _)).mono ?_
        rw [HE.out]
        rintro e w' ⟨rfl, rfl⟩
        go_wp2_with fail
        go_round
        case rel => exact ⟨j + 1, m / 2, _, by go_num, rfl, rfl, by omega, hr2, HH, HR2⟩
        case measure => simp [intOf]; omega
    · obtain rfl : m = 0 := by omega
      have HF := Lib.hid (HR.out.trans (az_end HM.out))
      go_wp2_with fail
      go_ret
      exact ⟨by rw [HF.out]; rfl, rfl⟩

theorem combine_no (a b : Nat) (n : Int) (w : World) (h : n < 0 ∨ 1048576 < n) :
    Calls Tryd.prog 17 #[.int .u32 a, .int .u32 b, .int .i64 n] w fun e w' => e = .returned (.tuple #[.int .u32 0, .int .i64 2]) ∧ w = w' := by
  rcases h with h | h
  · go_enter Tryd.func17, Tryd.ntmps17
    go_wp2_with fail
    go_ret2
    exact ⟨rfl, rfl⟩
  · have h2 : ¬ n < 0 := by omega
    go_enter Tryd.func17, Tryd.ntmps17
    go_wp2_with fail
    go_ret2
    exact ⟨rfl, rfl⟩

theorem combine_yes (a b n : Nat) (w : World) (ha : a < 4294967296) (hb : b < 4294967296) (hn : n ≤ 1048576) :
    Calls Tryd.prog 17 #[.int .u32 a, .int .u32 b, .int .i64 n] w fun e w' => e = .returned (.tuple #[.int .u32 ((comb a b n : Nat) : Int), .int .i64 0]) ∧ w = w' := by
  have hx := u32_xor_nat b (stps (8 * n) a) hb (stps_lt ha)
  have HC : Hid (b ^^^ stps (8 * n) a = comb a b n) := Lib.hid rfl
  have hn0 : ¬ (n : Int) < 0 := by omega
  have hn1 : ¬ (1048576 : Int) < (n : Int) := by omega
  go_enter Tryd.func17, Tryd.ntmps17
  go_wp2_with fail
  refine (zeros_any a n _ ha hn).mono ?_
  rintro e w' ⟨rfl, rfl⟩
  go_wp2_with fail
  go_ret2
  exact ⟨by rw [HC.out]; rfl, rfl⟩
end Go.Proofs.YtpfclldpebfocaaDoor
