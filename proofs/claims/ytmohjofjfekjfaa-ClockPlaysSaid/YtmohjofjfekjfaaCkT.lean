/-
  A number of ticks: the contract of the statements' own counter; their awake; the law ClockNil's walk.
-/
import Derived.Test.YtmohjofjfekjfaaCkC
namespace Go.Proofs.Ytmohjofjfekjfaa
open Go Go.RowKit

theorem div_up (a P : Nat) : (a + 1) / P = a / P + if (a + 1) % P = 0 then 1 else 0 := by
  rw [Nat.succ_div]
  simp [Nat.dvd_iff_mod_eq_zero]
/-- What a counter is behind n ticks that clear it. -/
def offC (n s : Nat) : Nat := if n = 0 then s else 0
theorem offC_0 (s : Nat) : offC 0 s = s := rfl
theorem offC_s (k s : Nat) : offC (k + 1) s = 0 := rfl
set_option maxRecDepth 100000 in
set_option maxHeartbeats 1600000 in
/-- Ticks without leading. -/
theorem cticks_wait {w : World} {g P s l : Nat} (z : CQ w g P s l) (n : Nat) (hn : n ≤ 1000) : Calls Try.prog 18 #[.pointer (some ⟨g, 0, none⟩), .bool false, .int .i64 (n : Int)] w fun e w' => e = .returned (.tuple #[.int .i64 (((s + n) / P : Nat) : Int), .int .i64 0]) ∧ CQ w' g P ((s + n) % P) (offC n l) ∧ Mod (fun k => k = g) w w' := by
  have hs := z.sl
  have HZ := Lib.hid z
  have hP : 0 < P := by have := z.pat; omega
  have HD := Lib.hid (fun a => div_up a P)
  have HB := Lib.hid (fun k (hk : k ≤ 1000) => Nat.le_trans (Nat.div_le_self (s + k) P) (show s + k ≤ 2000 by have := z.pat; omega))
  have HS0 : Hid (s / P = 0 ∧ s % P = s) := Lib.hid ⟨Nat.div_eq_of_lt hs, Nat.mod_eq_of_lt hs⟩
  clear z hs hP
  go_enter Try.func18, Try.ntmps18
  go_wp2_with fail
  go_loopw [8, 9, 10] (fun a b i wr => ∃ k : Nat, k ≤ n ∧ i = .int .i64 (k : Int) ∧ b = .int .i64 0 ∧ a = .int .i64 (((s + k) / P : Nat) : Int) ∧ Hid (CQ wr g P ((s + k) % P) (offC k l) ∧ Mod (fun k => k = g) w wr)) (fun _ _ i _ => n - (intOf i).toNat)
  case atStart => exact ⟨0, Nat.zero_le _, rfl, rfl, by rw [Nat.add_zero, HS0.out.1]; rfl, Lib.hid ⟨by rw [Nat.add_zero, HS0.out.2]; exact HZ.out, Mod.refl _ _⟩⟩
  case round =>
    obtain ⟨k, hk, rfl, rfl, rfl, HR⟩ := hrel
    by_cases hlt : k < n
    · have hki : (k : Int) < (n : Int) := by omega
      have hq := HB.out k (by omega)
      have hc := ctick_wait HR.out.1
      rw [Nat.mod_add_mod] at hc
      have HE := Lib.hid (HD.out (s + k))
      cases hb : decide ((s + k + 1) % P = 0) with
      | true =>
        rw [hb] at hc
        have HQ : Hid ((s + (k + 1)) / P = (s + k) / P + 1) := Lib.hid (by rw [← Nat.add_assoc, HE.out, if_pos (of_decide_eq_true hb)])
        have HC := Lib.hid hc
        clear hc hb
        generalize (s + k) / P = q at *
        go_wp2_with fail
        refine HC.out.mono ?_
        rintro e w3 ⟨rfl, z3, m3⟩
        have H3 := Lib.hid (And.intro z3 (HR.out.2.trans m3 fun _ h => .inl h))
        clear z3 m3
        go_wp2_with fail
        go_roundw
        case rel => exact ⟨k + 1, by omega, by go_num, rfl, by rw [HQ.out]; go_num, Lib.hid ⟨by rw [← Nat.add_assoc]; exact H3.out.1, H3.out.2⟩⟩
        case measure => simp [intOf]; omega
      | false =>
        rw [hb] at hc
        have HQ : Hid ((s + (k + 1)) / P = (s + k) / P) := Lib.hid (by rw [← Nat.add_assoc, HE.out, if_neg (of_decide_eq_false hb)]; rfl)
        have HC := Lib.hid hc
        clear hc hb
        generalize (s + k) / P = q at *
        go_wp2_with fail
        refine HC.out.mono ?_
        rintro e w3 ⟨rfl, z3, m3⟩
        have H3 := Lib.hid (And.intro z3 (HR.out.2.trans m3 fun _ h => .inl h))
        clear z3 m3
        go_wp2_with fail
        go_roundw
        case rel => exact ⟨k + 1, by omega, by go_num, rfl, by rw [HQ.out], Lib.hid ⟨by rw [← Nat.add_assoc]; exact H3.out.1, H3.out.2⟩⟩
        case measure => simp [intOf]; omega
    · obtain rfl : k = n := by omega
      go_wp2_with fail
      refine bodyPost_ret (v := .tuple #[.int .i64 (((s + k) / P : Nat) : Int), .int .i64 0]) (by simp [results, Try.results18, go_sem]) rfl ⟨rfl, HR.out⟩
set_option maxRecDepth 100000 in
set_option maxHeartbeats 1600000 in
/-- Ticks while leading. -/
theorem cticks_lead {w : World} {g P s l : Nat} (z : CQ w g P s l) (n : Nat) (hn : n ≤ 1000) : Calls Try.prog 18 #[.pointer (some ⟨g, 0, none⟩), .bool true, .int .i64 (n : Int)] w fun e w' => e = .returned (.tuple #[.int .i64 0, .int .i64 (((l + n) / 3 : Nat) : Int)]) ∧ CQ w' g P (offC n s) ((l + n) % 3) ∧ Mod (fun k => k = g) w w' := by
  have hl := z.ld
  have HZ := Lib.hid z
  clear z
  go_enter Try.func18, Try.ntmps18
  go_wp2_with fail
  go_loopw [8, 9, 10] (fun a b i wr => ∃ k q : Nat, k ≤ n ∧ i = .int .i64 (k : Int) ∧ a = .int .i64 0 ∧ b = .int .i64 (q : Int) ∧ Hid (q = (l + k) / 3 ∧ CQ wr g P (offC k s) ((l + k) % 3) ∧ Mod (fun k => k = g) w wr)) (fun _ _ i _ => n - (intOf i).toNat)
  case atStart => exact ⟨0, 0, Nat.zero_le _, rfl, rfl, rfl, Lib.hid ⟨by omega, by rw [Nat.add_zero, Nat.mod_eq_of_lt hl]; exact HZ.out, Mod.refl _ _⟩⟩
  case round =>
    obtain ⟨k, q, hk, rfl, rfl, rfl, HR⟩ := hrel
    by_cases hlt : k < n
    · have hki : (k : Int) < (n : Int) := by omega
      have hq : q ≤ 1000 := by have := HR.out.1; omega
      have hc := ctick_lead HR.out.2.1
      rw [Nat.mod_add_mod] at hc
      cases hb : decide ((l + k + 1) % 3 = 0) with
      | true =>
        rw [hb] at hc
        have HQ : Hid (q + 1 = (l + (k + 1)) / 3) := Lib.hid (by have := HR.out.1; have := of_decide_eq_true hb; omega)
        have HC := Lib.hid hc
        clear hc hb
        go_wp2_with fail
        refine HC.out.mono ?_
        rintro e w3 ⟨rfl, z3, m3⟩
        have H3 := Lib.hid (And.intro z3 (HR.out.2.2.trans m3 fun _ h => .inl h))
        clear z3 m3
        go_wp2_with fail
        go_roundw
        case rel => exact ⟨k + 1, q + 1, by omega, by go_num, rfl, by go_num, Lib.hid ⟨HQ.out, by rw [← Nat.add_assoc]; exact H3.out.1, H3.out.2⟩⟩
        case measure => simp [intOf]; omega
      | false =>
        rw [hb] at hc
        have HQ : Hid (q = (l + (k + 1)) / 3) := Lib.hid (by have := HR.out.1; have := of_decide_eq_false hb; omega)
        have HC := Lib.hid hc
        clear hc hb
        go_wp2_with fail
        refine HC.out.mono ?_
        rintro e w3 ⟨rfl, z3, m3⟩
        have H3 := Lib.hid (And.intro z3 (HR.out.2.2.trans m3 fun _ h => .inl h))
        clear z3 m3
        go_wp2_with fail
        go_roundw
        case rel => exact ⟨k + 1, q, by omega, by go_num, rfl, rfl, Lib.hid ⟨HQ.out, by rw [← Nat.add_assoc]; exact H3.out.1, H3.out.2⟩⟩
        case measure => simp [intOf]; omega
    · obtain rfl : k = n := by omega
      have HQ := Lib.hid HR.out.1
      go_wp2_with fail
      refine bodyPost_ret (v := .tuple #[.int .i64 0, .int .i64 (q : Int)]) (by simp [results, Try.results18, go_sem]) rfl ⟨by rw [HQ.out], HR.out.2⟩
end Go.Proofs.Ytmohjofjfekjfaa
