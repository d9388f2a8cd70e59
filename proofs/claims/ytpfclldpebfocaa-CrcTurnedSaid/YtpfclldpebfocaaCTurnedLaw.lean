/-
  The walk of the statement on Turned: the program's answer and the document's are the same.
-/
import Derived.Test.YtpfclldpebfocaaTurn
import Derived.Test.YtpfclldpebfocaaMem
import Derived.Test.YtpfclldpebfocaaOpen
namespace Go.Proofs.Ytpfclldpebfocaa
open Go Go.RowKit

theorem popN_nought (k : Nat) : popN k 0 = 0 := by
  induction k with
  | zero => rfl
  | succ k ih => simp only [popN, Nat.zero_div, ih]

set_option maxHeartbeats 1000000 in
theorem rturned_any (A A' : Option Addr) (l l' : List Nat) (n n' c c' B : Nat) (w : World) (hl : l.length = n) (hl' : l'.length = n') (hr : Rd w B A l) (hr' : Rd w B A' l') (hm : n ≤ 1000000000) (hm' : n' ≤ 1000000000) :
    Calls Try.prog 8 #[.slice A n c, .slice A' n' c'] w fun e w' => e = .returned (.int .i64 (turnedI l l')) ∧ ∃ k, w' = w.drewN k := by
  by_cases hne : n = n'
  · subst hne
    have HL := Lib.hid hl
    have HL' := Lib.hid hl'
    clear hl hl'
    go_enter Try.func8, Try.ntmps8
    go_wp2_with fail
    go_loopw [5, 6] (fun vc vi wr => ∃ k t : Nat, k ≤ n ∧ vi = .int .i64 k ∧ vc = .int .i64 t ∧ t ≤ 8 * k ∧ (∃ j, wr = w.drewN j) ∧ Hid (t = cnt (l.take k) (l'.take k))) (fun _ vi _ => n - (intOf vi).toNat)
    case atStart => exact ⟨0, 0, Nat.zero_le _, rfl, rfl, by omega, ⟨0, rfl⟩, Lib.hid rfl⟩
    case round =>
      obtain ⟨k, t, hk, rfl, rfl, ht, ⟨j, rfl⟩, HT⟩ := hrel
      by_cases hlt : k < n
      · obtain ⟨g, o, x, hA, _, hx, hx2, hcx⟩ := hr.at_ (k := k) (by rw [HL.out]; exact hlt)
        obtain ⟨g', o', y, hA', _, hy, hy2, hcy⟩ := hr'.at_ (k := k) (by rw [HL'.out]; exact hlt)
        subst hA; subst hA'
        have HC : Hid (t + pop (x ^^^ y) = cnt (l.take (k + 1)) (l'.take (k + 1))) := Lib.hid (by rw [cnt_take hx hy, ← HT.out])
        have hp := pop_le (x ^^^ y)
        have hxor := u8_xor_nat x y hx2 hy2
        have hxy : x ^^^ y < 256 := Nat.xor_lt_two_pow (n := 8) hx2 hy2
        clear hx hy HT
        generalize x ^^^ y = v at *
        go_wp2_with fail
        go_quiet (fail)
        go_wp2_with fail
        go_loop [5, 7] (fun vc vx => ∃ i s z : Nat, vc = .int .i64 s ∧ vx = .int .u8 z ∧ i ≤ 8 ∧ s ≤ t + 8 ∧ z < 256 ∧ Hid (z < 2 ^ i) ∧ Hid (s + popN i z = t + pop v)) (fun _ vx => (intOf vx).toNat)
        case atStart => exact ⟨8, t, v, rfl, rfl, Nat.le_refl _, by omega, hxy, Lib.hid hxy, Lib.hid rfl⟩
        case round =>
          obtain ⟨i, s, z, rfl, rfl, hi, hs, hz, HZ, HS⟩ := hrel
          by_cases h0 : 0 < z
          · obtain ⟨i, rfl⟩ : ∃ i', i = i' + 1 := by
              cases i with
              | zero => exact absurd HZ.out (by simp; omega)
              | succ i => exact ⟨i, rfl⟩
            have HS2 : Hid (s + z % 2 + popN i (z / 2) = t + pop v) := Lib.hid (by have := HS.out; simp only [popN] at this; omega)
            have HZ2 : Hid (z / 2 < 2 ^ i) := Lib.hid (by have := HZ.out; rw [Nat.pow_succ] at this; omega)
            have hs2 : s + z % 2 ≤ t + 8 := by have := HS2.out; omega
            have hm2 : z % 2 < 2 := Nat.mod_lt _ (by omega)
            go_wp2_with fail
            go_round
            case rel => exact ⟨i, s + z % 2, by omega, z / 2, by omega, by omega, hs2, by omega, HZ2, HS2⟩
            case measure => simp [intOf]; omega
          · obtain rfl : z = 0 := by omega
            have HF : Hid (s = t + pop v) := Lib.hid (by have := HS.out; rw [popN_nought] at this; omega)
            have hs3 : s ≤ 8 * (k + 1) := by have := HF.out; omega
            go_wp2_with fail
            go_roundw
            case rel => exact ⟨k + 1, s, by omega, by go_num, rfl, hs3, ⟨_, rfl⟩, Lib.hid (HF.out.trans HC.out)⟩
            case measure => simp [intOf]; omega
      · have HF : Hid (turnedI l l' = (t : Int)) := by
          have := HT.out
          rw [List.take_of_length_le (by have := HL.out; omega), List.take_of_length_le (by have := HL'.out; omega)] at this
          apply Lib.hid
          unfold turnedI
          rw [if_pos (HL.out.trans HL'.out.symm), this]
        go_wp2_with fail
        go_ret
        exact ⟨by rw [HF.out]; rfl, _, rfl⟩
  · have HF : Hid (turnedI l l' = -1) := Lib.hid (by unfold turnedI; rw [if_neg (by omega)])
    have hb : (((n : Nat) : Int) != ((n' : Nat) : Int)) = true := by rw [bne_iff_ne]; omega
    clear hne hl hl'
    go_enter Try.func8, Try.ntmps8
    go_wp2_with fail
    go_ret
    exact ⟨by rw [HF.out]; rfl, 0, rfl⟩

set_option maxHeartbeats 400000 in
theorem turned_walk (A A' : Option Addr) (n c n' c' : Nat) (l l' : List Nat) (w : World) (hb : By w A n c l) (hb' : By w A' n' c' l') :
    Calls Try.prog 4 #[.slice A n c, .slice A' n' c'] w fun e w' => e = .returned (.bool true) ∧ Ext w w' := by
  have HB := Lib.hid hb
  have HB' := Lib.hid hb'
  clear hb hb'
  by_cases h1 : 2000 < n
  · go_enter Try.func4, Try.ntmps4
    go_wp2_with fail
    go_ret
    exact ⟨rfl, Ext.refl _⟩
  by_cases h2 : 2000 < n'
  · go_enter Try.func4, Try.ntmps4
    go_wp2_with fail
    go_ret
    exact ⟨rfl, Ext.refl _⟩
  have hn : n ≤ 2000 := by omega
  have hn' : n' ≤ 2000 := by omega
  clear h1 h2
  go_enter Try.func4, Try.ntmps4
  go_wp2_with fail
  refine (turned_any _ _ l l' _ _ _ _ _ _ HB.out.len HB'.out.len HB.out.rd HB'.out.rd (by omega) (by omega)).mono ?_
  rintro e w1 ⟨rfl, j, rfl⟩
  go_wp2_with fail
  refine (rturned_any _ _ l l' _ _ _ _ _ _ HB.out.len HB'.out.len (HB.out.rd.drewN _) (HB'.out.rd.drewN _) (by omega) (by omega)).mono ?_
  rintro e w1 ⟨rfl, i, rfl⟩
  go_wp2_with fail
  go_ret
  exact ⟨by simp, (Ext.refl w).drewN _⟩
theorem crcTurned_law (A : Option Addr) (n c : Nat) (l : List Nat) (A' : Option Addr) (n' c' : Nat) (l' : List Nat) (w : World) (hb : Bs w w.heap.size A n c l) (hb' : Bs w w.heap.size A' n' c' l') :
    Calls Try.prog 4 #[.slice A n c, .slice A' n' c'] w fun e w' => e = .returned (.bool true) ∧ Below w.heap.size w w' := turned_walk A A' n c n' c' l l' w hb hb'
end Go.Proofs.Ytpfclldpebfocaa
