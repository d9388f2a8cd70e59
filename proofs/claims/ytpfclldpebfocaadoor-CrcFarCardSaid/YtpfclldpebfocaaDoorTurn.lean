/-
  The contract of the program's count of the bits in which two rows of bytes differ.
-/
import Derived.Test.YtpfclldpebfocaaDoorProg
import Derived.Test.YtpfclldpebfocaaDoorPop
import Derived.Test.YtpfclldpebfocaaDoorBytes
import Derived.WalkKit
import Derived.WalkSpells
import Derived.BigQuiet
import Derived.Deep.QuietTactic
import Derived.Lib.Hide
import Derived.IntWalk
import Derived.Laws.BitsAllLaws
namespace Go.Proofs.YtpfclldpebfocaaDoor
open Go Go.RowKit

theorem ret_i64 {a b : Int} (h : a = b) : Ending.returned (.int .i64 a) = .returned (.int .i64 b) := by rw [h]
/-- Any row of bytes that holds the numbers of bits. -/
theorem tab_ok (T : ByteArray) (hT : (List.range 256).all (fun i => T.data.toList[i]? == some (UInt8.ofNat (pop i))) = true) (x : Nat) (h : x < T.size) (hx : x < 256) : wrap64 (((T[x]'h).toNat : Nat) : Int) = ((pop x : Nat) : Int) := by
  have h1 := List.all_eq_true.1 hT x (List.mem_range.2 hx)
  have h2 : T.data.toList[x]? = some (T[x]'h) := by
    rw [Array.getElem?_toList]
    exact Array.getElem?_eq_getElem h
  rw [h2] at h1
  have h3 : T[x]'h = UInt8.ofNat (pop x) := by simpa using h1
  have hp := pop_le x
  rw [h3]
  have h4 : (UInt8.ofNat (pop x)).toNat = pop x := by simp; omega
  rw [h4]
  exact IntWalk.wrap64_in _ (by omega)
set_option maxRecDepth 100000 in
theorem ones_any (x : Nat) (w : World) (hx : x < 256) :
    Calls Tryd.prog 23 #[.int .u8 x] w fun e w' => e = .returned (.int .i64 ((pop x : Nat) : Int)) ∧ w' = w := by
  go_enter Tryd.func23, Tryd.ntmps23
  go_wp2_with fail
  go_ret
  exact ⟨ret_i64 (tab_ok _ (by decide +kernel) x _ hx), rfl⟩

set_option maxHeartbeats 400000 in
theorem turned_any (A A' : Option Addr) (l l' : List Nat) (n n' c c' B : Nat) (w : World) (hl : l.length = n) (hl' : l'.length = n') (hr : Rd w B A l) (hr' : Rd w B A' l') (hm : n ≤ 1000000000) (hm' : n' ≤ 1000000000) :
    Calls Tryd.prog 18 #[.slice A n c, .slice A' n' c'] w fun e w' => e = .returned (.int .i64 (turnedI l l')) ∧ ∃ k, w' = w.drewN k := by
  by_cases hne : n = n'
  · subst hne
    have HL := Lib.hid hl
    have HL' := Lib.hid hl'
    clear hl hl'
    go_enter Tryd.func18, Tryd.ntmps18
    go_wp2_with fail
    go_loopw [5, 14] (fun vc vi wr => ∃ k t : Nat, k ≤ n ∧ vi = .int .i64 k ∧ vc = .int .i64 t ∧ t ≤ 8 * k ∧ (∃ j, wr = w.drewN j) ∧ Hid (t = cnt (l.take k) (l'.take k))) (fun _ vi _ => n - (intOf vi).toNat)
    case atStart => exact ⟨0, 0, Nat.zero_le _, rfl, rfl, by omega, ⟨0, rfl⟩, Lib.hid rfl⟩
    case round =>
      obtain ⟨k, t, hk, rfl, rfl, ht, ⟨j, rfl⟩, HT⟩ := hrel
      by_cases hlt : k < n
      · obtain ⟨g, o, x, hA, _, hx, hx2, hcx⟩ := hr.at_ (k := k) (by rw [HL.out]; exact hlt)
        obtain ⟨g', o', y, hA', _, hy, hy2, hcy⟩ := hr'.at_ (k := k) (by rw [HL'.out]; exact hlt)
        subst hA; subst hA'
        have HC : Hid (t + pop (x ^^^ y) = cnt (l.take (k + 1)) (l'.take (k + 1))) := Lib.hid (by rw [cnt_take hx hy, ← HT.out])
        have hp := pop_le (x ^^^ y)
        have hxor := u8_xor_nat x y hx2 hy2
        have hxy : x ^^^ y < 256 := Nat.xor_lt_two_pow (n := 8) hx2 hy2
        have hw1 : IntKind.i64.wrap ((t : Int) + (pop (x ^^^ y) : Nat)) = (t : Int) + (pop (x ^^^ y) : Nat) := IntWalk.i64_in _ (by omega)
        clear hx hy HT
        go_wp2_with fail
        go_quiet ((go_at_call 23; exact (ones_any _ _ hxy).mono (fun _ _ ⟨h, e⟩ => ⟨h, _, e⟩)))
        go_wp2_with fail
        go_roundw
        case rel => exact ⟨k + 1, t + pop (x ^^^ y), by omega, by go_num, by go_num, by omega, ⟨_, rfl⟩, HC⟩
        case measure => simp [intOf]; omega
      · have HF : Hid (turnedI l l' = (t : Int)) := by
          have := HT.out
          rw [List.take_of_length_le (by have := HL.out; omega), List.take_of_length_le (by have := HL'.out; omega)] at this
          apply Lib.hid
          unfold turnedI
          rw [if_pos (HL.out.trans HL'.out.symm), this]
        go_wp2_with fail
        go_ret
        exact ⟨by rw [HF.out]; rfl, _, rfl⟩
  · have HF : Hid (turnedI l l' = -1) := Lib.hid (by unfold turnedI; rw [if_neg (by omega)])
    have hb : (((n : Nat) : Int) != ((n' : Nat) : Int)) = true := by rw [bne_iff_ne]; omega
    clear hne hl hl'
    go_enter Tryd.func18, Tryd.ntmps18
    go_wp2_with fail
    go_ret
    exact ⟨by rw [HF.out]; rfl, 0, rfl⟩
end Go.Proofs.YtpfclldpebfocaaDoor
