/-
  The contracts of the document's own checksum: bytes.
-/
import Derived.Test.YtgcjilifmcianaaDoorProg
import Derived.Test.YtgcjilifmcianaaDoorRefIn
import Derived.Test.YtgcjilifmcianaaDoorBytes
import Derived.WalkKit
import Derived.WalkSpells
import Derived.BigQuiet
import Derived.Lib.Hide
import Derived.Laws.BitsAllLaws
namespace Go.Proofs.YtgcjilifmcianaaDoor
open Go Go.RowKit

set_option maxHeartbeats 400000 in
theorem rext_any (A : Option Addr) (l : List Nat) (n c B s : Nat) (w : World) (hl : l.length = n) (hr : Rd w B A l) (hm : n ≤ maxLen) (hs : s < 4294967296) :
    Calls Tryd.prog 43 #[.int .u32 s, .slice A n c] w fun e w' => e = .returned (.int .u32 ((crcE s l : Nat) : Int)) ∧ w = w' := by
  unfold maxLen at hm
  have HL := Lib.hid hl
  clear hl
  go_enter Tryd.func43, Tryd.ntmps43
  go_wp2_with fail
  go_loop [5, 6] (fun vr vi => ∃ k t : Nat, k ≤ n ∧ vi = .int .i64 k ∧ vr = .int .u32 t ∧ t < 4294967296 ∧ Hid (t = feed (inv s) (l.take k))) (fun _ vi => n - (intOf vi).toNat)
  case atStart => exact ⟨0, inv s, Nat.zero_le _, rfl, by unfold inv; go_num, inv_lt s, Lib.hid rfl⟩
  case round =>
    obtain ⟨k, t, hk, rfl, rfl, ht, HT⟩ := hrel
    by_cases hlt : k < n
    · obtain ⟨g, o, x, hA, _, hx, hx2, hcx⟩ := hr.at_ (k := k) (by rw [HL.out]; exact hlt)
      subst hA
      have HX : Hid (inb t x = feed (inv s) (l.take (k + 1))) := Lib.hid (by rw [feed_take hx, ← HT.out])
      have hin := inb_lt ht hx2
      clear hx HT
      go_wp2_with fail
      go_loop [5, 7, 8] (fun vr vx vj => ∃ j u y : Nat, j ≤ 8 ∧ vj = .int .i64 j ∧ vr = .int .u32 u ∧ vx = .int .u32 y ∧ u < 4294967296 ∧ y < 256 ∧ Hid (y = x / 2 ^ j) ∧ Hid (stps (8 - j) (u ^^^ y) = inb t x)) (fun _ _ vj => 8 - (intOf vj).toNat)
      case atStart => exact ⟨0, t, x, by omega, rfl, rfl, by go_num, ht, hx2, Lib.hid (by simp), Lib.hid rfl⟩
      case round =>
        obtain ⟨j, u, y, hj, rfl, rfl, rfl, hu, hy, HY, HU⟩ := hrel
        by_cases hj8 : j < 8
        · have HU2 := Lib.hid (inb_step hj8 HU.out)
          have HY2 : Hid (y / 2 = x / 2 ^ (j + 1)) := Lib.hid (by rw [HY.out, Nat.div_div_eq_div_mul, Nat.pow_succ])
          have hy2 : y % 2 < 2 := Nat.mod_lt _ (by omega)
          have hu2 : stp (u ^^^ (y % 2)) < 4294967296 := stp_lt (xor_lt32 hu (by omega))
          go_wp2_with fail
          refine (in_any u (y % 2) _ hu hy2).mono ?_
          rintro e w' ⟨rfl, rfl⟩
          go_wp2_with fail
          go_round
          case rel => exact ⟨j + 1, _, y / 2, by omega, by go_num, rfl, by go_num, hu2, by omega, HY2, HU2⟩
          case measure => simp [intOf]; omega
        · have HF : Hid (u = inb t x) := by
            obtain rfl : j = 8 := by omega
            have h1 := HU.out
            have h2 := HY.out
            obtain rfl : y = 0 := by omega
            rw [Nat.sub_self, Nat.xor_zero] at h1
            exact Lib.hid h1
          go_wp2_with fail
          go_round
          case rel => exact ⟨k + 1, u, by omega, by go_num, rfl, hu, Lib.hid (HF.out.trans HX.out)⟩
          case measure => simp [intOf]; omega
    · have HF : Hid (inv t = crcE s l) := by
        have := HT.out
        rw [List.take_of_length_le (by have := HL.out; omega)] at this
        exact Lib.hid (by rw [this]; rfl)
      go_wp2_with fail
      go_ret
      exact ⟨by rw [← HF.out]; unfold inv; go_num, rfl⟩
theorem rsum_any (A : Option Addr) (l : List Nat) (n c B : Nat) (w : World) (hl : l.length = n) (hr : Rd w B A l) (hm : n ≤ maxLen) :
    Calls Tryd.prog 29 #[.slice A n c] w fun e w' => e = .returned (.int .u32 ((crcS l : Nat) : Int)) ∧ w = w' := by
  have HM := Lib.hid hm
  go_enter Tryd.func29, Tryd.ntmps29
  go_wp2_with fail
  refine (rext_any A l n c B 0 _ hl hr HM.out (by omega)).mono ?_
  rintro e w' ⟨rfl, rfl⟩
  go_wp2_with fail
  go_ret
  exact ⟨rfl, rfl⟩
end Go.Proofs.YtgcjilifmcianaaDoor
