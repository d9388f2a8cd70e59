/-
  The contract of the program's own Get: it answers as the document's Get does.
-/
import Derived.Test.YtnlappoocffcpaaDoorGet
import Derived.Laws.BitsAllLaws
namespace Go.Proofs.YtnlappoocffcpaaDoor
set_option maxRecDepth 100000
open Go Go.RowKit

theorem i64_or_nat (a b : Nat) (ha : a < 9223372036854775808) (hb : b < 9223372036854775808) : bits .or .i64 (a : Int) (b : Int) = ((a ||| b : Nat) : Int) := by
  have h : a ||| b < 2 ^ 63 := Nat.or_lt_two_pow (by omega) (by omega)
  show IntKind.i64.wrap ((BitVec.ofInt 64 (a : Int) ||| BitVec.ofInt 64 (b : Int)).toNat : Int) = _
  rw [BitVec.toNat_or, ofInt_u64 a (by omega), ofInt_u64 b (by omega), IntKind.wrap_i64]
  omega
theorem or_step (s b k : Nat) (hk : k ≤ 5) (hs : s < 256 ^ k) (hb : b < 256) : bits .or .i64 (s : Int) (wrap64 ((b : Int) * 2 ^ (8 * k))) = ((s + 256 ^ k * b : Nat) : Int) := by
  have e : (2 : Nat) ^ (8 * k) = 256 ^ k := by rw [Nat.pow_mul]
  have e' : ((b : Int) * 2 ^ (8 * k)) = ((b * 256 ^ k : Nat) : Int) := by rw [← e]; simp
  have hp : 256 ^ k ≤ 1099511627776 := Nat.le_trans (Nat.pow_le_pow_right (by omega) hk) (by decide)
  have hm : b * 256 ^ k ≤ 255 * 1099511627776 := Nat.mul_le_mul (by omega) hp
  rw [e', IntWalk.wrap64_in _ ⟨by omega, by omega⟩, i64_or_nat _ _ (by omega) (by omega), Nat.or_comm, nat_join (8 * k) _ _ (by rw [e]; exact Nat.mul_mod_left _ _) (by rw [e]; exact hs), Nat.mul_comm]
  congr 1
  omega

theorem num_take_lt' {l : List Nat} (hl : ∀ b ∈ l, b < 256) (a k : Nat) : num ((l.drop a).take k) < 256 ^ k := by
  have h1 := num_lt ((l.drop a).take k) (fun b hb => hl b (List.mem_of_mem_drop (List.mem_of_mem_take hb)))
  exact Nat.lt_of_lt_of_le h1 (Nat.pow_le_pow_right (by omega) (List.length_take_le _ _))

set_option maxHeartbeats 800000 in
theorem oget_any (A : Option Addr) (l : List Nat) (n c B : Nat) (a x : Int) (w : World) (hL : Laid w) (hl : l.length = n) (hr : Rd w B A l) (hm : n ≤ 9000000000000000000) :
    Calls Tryd.prog 15 #[.slice A n c, .int .i64 a, .int .i64 x] w fun e w' => e = .returned (.tuple #[.int .i64 (getS l a x).1, .int .i64 (getS l a x).2.1, .int .i64 (getS l a x).2.2]) ∧ w = w' := by
  have H := Lib.hid hL
  clear hL
  by_cases h1 : wOk x = true
  · have hx0 : 1 ≤ x ∧ x ≤ 6 := by rcases wOk_cases h1 with rfl | rfl | rfl | rfl <;> omega
    have hb0 : (bnd x == 0) = false := by rcases wOk_cases h1 with rfl | rfl | rfl | rfl <;> rfl
    by_cases h2 : a < 0
    · have HF := Lib.hid (getS_arg (l := l) (at_ := a) (x := x) (.inr (.inl h2)))
      clear h1 hl
      go_enter Tryd.func15, Tryd.ntmps15
      go_wp2_with (go_at_call 24; refine (bound_any _ _ H.out).mono ?_; rintro e w' ⟨rfl, rfl⟩)
      go_ret3
      exact ⟨by rw [HF.out]; rfl, rfl⟩
    · by_cases h3 : (n : Int) < a
      · have HF := Lib.hid (getS_arg (l := l) (at_ := a) (x := x) (.inr (.inr (by rw [hl]; exact h3))))
        clear h1 hl
        go_enter Tryd.func15, Tryd.ntmps15
        go_wp2_with (go_at_call 24; refine (bound_any _ _ H.out).mono ?_; rintro e w' ⟨rfl, rfl⟩)
        go_ret3
        exact ⟨by rw [HF.out]; rfl, rfl⟩
      · by_cases h4 : (n : Int) - a < x
        · have HF := Lib.hid (getS_short (l := l) (at_ := a) (x := x) h1 (by omega) (by omega) (by omega))
          clear h1 hl
          go_enter Tryd.func15, Tryd.ntmps15
          go_wp2_with (go_at_call 24; refine (bound_any _ _ H.out).mono ?_; rintro e w' ⟨rfl, rfl⟩)
          go_ret3
          exact ⟨by rw [HF.out]; rfl, rfl⟩
        · obtain ⟨a, rfl⟩ := Int.eq_ofNat_of_zero_le (show 0 ≤ a by omega)
          obtain ⟨x, rfl⟩ := Int.eq_ofNat_of_zero_le (show 0 ≤ x by omega)
          have HF := Lib.hid (getS_yes (l := l) (at_ := a) (x := x) h1 (by omega) (by omega) (by omega))
          have HL := Lib.hid hl
          have hlt := hr.lt
          have HLT := Lib.hid hlt
          clear h1 hl hlt
          go_enter Tryd.func15, Tryd.ntmps15
          go_wp2_with (go_at_call 24; refine (bound_any _ _ H.out).mono ?_; rintro e w' ⟨rfl, rfl⟩)
          go_loop [6, 30] (fun s i => ∃ k : Nat, k ≤ x ∧ i = .int .i64 k ∧ s = .int .i64 ((num ((l.drop a).take k) : Nat) : Int)) (fun _ i => x - (intOf i).toNat)
          case atStart => exact ⟨0, Nat.zero_le _, rfl, rfl⟩
          case round =>
            obtain ⟨k, hk, rfl, rfl⟩ := hrel
            by_cases hkx : k < x
            · obtain ⟨g, o, b, hA, _, hb, hb2, hc⟩ := hr.at_ (k := a + k) (by rw [HL.out]; omega)
              subst hA
              have hc' : w.cell? ⟨g, o + (a + k), none⟩ = some (.int .u8 ((b : Nat) : Int)) := hc
              have HS := Lib.hid (num_step hb)
              have hs1 := num_take_lt HLT.out a k (by omega)
              clear hb hc
              go_wp2_with fail
              go_round
              case rel => exact ⟨k + 1, by omega, by go_num, by rw [HS.out]; exact congrArg (Value.int .i64) (or_step _ b k (by omega) (num_take_lt' HLT.out a k) hb2)⟩
              case measure => simp [intOf]; omega
            · have HK : Hid (k = x) := Lib.hid (by omega)
              go_wp2_with fail
              go_ret3
              exact ⟨by rw [HF.out, HK.out]; simp, rfl⟩
  · have HF := Lib.hid (getS_arg (l := l) (at_ := a) (x := x) (.inl (by simpa using h1)))
    have hb0 : (bnd x == 0) = true := by rw [bnd_of_not (by simpa using h1)]; rfl
    clear h1 hl
    go_enter Tryd.func15, Tryd.ntmps15
    go_wp2_with (go_at_call 24; refine (bound_any _ _ H.out).mono ?_; rintro e w' ⟨rfl, rfl⟩)
    go_ret3
    exact ⟨by rw [HF.out]; rfl, rfl⟩
end Go.Proofs.YtnlappoocffcpaaDoor
