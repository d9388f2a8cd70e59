/-
  The contracts of Get, the program's and the document's: the number that stands at a place of bytes, or which error.
-/
import Derived.Test.YtoapjgkfggggmaaDoorNum
import Derived.Test.YtoapjgkfggggmaaDoorBytes
import Derived.Laws.Bits64
import Derived.Outline
import Derived.Deep.DeepFit
namespace Go.Proofs.YtoapjgkfggggmaaDoor
set_option maxRecDepth 100000
open Go Go.RowKit

/-- What Get answers: the number, the place behind it, and which error (0: none). -/
def getS (l : List Nat) (at_ x : Int) : Nat × Nat × Int :=
  if wOk x = false ∨ at_ < 0 ∨ (l.length : Int) < at_ then (0, 0, 2)
  else if (l.length : Int) - at_ < x then (0, 0, 10)
  else (num ((l.drop at_.toNat).take x.toNat), at_.toNat + x.toNat, 0)

theorem getS_arg {l : List Nat} {at_ x : Int} (h : wOk x = false ∨ at_ < 0 ∨ (l.length : Int) < at_) : getS l at_ x = (0, 0, 2) := by
  unfold getS
  rw [if_pos h]
theorem getS_short {l : List Nat} {at_ x : Int} (h1 : wOk x = true) (h2 : 0 ≤ at_) (h3 : at_ ≤ l.length) (h4 : (l.length : Int) - at_ < x) : getS l at_ x = (0, 0, 10) := by
  unfold getS
  rw [if_neg (by rw [h1]; simp; omega), if_pos h4]
theorem getS_yes {l : List Nat} {at_ x : Int} (h1 : wOk x = true) (h2 : 0 ≤ at_) (h3 : at_ ≤ l.length) (h4 : x ≤ (l.length : Int) - at_) : getS l at_ x = (num ((l.drop at_.toNat).take x.toNat), at_.toNat + x.toNat, 0) := by
  unfold getS
  rw [if_neg (by rw [h1]; simp; omega), if_neg (by omega)]

theorem num_step {l : List Nat} {a k x : Nat} (h : l[a + k]? = some x) : num ((l.drop a).take (k + 1)) = num ((l.drop a).take k) + 256 ^ k * x := by
  have e : (l.drop a)[k]? = some x := by rw [List.getElem?_drop]; exact h
  have hk : k < (l.drop a).length := (List.getElem?_eq_some_iff.1 e).1
  rw [List.take_add_one, e, Option.toList_some, num_snoc, List.length_take, Nat.min_eq_left (by omega)]
theorem num_take_lt {l : List Nat} (hl : ∀ b ∈ l, b < 256) (a k : Nat) (hk : k ≤ 6) : num ((l.drop a).take k) < 281474976710656 := by
  have h1 := num_lt ((l.drop a).take k) (fun b hb => hl b (List.mem_of_mem_drop (List.mem_of_mem_take hb)))
  have h2 : ((l.drop a).take k).length ≤ 6 := by rw [List.length_take]; omega
  exact Nat.lt_of_lt_of_le h1 (Nat.le_trans (Nat.pow_le_pow_right (by omega) h2) (by decide))
theorem pow_le_48 (k : Nat) (hk : k ≤ 6) : 256 ^ k ≤ 281474976710656 := Nat.le_trans (Nat.pow_le_pow_right (by omega) hk) (by decide)

set_option maxHeartbeats 800000 in
theorem rget_any (A : Option Addr) (l : List Nat) (n c B : Nat) (a x : Int) (w : World) (hl : l.length = n) (hr : Rd w B A l) (hm : n ≤ 9000000000000000000) :
    Calls Tryd.prog 36 #[.slice A n c, .int .i64 a, .int .i64 x] w fun e w' => e = .returned (.tuple #[.int .i64 (getS l a x).1, .int .i64 (getS l a x).2.1, .int .i64 (getS l a x).2.2]) ∧ w = w' := by
  by_cases h1 : wOk x = true
  · by_cases h2 : a < 0
    · have HF := Lib.hid (getS_arg (l := l) (at_ := a) (x := x) (.inr (.inl h2)))
      have HX := Lib.hid h1
      clear h1 hl
      go_enter Tryd.func36, Tryd.ntmps36
      go_wp2_with (go_at_call 48; refine (width_any _ _).mono ?_; rintro e w' ⟨rfl, rfl⟩; rw [HX.out])
      go_ret3
      exact ⟨by rw [HF.out]; rfl, rfl⟩
    · by_cases h3 : (n : Int) < a
      · have HF := Lib.hid (getS_arg (l := l) (at_ := a) (x := x) (.inr (.inr (by rw [hl]; exact h3))))
        have HX := Lib.hid h1
        clear h1 hl
        go_enter Tryd.func36, Tryd.ntmps36
        go_wp2_with (go_at_call 48; refine (width_any _ _).mono ?_; rintro e w' ⟨rfl, rfl⟩; rw [HX.out])
        go_ret3
        exact ⟨by rw [HF.out]; rfl, rfl⟩
      · have hx0 : 1 ≤ x ∧ x ≤ 6 := by rcases wOk_cases h1 with rfl | rfl | rfl | rfl <;> omega
        by_cases h4 : (n : Int) - a < x
        · have HF := Lib.hid (getS_short (l := l) (at_ := a) (x := x) h1 (by omega) (by omega) (by omega))
          have HX := Lib.hid h1
          clear h1 hl
          go_enter Tryd.func36, Tryd.ntmps36
          go_wp2_with (go_at_call 48; refine (width_any _ _).mono ?_; rintro e w' ⟨rfl, rfl⟩; rw [HX.out])
          go_ret3
          exact ⟨by rw [HF.out]; rfl, rfl⟩
        · obtain ⟨a, rfl⟩ := Int.eq_ofNat_of_zero_le (show 0 ≤ a by omega)
          obtain ⟨x, rfl⟩ := Int.eq_ofNat_of_zero_le (show 0 ≤ x by omega)
          have HF := Lib.hid (getS_yes (l := l) (at_ := a) (x := x) h1 (by omega) (by omega) (by omega))
          have HX := Lib.hid h1
          have HL := Lib.hid hl
          have hlt := hr.lt
          have HLT := Lib.hid hlt
          clear h1 hl hlt
          go_enter Tryd.func36, Tryd.ntmps36
          go_wp2_with (go_at_call 48; refine (width_any _ _).mono ?_; rintro e w' ⟨rfl, rfl⟩; rw [HX.out])
          go_loop [9, 10, 11] (fun s p i => ∃ k : Nat, k ≤ x ∧ i = .int .i64 k ∧ p = .int .i64 ((256 ^ k : Nat) : Int) ∧ s = .int .i64 ((num ((l.drop a).take k) : Nat) : Int)) (fun _ _ i => x - (intOf i).toNat)
          case atStart => exact ⟨0, Nat.zero_le _, rfl, rfl, rfl⟩
          case round =>
            obtain ⟨k, hk, rfl, rfl, rfl⟩ := hrel
            by_cases hkx : k < x
            · obtain ⟨g, o, b, hA, _, hb, hb2, hc⟩ := hr.at_ (k := a + k) (by rw [HL.out]; omega)
              subst hA
              have hc' : w.cell? ⟨g, o + (a + k), none⟩ = some (.int .u8 ((b : Nat) : Int)) := hc
              have HS := Lib.hid (num_step hb)
              have hs1 := num_take_lt HLT.out a k (by omega)
              have hp := pow_le_48 k (by omega)
              have hmul : (256 ^ k) * b ≤ 281474976710656 * 255 := Nat.mul_le_mul hp (by omega)
              have hpn : 256 ^ (k + 1) = 256 * 256 ^ k := by rw [Nat.pow_succ, Nat.mul_comm]
              have HP := Lib.hid hpn
              clear hb hpn hc
              generalize hsn : num ((l.drop a).take k) = sn at *
              generalize hpk : 256 ^ k = pk at *
              have hmul' : (pk : Int) * (b : Int) ≤ 281474976710656 * 255 := by rw [← Int.natCast_mul]; omega
              have hmul0 : 0 ≤ (pk : Int) * (b : Int) := Int.mul_nonneg (by omega) (by omega)
              clear hsn hpk
              go_wp2_with fail
              go_round
              case rel => exact ⟨k + 1, by omega, by go_num, by rw [HP.out]; go_num, by rw [HS.out]; go_num⟩
              case measure => simp [intOf]; omega
            · have HK : Hid (k = x) := Lib.hid (by omega)
              go_wp2_with fail
              go_ret3
              exact ⟨by rw [HF.out, HK.out]; simp, rfl⟩
  · have HF := Lib.hid (getS_arg (l := l) (at_ := a) (x := x) (.inl (by simpa using h1)))
    have HX := Lib.hid (show wOk x = false by simpa using h1)
    clear h1 hl
    go_enter Tryd.func36, Tryd.ntmps36
    go_wp2_with (go_at_call 48; refine (width_any _ _).mono ?_; rintro e w' ⟨rfl, rfl⟩; rw [HX.out])
    go_ret3
    exact ⟨by rw [HF.out]; rfl, rfl⟩
end Go.Proofs.YtoapjgkfggggmaaDoor
