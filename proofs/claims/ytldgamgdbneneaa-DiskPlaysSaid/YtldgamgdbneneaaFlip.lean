/-
  Plain facts on rows of bytes of which some bits are turned about, without any program.
-/
import Derived.Test.YtldgamgdbneneaaPoly
namespace Go.Proofs.Ytldgamgdbneneaa
set_option maxRecDepth 100000
open Go

def flipB : List Nat → Nat → List Nat
  | [], _ => []
  | x :: l, p => if p < 8 then (x ^^^ 2 ^ p) :: l else x :: flipB l (p - 8)
theorem flipB_length (l : List Nat) (p : Nat) : (flipB l p).length = l.length := by
  induction l generalizing p with
  | nil => rfl
  | cons x l ih =>
    simp only [flipB]
    split
    · rfl
    · simp [ih]
theorem flipB_lt {l : List Nat} (p : Nat) (hl : ∀ x ∈ l, x < 256) : ∀ x ∈ flipB l p, x < 256 := by
  induction l generalizing p with
  | nil => intro x hx; cases hx
  | cons y l ih =>
    intro x hx
    simp only [flipB] at hx
    split at hx
    · rename_i hp
      rcases List.mem_cons.1 hx with rfl | hx
      · have : 2 ^ p < 2 ^ 8 := Nat.pow_lt_pow_right (by omega) hp
        exact Nat.xor_lt_two_pow (n := 8) (hl y (by simp)) this
      · exact hl x (by simp [hx])
    · rcases List.mem_cons.1 hx with rfl | hx
      · exact hl x (by simp)
      · exact ih (p - 8) (fun z hz => hl z (by simp [hz])) x hx
theorem flipB_set {l : List Nat} {p x : Nat} (h : l[p / 8]? = some x) : flipB l p = l.set (p / 8) (x ^^^ 2 ^ (p % 8)) := by
  induction l generalizing p with
  | nil => cases h
  | cons y l ih =>
    simp only [flipB]
    split
    · rename_i hp
      rw [show p / 8 = 0 by omega] at h ⊢
      simp at h
      subst h
      rw [show p % 8 = p by omega]
      rfl
    · rename_i hp
      rw [show p / 8 = (p - 8) / 8 + 1 by omega] at h ⊢
      rw [List.getElem?_cons_succ] at h
      rw [ih h, List.set_cons_succ, show (p - 8) % 8 = p % 8 by omega]
theorem flipB_twice (l : List Nat) (p : Nat) : flipB (flipB l p) p = l := by
  induction l generalizing p with
  | nil => rfl
  | cons x l ih =>
    by_cases hp : p < 8
    · simp only [flipB, if_pos hp]
      rw [Nat.xor_assoc, Nat.xor_self, Nat.xor_zero]
    · simp only [flipB, if_neg hp, ih]
theorem stps_bit {k m : Nat} (h : k ≤ m) : stps m (2 ^ k) = stps (m - k) 1 := by
  have e : m = k + (m - k) := by omega
  conv => lhs; rw [e, stps_add]
  have := stps_pow k 1
  rw [Nat.mul_one] at this
  rw [this]
theorem flipB_feed {l : List Nat} {p : Nat} (r : Nat) (hp : p < 8 * l.length) : feed r (flipB l p) = feed r l ^^^ stps (8 * l.length - p) 1 := by
  induction l generalizing r p with
  | nil => simp at hp
  | cons x l ih =>
    simp only [flipB]
    split
    · rename_i h8
      simp only [feed]
      have e : inb r (x ^^^ 2 ^ p) = inb r x ^^^ stps 8 (2 ^ p) := by
        unfold inb
        rw [← stps_xor, Nat.xor_assoc]
      rw [e, feed_shift, stps_bit (by omega : p ≤ 8), ← stps_add, List.length_cons, show 8 * (l.length + 1) - p = 8 - p + 8 * l.length by omega]
    · rename_i h8
      simp only [feed]
      rw [ih _ (by simp only [List.length_cons] at hp; omega), List.length_cons, show 8 * (l.length + 1) - p = 8 * l.length - (p - 8) by omega]

theorem crcS_diff {l m : List Nat} {d : Nat} (hl : ∀ b ∈ l, b < 256) (hm : ∀ b ∈ m, b < 256) (h : feed 4294967295 m = feed 4294967295 l ^^^ d) (he : crcS l = crcS m) : d = 0 := by
  have h1 : feed 4294967295 l = feed 4294967295 m := inv_inj (feed_lt (by omega) hl) (feed_lt (by omega) hm) he
  rw [h1] at h
  have h2 : feed 4294967295 m ^^^ feed 4294967295 m = feed 4294967295 m ^^^ (feed 4294967295 m ^^^ d) := by rw [← h]
  rw [← Nat.xor_assoc, Nat.xor_self, Nat.zero_xor] at h2
  exact h2.symm

/-- So many bits from a place on, those that a number names. -/
def flipN : List Nat → Nat → Nat → Nat → List Nat
  | l, _, _, 0 => l
  | l, p, w, k + 1 => if w / 2 ^ k % 2 = 1 then flipB (flipN l p w k) (p + k) else flipN l p w k
theorem flipN_length (l : List Nat) (p w k : Nat) : (flipN l p w k).length = l.length := by
  induction k with
  | zero => rfl
  | succ k ih =>
    simp only [flipN]
    split
    · rw [flipB_length, ih]
    · exact ih
theorem flipN_lt {l : List Nat} (p w k : Nat) (hl : ∀ x ∈ l, x < 256) : ∀ x ∈ flipN l p w k, x < 256 := by
  induction k with
  | zero => exact hl
  | succ k ih =>
    simp only [flipN]
    split
    · exact flipB_lt _ ih
    · exact ih
theorem pow_xor_mod (w k : Nat) (h : w / 2 ^ k % 2 = 1) : w % 2 ^ (k + 1) = w % 2 ^ k ^^^ 2 ^ k := by
  have e := split_xor k (w % 2 ^ (k + 1))
  rw [Nat.mod_pow_succ, h, Nat.mul_one] at e ⊢
  have h1 : w % 2 ^ k < 2 ^ k := Nat.mod_lt _ (Nat.two_pow_pos k)
  rw [Nat.add_mod_right, Nat.mod_eq_of_lt h1, Nat.add_div_right _ (Nat.two_pow_pos k), Nat.div_eq_of_lt h1, Nat.mul_one] at e
  rw [Nat.xor_comm]
  exact e
theorem flipN_feed {l : List Nat} {p w k : Nat} (hp : p + k ≤ 8 * l.length) : feed 4294967295 (flipN l p w k) = feed 4294967295 l ^^^ stps (8 * l.length - p) (w % 2 ^ k) := by
  induction k with
  | zero => simp [flipN, Nat.mod_one, stps_zero]
  | succ k ih =>
    have ih := ih (by omega)
    simp only [flipN]
    rcases Nat.mod_two_eq_zero_or_one (w / 2 ^ k) with h | h
    · rw [if_neg (by omega), ih, Nat.mod_pow_succ, h, Nat.mul_zero, Nat.add_zero]
    · rw [if_pos h, flipB_feed _ (by rw [flipN_length]; omega), ih, flipN_length, pow_xor_mod w k h, stps_xor, stps_bit (by omega : k ≤ 8 * l.length - p), Nat.xor_assoc, show 8 * l.length - p - k = 8 * l.length - (p + k) by omega]
theorem near_ne {l : List Nat} {p w : Nat} (hl : ∀ x ∈ l, x < 256) (hp : p + 32 ≤ 8 * l.length) (hw : w < 4294967296) (h0 : w ≠ 0) : crcS l ≠ crcS (flipN l p w 32) := by
  intro he
  have h1 := crcS_diff hl (flipN_lt p w 32 hl) (flipN_feed hp) he
  rw [show 2 ^ 32 = 4294967296 from rfl, Nat.mod_eq_of_lt hw] at h1
  exact h0 (stps_nz hw h1)

/-- Which powers of x are 1: none up to 12,000. -/
def walk1 : Nat → Nat → Bool
  | 0, _ => true
  | k + 1, r => (r != 1) && walk1 k (stp r)
theorem walk1_get {k r : Nat} (h : walk1 k r = true) (j : Nat) (hj : j < k) : stps j r ≠ 1 := by
  induction k generalizing r j with
  | zero => omega
  | succ k ih =>
    simp only [walk1, Bool.and_eq_true, bne_iff_ne, ne_eq] at h
    cases j with
    | zero => exact h.1
    | succ j => exact ih h.2 j (by omega)
end Go.Proofs.Ytldgamgdbneneaa
