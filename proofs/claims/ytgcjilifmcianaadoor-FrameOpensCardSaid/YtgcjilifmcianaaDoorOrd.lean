/-
  Which powers of x are 1: none up to 12,000; so two bits of a row are told apart.
-/
import Derived.Test.YtgcjilifmcianaaDoorFlip
namespace Go.Proofs.YtgcjilifmcianaaDoor
open Go

def walkB : Nat → Nat → Nat → Bool
  | 0, _, _ => true
  | m + 1, b, r => walk1 b r && (match stps b r with
    | 0 => false
    | q + 1 => walkB m b (q + 1))
theorem walkB_get {m b r : Nat} (h : walkB m b r = true) (j : Nat) (hj : j < m * b) : stps j r ≠ 1 := by
  induction m generalizing r j with
  | zero => omega
  | succ m ih =>
    simp only [walkB, Bool.and_eq_true] at h
    by_cases hb : j < b
    · exact walk1_get h.1 j hb
    · have h2 := h.2
      have e : stps j r = stps (j - b) (stps b r) := by rw [← stps_add, show b + (j - b) = j by omega]
      rw [e]
      split at h2
      · cases h2
      · rename_i q hq
        rw [hq]
        exact ih h2 (j - b) (by rw [Nat.succ_mul] at hj; omega)
set_option maxRecDepth 100000 in
theorem walk_all : walkB 120 100 (stp 1) = true := by decide +kernel
theorem ord_ne {d : Nat} (h0 : 0 < d) (h : d ≤ 12000) : stps d 1 ≠ 1 := by
  have := walkB_get walk_all (d - 1) (by omega)
  rw [show d = 1 + (d - 1) by omega, stps_add]
  exact this
theorem bit_inj {m p q : Nat} (hm : m ≤ 12000) (hp : p < m) (hq : q < m) (h : stps (m - p) 1 = stps (m - q) 1) : p = q := by
  rcases Nat.lt_trichotomy p q with hlt | heq | hlt
  · exfalso
    rw [show m - p = (q - p) + (m - q) by omega, stps_add] at h
    exact ord_ne (show 0 < q - p by omega) (by omega) (stps_inj (stps_lt (by omega)) (by omega) h)
  · exact heq
  · exfalso
    rw [show m - q = (p - q) + (m - p) by omega, stps_add] at h
    exact ord_ne (show 0 < p - q by omega) (by omega) (stps_inj (stps_lt (by omega)) (by omega) h.symm)

def flips : List Nat → List Nat → List Nat
  | l, [] => l
  | l, p :: ps => flips (flipB l p) ps
theorem flips_snoc (l : List Nat) (ps : List Nat) (p : Nat) : flips l (ps ++ [p]) = flipB (flips l ps) p := by
  induction ps generalizing l with
  | nil => rfl
  | cons q ps ih => exact ih _
theorem flips_length (l ps : List Nat) : (flips l ps).length = l.length := by
  induction ps generalizing l with
  | nil => rfl
  | cons p ps ih => rw [flips, ih, flipB_length]
theorem flips_lt {l : List Nat} (ps : List Nat) (hl : ∀ x ∈ l, x < 256) : ∀ x ∈ flips l ps, x < 256 := by
  induction ps generalizing l with
  | nil => exact hl
  | cons p ps ih => exact ih (flipB_lt p hl)
theorem few_ne {l ps : List Nat} (hl : ∀ x ∈ l, x < 256) (hn : 8 * l.length ≤ 12000) (hps : ps.length ≤ 3) (hp : ∀ p ∈ ps, p < 8 * l.length) (he : crcS l = crcS (flips l ps)) : l = flips l ps := by
  have h1 : (1 : Nat) < 4294967296 := by omega
  match ps, hps, hp, he with
  | [], _, _, _ => rfl
  | [p], _, hp, he =>
    exfalso
    have := crcS_diff hl (flips_lt [p] hl) (flipB_feed _ (hp p (by simp))) he
    have := stps_nz h1 this
    omega
  | [p, q], _, hp, he =>
    have e : feed 4294967295 (flips l [p, q]) = feed 4294967295 l ^^^ (stps (8 * l.length - p) 1 ^^^ stps (8 * l.length - q) 1) := by
      simp only [flips]
      rw [flipB_feed _ (by rw [flipB_length]; exact hp q (by simp)), flipB_feed _ (hp p (by simp)), flipB_length, Nat.xor_assoc]
    have h2 := xor_eq_zero' (crcS_diff hl (flips_lt [p, q] hl) e he)
    have h3 := bit_inj hn (hp p (by simp)) (hp q (by simp)) h2
    subst h3
    simp only [flips]
    rw [flipB_twice]
  | [p, q, r], _, hp, he =>
    exfalso
    have e : feed 4294967295 (flips l [p, q, r]) = feed 4294967295 l ^^^ (stps (8 * l.length - p) 1 ^^^ stps (8 * l.length - q) 1 ^^^ stps (8 * l.length - r) 1) := by
      simp only [flips]
      rw [flipB_feed _ (by rw [flipB_length, flipB_length]; exact hp r (by simp)), flipB_feed _ (by rw [flipB_length]; exact hp q (by simp)), flipB_feed _ (hp p (by simp))]
      simp only [flipB_length]
      ac_rfl
    have h2 := crcS_diff hl (flips_lt [p, q, r] hl) e he
    have h3 := congrArg par h2
    rw [par_xor, par_xor, par_stps h1, par_stps h1, par_stps h1, show par 1 = 1 by decide, show par 0 = 0 by decide] at h3
    omega
end Go.Proofs.YtgcjilifmcianaaDoor
