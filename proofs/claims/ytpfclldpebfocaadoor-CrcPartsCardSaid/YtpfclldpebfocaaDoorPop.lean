/-
  Plain facts on the number of bits in which bytes differ, without any program.
-/
import Derived.Test.YtpfclldpebfocaaDoorPoly
namespace Go.Proofs.YtpfclldpebfocaaDoor
open Go

def popN : Nat → Nat → Nat
  | 0, _ => 0
  | k + 1, x => x % 2 + popN k (x / 2)
def pop (x : Nat) : Nat := popN 8 x
theorem popN_le (k x : Nat) : popN k x ≤ k := by
  induction k generalizing x with
  | zero => exact Nat.le_refl _
  | succ k ih => have := ih (x / 2); simp only [popN]; omega
theorem pop_le (x : Nat) : pop x ≤ 8 := popN_le 8 x
theorem popN_par (k x : Nat) : popN k x % 2 = parN k x := by
  induction k generalizing x with
  | zero => rfl
  | succ k ih => simp only [popN, parN]; have := ih (x / 2); have := parN_lt2 k (x / 2); omega
theorem parN_grow (j k x : Nat) (h : x < 2 ^ k) : parN (k + j) x = parN k x := by
  induction j with
  | zero => rfl
  | succ j ih =>
    rw [show k + (j + 1) = (k + j) + 1 by omega, parN_more _ _ (Nat.lt_of_lt_of_le h (Nat.pow_le_pow_right (by omega) (by omega))), ih]
theorem pop_par {x : Nat} (h : x < 256) : pop x % 2 = par x := by
  unfold pop par
  rw [popN_par]
  exact (parN_grow 24 8 x h).symm
theorem popN_zero {k x : Nat} (h : x < 2 ^ k) (h0 : popN k x = 0) : x = 0 := by
  induction k generalizing x with
  | zero => simpa using h
  | succ k ih =>
    simp only [popN] at h0
    have := ih (x := x / 2) (by rw [Nat.pow_succ] at h; omega) (by omega)
    omega
theorem pop_nought : pop 0 = 0 := by decide
def cnt : List Nat → List Nat → Nat
  | a :: l, b :: m => pop (a ^^^ b) + cnt l m
  | _, _ => 0
theorem cnt_le (l m : List Nat) : cnt l m ≤ 8 * l.length := by
  induction l generalizing m with
  | nil => simp [cnt]
  | cons a l ih =>
    cases m with
    | nil => simp [cnt]
    | cons b m => have := ih m; have := pop_le (a ^^^ b); simp only [cnt, List.length_cons]; omega
theorem cnt_take {l m : List Nat} {k x y : Nat} (hx : l[k]? = some x) (hy : m[k]? = some y) : cnt (l.take (k + 1)) (m.take (k + 1)) = cnt (l.take k) (m.take k) + pop (x ^^^ y) := by
  induction k generalizing l m with
  | zero =>
    cases l with
    | nil => cases hx
    | cons a l =>
      cases m with
      | nil => cases hy
      | cons b m =>
        simp at hx hy
        subst hx; subst hy
        simp [cnt]
  | succ k ih =>
    cases l with
    | nil => cases hx
    | cons a l =>
      cases m with
      | nil => cases hy
      | cons b m =>
        simp only [List.getElem?_cons_succ] at hx hy
        simp only [List.take_succ_cons, cnt, ih hx hy]
        omega
theorem cnt_par {l m : List Nat} (h : l.length = m.length) (hl : ∀ b ∈ l, b < 256) (hm : ∀ b ∈ m, b < 256) : cnt l m % 2 = (parL l + parL m) % 2 := by
  induction l generalizing m with
  | nil =>
    cases m with
    | nil => rfl
    | cons b m => simp at h
  | cons a l ih =>
    cases m with
    | nil => simp at h
    | cons b m =>
      have ha := hl a (by simp)
      have hb := hm b (by simp)
      have h1 := ih (m := m) (by simpa using h) (fun c hc => hl c (by simp [hc])) (fun c hc => hm c (by simp [hc]))
      have h2 := pop_par (x := a ^^^ b) (Nat.xor_lt_two_pow (n := 8) ha hb)
      rw [par_xor] at h2
      simp only [cnt, parL]
      omega
theorem cnt_self (l : List Nat) : cnt l l = 0 := by
  induction l with
  | nil => rfl
  | cons a l ih => simp only [cnt, Nat.xor_self, ih]; rfl
theorem cnt_zero {l m : List Nat} (h : l.length = m.length) (hl : ∀ b ∈ l, b < 256) (hm : ∀ b ∈ m, b < 256) : cnt l m = 0 ↔ l = m := by
  constructor
  · induction l generalizing m with
    | nil =>
      intro _
      cases m with
      | nil => rfl
      | cons b m => simp at h
    | cons a l ih =>
      intro h0
      cases m with
      | nil => simp at h
      | cons b m =>
        simp only [cnt] at h0
        have h1 := ih (m := m) (by simpa using h) (fun c hc => hl c (by simp [hc])) (fun c hc => hm c (by simp [hc])) (by omega)
        have h2 := popN_zero (k := 8) (x := a ^^^ b) (Nat.xor_lt_two_pow (n := 8) (hl a (by simp)) (hm b (by simp))) (by have : popN 8 (a ^^^ b) = pop (a ^^^ b) := rfl; omega)
        rw [h1, xor_eq_zero' h2]
  · rintro rfl
    exact cnt_self l
def turnedI (l m : List Nat) : Int := if l.length = m.length then (cnt l m : Int) else -1
end Go.Proofs.YtpfclldpebfocaaDoor
