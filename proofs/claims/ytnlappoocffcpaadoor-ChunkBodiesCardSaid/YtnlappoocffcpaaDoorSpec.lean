/-
  Plain facts on numbers and lists of bytes, without any program: the digits of a number to the base 256, and which widths there are.
-/
import Derived.Tactics
namespace Go.Proofs.YtnlappoocffcpaaDoor
set_option maxRecDepth 100000
open Go

def wOk (x : Int) : Bool := x == 1 || x == 2 || x == 4 || x == 6
def bnd (x : Int) : Int := if x = 1 then 256 else if x = 2 then 65536 else if x = 4 then 4294967296 else if x = 6 then 281474976710656 else 0
def fitsB (x n : Int) : Bool := decide (0 ≤ n) && decide (n < bnd x)

def digs : Nat → Nat → List Nat
  | 0, _ => []
  | k + 1, n => n % 256 :: digs k (n / 256)

theorem digs_length (k n : Nat) : (digs k n).length = k := by
  induction k generalizing n with
  | zero => rfl
  | succ k ih => simp [digs, ih]
theorem digs_lt (k n : Nat) : ∀ b ∈ digs k n, b < 256 := by
  induction k generalizing n with
  | zero => intro b hb; simp [digs] at hb
  | succ k ih =>
    intro b hb
    simp only [digs, List.mem_cons] at hb
    rcases hb with rfl | hb
    · omega
    · exact ih _ b hb
theorem digs_get (k n i : Nat) (h : i < k) : (digs k n)[i]? = some (n / 256 ^ i % 256) := by
  induction k generalizing n i with
  | zero => omega
  | succ k ih =>
    cases i with
    | zero => simp [digs]
    | succ i =>
      simp only [digs, List.getElem?_cons_succ]
      rw [ih _ _ (by omega), Nat.div_div_eq_div_mul, Nat.pow_succ, Nat.mul_comm 256]
theorem digs_take (k n i : Nat) (h : i ≤ k) : (digs k n).take i = digs i n := by
  induction k generalizing n i with
  | zero => obtain rfl : i = 0 := by omega
            rfl
  | succ k ih =>
    cases i with
    | zero => rfl
    | succ i => simp [digs, ih _ _ (show i ≤ k by omega)]
theorem digs_snoc (k n : Nat) : digs (k + 1) n = digs k n ++ [n / 256 ^ k % 256] := by
  induction k generalizing n with
  | zero => simp [digs]
  | succ k ih =>
    rw [digs, ih, digs, Nat.div_div_eq_div_mul, Nat.pow_succ, Nat.mul_comm 256]
    rfl

/-- The number that bytes are, the least significant one first. -/
def num : List Nat → Nat
  | [] => 0
  | b :: r => b + 256 * num r
theorem num_lt (l : List Nat) (h : ∀ b ∈ l, b < 256) : num l < 256 ^ l.length := by
  induction l with
  | nil => simp [num]
  | cons b r ih =>
    have h1 := h b (by simp)
    have h2 := ih (fun c hc => h c (by simp [hc]))
    simp only [num, List.length_cons, Nat.pow_succ]
    omega
theorem num_digs (k n : Nat) (h : n < 256 ^ k) : num (digs k n) = n := by
  induction k generalizing n with
  | zero => simp at h; subst h; rfl
  | succ k ih =>
    have h2 : n / 256 < 256 ^ k := by rw [Nat.pow_succ] at h; omega
    simp only [digs, num, ih _ h2]
    omega
theorem digs_num (l : List Nat) (h : ∀ b ∈ l, b < 256) : digs l.length (num l) = l := by
  induction l with
  | nil => rfl
  | cons b r ih =>
    have h1 := h b (by simp)
    have h2 := ih (fun c hc => h c (by simp [hc]))
    simp only [List.length_cons, digs, num]
    rw [show (b + 256 * num r) % 256 = b by omega, show (b + 256 * num r) / 256 = num r by omega, h2]
theorem num_snoc (l : List Nat) (b : Nat) : num (l ++ [b]) = num l + 256 ^ l.length * b := by
  induction l with
  | nil => simp [num]
  | cons a r ih =>
    simp only [List.cons_append, num, ih, List.length_cons, Nat.pow_succ]
    have e : 256 * (num r + 256 ^ r.length * b) = 256 * num r + 256 ^ r.length * 256 * b := by
      rw [Nat.mul_add, ← Nat.mul_assoc, Nat.mul_comm 256 (256 ^ r.length)]
    omega
theorem wOk_cases {x : Int} (h : wOk x = true) : x = 1 ∨ x = 2 ∨ x = 4 ∨ x = 6 := by
  simp [wOk] at h; omega
theorem bnd_of_wOk {x : Int} (h : wOk x = true) : bnd x = 256 ^ x.toNat := by
  rcases wOk_cases h with rfl | rfl | rfl | rfl <;> rfl
theorem bnd_of_not {x : Int} (h : wOk x = false) : bnd x = 0 := by
  simp [wOk] at h
  simp [bnd, h]
theorem fits_iff {x n : Int} : fitsB x n = true ↔ wOk x = true ∧ 0 ≤ n ∧ n.toNat < 256 ^ x.toNat := by
  by_cases hw : wOk x = true
  · have e := bnd_of_wOk hw
    simp only [fitsB, Bool.and_eq_true, decide_eq_true_eq, hw, true_and, e]
    constructor
    · rintro ⟨h0, h1⟩
      refine ⟨h0, ?_⟩
      have : ((n.toNat : Nat) : Int) < ((256 ^ x.toNat : Nat) : Int) := by rw [Int.toNat_of_nonneg h0, Int.natCast_pow]; exact h1
      omega
    · rintro ⟨h0, h1⟩
      refine ⟨h0, ?_⟩
      have : ((n.toNat : Nat) : Int) < ((256 ^ x.toNat : Nat) : Int) := by omega
      rw [Int.toNat_of_nonneg h0, Int.natCast_pow] at this
      exact this
  · have e := bnd_of_not (by simpa using hw)
    simp only [fitsB, Bool.and_eq_true, decide_eq_true_eq, hw, e]
    constructor
    · rintro ⟨h0, h1⟩; omega
    · rintro ⟨h0, _⟩; simp at h0
end Go.Proofs.YtnlappoocffcpaaDoor
