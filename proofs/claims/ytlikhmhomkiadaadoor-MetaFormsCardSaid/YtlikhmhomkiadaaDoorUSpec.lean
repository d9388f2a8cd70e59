/-
  Plain facts on metadata, without any program: which are valid; their bytes; what bytes are.
-/
import Derived.Test.YtlikhmhomkiadaaDoorSpec
namespace Go.Proofs.YtlikhmhomkiadaaDoor
open Go

/-- Which metadata are valid. -/
def mayU (a b c : Int) : Bool := decide (((a = 0 ∧ b = 0) ∨ (1 ≤ a ∧ a ≤ 1099511627776 ∧ 0 ≤ b ∧ b ≤ 6)) ∧ 1 ≤ c ∧ c ≤ 1099511627776)
theorem mayU_iff {a b c : Int} : mayU a b c = true ↔ (((a = 0 ∧ b = 0) ∨ (1 ≤ a ∧ a ≤ 1099511627776 ∧ 0 ≤ b ∧ b ≤ 6)) ∧ 1 ≤ c ∧ c ≤ 1099511627776) := by unfold mayU; exact decide_eq_true_iff
/-- The nearest valid metadata's numbers. -/
def nuA (a b : Int) : Int := if a = 0 ∧ b = 0 then a else max 1 (min a 1099511627776)
def nuB (a b : Int) : Int := if a = 0 ∧ b = 0 then b else max 0 (min b 6)
def nuC (c : Int) : Int := max 1 (min c 1099511627776)
theorem nearU_iff (a b c : Int) : (a = nuA a b ∧ b = nuB a b ∧ c = nuC c) ↔ mayU a b c = true := by
  rw [mayU_iff]
  unfold nuA nuB nuC
  by_cases h : a = 0 ∧ b = 0
  · rw [if_pos h, if_pos h]
    omega
  · rw [if_neg h, if_neg h]
    omega
theorem nearU_eq (a b c : Int) : (a == nuA a b && (b == nuB a b && c == nuC c)) = mayU a b c := by
  rw [Bool.eq_iff_iff, ← nearU_iff]
  simp

/-- Is the ballot x, y above a, b? -/
def abvB (x y a b : Int) : Bool := if x = a then decide (b < y) else decide (a < x)
def promOk (a b c x y : Int) : Bool := mayU a b c && (mayU x y c && abvB x y a b)
/-- Their numbers, the widths of these, and the bytes of the first k of them. -/
def uFld (a b c : Nat) : Nat → Nat
  | 0 => a
  | 1 => b
  | _ => c
def uW : Nat → Nat
  | 0 => 6
  | 1 => 1
  | _ => 6
def uPre (f : Nat → Nat) : Nat → List Nat
  | 0 => []
  | k + 1 => uPre f k ++ digs (uW k) (f k)
theorem uW_le (k : Nat) : uW k ≤ 6 := by
  match k with
  | 0 | 1 => decide
  | _ + 2 => exact Nat.le_refl _
theorem uPre_len_le (f : Nat → Nat) (k : Nat) : (uPre f k).length ≤ 6 * k := by
  induction k with
  | zero => simp [uPre]
  | succ k ih =>
    have := uW_le k
    simp only [uPre, List.length_append, digs_length]
    omega
/-- The bytes of metadata. -/
def uBytes (a b c : Nat) : List Nat := uPre (uFld a b c) 3
theorem uBytes_len (a b c : Nat) : (uBytes a b c).length = 13 := by simp [uBytes, uPre, digs_length, uW]
theorem uBytes_lt (a b c : Nat) : ∀ x ∈ uBytes a b c, x < 256 := by
  intro x hx
  simp only [uBytes, uPre, List.mem_append, List.not_mem_nil, false_or] at hx
  rcases hx with (h | h) | h <;> exact digs_lt _ _ _ h
theorem uFld_fits {a b c : Nat} (h : mayU a b c = true) (k : Nat) : fitsB (uW k) (uFld a b c k) = true := by
  rw [mayU_iff] at h
  refine fits_iff.2 ?_
  match k with
  | 0 => exact ⟨rfl, by omega, by show a < 281474976710656; omega⟩
  | 1 => exact ⟨rfl, by omega, by show b < 256; omega⟩
  | _ + 2 => exact ⟨rfl, by omega, by show c < 281474976710656; omega⟩
theorem uBytes_eq {a b c : Nat} (h : b < 256) : uBytes a b c = digs 6 a ++ [b] ++ digs 6 c := by
  simp only [uBytes, uPre, uW, uFld, List.nil_append]
  rw [show digs 1 b = [b] by simp [digs]; omega]
theorem mayU_nat {a b c : Int} (h : mayU a b c = true) : ∃ a' b' c' : Nat, a = a' ∧ b = b' ∧ c = c' := by
  rw [mayU_iff] at h
  obtain ⟨a', rfl⟩ := Int.eq_ofNat_of_zero_le (show 0 ≤ a by omega)
  obtain ⟨b', rfl⟩ := Int.eq_ofNat_of_zero_le (show 0 ≤ b by omega)
  obtain ⟨c', rfl⟩ := Int.eq_ofNat_of_zero_le (show 0 ≤ c by omega)
  exact ⟨a', b', c', rfl, rfl, rfl⟩

/-- Where the numbers begin, and what they are. -/
def uPos : Nat → Nat
  | 0 => 0
  | 1 => 6
  | 2 => 7
  | _ => 13
def uNum (l : List Nat) (k : Nat) : Nat := num ((l.drop (uPos k)).take (uW k))
theorem uPos_step {k : Nat} (h : k < 3) : uPos (k + 1) = uPos k + uW k := by
  have hj' : k = 0 ∨ k = 1 ∨ k = 2 := by omega
  rcases hj' with rfl | rfl | rfl <;> rfl
theorem uPos_le (k : Nat) : uPos k ≤ 13 := by unfold uPos; split <;> omega
theorem uW_ok (k : Nat) : wOk (uW k) = true := by
  match k with
  | 0 | 1 => rfl
  | _ + 2 => rfl
/-- Are the bytes those of valid metadata? -/
def uV (l : List Nat) : Bool := decide (l.length = 13) && mayU (uNum l 0) (uNum l 1) (uNum l 2)
/-- What Parse answers. -/
def uF (l : List Nat) (k : Nat) : Nat := if uV l = true then uNum l k else 0
def uE (l : List Nat) : Int := if uV l = true then 0 else 80
theorem uF_yes {l : List Nat} (h : uV l = true) (k : Nat) : uF l k = uNum l k := by unfold uF; rw [if_pos h]
theorem uE_yes {l : List Nat} (h : uV l = true) : uE l = 0 := by unfold uE; rw [if_pos h]
theorem uF_no {l : List Nat} (h : uV l = false) (k : Nat) : uF l k = 0 := by unfold uF; rw [if_neg (by rw [h]; simp)]
theorem uE_no {l : List Nat} (h : uV l = false) : uE l = 80 := by unfold uE; rw [if_neg (by rw [h]; simp)]
theorem uV_len {l : List Nat} (h : l.length ≠ 13) : uV l = false := by unfold uV; simp [h]
theorem uV_may {l : List Nat} (h : mayU (uNum l 0) (uNum l 1) (uNum l 2) = false) : uV l = false := by unfold uV; simp [h]
theorem uV_both {l : List Nat} (h : l.length = 13) (hm : mayU (uNum l 0) (uNum l 1) (uNum l 2) = true) : uV l = true := by unfold uV; simp [h, hm]
theorem uV_parts {l : List Nat} (h : uV l = true) : l.length = 13 ∧ mayU (uNum l 0) (uNum l 1) (uNum l 2) = true := by
  unfold uV at h
  simpa using h
theorem uF_may {l : List Nat} (h : uV l = true) : mayU (uF l 0) (uF l 1) (uF l 2) = true := by
  rw [uF_yes h, uF_yes h, uF_yes h]
  exact (uV_parts h).2

/-- What Print answers: the bytes, and which error (0: none). -/
def uL (a b c : Int) : List Nat := if mayU a b c = true then uBytes a.toNat b.toNat c.toNat else []
def uR (a b c : Int) : Int := if mayU a b c = true then 0 else 2
theorem uL_yes {a b c : Int} (h : mayU a b c = true) : uL a b c = uBytes a.toNat b.toNat c.toNat := by unfold uL; rw [if_pos h]
theorem uR_yes {a b c : Int} (h : mayU a b c = true) : uR a b c = 0 := by unfold uR; rw [if_pos h]
theorem uL_no {a b c : Int} (h : mayU a b c = false) : uL a b c = [] := by unfold uL; rw [if_neg (by rw [h]; simp)]
theorem uR_no {a b c : Int} (h : mayU a b c = false) : uR a b c = 2 := by unfold uR; rw [if_neg (by rw [h]; simp)]
theorem uL_len {a b c : Int} (h : mayU a b c = true) : (uL a b c).length = 13 := by rw [uL_yes h, uBytes_len]
theorem uL_len_le (a b c : Int) : (uL a b c).length ≤ 13 := by
  by_cases h : mayU a b c = true
  · rw [uL_len h]; exact Nat.le_refl _
  · rw [uL_no (by simpa using h)]; simp
theorem uL_lt (a b c : Int) : ∀ x ∈ uL a b c, x < 256 := by
  by_cases h : mayU a b c = true
  · rw [uL_yes h]; exact uBytes_lt _ _ _
  · rw [uL_no (by simpa using h)]; simp

/- There and back. -/
theorem uNum_bytes (a b c k : Nat) (hk : k < 3) (h : uFld a b c k < 256 ^ uW k) : uNum (uBytes a b c) k = uFld a b c k := by
  have key : ((uBytes a b c).drop (uPos k)).take (uW k) = digs (uW k) (uFld a b c k) := by
    have hj' : k = 0 ∨ k = 1 ∨ k = 2 := by omega
    rcases hj' with rfl | rfl | rfl <;> rfl
  unfold uNum
  rw [key, num_digs _ _ h]
theorem uV_bytes {a b c : Nat} (h : mayU a b c = true) : uV (uBytes a b c) = true ∧ ∀ k, k < 3 → uF (uBytes a b c) k = uFld a b c k := by
  have hf : ∀ k, k < 3 → uNum (uBytes a b c) k = uFld a b c k := fun k hk => uNum_bytes a b c k hk (by
    have := (fits_iff.1 (uFld_fits h k)).2.2
    simpa using this)
  have hv : uV (uBytes a b c) = true := uV_both (uBytes_len a b c) (by
    rw [hf 0 (by omega), hf 1 (by omega), hf 2 (by omega)]
    exact h)
  exact ⟨hv, fun k hk => by rw [uF_yes hv, hf k hk]⟩
/-- Valid metadata's bytes are parsed as they were. -/
theorem uBack {a b c : Int} (h : mayU a b c = true) : uV (uL a b c) = true ∧ (uF (uL a b c) 0 : Int) = a ∧ (uF (uL a b c) 1 : Int) = b ∧ (uF (uL a b c) 2 : Int) = c := by
  obtain ⟨a, b, c, rfl, rfl, rfl⟩ := mayU_nat h
  rw [uL_yes h]
  simp only [Int.toNat_natCast]
  obtain ⟨hv, hf⟩ := uV_bytes h
  exact ⟨hv, by rw [hf 0 (by omega)]; rfl, by rw [hf 1 (by omega)]; rfl, by rw [hf 2 (by omega)]; rfl⟩
theorem uBytes_of {l : List Nat} (h : l.length = 13) (hl : ∀ b ∈ l, b < 256) : uBytes (uNum l 0) (uNum l 1) (uNum l 2) = l := by
  have step : ∀ k, k < 3 → digs (uW k) (uNum l k) = (l.drop (uPos k)).take (uW k) := by
    intro k hk
    have hp := uPos_step hk
    have h15 := uPos_le (k + 1)
    have e := digs_num ((l.drop (uPos k)).take (uW k)) (fun b hb => hl b (List.mem_of_mem_drop (List.mem_of_mem_take hb)))
    rw [List.length_take, List.length_drop, Nat.min_eq_left (by omega)] at e
    exact e
  have fl : ∀ k, k < 3 → uFld (uNum l 0) (uNum l 1) (uNum l 2) k = uNum l k := by
    intro k hk
    have hj' : k = 0 ∨ k = 1 ∨ k = 2 := by omega
    rcases hj' with rfl | rfl | rfl <;> rfl
  have all : ∀ k, k ≤ 3 → uPre (uFld (uNum l 0) (uNum l 1) (uNum l 2)) k = l.take (uPos k) := by
    intro k
    induction k with
    | zero => intro _; simp [uPre, uPos]
    | succ k ih =>
      intro hk
      rw [uPre, ih (by omega), fl k (by omega), step k (by omega), uPos_step (by omega), List.take_add]
  have := all 3 (by omega)
  rw [show uPos 3 = 13 from rfl, List.take_of_length_le (by omega)] at this
  exact this
/-- Valid bytes are those of what they are. -/
theorem uL_of {l : List Nat} (h : uV l = true) (hl : ∀ b ∈ l, b < 256) : uL (uF l 0) (uF l 1) (uF l 2) = l ∧ uR (uF l 0) (uF l 1) (uF l 2) = 0 := by
  have hp := uV_parts h
  rw [uF_yes h, uF_yes h, uF_yes h]
  exact ⟨by rw [uL_yes hp.2]; simp only [Int.toNat_natCast]; exact uBytes_of hp.1 hl, uR_yes hp.2⟩
end Go.Proofs.YtlikhmhomkiadaaDoor
