/-
  Plain facts on tags and on the layout of a disk, without any program: how many places a region has, how wide they are, where it begins; which tags are valid; their bytes.
-/
import Derived.Test.YtlikhmhomkiadaaDoorSpec
namespace Go.Proofs.YtlikhmhomkiadaaDoor
set_option maxRecDepth 100000
open Go

/-- A region's number of places, the sectors of each of them, and the sectors ahead of it. -/
def plc (r : Int) : Nat := if r = 1 then 2 else if r = 2 then 2 else if r = 3 then 24 else if r = 4 then 48 else if r = 5 then 16 else 0
def wid (r : Int) : Nat := if r = 1 then 1 else if r = 2 then 1 else if r = 3 then 1 else if r = 4 then 2 else if r = 5 then 2 else 0
def beg (r : Int) : Nat := if r ≤ 1 then 0 else if r = 2 then 2 else if r = 3 then 4 else if r = 4 then 28 else if r = 5 then 124 else 156
theorem plc_out {r : Int} (h : r < 1 ∨ 5 < r) : plc r = 0 := by unfold plc; repeat (rw [if_neg (by omega)])
theorem wid_out {r : Int} (h : r < 1 ∨ 5 < r) : wid r = 0 := by unfold wid; repeat (rw [if_neg (by omega)])
theorem plc_le (r : Int) : plc r ≤ 48 := by unfold plc; (repeat' split) <;> omega
theorem wid_le (r : Int) : wid r ≤ 2 := by unfold wid; (repeat' split) <;> omega
theorem beg_le (r : Int) : beg r ≤ 156 := by unfold beg; (repeat' split) <;> omega
theorem plc_wid (r : Int) : plc r * wid r ≤ 96 := by
  have h1 := plc_le r; have h2 := wid_le r
  calc plc r * wid r ≤ 48 * 2 := Nat.mul_le_mul h1 h2
    _ = 96 := rfl
theorem region_cases {r : Int} (h : 1 ≤ r ∧ r ≤ 5) : r = 1 ∨ r = 2 ∨ r = 3 ∨ r = 4 ∨ r = 5 := by omega
theorem plc_pos {r : Int} (h : 1 ≤ r ∧ r ≤ 5) : 2 ≤ plc r := by rcases region_cases h with rfl | rfl | rfl | rfl | rfl <;> decide
theorem wid_pos {r : Int} (h : 1 ≤ r ∧ r ≤ 5) : 1 ≤ wid r := by rcases region_cases h with rfl | rfl | rfl | rfl | rfl <;> decide
theorem plc_some {r : Int} (h : 0 < plc r) : 1 ≤ r ∧ r ≤ 5 := by
  by_cases h1 : r < 1 ∨ 5 < r
  · rw [plc_out h1] at h; omega
  · omega
theorem beg_step {r : Int} (h : 1 ≤ r ∧ r ≤ 5) : beg (r + 1) = beg r + plc r * wid r := by rcases region_cases h with rfl | rfl | rfl | rfl | rfl <;> decide
theorem beg_next (k : Nat) (h : k ≤ 5) : beg ((k : Int) + 1) = beg k + plc k * wid k := by
  have hk : k = 0 ∨ k = 1 ∨ k = 2 ∨ k = 3 ∨ k = 4 ∨ k = 5 := by omega
  rcases hk with rfl | rfl | rfl | rfl | rfl | rfl <;> decide

/-- The first sector of a place, or -1. -/
def firstS (r p : Int) : Int := if 0 ≤ p ∧ p < plc r then beg r + p * wid r else -1
theorem firstS_yes {r p : Int} (h : 0 ≤ p ∧ p < plc r) : firstS r p = beg r + p * wid r := by unfold firstS; rw [if_pos h]
theorem firstS_no {r p : Int} (h : ¬ (0 ≤ p ∧ p < plc r)) : firstS r p = -1 := by unfold firstS; rw [if_neg h]

/-- Which region, which place, which of its sectors; is there one? -/
def wReg (s : Int) : Int := if s < 0 then 0 else if s < 2 then 1 else if s < 4 then 2 else if s < 28 then 3 else if s < 124 then 4 else if s < 156 then 5 else 0
def wPlc (s : Int) : Int := if s < 0 then 0 else if s < 2 then s else if s < 4 then s - 2 else if s < 28 then s - 4 else if s < 124 then (s - 28) / 2 else if s < 156 then (s - 124) / 2 else 0
def wBeh (s : Int) : Int := if s < 28 then 0 else if s < 124 then (s - 28) % 2 else if s < 156 then (s - 124) % 2 else 0
def wIs (s : Int) : Bool := decide (0 ≤ s) && decide (s < 156)
theorem where_at {k : Nat} {s : Int} (h1 : 1 ≤ k) (h5 : k ≤ 5) (hb : (beg k : Int) ≤ s) (hs : s - beg k < ((plc k * wid k : Nat) : Int)) :
    wReg s = k ∧ wPlc s = (s - beg k) / wid k ∧ wBeh s = (s - beg k) % wid k ∧ wIs s = true := by
  have hk : k = 1 ∨ k = 2 ∨ k = 3 ∨ k = 4 ∨ k = 5 := by omega
  unfold wReg wPlc wBeh wIs
  rcases hk with rfl | rfl | rfl | rfl | rfl
  all_goals
    simp [beg, plc, wid] at hb hs ⊢
    omega
theorem where_no {s : Int} (h : s < 0 ∨ 156 ≤ s) : wReg s = 0 ∧ wPlc s = 0 ∧ wBeh s = 0 ∧ wIs s = false := by
  unfold wReg wPlc wBeh wIs
  simp
  omega

/-- Which tags are valid. -/
def mayB (a b c d e : Int) : Bool := decide (0 ≤ a ∧ a ≤ 6 ∧ 1 ≤ b ∧ b ≤ 5 ∧ 0 ≤ c ∧ c < plc b ∧ 0 ≤ d ∧ d ≤ 1099511627776 ∧ 1 ≤ e ∧ e ≤ 1099511627776)
theorem mayB_iff {a b c d e : Int} : mayB a b c d e = true ↔ (0 ≤ a ∧ a ≤ 6 ∧ 1 ≤ b ∧ b ≤ 5 ∧ 0 ≤ c ∧ c < plc b ∧ 0 ≤ d ∧ d ≤ 1099511627776 ∧ 1 ≤ e ∧ e ≤ 1099511627776) := by unfold mayB; exact decide_eq_true_iff

/-- The nearest valid tag's numbers. -/
def nrR (b : Int) : Int := max 1 (min b 5)
def nrA (a : Int) : Int := max 0 (min a 6)
def nrC (b c : Int) : Int := max 0 (min c ((plc (nrR b) : Int) - 1))
def nrD (d : Int) : Int := max 0 (min d 1099511627776)
def nrE (e : Int) : Int := max 1 (min e 1099511627776)
theorem nrR_in (b : Int) : 1 ≤ nrR b ∧ nrR b ≤ 5 := by unfold nrR; omega
theorem near_iff (a b c d e : Int) : (a = nrA a ∧ b = nrR b ∧ c = nrC b c ∧ d = nrD d ∧ e = nrE e) ↔ mayB a b c d e = true := by
  rw [mayB_iff]
  have h := plc_pos (nrR_in b)
  unfold nrA nrC nrD nrE
  constructor
  · rintro ⟨h1, h2, h3, h4, h5⟩
    rw [← h2] at h h3
    have := nrR_in b
    omega
  · rintro ⟨h1, h2, h3, h4, h5, h6, h7, h8, h9, h10⟩
    have hr : nrR b = b := by unfold nrR; omega
    rw [hr]
    omega

/-- A tag's numbers, their widths, and the bytes of the first k of them. -/
def fld (a b c d e : Nat) : Nat → Nat
  | 0 => a
  | 1 => b
  | 2 => c
  | 3 => d
  | _ => e
def wth : Nat → Nat
  | 0 => 1
  | 1 => 1
  | 2 => 1
  | _ => 6
def pre (f : Nat → Nat) : Nat → List Nat
  | 0 => []
  | k + 1 => pre f k ++ digs (wth k) (f k)
theorem wth_le (k : Nat) : wth k ≤ 6 := by
  match k with
  | 0 | 1 | 2 => decide
  | _ + 3 => exact Nat.le_refl _
theorem pre_len_le (f : Nat → Nat) (k : Nat) : (pre f k).length ≤ 6 * k := by
  induction k with
  | zero => simp [pre]
  | succ k ih =>
    have := wth_le k
    simp only [pre, List.length_append, digs_length]
    omega
/-- A tag's bytes. -/
def tagBytes (a b c d e : Nat) : List Nat := pre (fld a b c d e) 5
theorem tagBytes_len (a b c d e : Nat) : (tagBytes a b c d e).length = 15 := by simp [tagBytes, pre, digs_length, wth]
theorem tagBytes_lt (a b c d e : Nat) : ∀ x ∈ tagBytes a b c d e, x < 256 := by
  intro x hx
  simp only [tagBytes, pre, List.mem_append, List.not_mem_nil, false_or] at hx
  rcases hx with (((h | h) | h) | h) | h <;> exact digs_lt _ _ _ h
theorem fld_fits {a b c d e : Nat} (h : mayB a b c d e = true) (k : Nat) : fitsB (wth k) (fld a b c d e k) = true := by
  rw [mayB_iff] at h
  have hp := plc_le (b : Int)
  refine fits_iff.2 ?_
  match k with
  | 0 => exact ⟨rfl, by omega, by show a < 256; omega⟩
  | 1 => exact ⟨rfl, by omega, by show b < 256; omega⟩
  | 2 => exact ⟨rfl, by omega, by show c < 256; omega⟩
  | 3 => exact ⟨rfl, by omega, by show d < 281474976710656; omega⟩
  | _ + 4 => exact ⟨rfl, by omega, by show e < 281474976710656; omega⟩
theorem may_nat {a b c d e : Int} (h : mayB a b c d e = true) : ∃ a' b' c' d' e' : Nat, a = a' ∧ b = b' ∧ c = c' ∧ d = d' ∧ e = e' := by
  rw [mayB_iff] at h
  obtain ⟨a', rfl⟩ := Int.eq_ofNat_of_zero_le h.1
  obtain ⟨b', rfl⟩ := Int.eq_ofNat_of_zero_le (show 0 ≤ b by omega)
  obtain ⟨c', rfl⟩ := Int.eq_ofNat_of_zero_le (show 0 ≤ c by omega)
  obtain ⟨d', rfl⟩ := Int.eq_ofNat_of_zero_le (show 0 ≤ d by omega)
  obtain ⟨e', rfl⟩ := Int.eq_ofNat_of_zero_le (show 0 ≤ e by omega)
  exact ⟨a', b', c', d', e', rfl, rfl, rfl, rfl, rfl⟩

/-- Where a tag's numbers begin, and what they are. -/
def pos : Nat → Nat
  | 0 => 0
  | 1 => 1
  | 2 => 2
  | 3 => 3
  | 4 => 9
  | _ => 15
def pfld (l : List Nat) (k : Nat) : Nat := num ((l.drop (pos k)).take (wth k))
theorem pos_step {k : Nat} (h : k < 5) : pos (k + 1) = pos k + wth k := by
  have hj' : k = 0 ∨ k = 1 ∨ k = 2 ∨ k = 3 ∨ k = 4 := by omega
  rcases hj' with rfl | rfl | rfl | rfl | rfl <;> rfl
theorem pos_le (k : Nat) : pos k ≤ 15 := by unfold pos; split <;> omega
theorem wth_wOk (k : Nat) : wOk (wth k) = true := by
  match k with
  | 0 | 1 | 2 => rfl
  | _ + 3 => rfl
/-- Are the bytes those of a valid tag? -/
def PV (l : List Nat) : Bool := decide (l.length = 15) && mayB (pfld l 0) (pfld l 1) (pfld l 2) (pfld l 3) (pfld l 4)
/-- What Parse answers. -/
def pf (l : List Nat) (k : Nat) : Nat := if PV l = true then pfld l k else 0
def pe (l : List Nat) : Int := if PV l = true then 0 else 30
theorem pf_yes {l : List Nat} (h : PV l = true) (k : Nat) : pf l k = pfld l k := by unfold pf; rw [if_pos h]
theorem pe_yes {l : List Nat} (h : PV l = true) : pe l = 0 := by unfold pe; rw [if_pos h]
theorem pf_no {l : List Nat} (h : PV l = false) (k : Nat) : pf l k = 0 := by unfold pf; rw [if_neg (by rw [h]; simp)]
theorem pe_no {l : List Nat} (h : PV l = false) : pe l = 30 := by unfold pe; rw [if_neg (by rw [h]; simp)]
theorem PV_len {l : List Nat} (h : l.length ≠ 15) : PV l = false := by unfold PV; simp [h]
theorem PV_may {l : List Nat} (h : mayB (pfld l 0) (pfld l 1) (pfld l 2) (pfld l 3) (pfld l 4) = false) : PV l = false := by unfold PV; simp [h]
theorem PV_both {l : List Nat} (h : l.length = 15) (hm : mayB (pfld l 0) (pfld l 1) (pfld l 2) (pfld l 3) (pfld l 4) = true) : PV l = true := by unfold PV; simp [h, hm]

/-- What Print answers: the bytes, and which error (0: none). -/
def pl (a b c d e : Int) : List Nat := if mayB a b c d e = true then tagBytes a.toNat b.toNat c.toNat d.toNat e.toNat else []
def pr (a b c d e : Int) : Int := if mayB a b c d e = true then 0 else 2
theorem pl_yes {a b c d e : Int} (h : mayB a b c d e = true) : pl a b c d e = tagBytes a.toNat b.toNat c.toNat d.toNat e.toNat := by unfold pl; rw [if_pos h]
theorem pr_yes {a b c d e : Int} (h : mayB a b c d e = true) : pr a b c d e = 0 := by unfold pr; rw [if_pos h]
theorem pl_no {a b c d e : Int} (h : mayB a b c d e = false) : pl a b c d e = [] := by unfold pl; rw [if_neg (by rw [h]; simp)]
theorem pr_no {a b c d e : Int} (h : mayB a b c d e = false) : pr a b c d e = 2 := by unfold pr; rw [if_neg (by rw [h]; simp)]
theorem pl_len_le (a b c d e : Int) : (pl a b c d e).length ≤ 15 := by
  by_cases h : mayB a b c d e = true
  · rw [pl_yes h, tagBytes_len]; exact Nat.le_refl _
  · rw [pl_no (by simpa using h)]; simp

end Go.Proofs.YtlikhmhomkiadaaDoor
