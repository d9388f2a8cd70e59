/-
  Plain facts on tags and on the layout of a disk, without any program: how many places a region has, how wide they are, where it begins; which tags are valid; their bytes.
  Plain facts: a valid tag's bytes are parsed as it was; bytes that are parsed are those of what they are.
  Plain facts on frames, without any program: a frame's bytes, which bytes are good, that all good ones have one sum.
  What it means that a slice of bytes in memory reads as a list of numbers, and how that is carried along; no program.
-/
import Derived.Test.YtldgamgdbneneaaDoorQ01
import Derived.Below
import Derived.Laws.OwnMore
import Derived.Deep.AppendLies
import Derived.Deep.Draws
import Derived.WalkKit
namespace Go.Proofs.YtldgamgdbneneaaDoor
set_option maxRecDepth 100000
open Go

/-- A region's number of places, the sectors of each of them, and the sectors ahead of it. -/
def plc (r : Int) : Nat := if r = 1 then 2 else if r = 2 then 2 else if r = 3 then 24 else if r = 4 then 48 else if r = 5 then 16 else 0
def wid (r : Int) : Nat := if r = 1 then 1 else if r = 2 then 1 else if r = 3 then 1 else if r = 4 then 2 else if r = 5 then 2 else 0
def beg (r : Int) : Nat := if r ≤ 1 then 0 else if r = 2 then 2 else if r = 3 then 4 else if r = 4 then 28 else if r = 5 then 124 else 156
theorem plc_out {r : Int} (h : r < 1 ∨ 5 < r) : plc r = 0 := by unfold plc; repeat (rw [if_neg (by omega)])
theorem wid_out {r : Int} (h : r < 1 ∨ 5 < r) : wid r = 0 := by unfold wid; repeat (rw [if_neg (by omega)])
theorem plc_le (r : Int) : plc r ≤ 48 := by unfold plc; (repeat' split) <;> omega
theorem wid_le (r : Int) : wid r ≤ 2 := by unfold wid; (repeat' split) <;> omega
theorem beg_le (r : Int) : beg r ≤ 156 := by unfold beg; (repeat' split) <;> omega
theorem plc_wid (r : Int) : plc r * wid r ≤ 96 := by
  have h1 := plc_le r; have h2 := wid_le r
  calc plc r * wid r ≤ 48 * 2 := Nat.mul_le_mul h1 h2
    _ = 96 := rfl
theorem region_cases {r : Int} (h : 1 ≤ r ∧ r ≤ 5) : r = 1 ∨ r = 2 ∨ r = 3 ∨ r = 4 ∨ r = 5 := by omega
theorem plc_pos {r : Int} (h : 1 ≤ r ∧ r ≤ 5) : 2 ≤ plc r := by rcases region_cases h with rfl | rfl | rfl | rfl | rfl <;> decide
theorem wid_pos {r : Int} (h : 1 ≤ r ∧ r ≤ 5) : 1 ≤ wid r := by rcases region_cases h with rfl | rfl | rfl | rfl | rfl <;> decide
theorem plc_some {r : Int} (h : 0 < plc r) : 1 ≤ r ∧ r ≤ 5 := by
  by_cases h1 : r < 1 ∨ 5 < r
  · rw [plc_out h1] at h; omega
  · omega
theorem beg_step {r : Int} (h : 1 ≤ r ∧ r ≤ 5) : beg (r + 1) = beg r + plc r * wid r := by rcases region_cases h with rfl | rfl | rfl | rfl | rfl <;> decide
theorem beg_next (k : Nat) (h : k ≤ 5) : beg ((k : Int) + 1) = beg k + plc k * wid k := by
  have hk : k = 0 ∨ k = 1 ∨ k = 2 ∨ k = 3 ∨ k = 4 ∨ k = 5 := by omega
  rcases hk with rfl | rfl | rfl | rfl | rfl | rfl <;> decide

/-- The first sector of a place, or -1. -/
def firstS (r p : Int) : Int := if 0 ≤ p ∧ p < plc r then beg r + p * wid r else -1
theorem firstS_yes {r p : Int} (h : 0 ≤ p ∧ p < plc r) : firstS r p = beg r + p * wid r := by unfold firstS; rw [if_pos h]
theorem firstS_no {r p : Int} (h : ¬ (0 ≤ p ∧ p < plc r)) : firstS r p = -1 := by unfold firstS; rw [if_neg h]

/-- Which region, which place, which of its sectors; is there one? -/
def wReg (s : Int) : Int := if s < 0 then 0 else if s < 2 then 1 else if s < 4 then 2 else if s < 28 then 3 else if s < 124 then 4 else if s < 156 then 5 else 0
def wPlc (s : Int) : Int := if s < 0 then 0 else if s < 2 then s else if s < 4 then s - 2 else if s < 28 then s - 4 else if s < 124 then (s - 28) / 2 else if s < 156 then (s - 124) / 2 else 0
def wBeh (s : Int) : Int := if s < 28 then 0 else if s < 124 then (s - 28) % 2 else if s < 156 then (s - 124) % 2 else 0
def wIs (s : Int) : Bool := decide (0 ≤ s) && decide (s < 156)
theorem where_at {k : Nat} {s : Int} (h1 : 1 ≤ k) (h5 : k ≤ 5) (hb : (beg k : Int) ≤ s) (hs : s - beg k < ((plc k * wid k : Nat) : Int)) :
    wReg s = k ∧ wPlc s = (s - beg k) / wid k ∧ wBeh s = (s - beg k) % wid k ∧ wIs s = true := by
  have hk : k = 1 ∨ k = 2 ∨ k = 3 ∨ k = 4 ∨ k = 5 := by omega
  unfold wReg wPlc wBeh wIs
  rcases hk with rfl | rfl | rfl | rfl | rfl
  all_goals
    simp [beg, plc, wid] at hb hs ⊢
    omega
theorem where_no {s : Int} (h : s < 0 ∨ 156 ≤ s) : wReg s = 0 ∧ wPlc s = 0 ∧ wBeh s = 0 ∧ wIs s = false := by
  unfold wReg wPlc wBeh wIs
  simp
  omega

/-- Which tags are valid. -/
def mayB (a b c d e : Int) : Bool := decide (0 ≤ a ∧ a ≤ 6 ∧ 1 ≤ b ∧ b ≤ 5 ∧ 0 ≤ c ∧ c < plc b ∧ 0 ≤ d ∧ d ≤ 1099511627776 ∧ 1 ≤ e ∧ e ≤ 1099511627776)
theorem mayB_iff {a b c d e : Int} : mayB a b c d e = true ↔ (0 ≤ a ∧ a ≤ 6 ∧ 1 ≤ b ∧ b ≤ 5 ∧ 0 ≤ c ∧ c < plc b ∧ 0 ≤ d ∧ d ≤ 1099511627776 ∧ 1 ≤ e ∧ e ≤ 1099511627776) := by unfold mayB; exact decide_eq_true_iff

/-- The nearest valid tag's numbers. -/
def nrR (b : Int) : Int := max 1 (min b 5)
def nrA (a : Int) : Int := max 0 (min a 6)
def nrC (b c : Int) : Int := max 0 (min c ((plc (nrR b) : Int) - 1))
def nrD (d : Int) : Int := max 0 (min d 1099511627776)
def nrE (e : Int) : Int := max 1 (min e 1099511627776)
theorem nrR_in (b : Int) : 1 ≤ nrR b ∧ nrR b ≤ 5 := by unfold nrR; omega
theorem near_iff (a b c d e : Int) : (a = nrA a ∧ b = nrR b ∧ c = nrC b c ∧ d = nrD d ∧ e = nrE e) ↔ mayB a b c d e = true := by
  rw [mayB_iff]
  have h := plc_pos (nrR_in b)
  unfold nrA nrC nrD nrE
  constructor
  · rintro ⟨h1, h2, h3, h4, h5⟩
    rw [← h2] at h h3
    have := nrR_in b
    omega
  · rintro ⟨h1, h2, h3, h4, h5, h6, h7, h8, h9, h10⟩
    have hr : nrR b = b := by unfold nrR; omega
    rw [hr]
    omega

/-- A tag's numbers, their widths, and the bytes of the first k of them. -/
def fld (a b c d e : Nat) : Nat → Nat
  | 0 => a
  | 1 => b
  | 2 => c
  | 3 => d
  | _ => e
def wth : Nat → Nat
  | 0 => 1
  | 1 => 1
  | 2 => 1
  | _ => 6
def pre (f : Nat → Nat) : Nat → List Nat
  | 0 => []
  | k + 1 => pre f k ++ digs (wth k) (f k)
theorem wth_le (k : Nat) : wth k ≤ 6 := by
  match k with
  | 0 | 1 | 2 => decide
  | _ + 3 => exact Nat.le_refl _
theorem pre_len_le (f : Nat → Nat) (k : Nat) : (pre f k).length ≤ 6 * k := by
  induction k with
  | zero => simp [pre]
  | succ k ih =>
    have := wth_le k
    simp only [pre, List.length_append, digs_length]
    omega
/-- A tag's bytes. -/
def tagBytes (a b c d e : Nat) : List Nat := pre (fld a b c d e) 5
theorem tagBytes_len (a b c d e : Nat) : (tagBytes a b c d e).length = 15 := by simp [tagBytes, pre, digs_length, wth]
theorem tagBytes_lt (a b c d e : Nat) : ∀ x ∈ tagBytes a b c d e, x < 256 := by
  intro x hx
  simp only [tagBytes, pre, List.mem_append, List.not_mem_nil, false_or] at hx
  rcases hx with (((h | h) | h) | h) | h <;> exact digs_lt _ _ _ h
theorem fld_fits {a b c d e : Nat} (h : mayB a b c d e = true) (k : Nat) : fitsB (wth k) (fld a b c d e k) = true := by
  rw [mayB_iff] at h
  have hp := plc_le (b : Int)
  refine fits_iff.2 ?_
  match k with
  | 0 => exact ⟨rfl, by omega, by show a < 256; omega⟩
  | 1 => exact ⟨rfl, by omega, by show b < 256; omega⟩
  | 2 => exact ⟨rfl, by omega, by show c < 256; omega⟩
  | 3 => exact ⟨rfl, by omega, by show d < 281474976710656; omega⟩
  | _ + 4 => exact ⟨rfl, by omega, by show e < 281474976710656; omega⟩
theorem may_nat {a b c d e : Int} (h : mayB a b c d e = true) : ∃ a' b' c' d' e' : Nat, a = a' ∧ b = b' ∧ c = c' ∧ d = d' ∧ e = e' := by
  rw [mayB_iff] at h
  obtain ⟨a', rfl⟩ := Int.eq_ofNat_of_zero_le h.1
  obtain ⟨b', rfl⟩ := Int.eq_ofNat_of_zero_le (show 0 ≤ b by omega)
  obtain ⟨c', rfl⟩ := Int.eq_ofNat_of_zero_le (show 0 ≤ c by omega)
  obtain ⟨d', rfl⟩ := Int.eq_ofNat_of_zero_le (show 0 ≤ d by omega)
  obtain ⟨e', rfl⟩ := Int.eq_ofNat_of_zero_le (show 0 ≤ e by omega)
  exact ⟨a', b', c', d', e', rfl, rfl, rfl, rfl, rfl⟩

/-- Where a tag's numbers begin, and what they are. -/
def pos : Nat → Nat
  | 0 => 0
  | 1 => 1
  | 2 => 2
  | 3 => 3
  | 4 => 9
  | _ => 15
def pfld (l : List Nat) (k : Nat) : Nat := num ((l.drop (pos k)).take (wth k))
theorem pos_step {k : Nat} (h : k < 5) : pos (k + 1) = pos k + wth k := by
  have hj' : k = 0 ∨ k = 1 ∨ k = 2 ∨ k = 3 ∨ k = 4 := by omega
  rcases hj' with rfl | rfl | rfl | rfl | rfl <;> rfl
theorem pos_le (k : Nat) : pos k ≤ 15 := by unfold pos; split <;> omega
theorem wth_wOk (k : Nat) : wOk (wth k) = true := by
  match k with
  | 0 | 1 | 2 => rfl
  | _ + 3 => rfl
/-- Are the bytes those of a valid tag? -/
def PV (l : List Nat) : Bool := decide (l.length = 15) && mayB (pfld l 0) (pfld l 1) (pfld l 2) (pfld l 3) (pfld l 4)
/-- What Parse answers. -/
def pf (l : List Nat) (k : Nat) : Nat := if PV l = true then pfld l k else 0
def pe (l : List Nat) : Int := if PV l = true then 0 else 30
theorem pf_yes {l : List Nat} (h : PV l = true) (k : Nat) : pf l k = pfld l k := by unfold pf; rw [if_pos h]
theorem pe_yes {l : List Nat} (h : PV l = true) : pe l = 0 := by unfold pe; rw [if_pos h]
theorem pf_no {l : List Nat} (h : PV l = false) (k : Nat) : pf l k = 0 := by unfold pf; rw [if_neg (by rw [h]; simp)]
theorem pe_no {l : List Nat} (h : PV l = false) : pe l = 30 := by unfold pe; rw [if_neg (by rw [h]; simp)]
theorem PV_len {l : List Nat} (h : l.length ≠ 15) : PV l = false := by unfold PV; simp [h]
theorem PV_may {l : List Nat} (h : mayB (pfld l 0) (pfld l 1) (pfld l 2) (pfld l 3) (pfld l 4) = false) : PV l = false := by unfold PV; simp [h]
theorem PV_both {l : List Nat} (h : l.length = 15) (hm : mayB (pfld l 0) (pfld l 1) (pfld l 2) (pfld l 3) (pfld l 4) = true) : PV l = true := by unfold PV; simp [h, hm]

/-- What Print answers: the bytes, and which error (0: none). -/
def pl (a b c d e : Int) : List Nat := if mayB a b c d e = true then tagBytes a.toNat b.toNat c.toNat d.toNat e.toNat else []
def pr (a b c d e : Int) : Int := if mayB a b c d e = true then 0 else 2
theorem pl_yes {a b c d e : Int} (h : mayB a b c d e = true) : pl a b c d e = tagBytes a.toNat b.toNat c.toNat d.toNat e.toNat := by unfold pl; rw [if_pos h]
theorem pr_yes {a b c d e : Int} (h : mayB a b c d e = true) : pr a b c d e = 0 := by unfold pr; rw [if_pos h]
theorem pl_no {a b c d e : Int} (h : mayB a b c d e = false) : pl a b c d e = [] := by unfold pl; rw [if_neg (by rw [h]; simp)]
theorem pr_no {a b c d e : Int} (h : mayB a b c d e = false) : pr a b c d e = 2 := by unfold pr; rw [if_neg (by rw [h]; simp)]
theorem pl_len_le (a b c d e : Int) : (pl a b c d e).length ≤ 15 := by
  by_cases h : mayB a b c d e = true
  · rw [pl_yes h, tagBytes_len]; exact Nat.le_refl _
  · rw [pl_no (by simpa using h)]; simp

end Go.Proofs.YtldgamgdbneneaaDoor

namespace Go.Proofs.YtldgamgdbneneaaDoor
set_option maxRecDepth 100000
open Go

theorem pfld_tag (a b c d e k : Nat) (hk : k < 5) (h : fld a b c d e k < 256 ^ wth k) : pfld (tagBytes a b c d e) k = fld a b c d e k := by
  have key : ((tagBytes a b c d e).drop (pos k)).take (wth k) = digs (wth k) (fld a b c d e k) := by
    have hj' : k = 0 ∨ k = 1 ∨ k = 2 ∨ k = 3 ∨ k = 4 := by omega
    rcases hj' with rfl | rfl | rfl | rfl | rfl <;> rfl
  unfold pfld
  rw [key, num_digs _ _ h]
theorem PV_tag {a b c d e : Nat} (h : mayB a b c d e = true) : PV (tagBytes a b c d e) = true ∧ ∀ k, k < 5 → pf (tagBytes a b c d e) k = fld a b c d e k := by
  have hf : ∀ k, k < 5 → pfld (tagBytes a b c d e) k = fld a b c d e k := fun k hk => pfld_tag a b c d e k hk (by
    have := (fits_iff.1 (fld_fits h k)).2.2
    simpa using this)
  have hv : PV (tagBytes a b c d e) = true := PV_both (tagBytes_len a b c d e) (by
    rw [hf 0 (by omega), hf 1 (by omega), hf 2 (by omega), hf 3 (by omega), hf 4 (by omega)]
    exact h)
  exact ⟨hv, fun k hk => by rw [pf_yes hv, hf k hk]⟩
theorem tagBytes_of {l : List Nat} (h : l.length = 15) (hl : ∀ b ∈ l, b < 256) : tagBytes (pfld l 0) (pfld l 1) (pfld l 2) (pfld l 3) (pfld l 4) = l := by
  have step : ∀ k, k < 5 → digs (wth k) (pfld l k) = (l.drop (pos k)).take (wth k) := by
    intro k hk
    have hp := pos_step hk
    have h15 := pos_le (k + 1)
    have e := digs_num ((l.drop (pos k)).take (wth k)) (fun b hb => hl b (List.mem_of_mem_drop (List.mem_of_mem_take hb)))
    rw [List.length_take, List.length_drop, Nat.min_eq_left (by omega)] at e
    exact e
  have fl : ∀ k, k < 5 → fld (pfld l 0) (pfld l 1) (pfld l 2) (pfld l 3) (pfld l 4) k = pfld l k := by
    intro k hk
    have hj' : k = 0 ∨ k = 1 ∨ k = 2 ∨ k = 3 ∨ k = 4 := by omega
    rcases hj' with rfl | rfl | rfl | rfl | rfl <;> rfl
  have all : ∀ k, k ≤ 5 → pre (fld (pfld l 0) (pfld l 1) (pfld l 2) (pfld l 3) (pfld l 4)) k = l.take (pos k) := by
    intro k
    induction k with
    | zero => intro _; simp [pre, pos]
    | succ k ih =>
      intro hk
      rw [pre, ih (by omega), fl k (by omega), step k (by omega), pos_step (by omega), List.take_add]
  have := all 5 (by omega)
  rw [show pos 5 = 15 from rfl, List.take_of_length_le (by omega)] at this
  exact this
/-- Valid bytes are those of what they are. -/
theorem pl_of {l : List Nat} (h : PV l = true) (hl : ∀ b ∈ l, b < 256) : pl (pf l 0) (pf l 1) (pf l 2) (pf l 3) (pf l 4) = l ∧ pr (pf l 0) (pf l 1) (pf l 2) (pf l 3) (pf l 4) = 0 := by
  have hp : l.length = 15 ∧ mayB (pfld l 0) (pfld l 1) (pfld l 2) (pfld l 3) (pfld l 4) = true := by
    unfold PV at h
    simpa using h
  rw [pf_yes h, pf_yes h, pf_yes h, pf_yes h, pf_yes h]
  exact ⟨by rw [pl_yes hp.2]; simp only [Int.toNat_natCast]; exact tagBytes_of hp.1 hl, pr_yes hp.2⟩
end Go.Proofs.YtldgamgdbneneaaDoor

namespace Go.Proofs.YtldgamgdbneneaaDoor
set_option maxRecDepth 100000
open Go

/-- The most that a body has in so many sectors. -/
def roomN (s : Int) : Nat := if s = 1 then 43 else if s = 2 then 88 else 0
theorem roomN_one : roomN 1 = 43 := rfl
theorem roomN_two : roomN 2 = 88 := rfl
theorem roomN_no {s : Int} (h1 : s ≠ 1) (h2 : s ≠ 2) : roomN s = 0 := by unfold roomN; rw [if_neg h1, if_neg h2]
theorem roomN_le (s : Int) : roomN s ≤ 88 := by unfold roomN; (repeat' split) <;> omega
theorem roomN_pos {s : Int} (h : 0 < roomN s) : s = 1 ∨ s = 2 := by
  by_cases h1 : s = 1
  · exact .inl h1
  · by_cases h2 : s = 2
    · exact .inr h2
    · rw [roomN_no h1 h2] at h; omega

/-- What stands ahead of a frame's sum; a frame. -/
def frameH (body own : List Nat) (S : Nat) : List Nat := digs 2 body.length ++ own ++ body ++ List.replicate (64 * S - 21 - body.length) 0
def frameL (body own : List Nat) (S : Nat) : List Nat := frameH body own S ++ digs 4 (crcS (frameH body own S))
theorem frameH_lt {body own : List Nat} {S : Nat} (hb : ∀ x ∈ body, x < 256) (ho : ∀ x ∈ own, x < 256) : ∀ x ∈ frameH body own S, x < 256 := by
  intro x hx
  simp only [frameH, List.mem_append, List.mem_replicate] at hx
  rcases hx with ((h | h) | h) | ⟨_, h⟩
  · exact digs_lt _ _ x h
  · exact ho x h
  · exact hb x h
  · omega
theorem frameL_lt {body own : List Nat} {S : Nat} (hb : ∀ x ∈ body, x < 256) (ho : ∀ x ∈ own, x < 256) : ∀ x ∈ frameL body own S, x < 256 := by
  intro x hx
  rcases List.mem_append.1 hx with h | h
  · exact frameH_lt hb ho x h
  · exact digs_lt _ _ x h
theorem frameH_len {body own : List Nat} {S : Nat} (ho : own.length = 15) (hr : body.length ≤ 64 * S - 21) (hS : 1 ≤ S) : (frameH body own S).length = 64 * S - 4 := by
  simp only [frameH, List.length_append, digs_length, ho, List.length_replicate]
  omega
theorem frameL_len {body own : List Nat} {S : Nat} (ho : own.length = 15) (hr : body.length ≤ 64 * S - 21) (hS : 1 ≤ S) : (frameL body own S).length = 64 * S := by
  rw [frameL, List.length_append, frameH_len ho hr hS, digs_length]
  omega
theorem room_fits {n S : Nat} (h : n ≤ roomN (S : Int)) (hS : 0 < roomN (S : Int)) : n ≤ 64 * S - 21 ∧ 1 ≤ S ∧ S ≤ 2 := by
  rcases roomN_pos hS with h1 | h1
  · have : S = 1 := by omega
    subst this
    rw [show roomN ((1 : Nat) : Int) = 43 from rfl] at h
    omega
  · have : S = 2 := by omega
    subst this
    rw [show roomN ((2 : Nat) : Int) = 88 from rfl] at h
    omega

/-- What is read of bytes: the body's length, the tag's bytes, the body. -/
def bodyN (l : List Nat) : Nat := num (l.take 2)
def tagOf (l : List Nat) : List Nat := (l.drop 2).take 15
def bodyOf (l : List Nat) : List Nat := (l.drop 17).take (bodyN l)
def szB (l : List Nat) : Bool := decide (l.length = 64) || decide (l.length = 128)
def goodB (l : List Nat) : Bool := szB l && PV (tagOf l) && decide (bodyN l ≤ roomN ((l.length / 64 : Nat) : Int)) && decide (l = frameL (bodyOf l) (tagOf l) (l.length / 64))
def zeroB (l : List Nat) : Bool := l.all fun x => x == 0

theorem read_len {body own : List Nat} {S : Nat} (h : body.length < 65536) : bodyN (frameL body own S) = body.length := by
  have e : (frameL body own S).take 2 = digs 2 body.length := by
    simp only [frameL, frameH, List.append_assoc]
    rw [List.take_append_of_le_length (by rw [digs_length]; exact Nat.le_refl _), List.take_of_length_le (by rw [digs_length]; exact Nat.le_refl _)]
  unfold bodyN
  rw [e, num_digs 2 _ (by simpa using h)]
theorem read_tag {body own : List Nat} {S : Nat} (ho : own.length = 15) : tagOf (frameL body own S) = own := by
  unfold tagOf
  simp only [frameL, frameH, List.append_assoc]
  rw [List.drop_left' (digs_length 2 _), List.take_append_of_le_length (by omega), List.take_of_length_le (by omega)]
theorem read_body {body own : List Nat} {S : Nat} (ho : own.length = 15) (h : body.length < 65536) : bodyOf (frameL body own S) = body := by
  unfold bodyOf
  rw [read_len h]
  simp only [frameL, frameH]
  rw [List.append_assoc, List.append_assoc, List.drop_left' (by rw [List.length_append, digs_length, ho]), List.take_append_of_le_length (Nat.le_refl _), List.take_of_length_le (Nat.le_refl _)]

/-- What Seal makes is good. -/
theorem seal_good {a b c d e S : Nat} {body : List Nat} (hm : mayB a b c d e = true) (hr : body.length ≤ roomN (S : Int)) (hS : 0 < roomN (S : Int)) : goodB (frameL body (tagBytes a b c d e) S) = true := by
  have hf := room_fits hr hS
  have hlen := frameL_len (S := S) (tagBytes_len a b c d e) hf.1 hf.2.1
  have h88 := roomN_le (S : Int)
  have hdiv : 64 * S / 64 = S := by omega
  unfold goodB szB
  rw [read_tag (tagBytes_len a b c d e), read_body (tagBytes_len a b c d e) (by omega), read_len (by omega), hlen, hdiv, (PV_tag hm).1]
  simp only [decide_true, Bool.and_true, hr]
  have : S = 1 ∨ S = 2 := by omega
  rcases this with rfl | rfl <;> rfl
/-- What is good, sealed again, is those bytes. -/
theorem good_parts {l : List Nat} (h : goodB l = true) : (l.length = 64 ∨ l.length = 128) ∧ PV (tagOf l) = true ∧ bodyN l ≤ roomN ((l.length / 64 : Nat) : Int) ∧ l = frameL (bodyOf l) (tagOf l) (l.length / 64) := by
  unfold goodB szB at h
  simp only [Bool.and_eq_true, Bool.or_eq_true, decide_eq_true_eq] at h
  exact ⟨h.1.1.1, h.1.1.2, h.1.2, h.2⟩

/-- A register that is fed a number, the least byte first. -/
theorem feed_digs (k : Nat) : ∀ (r s : Nat), s < 256 ^ k → feed r (digs k s) = stps (8 * k) (r ^^^ s) := by
  induction k with
  | zero =>
    intro r s hs
    have : s = 0 := by simpa using hs
    subst this
    simp [digs, feed, stps]
  | succ k ih =>
    intro r s hs
    have h2 : s / 256 < 256 ^ k := by rw [Nat.pow_succ] at hs; omega
    rw [digs, feed, ih _ _ h2, show 8 * (k + 1) = 8 + 8 * k by omega, stps_add]
    congr 1
    unfold inb
    have e := split_xor 8 s
    rw [show (2 : Nat) ^ 8 = 256 from rfl] at e
    have e2 : r ^^^ s = (r ^^^ s % 256) ^^^ 2 ^ 8 * (s / 256) := by
      rw [show (2 : Nat) ^ 8 = 256 from rfl, Nat.xor_assoc, Nat.xor_comm (s % 256), ← e]
    rw [e2, stps_xor 8 (r ^^^ s % 256) (2 ^ 8 * (s / 256)), stps_pow]
/-- All rows that end in their own sum have one sum. -/
theorem sum_sealed {l : List Nat} (hl : ∀ b ∈ l, b < 256) : crcS (l ++ digs 4 (crcS l)) = inv (stps 32 4294967295) := by
  have hr := feed_lt (r := 4294967295) (by omega) hl
  have e0 : inv 0 = 4294967295 := rfl
  have e1 : crcS l = feed 4294967295 l ^^^ 4294967295 := by
    unfold crcS crcE
    rw [e0, inv_xor hr]
  show inv (feed (inv 0) (l ++ digs 4 (crcS l))) = _
  rw [e0, feed_append, feed_digs 4 _ _ (by have := crcE_lt 0 l; show crcE 0 l < 256 ^ 4; omega), e1, ← Nat.xor_assoc, Nat.xor_self, Nat.zero_xor]
theorem good_sum {l : List Nat} (h : goodB l = true) (hl : ∀ b ∈ l, b < 256) : crcS l = inv (stps 32 4294967295) := by
  obtain ⟨_, _, _, hf⟩ := good_parts h
  have hb : ∀ x ∈ bodyOf l, x < 256 := fun x hx => hl x (List.mem_of_mem_drop (List.mem_of_mem_take hx))
  have ho : ∀ x ∈ tagOf l, x < 256 := fun x hx => hl x (List.mem_of_mem_drop (List.mem_of_mem_take hx))
  rw [hf]
  exact sum_sealed (frameH_lt hb ho)
theorem good_same {l m : List Nat} (h : goodB l = true) (hm : goodB m = true) (hl : ∀ b ∈ l, b < 256) (hml : ∀ b ∈ m, b < 256) : crcS l = crcS m := (good_sum h hl).trans (good_sum hm hml).symm
theorem zero_PV {l : List Nat} (h : zeroB l = true) (hl : 17 ≤ l.length) : PV (tagOf l) = false := by
  have hz : ∀ x ∈ l, x = 0 := by
    intro x hx
    have := List.all_eq_true.1 h x hx
    simpa using this
  have hlen : (tagOf l).length = 15 := by unfold tagOf; rw [List.length_take, List.length_drop]; omega
  have hrep : tagOf l = List.replicate 15 0 := by
    refine List.eq_replicate_iff.2 ⟨hlen, fun x hx => hz x (List.mem_of_mem_drop (List.mem_of_mem_take hx))⟩
  rw [hrep]
  decide
theorem good_not_zero {l : List Nat} (h : goodB l = true) : zeroB l = false := by
  obtain ⟨hs, hp, _, _⟩ := good_parts h
  by_cases hz : zeroB l = true
  · have := zero_PV hz (by omega)
    rw [this] at hp
    cases hp
  · simpa using hz
end Go.Proofs.YtldgamgdbneneaaDoor

namespace Go.Proofs.YtldgamgdbneneaaDoor
set_option maxRecDepth 100000
open Go Go.RowKit

/-- The cells of bytes. -/
def vb (l : List Nat) : List Value := l.map fun (b : Nat) => Value.int .u8 (b : Int)
theorem vb_length (l : List Nat) : (vb l).length = l.length := by simp [vb]
theorem vb_get (l : List Nat) (i : Nat) : (vb l)[i]? = (l[i]?).map fun (b : Nat) => Value.int .u8 (b : Int) := by simp [vb]
theorem vb_append (a b : List Nat) : vb (a ++ b) = vb a ++ vb b := by simp [vb]
theorem vb_one (l : List Nat) : ∀ u ∈ vb l, u.oneCell' = true := by
  intro u hu
  simp only [vb, List.mem_map] at hu
  obtain ⟨b, _, rfl⟩ := hu
  rfl

/-- The bytes l lie at the address A, below block number B. -/
def Rd (w : World) (B : Nat) (A : Option Addr) (l : List Nat) : Prop :=
  (∀ b ∈ l, b < 256) ∧ (0 < l.length → ∃ g o, A = some ⟨g, o, none⟩ ∧ g < B ∧ ∀ j x, l[j]? = some x → w.cell? ⟨g, o + j, none⟩ = some (.int .u8 ((x : Nat) : Int)))

section
variable {w w' : World} {B B' : Nat} {A : Option Addr} {l : List Nat}
theorem Rd.nil_ : Rd w B A [] := ⟨by simp, fun h => absurd h (by simp)⟩
theorem Rd.lt (h : Rd w B A l) : ∀ b ∈ l, b < 256 := h.1
theorem Rd.at_ {k : Nat} (h : Rd w B A l) (hk : k < l.length) : ∃ g o x, A = some ⟨g, o, none⟩ ∧ g < B ∧ l[k]? = some x ∧ x < 256 ∧ w.cell? ⟨g, o + k, none⟩ = some (.int .u8 ((x : Nat) : Int)) := by
  obtain ⟨g, o, e, hg, hc⟩ := h.2 (by omega)
  exact ⟨g, o, l[k], e, hg, List.getElem?_eq_getElem hk, h.1 _ (List.getElem_mem hk), hc k _ (List.getElem?_eq_getElem hk)⟩
theorem Rd.keep (h : Rd w B A l) (hk : ∀ p : Addr, p.block < B → w'.cell? p = w.cell? p) : Rd w' B A l :=
  ⟨h.1, fun hn => by
    obtain ⟨g, o, e, hg, hc⟩ := h.2 hn
    exact ⟨g, o, e, hg, fun j x hx => (hk ⟨g, o + j, none⟩ hg).trans (hc j x hx)⟩⟩
theorem Rd.more (h : Rd w B A l) (hB : B ≤ B') : Rd w B' A l :=
  ⟨h.1, fun hn => by
    obtain ⟨g, o, e, hg, hc⟩ := h.2 hn
    exact ⟨g, o, e, by omega, hc⟩⟩
theorem Rd.below (h : Rd w B A l) (hb : Below B w w') : Rd w' B A l := h.keep fun _ hp => hb.cell hp
theorem Rd.drewN (h : Rd w B A l) (k : Nat) : Rd (w.drewN k) B A l := h.keep fun _ _ => rfl
theorem Rd.drop (h : Rd w B A l) {g o : Nat} (hA : A = some ⟨g, o, none⟩) (k : Nat) : Rd w B (some ⟨g, o + k, none⟩) (l.drop k) := by
  refine ⟨fun b hb => h.1 b (List.mem_of_mem_drop hb), fun hn => ?_⟩
  rw [List.length_drop] at hn
  obtain ⟨g', o', e, hg, hc⟩ := h.2 (by omega)
  rw [hA] at e
  injection e with e
  injection e with e1 e2
  subst e1; subst e2
  refine ⟨g, o + k, rfl, hg, fun j x hx => ?_⟩
  rw [Nat.add_assoc]
  exact hc _ x (by rw [← hx, List.getElem?_drop])
theorem Rd.take (h : Rd w B A l) (k : Nat) : Rd w B A (l.take k) := by
  refine ⟨fun b hb => h.1 b (List.mem_of_mem_take hb), fun hn => ?_⟩
  rw [List.length_take] at hn
  obtain ⟨g, o, e, hg, hc⟩ := h.2 (by omega)
  refine ⟨g, o, e, hg, fun j x hx => hc j x ?_⟩
  rw [List.getElem?_take] at hx
  split at hx
  · exact hx
  · cases hx
theorem Rd.of_own {base t : Nat} {n c : Nat} (h : w.ownsRow base t 1 (.slice A n c) n (vb l)) (hl : ∀ b ∈ l, b < 256) : Rd w w.heap.size A l := by
  refine ⟨hl, fun hn => ?_⟩
  have hlen := h.1
  rw [vb_length] at hlen
  rcases h.2 with ⟨he, h0⟩ | ⟨g, cap, cur, hv, _, hg, _⟩
  · subst h0; omega
  · injection hv with hA _ _
    subst hA
    refine ⟨g, 0, rfl, (Array.getElem?_eq_some_iff.1 hg).1, fun j x hx => ?_⟩
    have hj : j < l.length := (List.getElem?_eq_some_iff.1 hx).1
    rw [Nat.zero_add, h.cellAt j (by omega), vb_get, hx]
    rfl
end

theorem own_form {w : World} {base t n : Nat} {v : Value} {xs : List Value} (h : w.ownsRow base t 1 v n xs) : ∃ A c, v = .slice A n c ∧ n ≤ c ∧ c ≤ 9223372036854775807 := by
  rcases h.2 with ⟨rfl, rfl⟩ | ⟨g, cap, cur, rfl, _, _, h1, h2, _⟩
  · exact ⟨none, 0, rfl, Nat.le_refl _, by omega⟩
  · unfold maxLen at h2
    exact ⟨_, cap, rfl, h1, h2⟩

theorem take_step {l l' : List Nat} {k x : Nat} (h : l.take k = l'.take k) (hx : l[k]? = some x) (hy : l'[k]? = some x) : l.take (k + 1) = l'.take (k + 1) := by
  rw [List.take_add_one, List.take_add_one, h, hx, hy]
theorem ne_of_get {l l' : List Nat} {k x y : Nat} (hx : l[k]? = some x) (hy : l'[k]? = some y) (h : x ≠ y) : decide (l = l') = false := by
  simp only [decide_eq_false_iff_not]
  rintro rfl
  rw [hx] at hy
  injection hy with hy
  exact h hy
theorem drewN_add (w : World) (a b : Nat) : (w.drewN a).drewN b = w.drewN (a + b) := by
  unfold World.drewN
  simp [Nat.add_assoc]
end Go.Proofs.YtldgamgdbneneaaDoor
