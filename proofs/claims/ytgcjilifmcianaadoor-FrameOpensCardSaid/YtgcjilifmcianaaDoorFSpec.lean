/-
  Plain facts on frames, without any program: a frame's bytes, which bytes are good, that all good ones have one sum.
-/
import Derived.Test.YtgcjilifmcianaaDoorPoly
import Derived.Test.YtgcjilifmcianaaDoorTPlain
namespace Go.Proofs.YtgcjilifmcianaaDoor
open Go

/-- The most that a body has in so many sectors. -/
def roomN (s : Int) : Nat := if s = 1 then 43 else if s = 2 then 88 else 0
theorem roomN_one : roomN 1 = 43 := rfl
theorem roomN_two : roomN 2 = 88 := rfl
theorem roomN_no {s : Int} (h1 : s ≠ 1) (h2 : s ≠ 2) : roomN s = 0 := by unfold roomN; rw [if_neg h1, if_neg h2]
theorem roomN_le (s : Int) : roomN s ≤ 88 := by unfold roomN; (repeat' split) <;> omega
theorem roomN_pos {s : Int} (h : 0 < roomN s) : s = 1 ∨ s = 2 := by
  by_cases h1 : s = 1
  · exact .inl h1
  · by_cases h2 : s = 2
    · exact .inr h2
    · rw [roomN_no h1 h2] at h; omega

/-- What stands ahead of a frame's sum; a frame. -/
def frameH (body own : List Nat) (S : Nat) : List Nat := digs 2 body.length ++ own ++ body ++ List.replicate (64 * S - 21 - body.length) 0
def frameL (body own : List Nat) (S : Nat) : List Nat := frameH body own S ++ digs 4 (crcS (frameH body own S))
theorem frameH_lt {body own : List Nat} {S : Nat} (hb : ∀ x ∈ body, x < 256) (ho : ∀ x ∈ own, x < 256) : ∀ x ∈ frameH body own S, x < 256 := by
  intro x hx
  simp only [frameH, List.mem_append, List.mem_replicate] at hx
  rcases hx with ((h | h) | h) | ⟨_, h⟩
  · exact digs_lt _ _ x h
  · exact ho x h
  · exact hb x h
  · omega
theorem frameL_lt {body own : List Nat} {S : Nat} (hb : ∀ x ∈ body, x < 256) (ho : ∀ x ∈ own, x < 256) : ∀ x ∈ frameL body own S, x < 256 := by
  intro x hx
  rcases List.mem_append.1 hx with h | h
  · exact frameH_lt hb ho x h
  · exact digs_lt _ _ x h
theorem frameH_len {body own : List Nat} {S : Nat} (ho : own.length = 15) (hr : body.length ≤ 64 * S - 21) (hS : 1 ≤ S) : (frameH body own S).length = 64 * S - 4 := by
  simp only [frameH, List.length_append, digs_length, ho, List.length_replicate]
  omega
theorem frameL_len {body own : List Nat} {S : Nat} (ho : own.length = 15) (hr : body.length ≤ 64 * S - 21) (hS : 1 ≤ S) : (frameL body own S).length = 64 * S := by
  rw [frameL, List.length_append, frameH_len ho hr hS, digs_length]
  omega
theorem room_fits {n S : Nat} (h : n ≤ roomN (S : Int)) (hS : 0 < roomN (S : Int)) : n ≤ 64 * S - 21 ∧ 1 ≤ S ∧ S ≤ 2 := by
  rcases roomN_pos hS with h1 | h1
  · have : S = 1 := by omega
    subst this
    rw [show roomN ((1 : Nat) : Int) = 43 from rfl] at h
    omega
  · have : S = 2 := by omega
    subst this
    rw [show roomN ((2 : Nat) : Int) = 88 from rfl] at h
    omega

/-- What is read of bytes: the body's length, the tag's bytes, the body. -/
def bodyN (l : List Nat) : Nat := num (l.take 2)
def tagOf (l : List Nat) : List Nat := (l.drop 2).take 15
def bodyOf (l : List Nat) : List Nat := (l.drop 17).take (bodyN l)
def szB (l : List Nat) : Bool := decide (l.length = 64) || decide (l.length = 128)
def goodB (l : List Nat) : Bool := szB l && PV (tagOf l) && decide (bodyN l ≤ roomN ((l.length / 64 : Nat) : Int)) && decide (l = frameL (bodyOf l) (tagOf l) (l.length / 64))
def zeroB (l : List Nat) : Bool := l.all fun x => x == 0

theorem read_len {body own : List Nat} {S : Nat} (h : body.length < 65536) : bodyN (frameL body own S) = body.length := by
  have e : (frameL body own S).take 2 = digs 2 body.length := by
    simp only [frameL, frameH, List.append_assoc]
    rw [List.take_append_of_le_length (by rw [digs_length]; exact Nat.le_refl _), List.take_of_length_le (by rw [digs_length]; exact Nat.le_refl _)]
  unfold bodyN
  rw [e, num_digs 2 _ (by simpa using h)]
theorem read_tag {body own : List Nat} {S : Nat} (ho : own.length = 15) : tagOf (frameL body own S) = own := by
  unfold tagOf
  simp only [frameL, frameH, List.append_assoc]
  rw [List.drop_left' (digs_length 2 _), List.take_append_of_le_length (by omega), List.take_of_length_le (by omega)]
theorem read_body {body own : List Nat} {S : Nat} (ho : own.length = 15) (h : body.length < 65536) : bodyOf (frameL body own S) = body := by
  unfold bodyOf
  rw [read_len h]
  simp only [frameL, frameH]
  rw [List.append_assoc, List.append_assoc, List.drop_left' (by rw [List.length_append, digs_length, ho]), List.take_append_of_le_length (Nat.le_refl _), List.take_of_length_le (Nat.le_refl _)]

/-- What Seal makes is good. -/
theorem seal_good {a b c d e S : Nat} {body : List Nat} (hm : mayB a b c d e = true) (hr : body.length ≤ roomN (S : Int)) (hS : 0 < roomN (S : Int)) : goodB (frameL body (tagBytes a b c d e) S) = true := by
  have hf := room_fits hr hS
  have hlen := frameL_len (S := S) (tagBytes_len a b c d e) hf.1 hf.2.1
  have h88 := roomN_le (S : Int)
  have hdiv : 64 * S / 64 = S := by omega
  unfold goodB szB
  rw [read_tag (tagBytes_len a b c d e), read_body (tagBytes_len a b c d e) (by omega), read_len (by omega), hlen, hdiv, (PV_tag hm).1]
  simp only [decide_true, Bool.and_true, hr]
  have : S = 1 ∨ S = 2 := by omega
  rcases this with rfl | rfl <;> rfl
/-- What is good, sealed again, is those bytes. -/
theorem good_parts {l : List Nat} (h : goodB l = true) : (l.length = 64 ∨ l.length = 128) ∧ PV (tagOf l) = true ∧ bodyN l ≤ roomN ((l.length / 64 : Nat) : Int) ∧ l = frameL (bodyOf l) (tagOf l) (l.length / 64) := by
  unfold goodB szB at h
  simp only [Bool.and_eq_true, Bool.or_eq_true, decide_eq_true_eq] at h
  exact ⟨h.1.1.1, h.1.1.2, h.1.2, h.2⟩

/-- A register that is fed a number, the least byte first. -/
theorem feed_digs (k : Nat) : ∀ (r s : Nat), s < 256 ^ k → feed r (digs k s) = stps (8 * k) (r ^^^ s) := by
  induction k with
  | zero =>
    intro r s hs
    have : s = 0 := by simpa using hs
    subst this
    simp [digs, feed, stps]
  | succ k ih =>
    intro r s hs
    have h2 : s / 256 < 256 ^ k := by rw [Nat.pow_succ] at hs; omega
    rw [digs, feed, ih _ _ h2, show 8 * (k + 1) = 8 + 8 * k by omega, stps_add]
    congr 1
    unfold inb
    have e := split_xor 8 s
    rw [show (2 : Nat) ^ 8 = 256 from rfl] at e
    have e2 : r ^^^ s = (r ^^^ s % 256) ^^^ 2 ^ 8 * (s / 256) := by
      rw [show (2 : Nat) ^ 8 = 256 from rfl, Nat.xor_assoc, Nat.xor_comm (s % 256), ← e]
    rw [e2, stps_xor 8 (r ^^^ s % 256) (2 ^ 8 * (s / 256)), stps_pow]
/-- All rows that end in their own sum have one sum. -/
theorem sum_sealed {l : List Nat} (hl : ∀ b ∈ l, b < 256) : crcS (l ++ digs 4 (crcS l)) = inv (stps 32 4294967295) := by
  have hr := feed_lt (r := 4294967295) (by omega) hl
  have e0 : inv 0 = 4294967295 := rfl
  have e1 : crcS l = feed 4294967295 l ^^^ 4294967295 := by
    unfold crcS crcE
    rw [e0, inv_xor hr]
  show inv (feed (inv 0) (l ++ digs 4 (crcS l))) = _
  rw [e0, feed_append, feed_digs 4 _ _ (by have := crcE_lt 0 l; show crcE 0 l < 256 ^ 4; omega), e1, ← Nat.xor_assoc, Nat.xor_self, Nat.zero_xor]
theorem good_sum {l : List Nat} (h : goodB l = true) (hl : ∀ b ∈ l, b < 256) : crcS l = inv (stps 32 4294967295) := by
  obtain ⟨_, _, _, hf⟩ := good_parts h
  have hb : ∀ x ∈ bodyOf l, x < 256 := fun x hx => hl x (List.mem_of_mem_drop (List.mem_of_mem_take hx))
  have ho : ∀ x ∈ tagOf l, x < 256 := fun x hx => hl x (List.mem_of_mem_drop (List.mem_of_mem_take hx))
  rw [hf]
  exact sum_sealed (frameH_lt hb ho)
theorem good_same {l m : List Nat} (h : goodB l = true) (hm : goodB m = true) (hl : ∀ b ∈ l, b < 256) (hml : ∀ b ∈ m, b < 256) : crcS l = crcS m := (good_sum h hl).trans (good_sum hm hml).symm
theorem zero_PV {l : List Nat} (h : zeroB l = true) (hl : 17 ≤ l.length) : PV (tagOf l) = false := by
  have hz : ∀ x ∈ l, x = 0 := by
    intro x hx
    have := List.all_eq_true.1 h x hx
    simpa using this
  have hlen : (tagOf l).length = 15 := by unfold tagOf; rw [List.length_take, List.length_drop]; omega
  have hrep : tagOf l = List.replicate 15 0 := by
    refine List.eq_replicate_iff.2 ⟨hlen, fun x hx => hz x (List.mem_of_mem_drop (List.mem_of_mem_take hx))⟩
  rw [hrep]
  decide
theorem good_not_zero {l : List Nat} (h : goodB l = true) : zeroB l = false := by
  obtain ⟨hs, hp, _, _⟩ := good_parts h
  by_cases hz : zeroB l = true
  · have := zero_PV hz (by omega)
    rw [this] at hp
    cases hp
  · simpa using hz
end Go.Proofs.YtgcjilifmcianaaDoor
