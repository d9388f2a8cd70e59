/-
  Plain facts on frames: which checks tell the good ones; bits that are turned about.
-/
import Derived.Test.YtgcjilifmcianaaDoorFSpec
import Derived.Test.YtgcjilifmcianaaDoorFlip
import Derived.Test.YtgcjilifmcianaaDoorOrd
namespace Go.Proofs.YtgcjilifmcianaaDoor
open Go

/-- Of bytes of 64 or 128: the tag, the length, the noughts, the sum, each by itself. -/
def padOf (l : List Nat) : List Nat := (l.drop (17 + bodyN l)).take (l.length - 21 - bodyN l)
def sumOf (l : List Nat) : List Nat := l.drop (l.length - 4)
theorem room_le_of {l : List Nat} (hs : l.length = 64 ∨ l.length = 128) (h : bodyN l ≤ roomN ((l.length / 64 : Nat) : Int)) : bodyN l + 21 ≤ l.length ∧ l.length / 64 * 64 = l.length := by
  rcases hs with h64 | h64
  · rw [h64] at h ⊢
    rw [show roomN ((64 / 64 : Nat) : Int) = 43 from rfl] at h
    omega
  · rw [h64] at h ⊢
    rw [show roomN ((128 / 64 : Nat) : Int) = 88 from rfl] at h
    omega
theorem take_end {l : List Nat} {n : Nat} (h : n + 21 ≤ l.length) : l.take (l.length - 4) = l.take 2 ++ (l.drop 2).take 15 ++ (l.drop 17).take n ++ (l.drop (17 + n)).take (l.length - 21 - n) := by
  have e1 : l.length - 4 = 2 + (15 + (n + (l.length - 21 - n))) := by omega
  rw [e1, List.take_add, List.take_add, List.take_add, List.drop_drop, List.drop_drop, ← List.append_assoc, ← List.append_assoc]
theorem good_of_parts {l : List Nat} (hl : ∀ b ∈ l, b < 256) (hs : l.length = 64 ∨ l.length = 128) (hp : PV (tagOf l) = true) (hn : bodyN l ≤ roomN ((l.length / 64 : Nat) : Int)) (hz : zeroB (padOf l) = true) (hc : sumOf l = digs 4 (crcS (l.take (l.length - 4)))) : goodB l = true := by
  obtain ⟨hroom, hdiv⟩ := room_le_of hs hn
  have hbl : (bodyOf l).length = bodyN l := by unfold bodyOf; rw [List.length_take, List.length_drop]; omega
  have h2 : digs 2 (bodyOf l).length = l.take 2 := by
    rw [hbl]
    have e := digs_num (l.take 2) (fun b hb => hl b (List.mem_of_mem_take hb))
    rw [List.length_take, Nat.min_eq_left (by omega)] at e
    exact e
  have hpad : List.replicate (64 * (l.length / 64) - 21 - (bodyOf l).length) 0 = (l.drop (17 + bodyN l)).take (l.length - 21 - bodyN l) := by
    rw [hbl, Nat.mul_comm 64, hdiv]
    symm
    refine List.eq_replicate_iff.2 ⟨by rw [List.length_take, List.length_drop]; omega, fun x hx => ?_⟩
    have := List.all_eq_true.1 hz x hx
    simpa using this
  have hh : frameH (bodyOf l) (tagOf l) (l.length / 64) = l.take (l.length - 4) := by
    rw [take_end hroom]
    unfold frameH
    rw [h2, hpad]
    rfl
  have hf : frameL (bodyOf l) (tagOf l) (l.length / 64) = l := by
    unfold frameL
    rw [hh, ← hc]
    exact List.take_append_drop _ _
  unfold goodB szB
  rw [hp, hf]
  simp only [hn, decide_true, Bool.and_true]
  rcases hs with h | h <;> simp [h]
theorem parts_of_good {l : List Nat} (h : goodB l = true) : zeroB (padOf l) = true ∧ sumOf l = digs 4 (crcS (l.take (l.length - 4))) := by
  obtain ⟨hs, hp, hn, hf⟩ := good_parts h
  obtain ⟨hroom, hdiv⟩ := room_le_of hs hn
  have hbl : (bodyOf l).length = bodyN l := by unfold bodyOf; rw [List.length_take, List.length_drop]; omega
  have hol : (tagOf l).length = 15 := by unfold tagOf; rw [List.length_take, List.length_drop]; omega
  have hS : 1 ≤ l.length / 64 := by omega
  have hHl : (frameH (bodyOf l) (tagOf l) (l.length / 64)).length = l.length - 4 := by
    rw [frameH_len hol (by omega) hS]; omega
  have ht : l.take (l.length - 4) = frameH (bodyOf l) (tagOf l) (l.length / 64) := by
    have e : l.take (l.length - 4) = (frameL (bodyOf l) (tagOf l) (l.length / 64)).take (l.length - 4) := congrArg (List.take (l.length - 4)) hf
    rw [e, frameL, List.take_append_of_le_length (by omega), List.take_of_length_le (by omega)]
  have hd : l.drop (l.length - 4) = digs 4 (crcS (frameH (bodyOf l) (tagOf l) (l.length / 64))) := by
    have e : l.drop (l.length - 4) = (frameL (bodyOf l) (tagOf l) (l.length / 64)).drop (l.length - 4) := congrArg (List.drop (l.length - 4)) hf
    rw [e, frameL, List.drop_left' hHl]
  refine ⟨?_, ?_⟩
  · have hx := take_end hroom
    rw [ht] at hx
    unfold frameH at hx
    have hlen2 : (digs 2 (bodyOf l).length ++ tagOf l ++ bodyOf l).length = (l.take 2 ++ (l.drop 2).take 15 ++ (l.drop 17).take (bodyN l)).length := by
      simp only [List.length_append, digs_length, hol, hbl, List.length_take, List.length_drop]
      omega
    have hpe := (List.append_inj hx hlen2).2
    refine List.all_eq_true.2 fun x hx => ?_
    have : x ∈ List.replicate (64 * (l.length / 64) - 21 - (bodyOf l).length) 0 := by rw [hpe]; exact hx
    have := (List.mem_replicate.1 this).2
    simp [this]
  · unfold sumOf
    rw [hd, ht]
/-- The sum as a number. -/
theorem sum_num {l : List Nat} (hl : ∀ b ∈ l, b < 256) (h4 : 4 ≤ l.length) (s : Nat) (hs : s < 4294967296) : sumOf l = digs 4 s ↔ num (sumOf l) = s := by
  have hlen : (sumOf l).length = 4 := by unfold sumOf; rw [List.length_drop]; omega
  constructor
  · intro h
    rw [h, num_digs 4 s (by simpa using hs)]
  · intro h
    have e := digs_num (sumOf l) (fun b hb => hl b (List.mem_of_mem_drop hb))
    rw [hlen, h] at e
    exact e.symm

/-- Up to three bits that are turned about: good just if nothing is changed. -/
theorem spoilt {l ps : List Nat} (hg : goodB l = true) (hl : ∀ x ∈ l, x < 256) (hps : ps.length ≤ 3) (hp : ∀ p ∈ ps, p < 8 * l.length) : goodB (flips l ps) = decide (l = flips l ps) := by
  by_cases h : l = flips l ps
  · rw [decide_eq_true h, ← h]
    exact hg
  · rw [decide_eq_false h]
    by_cases hg2 : goodB (flips l ps) = true
    · obtain ⟨hs, _⟩ := good_parts hg
      exact absurd (few_ne hl (by omega) hps hp (good_same hg hg2 hl (flips_lt ps hl))) h
    · simpa using hg2
/-- Some bits within 32: never good. -/
theorem near_bad {l : List Nat} {p w : Nat} (hg : goodB l = true) (hl : ∀ x ∈ l, x < 256) (hp : p + 32 ≤ 8 * l.length) (hw : w < 4294967296) (h0 : w ≠ 0) : goodB (flipN l p w 32) = false := by
  by_cases hg2 : goodB (flipN l p w 32) = true
  · exact absurd (good_same hg hg2 hl (flipN_lt p w 32 hl)) (near_ne hl hp hw h0)
  · simpa using hg2
/-- Bytes of another length are never good. -/
theorem good_size {l : List Nat} (h : l.length ≠ 64) (h' : l.length ≠ 128) : goodB l = false := by
  unfold goodB szB
  simp [h, h']
end Go.Proofs.YtgcjilifmcianaaDoor
