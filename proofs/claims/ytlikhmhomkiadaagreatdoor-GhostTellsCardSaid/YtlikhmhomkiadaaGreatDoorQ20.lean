/-
  Plain facts on what is hurt, without any program: sectors, places.
  Which powers of x are 1: none up to 12,000; so two bits of a row are told apart.
  Plain facts on frames: which checks tell the good ones; bits that are turned about.
  Plain facts on what Open answers, told by what Seal answers; and a piece of a slice of bytes.
  A tag that is stored into a block of its own: what the block holds then, and what stays.
-/
import Derived.Test.YtlikhmhomkiadaaGreatDoorQ02
import Derived.Test.YtlikhmhomkiadaaGreatDoorQ03
import Derived.Test.YtlikhmhomkiadaaGreatDoorQ12
import Derived.Test.YtlikhmhomkiadaaGreatDoorQ13
import Derived.Test.YtlikhmhomkiadaaGreatDoorQ18
namespace Go.Proofs.YtlikhmhomkiadaaGreatDoor
set_option maxRecDepth 100000

/-- A sector is hurt: lost, or other at rest than meant. -/
def DM.hurt (m : DM) (s : Int) : Bool := (m.at_ s).2.1 || !decide ((m.at_ s).1 = (m.means s).1)
/-- Those of n sectors from a on that are hurt. -/
def hurtsIn (h : Int → Bool) (a : Int) (n : Nat) : List Int := ((List.range n).map fun k => a + ((k : Nat) : Int)).filter h
theorem hurtsIn_zero (h : Int → Bool) (a : Int) : hurtsIn h a 0 = [] := rfl
theorem hurtsIn_succ (h : Int → Bool) (a : Int) (n : Nat) : hurtsIn h a (n + 1) = if h (a + (n : Int)) = true then hurtsIn h a n ++ [a + (n : Int)] else hurtsIn h a n := by
  unfold hurtsIn
  rw [List.range_succ, List.map_append, List.filter_append]
  by_cases hh : h (a + (n : Int)) = true
  · simp [hh]
  · simp [hh]
theorem hurtsIn_len (h : Int → Bool) (a : Int) (n : Nat) : (hurtsIn h a n).length ≤ n := by
  unfold hurtsIn
  refine Nat.le_trans (List.length_filter_le _ _) ?_
  simp
theorem hurtsIn_mem {h : Int → Bool} {a : Int} {n : Nat} {s : Int} : s ∈ hurtsIn h a n ↔ h s = true ∧ a ≤ s ∧ s < a + n := by
  unfold hurtsIn
  rw [List.mem_filter, List.mem_map]
  constructor
  · rintro ⟨⟨k, hk, rfl⟩, hh⟩
    rw [List.mem_range] at hk
    exact ⟨hh, by omega, by omega⟩
  · rintro ⟨hh, h1, h2⟩
    exact ⟨⟨(s - a).toNat, by rw [List.mem_range]; omega, by omega⟩, hh⟩
theorem hurtsIn_nil {h : Int → Bool} {a : Int} {n : Nat} (hh : ∀ s, a ≤ s → s < a + n → h s = false) : hurtsIn h a n = [] := by
  rw [List.eq_nil_iff_forall_not_mem]
  intro s hs
  obtain ⟨h1, h2, h3⟩ := hurtsIn_mem.1 hs
  rw [hh s h2 h3] at h1
  cases h1
/-- Is any of n sectors from a on? -/
def anyIn (h : Int → Bool) (a : Int) (n : Nat) : Bool := (List.range n).any fun k => h (a + ((k : Nat) : Int))
theorem anyIn_iff {h : Int → Bool} {a : Int} {n : Nat} : anyIn h a n = true ↔ ∃ s, h s = true ∧ a ≤ s ∧ s < a + n := by
  unfold anyIn
  rw [List.any_eq_true]
  constructor
  · rintro ⟨k, hk, hh⟩
    rw [List.mem_range] at hk
    exact ⟨_, hh, by omega, by omega⟩
  · rintro ⟨s, hh, h1, h2⟩
    refine ⟨(s - a).toNat, by rw [List.mem_range]; omega, ?_⟩
    rw [show a + (((s - a).toNat : Nat) : Int) = s by omega]
    exact hh
theorem anyIn_nil {h : Int → Bool} {a : Int} {n : Nat} : anyIn h a n = !(hurtsIn h a n).isEmpty := by
  rw [Bool.eq_iff_iff, anyIn_iff]
  constructor
  · rintro ⟨s, hs⟩
    have := hurtsIn_mem.2 hs
    cases hl : hurtsIn h a n with
    | nil => rw [hl] at this; cases this
    | cons x l => rfl
  · intro hh
    cases hl : hurtsIn h a n with
    | nil => rw [hl] at hh; cases hh
    | cons x l => exact ⟨x, hurtsIn_mem.1 (by rw [hl]; simp)⟩
theorem anyIn_zero (h : Int → Bool) (a : Int) : anyIn h a 0 = false := rfl
theorem anyIn_succ (h : Int → Bool) (a : Int) (n : Nat) : anyIn h a (n + 1) = (anyIn h a n || h (a + (n : Int))) := by
  unfold anyIn
  rw [List.range_succ, List.any_append]
  simp
/-- The bytes of n sectors from a on. -/
def catS (f : Int → List Nat) (a : Int) : Nat → List Nat
  | 0 => []
  | n + 1 => catS f a n ++ f (a + (n : Int))
theorem catS_succ (f : Int → List Nat) (a : Int) (n : Nat) : catS f a (n + 1) = catS f a n ++ f (a + (n : Int)) := rfl
theorem catS_lt {f : Int → List Nat} {a : Int} {n : Nat} (h : ∀ s, ∀ x ∈ f s, x < 256) : ∀ x ∈ catS f a n, x < 256 := by
  induction n with
  | zero => intro x hx; cases hx
  | succ n ih =>
    intro x hx
    rw [catS_succ, List.mem_append] at hx
    exact hx.elim (ih x) (h _ x)
theorem catS_len {f : Int → List Nat} {a : Int} {n : Nat} (h : ∀ s, (f s).length ≤ 64) : (catS f a n).length ≤ 64 * n := by
  induction n with
  | zero => simp [catS]
  | succ n ih =>
    rw [catS_succ, List.length_append]
    have := h (a + (n : Int))
    omega
theorem catS_congr {f g : Int → List Nat} {a : Int} {n : Nat} (h : ∀ s, a ≤ s → s < a + n → f s = g s) : catS f a n = catS g a n := by
  induction n with
  | zero => rfl
  | succ n ih =>
    rw [catS_succ, catS_succ, ih (fun s h1 h2 => h s h1 (by omega)), h _ (by omega) (by omega)]
/-- What a place has at rest, what it is meant to have, whether one of its sectors is lost. -/
def DM.restL (m : DM) (a : Int) (n : Nat) : List Nat := catS (fun s => (m.at_ s).1) a n
def DM.meantL (m : DM) (a : Int) (n : Nat) : List Nat := catS (fun s => (m.means s).1) a n
def DM.lostB (m : DM) (a : Int) (n : Nat) : Bool := anyIn (fun s => (m.at_ s).2.1) a n
theorem at_sect {m : DM} (h : m.Ok) (s : Int) : (m.at_ s).1 = [] ∨ Sect (m.at_ s).1 := by
  unfold DM.at_
  split
  · exact .inl rfl
  · rename_i hh
    split
    · exact .inl rfl
    · right
      have hlt := DM.has_lt hh
      rw [List.getD_eq_getElem?_getD, List.getElem?_eq_getElem hlt, Option.getD_some]
      exact h.rests _ (List.getElem_mem hlt)
theorem means_sect {m : DM} (h : m.Ok) (s : Int) : (m.means s).1 = [] ∨ Sect (m.means s).1 := by
  unfold DM.means
  split
  · exact .inl rfl
  · rename_i hh
    right
    have hlt := DM.has_lt hh
    have hlt : s.toNat < m.meant.length := by rw [h.meant]; exact hlt
    rw [List.getD_eq_getElem?_getD, List.getElem?_eq_getElem hlt, Option.getD_some]
    exact h.means _ (List.getElem_mem hlt)
theorem sect_lt {b : List Nat} (h : b = [] ∨ Sect b) : ∀ x ∈ b, x < 256 := by
  rcases h with rfl | h
  · intro x hx; cases hx
  · exact h.2
theorem sect_len {b : List Nat} (h : b = [] ∨ Sect b) : b.length ≤ 64 := by
  rcases h with rfl | h
  · simp
  · rw [h.1]; omega
theorem unhurt {m : DM} {s : Int} (h : m.hurt s = false) : (m.at_ s).2.1 = false ∧ (m.at_ s).1 = (m.means s).1 := by
  unfold DM.hurt at h
  rw [Bool.or_eq_false_iff] at h
  exact ⟨h.1, by simpa using h.2⟩
/-- A place none of whose sectors is hurt has what it is meant to have. -/
theorem unhurt_place {m : DM} {a : Int} {n : Nat} (h : anyIn m.hurt a n = false) : m.lostB a n = false ∧ m.restL a n = m.meantL a n := by
  have hs : ∀ s, a ≤ s → s < a + n → m.hurt s = false := fun s h1 h2 => by
    cases hh : m.hurt s with
    | false => rfl
    | true => rw [anyIn_iff.2 ⟨s, hh, h1, h2⟩] at h; cases h
  refine ⟨?_, catS_congr fun s h1 h2 => (unhurt (hs s h1 h2)).2⟩
  unfold DM.lostB
  cases hl : anyIn (fun s => (m.at_ s).2.1) a n with
  | false => rfl
  | true =>
    obtain ⟨s, h1, h2, h3⟩ := anyIn_iff.1 hl
    rw [(unhurt (hs s h2 h3)).1] at h1
    cases h1
/-- What the observers answer of whom: no such disk, replica, place. -/
def knownG (sz : Nat) (r : Int) : Int := if sz = 0 then 1 else if sz < 156 ∨ r < 0 ∨ 7 ≤ r then 2 else 0
def placeG (sz : Nat) (r g p : Int) : Int := if knownG sz r ≠ 0 then knownG sz r else if firstS g p < 0 then 2 else 0
theorem knownG_ok {sz : Nat} {r : Int} (h : knownG sz r = 0) : 156 ≤ sz ∧ 0 ≤ r ∧ r < 7 := by
  unfold knownG at h
  split at h
  · cases h
  · split at h
    · cases h
    · omega
theorem placeG_ok {sz : Nat} {r g p : Int} (h : placeG sz r g p = 0) : knownG sz r = 0 ∧ 0 ≤ firstS g p := by
  unfold placeG at h
  split at h
  · rename_i hh; exact absurd h hh
  · rename_i hh
    split at h
    · cases h
    · exact ⟨by simpa using hh, by omega⟩
end Go.Proofs.YtlikhmhomkiadaaGreatDoor

namespace Go.Proofs.YtlikhmhomkiadaaGreatDoor
set_option maxRecDepth 100000
open Go

def walkB : Nat → Nat → Nat → Bool
  | 0, _, _ => true
  | m + 1, b, r => walk1 b r && (match stps b r with
    | 0 => false
    | q + 1 => walkB m b (q + 1))
theorem walkB_get {m b r : Nat} (h : walkB m b r = true) (j : Nat) (hj : j < m * b) : stps j r ≠ 1 := by
  induction m generalizing r j with
  | zero => omega
  | succ m ih =>
    simp only [walkB, Bool.and_eq_true] at h
    by_cases hb : j < b
    · exact walk1_get h.1 j hb
    · have h2 := h.2
      have e : stps j r = stps (j - b) (stps b r) := by rw [← stps_add, show b + (j - b) = j by omega]
      rw [e]
      split at h2
      · cases h2
      · rename_i q hq
        rw [hq]
        exact ih h2 (j - b) (by rw [Nat.succ_mul] at hj; omega)
set_option maxRecDepth 100000 in
theorem walk_all : walkB 120 100 (stp 1) = true := by decide +kernel
theorem ord_ne {d : Nat} (h0 : 0 < d) (h : d ≤ 12000) : stps d 1 ≠ 1 := by
  have := walkB_get walk_all (d - 1) (by omega)
  rw [show d = 1 + (d - 1) by omega, stps_add]
  exact this
theorem bit_inj {m p q : Nat} (hm : m ≤ 12000) (hp : p < m) (hq : q < m) (h : stps (m - p) 1 = stps (m - q) 1) : p = q := by
  rcases Nat.lt_trichotomy p q with hlt | heq | hlt
  · exfalso
    rw [show m - p = (q - p) + (m - q) by omega, stps_add] at h
    exact ord_ne (show 0 < q - p by omega) (by omega) (stps_inj (stps_lt (by omega)) (by omega) h)
  · exact heq
  · exfalso
    rw [show m - q = (p - q) + (m - p) by omega, stps_add] at h
    exact ord_ne (show 0 < p - q by omega) (by omega) (stps_inj (stps_lt (by omega)) (by omega) h.symm)

def flips : List Nat → List Nat → List Nat
  | l, [] => l
  | l, p :: ps => flips (flipB l p) ps
theorem flips_snoc (l : List Nat) (ps : List Nat) (p : Nat) : flips l (ps ++ [p]) = flipB (flips l ps) p := by
  induction ps generalizing l with
  | nil => rfl
  | cons q ps ih => exact ih _
theorem flips_length (l ps : List Nat) : (flips l ps).length = l.length := by
  induction ps generalizing l with
  | nil => rfl
  | cons p ps ih => rw [flips, ih, flipB_length]
theorem flips_lt {l : List Nat} (ps : List Nat) (hl : ∀ x ∈ l, x < 256) : ∀ x ∈ flips l ps, x < 256 := by
  induction ps generalizing l with
  | nil => exact hl
  | cons p ps ih => exact ih (flipB_lt p hl)
theorem few_ne {l ps : List Nat} (hl : ∀ x ∈ l, x < 256) (hn : 8 * l.length ≤ 12000) (hps : ps.length ≤ 3) (hp : ∀ p ∈ ps, p < 8 * l.length) (he : crcS l = crcS (flips l ps)) : l = flips l ps := by
  have h1 : (1 : Nat) < 4294967296 := by omega
  match ps, hps, hp, he with
  | [], _, _, _ => rfl
  | [p], _, hp, he =>
    exfalso
    have := crcS_diff hl (flips_lt [p] hl) (flipB_feed _ (hp p (by simp))) he
    have := stps_nz h1 this
    omega
  | [p, q], _, hp, he =>
    have e : feed 4294967295 (flips l [p, q]) = feed 4294967295 l ^^^ (stps (8 * l.length - p) 1 ^^^ stps (8 * l.length - q) 1) := by
      simp only [flips]
      rw [flipB_feed _ (by rw [flipB_length]; exact hp q (by simp)), flipB_feed _ (hp p (by simp)), flipB_length, Nat.xor_assoc]
    have h2 := xor_eq_zero' (crcS_diff hl (flips_lt [p, q] hl) e he)
    have h3 := bit_inj hn (hp p (by simp)) (hp q (by simp)) h2
    subst h3
    simp only [flips]
    rw [flipB_twice]
  | [p, q, r], _, hp, he =>
    exfalso
    have e : feed 4294967295 (flips l [p, q, r]) = feed 4294967295 l ^^^ (stps (8 * l.length - p) 1 ^^^ stps (8 * l.length - q) 1 ^^^ stps (8 * l.length - r) 1) := by
      simp only [flips]
      rw [flipB_feed _ (by rw [flipB_length, flipB_length]; exact hp r (by simp)), flipB_feed _ (by rw [flipB_length]; exact hp q (by simp)), flipB_feed _ (hp p (by simp))]
      simp only [flipB_length]
      ac_rfl
    have h2 := crcS_diff hl (flips_lt [p, q, r] hl) e he
    have h3 := congrArg par h2
    rw [par_xor, par_xor, par_stps h1, par_stps h1, par_stps h1, show par 1 = 1 by decide, show par 0 = 0 by decide] at h3
    omega
end Go.Proofs.YtlikhmhomkiadaaGreatDoor

namespace Go.Proofs.YtlikhmhomkiadaaGreatDoor
set_option maxRecDepth 100000
open Go

/-- Of bytes of 64 or 128: the tag, the length, the noughts, the sum, each by itself. -/
def padOf (l : List Nat) : List Nat := (l.drop (17 + bodyN l)).take (l.length - 21 - bodyN l)
def sumOf (l : List Nat) : List Nat := l.drop (l.length - 4)
theorem room_le_of {l : List Nat} (hs : l.length = 64 ∨ l.length = 128) (h : bodyN l ≤ roomN ((l.length / 64 : Nat) : Int)) : bodyN l + 21 ≤ l.length ∧ l.length / 64 * 64 = l.length := by
  rcases hs with h64 | h64
  · rw [h64] at h ⊢
    rw [show roomN ((64 / 64 : Nat) : Int) = 43 from rfl] at h
    omega
  · rw [h64] at h ⊢
    rw [show roomN ((128 / 64 : Nat) : Int) = 88 from rfl] at h
    omega
theorem take_end {l : List Nat} {n : Nat} (h : n + 21 ≤ l.length) : l.take (l.length - 4) = l.take 2 ++ (l.drop 2).take 15 ++ (l.drop 17).take n ++ (l.drop (17 + n)).take (l.length - 21 - n) := by
  have e1 : l.length - 4 = 2 + (15 + (n + (l.length - 21 - n))) := by omega
  rw [e1, List.take_add, List.take_add, List.take_add, List.drop_drop, List.drop_drop, ← List.append_assoc, ← List.append_assoc]
theorem good_of_parts {l : List Nat} (hl : ∀ b ∈ l, b < 256) (hs : l.length = 64 ∨ l.length = 128) (hp : PV (tagOf l) = true) (hn : bodyN l ≤ roomN ((l.length / 64 : Nat) : Int)) (hz : zeroB (padOf l) = true) (hc : sumOf l = digs 4 (crcS (l.take (l.length - 4)))) : goodB l = true := by
  obtain ⟨hroom, hdiv⟩ := room_le_of hs hn
  have hbl : (bodyOf l).length = bodyN l := by unfold bodyOf; rw [List.length_take, List.length_drop]; omega
  have h2 : digs 2 (bodyOf l).length = l.take 2 := by
    rw [hbl]
    have e := digs_num (l.take 2) (fun b hb => hl b (List.mem_of_mem_take hb))
    rw [List.length_take, Nat.min_eq_left (by omega)] at e
    exact e
  have hpad : List.replicate (64 * (l.length / 64) - 21 - (bodyOf l).length) 0 = (l.drop (17 + bodyN l)).take (l.length - 21 - bodyN l) := by
    rw [hbl, Nat.mul_comm 64, hdiv]
    symm
    refine List.eq_replicate_iff.2 ⟨by rw [List.length_take, List.length_drop]; omega, fun x hx => ?_⟩
    have := List.all_eq_true.1 hz x hx
    simpa using this
  have hh : frameH (bodyOf l) (tagOf l) (l.length / 64) = l.take (l.length - 4) := by
    rw [take_end hroom]
    unfold frameH
    rw [h2, hpad]
    rfl
  have hf : frameL (bodyOf l) (tagOf l) (l.length / 64) = l := by
    unfold frameL
    rw [hh, ← hc]
    exact List.take_append_drop _ _
  unfold goodB szB
  rw [hp, hf]
  simp only [hn, decide_true, Bool.and_true]
  rcases hs with h | h <;> simp [h]
theorem parts_of_good {l : List Nat} (h : goodB l = true) : zeroB (padOf l) = true ∧ sumOf l = digs 4 (crcS (l.take (l.length - 4))) := by
  obtain ⟨hs, hp, hn, hf⟩ := good_parts h
  obtain ⟨hroom, hdiv⟩ := room_le_of hs hn
  have hbl : (bodyOf l).length = bodyN l := by unfold bodyOf; rw [List.length_take, List.length_drop]; omega
  have hol : (tagOf l).length = 15 := by unfold tagOf; rw [List.length_take, List.length_drop]; omega
  have hS : 1 ≤ l.length / 64 := by omega
  have hHl : (frameH (bodyOf l) (tagOf l) (l.length / 64)).length = l.length - 4 := by
    rw [frameH_len hol (by omega) hS]; omega
  have ht : l.take (l.length - 4) = frameH (bodyOf l) (tagOf l) (l.length / 64) := by
    have e : l.take (l.length - 4) = (frameL (bodyOf l) (tagOf l) (l.length / 64)).take (l.length - 4) := congrArg (List.take (l.length - 4)) hf
    rw [e, frameL, List.take_append_of_le_length (by omega), List.take_of_length_le (by omega)]
  have hd : l.drop (l.length - 4) = digs 4 (crcS (frameH (bodyOf l) (tagOf l) (l.length / 64))) := by
    have e : l.drop (l.length - 4) = (frameL (bodyOf l) (tagOf l) (l.length / 64)).drop (l.length - 4) := congrArg (List.drop (l.length - 4)) hf
    rw [e, frameL, List.drop_left' hHl]
  refine ⟨?_, ?_⟩
  · have hx := take_end hroom
    rw [ht] at hx
    unfold frameH at hx
    have hlen2 : (digs 2 (bodyOf l).length ++ tagOf l ++ bodyOf l).length = (l.take 2 ++ (l.drop 2).take 15 ++ (l.drop 17).take (bodyN l)).length := by
      simp only [List.length_append, digs_length, hol, hbl, List.length_take, List.length_drop]
      omega
    have hpe := (List.append_inj hx hlen2).2
    refine List.all_eq_true.2 fun x hx => ?_
    have : x ∈ List.replicate (64 * (l.length / 64) - 21 - (bodyOf l).length) 0 := by rw [hpe]; exact hx
    have := (List.mem_replicate.1 this).2
    simp [this]
  · unfold sumOf
    rw [hd, ht]
/-- The sum as a number. -/
theorem sum_num {l : List Nat} (hl : ∀ b ∈ l, b < 256) (h4 : 4 ≤ l.length) (s : Nat) (hs : s < 4294967296) : sumOf l = digs 4 s ↔ num (sumOf l) = s := by
  have hlen : (sumOf l).length = 4 := by unfold sumOf; rw [List.length_drop]; omega
  constructor
  · intro h
    rw [h, num_digs 4 s (by simpa using hs)]
  · intro h
    have e := digs_num (sumOf l) (fun b hb => hl b (List.mem_of_mem_drop hb))
    rw [hlen, h] at e
    exact e.symm

/-- Up to three bits that are turned about: good just if nothing is changed. -/
theorem spoilt {l ps : List Nat} (hg : goodB l = true) (hl : ∀ x ∈ l, x < 256) (hps : ps.length ≤ 3) (hp : ∀ p ∈ ps, p < 8 * l.length) : goodB (flips l ps) = decide (l = flips l ps) := by
  by_cases h : l = flips l ps
  · rw [decide_eq_true h, ← h]
    exact hg
  · rw [decide_eq_false h]
    by_cases hg2 : goodB (flips l ps) = true
    · obtain ⟨hs, _⟩ := good_parts hg
      exact absurd (few_ne hl (by omega) hps hp (good_same hg hg2 hl (flips_lt ps hl))) h
    · simpa using hg2
/-- Some bits within 32: never good. -/
theorem near_bad {l : List Nat} {p w : Nat} (hg : goodB l = true) (hl : ∀ x ∈ l, x < 256) (hp : p + 32 ≤ 8 * l.length) (hw : w < 4294967296) (h0 : w ≠ 0) : goodB (flipN l p w 32) = false := by
  by_cases hg2 : goodB (flipN l p w 32) = true
  · exact absurd (good_same hg hg2 hl (flipN_lt p w 32 hl)) (near_ne hl hp hw h0)
  · simpa using hg2
/-- Bytes of another length are never good. -/
theorem good_size {l : List Nat} (h : l.length ≠ 64) (h' : l.length ≠ 128) : goodB l = false := by
  unfold goodB szB
  simp [h, h']
end Go.Proofs.YtlikhmhomkiadaaGreatDoor

namespace Go.Proofs.YtlikhmhomkiadaaGreatDoor
set_option maxRecDepth 100000
open Go Go.RowKit

theorem By.sub {w : World} {g o n c : Nat} {l : List Nat} (h : By w (some ⟨g, o, none⟩) n c l) (i k c' : Nat) (hk : i + k ≤ n) (hc : k ≤ c') (hm : c' ≤ 9223372036854775807) : By w (some ⟨g, o + i, none⟩) k c' ((l.drop i).take k) :=
  ⟨by rw [List.length_take, List.length_drop, h.len]; omega, hc, hm, (h.rd.drop rfl i).take k, fun hh => by cases hh⟩

/-- What parts answers: the tag's numbers, the body; none where the tag isn't valid or the body is longer than the bytes. -/
def okB (l : List Nat) : Bool := PV (tagOf l) && decide (17 + bodyN l ≤ l.length)
def qf (l : List Nat) (k : Nat) : Nat := if okB l = true then pf (tagOf l) k else 0
def ql (l : List Nat) : List Nat := if okB l = true then bodyOf l else []
theorem qf_yes {l : List Nat} (h : okB l = true) (k : Nat) : qf l k = pf (tagOf l) k := by unfold qf; rw [if_pos h]
theorem qf_no {l : List Nat} (h : okB l = false) (k : Nat) : qf l k = 0 := by unfold qf; rw [if_neg (by rw [h]; simp)]
theorem ql_yes {l : List Nat} (h : okB l = true) : ql l = bodyOf l := by unfold ql; rw [if_pos h]
theorem ql_no {l : List Nat} (h : okB l = false) : ql l = [] := by unfold ql; rw [if_neg (by rw [h]; simp)]
theorem okB_PV {l : List Nat} (h : PV (tagOf l) = false) : okB l = false := by unfold okB; rw [h]; rfl
theorem okB_long {l : List Nat} (h : l.length < 17 + bodyN l) : okB l = false := by
  unfold okB
  rw [decide_eq_false (by omega), Bool.and_false]
theorem okB_yes {l : List Nat} (hp : PV (tagOf l) = true) (h : 17 + bodyN l ≤ l.length) : okB l = true := by
  unfold okB
  rw [hp, decide_eq_true h]
  rfl

/-- What Open answers: the state, the tag's numbers, the body. -/
def stN (l : List Nat) : Nat := if szB l = true then (if zeroB l = true then 0 else if goodB l = true then 1 else 2) else 2
def ofl (l : List Nat) (k : Nat) : Nat := if goodB l = true then pf (tagOf l) k else 0
def obl (l : List Nat) : List Nat := if goodB l = true then bodyOf l else []
theorem ofl_yes {l : List Nat} (h : goodB l = true) (k : Nat) : ofl l k = pf (tagOf l) k := by unfold ofl; rw [if_pos h]
theorem ofl_no {l : List Nat} (h : goodB l = false) (k : Nat) : ofl l k = 0 := by unfold ofl; rw [if_neg (by rw [h]; simp)]
theorem obl_yes {l : List Nat} (h : goodB l = true) : obl l = bodyOf l := by unfold obl; rw [if_pos h]
theorem obl_no {l : List Nat} (h : goodB l = false) : obl l = [] := by unfold obl; rw [if_neg (by rw [h]; simp)]
theorem good_sz {l : List Nat} (h : goodB l = true) : szB l = true := by
  unfold goodB at h
  simp only [Bool.and_eq_true] at h
  exact h.1.1.1
theorem szB_iff {l : List Nat} : szB l = true ↔ l.length = 64 ∨ l.length = 128 := by
  unfold szB
  simp
theorem stN_good {l : List Nat} (h : goodB l = true) : stN l = 1 := by
  unfold stN
  rw [if_pos (good_sz h), if_neg (by rw [good_not_zero h]; simp), if_pos h]
theorem stN_blank {l : List Nat} (hs : szB l = true) (h : zeroB l = true) : stN l = 0 := by unfold stN; rw [if_pos hs, if_pos h]
theorem stN_size {l : List Nat} (h : szB l = false) : stN l = 2 := by unfold stN; rw [if_neg (by rw [h]; simp)]
theorem stN_bad {l : List Nat} (hz : zeroB l = false) (h : goodB l = false) : stN l = 2 := by
  unfold stN
  rw [if_neg (show ¬ zeroB l = true by rw [hz]; simp), if_neg (show ¬ goodB l = true by rw [h]; simp)]
  split <;> rfl
theorem size_bad {l : List Nat} (h : szB l = false) : goodB l = false := by
  unfold goodB
  rw [h]
  rfl
theorem zero_bad {l : List Nat} (h : zeroB l = true) : goodB l = false := by
  by_cases hg : goodB l = true
  · rw [good_not_zero hg] at h; cases h
  · simpa using hg
theorem stN_one {l : List Nat} : stN l = 1 ↔ goodB l = true := by
  constructor
  · intro h
    by_cases hg : goodB l = true
    · exact hg
    · have hg' : goodB l = false := by simpa using hg
      unfold stN at h
      rw [if_neg hg] at h
      split at h
      · split at h <;> cases h
      · cases h
  · exact stN_good
theorem room_ws {l : List Nat} (h : szB l = false) : roomN ((wsN l.length : Nat) : Int) = 0 := by
  have hs : ¬ (l.length = 64 ∨ l.length = 128) := fun hh => by rw [szB_iff.2 hh] at h; cases h
  unfold wsN
  by_cases hm : l.length % 64 = 0
  · rw [if_pos hm]
    exact roomN_no (by omega) (by omega)
  · rw [if_neg hm]
    exact roomN_no (by omega) (by omega)
theorem ws_div {l : List Nat} (h : szB l = true) : wsN l.length = l.length / 64 := by
  unfold wsN
  rw [szB_iff] at h
  rw [if_pos (by omega)]
theorem room_pos {l : List Nat} (h : szB l = true) : roomN ((l.length / 64 : Nat) : Int) ≠ 0 := by
  rw [szB_iff] at h
  rcases h with h | h
  · rw [h]; decide
  · rw [h]; decide
theorem good_okB {l : List Nat} (h : goodB l = true) : okB l = true := by
  obtain ⟨hs, hp, hn, _⟩ := good_parts h
  have := room_le_of hs hn
  exact okB_yes hp (by omega)
theorem may_pf {l : List Nat} (h : PV l = true) : mayB (pf l 0) (pf l 1) (pf l 2) (pf l 3) (pf l 4) = true := by
  rw [pf_yes h, pf_yes h, pf_yes h, pf_yes h, pf_yes h]
  unfold PV at h
  simp only [Bool.and_eq_true] at h
  exact h.2
theorem tagOf_lt {l : List Nat} (hl : ∀ b ∈ l, b < 256) : ∀ b ∈ tagOf l, b < 256 := fun x hx => hl x (List.mem_of_mem_drop (List.mem_of_mem_take hx))
theorem bodyOf_len {l : List Nat} (h : 17 + bodyN l ≤ l.length) : (bodyOf l).length = bodyN l := by unfold bodyOf; rw [List.length_take, List.length_drop]; omega
theorem okB_parts {l : List Nat} (h : okB l = true) : PV (tagOf l) = true ∧ 17 + bodyN l ≤ l.length := by
  unfold okB at h
  simpa using h

/-- The parts, sealed once more, tell the good ones. -/
def reE (l : List Nat) : Int := sealE (qf l 0) (qf l 1) (qf l 2) (qf l 3) (qf l 4) (ql l).length ((l.length / 64 : Nat) : Int)
def reL (l : List Nat) : List Nat := sealL (qf l 0) (qf l 1) (qf l 2) (qf l 3) (qf l 4) (ql l) ((l.length / 64 : Nat) : Int)
theorem re_no {l : List Nat} (hs : szB l = true) (h : reE l ≠ 0) : goodB l = false := by
  by_cases hg : goodB l = true
  · refine absurd ?_ h
    have ho := good_okB hg
    obtain ⟨hp, hn⟩ := okB_parts ho
    unfold reE
    rw [qf_yes ho, qf_yes ho, qf_yes ho, qf_yes ho, qf_yes ho, ql_yes ho]
    exact sealE_yes (room_pos hs) (may_pf hp) (by rw [bodyOf_len hn]; exact (good_parts hg).2.2.1)
  · simpa using hg
theorem re_yes {l : List Nat} (hs : szB l = true) (hl : ∀ b ∈ l, b < 256) (h : reE l = 0) : goodB l = decide (reL l = l) := by
  have hr := room_pos hs
  by_cases ho : okB l = true
  · obtain ⟨hp, hn⟩ := okB_parts ho
    unfold reE at h
    rw [qf_yes ho, qf_yes ho, qf_yes ho, qf_yes ho, qf_yes ho, ql_yes ho, bodyOf_len hn] at h
    have hroom : bodyN l ≤ roomN ((l.length / 64 : Nat) : Int) := by
      rcases Nat.lt_or_ge (roomN ((l.length / 64 : Nat) : Int)) (bodyN l) with h1 | h1
      · rw [sealE_long hr (may_pf hp) h1] at h; cases h
      · exact h1
    have hL : reL l = frameL (bodyOf l) (tagOf l) (l.length / 64) := by
      unfold reL
      rw [qf_yes ho, qf_yes ho, qf_yes ho, qf_yes ho, qf_yes ho, ql_yes ho, sealL_yes (by rw [bodyOf_len hn]; exact h), (pl_of hp (tagOf_lt hl)).1, Int.toNat_natCast]
    rw [hL]
    unfold goodB
    rw [hs, hp, decide_eq_true hroom, Bool.true_and, Bool.true_and, Bool.true_and]
    by_cases he : l = frameL (bodyOf l) (tagOf l) (l.length / 64)
    · rw [decide_eq_true he, decide_eq_true he.symm]
    · rw [decide_eq_false he, decide_eq_false fun hh => he hh.symm]
  · have ho' : okB l = false := by simpa using ho
    unfold reE at h
    rw [qf_no ho', qf_no ho', qf_no ho', qf_no ho', qf_no ho', sealE_arg (.inr (by decide))] at h
    cases h
end Go.Proofs.YtlikhmhomkiadaaGreatDoor

namespace Go.Proofs.YtlikhmhomkiadaaGreatDoor
set_option maxRecDepth 100000
open Go Go.RowKit

theorem five_far {w : World} {g h k : Nat} (hne : g ≠ h) (x0 x1 x2 x3 x4 : Value) :
    (((((w.setCell ⟨g, 0, none⟩ x0).setCell ⟨g, 1, none⟩ x1).setCell ⟨g, 2, none⟩ x2).setCell ⟨g, 3, none⟩ x3).setCell ⟨g, 4, none⟩ x4).cell? ⟨h, k, none⟩ = w.cell? ⟨h, k, none⟩ := by
  rw [World.cell?_setCell_far _ ⟨g, 4, none⟩ ⟨h, k, none⟩ _ hne, World.cell?_setCell_far _ ⟨g, 3, none⟩ ⟨h, k, none⟩ _ hne, World.cell?_setCell_far _ ⟨g, 2, none⟩ ⟨h, k, none⟩ _ hne, World.cell?_setCell_far _ ⟨g, 1, none⟩ ⟨h, k, none⟩ _ hne, World.cell?_setCell_far _ ⟨g, 0, none⟩ ⟨h, k, none⟩ _ hne]
theorem five_far_drew {w : World} {g h k : Nat} {v : Value} (hne : g ≠ h) (hc : w.cell? ⟨h, k, none⟩ = some v) (x0 x1 x2 x3 x4 : Value) :
    (((((w.setCell ⟨g, 0, none⟩ x0).setCell ⟨g, 1, none⟩ x1).setCell ⟨g, 2, none⟩ x2).setCell ⟨g, 3, none⟩ x3).setCell ⟨g, 4, none⟩ x4).drew.cell? ⟨h, k, none⟩ = some v := by
  have e : ∀ W : World, W.drew.cell? ⟨h, k, none⟩ = W.cell? ⟨h, k, none⟩ := fun _ => rfl
  rw [e, five_far hne]
  exact hc
theorem row_step {w : World} {g t : Nat} {fr : Nat × Nat} {cs cs' : Array Value} (i : Nat) (h : w.heap[g]? = some (.cells cs t fr)) (x : Value) (e : cs.setIfInBounds i x = cs') : (w.setCell ⟨g, i, none⟩ x).heap[g]? = some (.cells cs' t fr) := by
  subst e
  rw [setCell_eq_setRow w g i cs t fr x h]
  exact setRow_heap w g _ _ _ _ h
theorem five_row {w : World} {g t : Nat} {y0 y1 y2 y3 y4 : Value} (h : w.heap[g]? = some (.cells #[y0, y1, y2, y3, y4] t (0, 0))) (x0 x1 x2 x3 x4 : Value) :
    (((((w.setCell ⟨g, 0, none⟩ x0).setCell ⟨g, 1, none⟩ x1).setCell ⟨g, 2, none⟩ x2).setCell ⟨g, 3, none⟩ x3).setCell ⟨g, 4, none⟩ x4).heap[g]? = some (.cells #[x0, x1, x2, x3, x4] t (0, 0)) := by
  exact row_step 4 (row_step 3 (row_step 2 (row_step 1 (row_step 0 h x0 rfl) x1 rfl) x2 rfl) x3 rfl) x4 rfl
theorem five_near_drew {w : World} {g : Nat} {y0 y1 y2 y3 y4 : Value} (h : w.heap[g]? = some (.cells #[y0, y1, y2, y3, y4] 33 (0, 0))) (x0 x1 x2 x3 x4 : Value) :
    (((((w.setCell ⟨g, 0, none⟩ x0).setCell ⟨g, 1, none⟩ x1).setCell ⟨g, 2, none⟩ x2).setCell ⟨g, 3, none⟩ x3).setCell ⟨g, 4, none⟩ x4).drew.cell? ⟨g, 0, none⟩ = some x0 ∧
    (((((w.setCell ⟨g, 0, none⟩ x0).setCell ⟨g, 1, none⟩ x1).setCell ⟨g, 2, none⟩ x2).setCell ⟨g, 3, none⟩ x3).setCell ⟨g, 4, none⟩ x4).drew.cell? ⟨g, 1, none⟩ = some x1 ∧
    (((((w.setCell ⟨g, 0, none⟩ x0).setCell ⟨g, 1, none⟩ x1).setCell ⟨g, 2, none⟩ x2).setCell ⟨g, 3, none⟩ x3).setCell ⟨g, 4, none⟩ x4).drew.cell? ⟨g, 2, none⟩ = some x2 ∧
    (((((w.setCell ⟨g, 0, none⟩ x0).setCell ⟨g, 1, none⟩ x1).setCell ⟨g, 2, none⟩ x2).setCell ⟨g, 3, none⟩ x3).setCell ⟨g, 4, none⟩ x4).drew.cell? ⟨g, 3, none⟩ = some x3 ∧
    (((((w.setCell ⟨g, 0, none⟩ x0).setCell ⟨g, 1, none⟩ x1).setCell ⟨g, 2, none⟩ x2).setCell ⟨g, 3, none⟩ x3).setCell ⟨g, 4, none⟩ x4).drew.cell? ⟨g, 4, none⟩ = some x4 := by
  have e : ∀ (W : World) k, W.drew.cell? ⟨g, k, none⟩ = W.cell? ⟨g, k, none⟩ := fun _ _ => rfl
  rw [e, e, e, e, e]
  exact (five_cells (five_row h x0 x1 x2 x3 x4)).1
theorem set_block {w : World} {g h k : Nat} {x : Value} {o : Obj} (hne : g ≠ h) (hh : w.heap[h]? = some o) (hg : ∃ cs t fr, w.heap[g]? = some (.cells cs t fr)) : (w.setCell ⟨g, k, none⟩ x).heap[h]? = some o := by
  obtain ⟨cs, t, fr, hr⟩ := hg
  rw [setCell_eq_setRow w g k cs t fr x hr]
  exact (setRow_other w _ _ _ (fun e => hne e.symm)).trans hh
theorem five_block {w : World} {g h t : Nat} {y0 y1 y2 y3 y4 : Value} {o : Obj} (hne : g ≠ h) (hg : w.heap[g]? = some (.cells #[y0, y1, y2, y3, y4] t (0, 0))) (hh : w.heap[h]? = some o) (x0 x1 x2 x3 x4 : Value) :
    (((((w.setCell ⟨g, 0, none⟩ x0).setCell ⟨g, 1, none⟩ x1).setCell ⟨g, 2, none⟩ x2).setCell ⟨g, 3, none⟩ x3).setCell ⟨g, 4, none⟩ x4).heap[h]? = some o := by
  have step : ∀ (W : World) (k : Nat) (x : Value), (∃ cs t fr, W.heap[g]? = some (.cells cs t fr)) → W.heap[h]? = some o → (∃ cs t fr, (W.setCell ⟨g, k, none⟩ x).heap[g]? = some (.cells cs t fr)) ∧ (W.setCell ⟨g, k, none⟩ x).heap[h]? = some o := by
    intro W k x hr hW
    refine ⟨?_, set_block hne hW hr⟩
    obtain ⟨cs, t, fr, hr⟩ := hr
    rw [setCell_eq_setRow W g k cs t fr x hr]
    exact ⟨_, _, _, setRow_heap W _ _ _ _ _ hr⟩
  obtain ⟨a0, b0⟩ := step w 0 x0 ⟨_, _, _, hg⟩ hh
  obtain ⟨a1, b1⟩ := step _ 1 x1 a0 b0
  obtain ⟨a2, b2⟩ := step _ 2 x2 a1 b1
  obtain ⟨a3, b3⟩ := step _ 3 x3 a2 b2
  exact (step _ 4 x4 a3 b3).2
end Go.Proofs.YtlikhmhomkiadaaGreatDoor
