/-
  The contract of meta's Parse.
  Which powers of x are 1: none up to 12,000; so two bits of a row are told apart.
  Plain facts on frames: which checks tell the good ones; bits that are turned about.
  Plain facts on what Open answers, told by what Seal answers; and a piece of a slice of bytes.
-/
import Derived.Test.YtlikhmhomkiadaaDoorQ02
import Derived.Test.YtlikhmhomkiadaaDoorQ11
import Derived.Test.YtlikhmhomkiadaaDoorQ16
import Derived.Test.YtlikhmhomkiadaaDoorQ18
namespace Go.Proofs.YtlikhmhomkiadaaDoor
set_option maxRecDepth 100000
open Go Go.RowKit

/-- The metadata's cells when k of their numbers are read. -/
def ucell (l : List Nat) (k j : Nat) : Value := .int .i64 ((if j < k then uNum l j else 0 : Nat) : Int)
def urow (l : List Nat) (k : Nat) : Array Value := #[ucell l k 0, ucell l k 1, ucell l k 2]
theorem urow_step (l : List Nat) {k : Nat} (h : k < 3) : (urow l k).setIfInBounds k (.int .i64 (uNum l k : Nat)) = urow l (k + 1) := by
  have hj' : k = 0 ∨ k = 1 ∨ k = 2 := by omega
  rcases hj' with rfl | rfl | rfl <;> simp [urow, ucell]
/-- What holds at the loop's head: the answer's block g is blank, the metadata's block g + 1 holds k numbers. -/
structure UPS (w : World) (l : List Nat) (k : Nat) (w' : World) : Prop where
  blank : w'.heap[w.heap.size]? = some (.cells #[.int .i64 0, .int .i64 0, .int .i64 0] 25 (0, 0))
  row : w'.heap[w.heap.size + 1]? = some (.cells (urow l k) 25 (0, 0))
  ext : Ext w w'
theorem UPS.start (w : World) (l : List Nat) : UPS w l 0 ((w.alloc (.cells #[.int .i64 0, .int .i64 0, .int .i64 0] 25)).alloc (.cells #[.int .i64 0, .int .i64 0, .int .i64 0] 25)) := by
  refine ⟨?_, heap_alloc2_new w _ _, ((Ext.refl w).alloc _).alloc _⟩
  rw [heap_alloc_old _ _ (by simp)]
  exact heap_alloc_new w _
theorem UPS.more {w w' w2 : World} {l : List Nat} {k : Nat} (h : UPS w l k w') (hx : Ext w' w2) : UPS w l k w2 :=
  ⟨(hx.block _ (Array.getElem?_eq_some_iff.1 h.blank).1).trans h.blank, (hx.block _ (Array.getElem?_eq_some_iff.1 h.row).1).trans h.row, h.ext.trans hx⟩
theorem UPS.step {w w' : World} {l : List Nat} {k : Nat} (h : UPS w l k w') (hk : k < 3) : UPS w l (k + 1) (w'.setCell ⟨w.heap.size + 1, k, none⟩ (.int .i64 (uNum l k : Nat))) := by
  have hs := setCell_eq_setRow w' (w.heap.size + 1) k (urow l k) 25 (0, 0) (.int .i64 (uNum l k : Nat)) h.row
  rw [hs, urow_step l hk]
  exact ⟨(setRow_other w' _ _ _ (by omega)).trans h.blank, setRow_heap w' _ _ _ _ _ h.row, below_setRow h.ext (by omega) _⟩
theorem UPS.cell {w w' : World} {l : List Nat} {k : Nat} (h : UPS w l k w') (j : Nat) : w'.cell? ⟨w.heap.size + 1, j, none⟩ = (urow l k)[j]? := cell_of_row w' _ j _ _ _ h.row
theorem UPS.free {w w' : World} {l : List Nat} {k : Nat} (h : UPS w l k w') (j : Nat) : w'.frozen? ⟨w.heap.size + 1, j, none⟩ = false := frozen_of_row w' _ j _ _ h.row
theorem get_num {l : List Nat} {k : Nat} (hk : k < 3) (h : uPos k + uW k ≤ l.length) : getS l (uPos k) (uW k) = (uNum l k, uPos (k + 1), 0) := by
  rw [getS_yes (uW_ok k) (by omega) (by omega) (by omega), uPos_step hk]
  rfl
theorem get_short {l : List Nat} {k : Nat} (h : l.length < uPos k + uW k) (hp : uPos k ≤ l.length) : getS l (uPos k) (uW k) = (0, 0, 10) := getS_short (uW_ok k) (by omega) (by omega) (by omega)

set_option maxRecDepth 100000 in
set_option maxHeartbeats 1600000 in
theorem parseU (A : Option Addr) (n cp : Nat) (l : List Nat) (w : World) (hL : Laid w) (hb : By w A n cp l) (hn : n ≤ 9000000000000000000) :
    Calls Tryd.prog 10 #[.slice A n cp] w fun r w' => r = .returned (.tuple #[.agg #[.int .i64 (uF l 0), .int .i64 (uF l 1), .int .i64 (uF l 2)], .int .i64 (uE l)]) ∧ Ext w w' := by
  have HS := Lib.hid (UPS.start w l)
  have HL := Lib.hid hL
  have HB := Lib.hid hb
  clear hL hb
  go_enter Tryd.func10, Tryd.ntmps10
  go_wp2_with fail
  refine (fieldsU _ _ _ _ _ HS.out.row).mono ?_
  unfold fieldsV
  rintro r w1 ⟨rfl, hx⟩
  have HS := Lib.hid (HS.out.more hx)
  clear hx
  go_wp2_with fail
  go_loopw [5, 12] (fun p i wr => ∃ k : Nat, k ≤ 3 ∧ i = .int .i64 k ∧ p = .int .i64 (uPos k) ∧ uPos k ≤ n ∧ Hid (UPS w l k wr)) (fun _ i _ => 3 - (intOf i).toNat)
  case atStart => exact ⟨0, Nat.zero_le _, rfl, rfl, Nat.zero_le _, HS⟩
  case round =>
    obtain ⟨k, hk, rfl, rfl, hp, HP⟩ := hrel
    by_cases hlt : k < 3
    · have hI := field_index (w.heap.size + 1) k hlt
      have hwl := uW_le k
      have HPA := Lib.hid (HP.out.more ((Ext.refl wr).alloc (.cells #[.pointer (some ⟨w.heap.size + 1, k, none⟩), .int .i64 (uW k)] 60)))
      by_cases hsh : n < uPos k + uW k
      · have HG := Lib.hid (get_short (l := l) (k := k) (by rw [HB.out.len]; exact hsh) (by rw [HB.out.len]; exact hp))
        have hp13 := uPos_le (k + 1)
        rw [uPos_step hlt] at hp13
        have HV := Lib.hid (uV_len (l := l) (by rw [HB.out.len]; omega))
        clear hp13
        go_wp2_with fail
        refine (oget_any A l n cp _ _ _ _ (HL.out.ext HPA.out.ext) HB.out.len (HB.out.ext HPA.out.ext).rd hn).mono ?_
        rw [HG.out]
        rintro r w2 ⟨rfl, rfl⟩
        obtain ⟨⟨c0, c1, c2⟩, f0, f1, f2⟩ := three_cells HPA.out.blank
        go_wp2_with fail
        refine bodyPost_ret (v := .tuple #[.agg #[.int .i64 0, .int .i64 0, .int .i64 0], .int .i64 80]) ?_ rfl ⟨?_, ?_⟩
        · simp [results, Tryd.results10, go_sem, c0, c1, c2]
        · rw [uF_no HV.out, uF_no HV.out, uF_no HV.out, uE_no HV.out]; rfl
        · exact three_ext HPA.out.ext (Nat.le_refl _) _ _ _
      · have HG := Lib.hid (get_num (l := l) hlt (by rw [HB.out.len]; omega))
        have c := HPA.out.cell k
        obtain ⟨v, hv⟩ : ∃ v, (urow l k)[k]? = some v := ⟨_, Array.getElem?_eq_getElem (by simpa [urow] using hlt)⟩
        rw [hv] at c
        have f := HPA.out.free k
        have HPS := Lib.hid (HPA.out.step hlt)
        have hle : uPos (k + 1) ≤ n := by rw [uPos_step hlt]; omega
        clear hv
        go_wp2_with fail
        refine (oget_any A l n cp _ _ _ _ (HL.out.ext HPA.out.ext) HB.out.len (HB.out.ext HPA.out.ext).rd hn).mono ?_
        rw [HG.out]
        rintro r w2 ⟨rfl, rfl⟩
        go_wp2_with fail
        go_roundw
        case rel => exact ⟨k + 1, by omega, by go_num, rfl, hle, HPS⟩
        case measure => simp [intOf]; omega
    · have hk3 : k = 3 := by omega
      subst hk3
      have hle : 13 ≤ n := hp
      obtain ⟨⟨c0, c1, c2⟩, f0, f1, f2⟩ := three_cells HP.out.blank
      have hrow : wr.heap[w.heap.size + 1]? = some (.cells #[.int .i64 (uNum l 0), .int .i64 (uNum l 1), .int .i64 (uNum l 2)] 25 (0, 0)) := HP.out.row
      have HR := Lib.hid hrow
      rw [show uPos 3 = 13 from rfl]
      obtain ⟨⟨d0, d1, d2⟩, _⟩ := three_cells hrow
      clear hrow
      by_cases h13 : n = 13
      · subst h13
        have hlt0 : w.heap.size < wr.heap.size := (Array.getElem?_eq_some_iff.1 HP.out.blank).1
        have hlt1 : w.heap.size + 1 < wr.heap.size := (Array.getElem?_eq_some_iff.1 HR.out).1
        by_cases hm : mayU (uNum l 0) (uNum l 1) (uNum l 2) = true
        · have HV := Lib.hid (uV_both HB.out.len hm)
          have HM := Lib.hid hm
          clear hm
          go_wp2_with fail
          refine (mayU_any _ _ _ _).mono ?_
          rw [HM.out]
          rintro r w2 ⟨rfl, hx⟩
          have hb2 := (hx.block _ hlt0).trans HP.out.blank
          have hr2 := (hx.block _ hlt1).trans HR.out
          have HE := Lib.hid (HP.out.ext.trans hx)
          clear c0 c1 c2 f0 f1 f2 d0 d1 d2 hx hlt0 hlt1
          obtain ⟨⟨c0, c1, c2⟩, f0, f1, f2⟩ := three_cells hb2
          obtain ⟨⟨d0, d1, d2⟩, _⟩ := three_cells hr2
          clear hb2 hr2
          go_wp2_with fail
          refine bodyPost_ret (v := .tuple #[.agg #[.int .i64 (uNum l 0), .int .i64 (uNum l 1), .int .i64 (uNum l 2)], .int .i64 0]) ?_ rfl ⟨?_, ?_⟩
          · simp [results, Tryd.results10, go_sem, c0, c1, c2]
          · rw [uF_yes HV.out, uF_yes HV.out, uF_yes HV.out, uE_yes HV.out]
          · exact three_ext HE.out (Nat.le_refl _) _ _ _
        · have hm' : mayU (uNum l 0) (uNum l 1) (uNum l 2) = false := by simpa using hm
          have HV := Lib.hid (uV_may hm')
          have HM := Lib.hid hm'
          clear hm hm'
          go_wp2_with fail
          refine (mayU_any _ _ _ _).mono ?_
          rw [HM.out]
          rintro r w2 ⟨rfl, hx⟩
          have hb2 := (hx.block _ hlt0).trans HP.out.blank
          have HE := Lib.hid (HP.out.ext.trans hx)
          clear c0 c1 c2 f0 f1 f2 d0 d1 d2 hx hlt0 hlt1
          obtain ⟨⟨c0, c1, c2⟩, f0, f1, f2⟩ := three_cells hb2
          clear hb2
          go_wp2_with fail
          refine bodyPost_ret (v := .tuple #[.agg #[.int .i64 0, .int .i64 0, .int .i64 0], .int .i64 80]) ?_ rfl ⟨?_, ?_⟩
          · simp [results, Tryd.results10, go_sem, c0, c1, c2]
          · rw [uF_no HV.out, uF_no HV.out, uF_no HV.out, uE_no HV.out]; rfl
          · exact three_ext HE.out (Nat.le_refl _) _ _ _
      · have HV := Lib.hid (uV_len (l := l) (by rw [HB.out.len]; exact h13))
        have hne : ((13 : Int) != (n : Int)) = true := by rw [bne_iff_ne]; omega
        go_wp2_with fail
        refine bodyPost_ret (v := .tuple #[.agg #[.int .i64 0, .int .i64 0, .int .i64 0], .int .i64 80]) ?_ rfl ⟨?_, ?_⟩
        · simp [results, Tryd.results10, go_sem, c0, c1, c2]
        · rw [uF_no HV.out, uF_no HV.out, uF_no HV.out, uE_no HV.out]; rfl
        · exact three_ext HP.out.ext (Nat.le_refl _) _ _ _
end Go.Proofs.YtlikhmhomkiadaaDoor

namespace Go.Proofs.YtlikhmhomkiadaaDoor
set_option maxRecDepth 100000
open Go

def walkB : Nat → Nat → Nat → Bool
  | 0, _, _ => true
  | m + 1, b, r => walk1 b r && (match stps b r with
    | 0 => false
    | q + 1 => walkB m b (q + 1))
theorem walkB_get {m b r : Nat} (h : walkB m b r = true) (j : Nat) (hj : j < m * b) : stps j r ≠ 1 := by
  induction m generalizing r j with
  | zero => omega
  | succ m ih =>
    simp only [walkB, Bool.and_eq_true] at h
    by_cases hb : j < b
    · exact walk1_get h.1 j hb
    · have h2 := h.2
      have e : stps j r = stps (j - b) (stps b r) := by rw [← stps_add, show b + (j - b) = j by omega]
      rw [e]
      split at h2
      · cases h2
      · rename_i q hq
        rw [hq]
        exact ih h2 (j - b) (by rw [Nat.succ_mul] at hj; omega)
set_option maxRecDepth 100000 in
theorem walk_all : walkB 120 100 (stp 1) = true := by decide +kernel
theorem ord_ne {d : Nat} (h0 : 0 < d) (h : d ≤ 12000) : stps d 1 ≠ 1 := by
  have := walkB_get walk_all (d - 1) (by omega)
  rw [show d = 1 + (d - 1) by omega, stps_add]
  exact this
theorem bit_inj {m p q : Nat} (hm : m ≤ 12000) (hp : p < m) (hq : q < m) (h : stps (m - p) 1 = stps (m - q) 1) : p = q := by
  rcases Nat.lt_trichotomy p q with hlt | heq | hlt
  · exfalso
    rw [show m - p = (q - p) + (m - q) by omega, stps_add] at h
    exact ord_ne (show 0 < q - p by omega) (by omega) (stps_inj (stps_lt (by omega)) (by omega) h)
  · exact heq
  · exfalso
    rw [show m - q = (p - q) + (m - p) by omega, stps_add] at h
    exact ord_ne (show 0 < p - q by omega) (by omega) (stps_inj (stps_lt (by omega)) (by omega) h.symm)

def flips : List Nat → List Nat → List Nat
  | l, [] => l
  | l, p :: ps => flips (flipB l p) ps
theorem flips_snoc (l : List Nat) (ps : List Nat) (p : Nat) : flips l (ps ++ [p]) = flipB (flips l ps) p := by
  induction ps generalizing l with
  | nil => rfl
  | cons q ps ih => exact ih _
theorem flips_length (l ps : List Nat) : (flips l ps).length = l.length := by
  induction ps generalizing l with
  | nil => rfl
  | cons p ps ih => rw [flips, ih, flipB_length]
theorem flips_lt {l : List Nat} (ps : List Nat) (hl : ∀ x ∈ l, x < 256) : ∀ x ∈ flips l ps, x < 256 := by
  induction ps generalizing l with
  | nil => exact hl
  | cons p ps ih => exact ih (flipB_lt p hl)
theorem few_ne {l ps : List Nat} (hl : ∀ x ∈ l, x < 256) (hn : 8 * l.length ≤ 12000) (hps : ps.length ≤ 3) (hp : ∀ p ∈ ps, p < 8 * l.length) (he : crcS l = crcS (flips l ps)) : l = flips l ps := by
  have h1 : (1 : Nat) < 4294967296 := by omega
  match ps, hps, hp, he with
  | [], _, _, _ => rfl
  | [p], _, hp, he =>
    exfalso
    have := crcS_diff hl (flips_lt [p] hl) (flipB_feed _ (hp p (by simp))) he
    have := stps_nz h1 this
    omega
  | [p, q], _, hp, he =>
    have e : feed 4294967295 (flips l [p, q]) = feed 4294967295 l ^^^ (stps (8 * l.length - p) 1 ^^^ stps (8 * l.length - q) 1) := by
      simp only [flips]
      rw [flipB_feed _ (by rw [flipB_length]; exact hp q (by simp)), flipB_feed _ (hp p (by simp)), flipB_length, Nat.xor_assoc]
    have h2 := xor_eq_zero' (crcS_diff hl (flips_lt [p, q] hl) e he)
    have h3 := bit_inj hn (hp p (by simp)) (hp q (by simp)) h2
    subst h3
    simp only [flips]
    rw [flipB_twice]
  | [p, q, r], _, hp, he =>
    exfalso
    have e : feed 4294967295 (flips l [p, q, r]) = feed 4294967295 l ^^^ (stps (8 * l.length - p) 1 ^^^ stps (8 * l.length - q) 1 ^^^ stps (8 * l.length - r) 1) := by
      simp only [flips]
      rw [flipB_feed _ (by rw [flipB_length, flipB_length]; exact hp r (by simp)), flipB_feed _ (by rw [flipB_length]; exact hp q (by simp)), flipB_feed _ (hp p (by simp))]
      simp only [flipB_length]
      ac_rfl
    have h2 := crcS_diff hl (flips_lt [p, q, r] hl) e he
    have h3 := congrArg par h2
    rw [par_xor, par_xor, par_stps h1, par_stps h1, par_stps h1, show par 1 = 1 by decide, show par 0 = 0 by decide] at h3
    omega
end Go.Proofs.YtlikhmhomkiadaaDoor

namespace Go.Proofs.YtlikhmhomkiadaaDoor
set_option maxRecDepth 100000
open Go

/-- Of bytes of 64 or 128: the tag, the length, the noughts, the sum, each by itself. -/
def padOf (l : List Nat) : List Nat := (l.drop (17 + bodyN l)).take (l.length - 21 - bodyN l)
def sumOf (l : List Nat) : List Nat := l.drop (l.length - 4)
theorem room_le_of {l : List Nat} (hs : l.length = 64 ∨ l.length = 128) (h : bodyN l ≤ roomN ((l.length / 64 : Nat) : Int)) : bodyN l + 21 ≤ l.length ∧ l.length / 64 * 64 = l.length := by
  rcases hs with h64 | h64
  · rw [h64] at h ⊢
    rw [show roomN ((64 / 64 : Nat) : Int) = 43 from rfl] at h
    omega
  · rw [h64] at h ⊢
    rw [show roomN ((128 / 64 : Nat) : Int) = 88 from rfl] at h
    omega
theorem take_end {l : List Nat} {n : Nat} (h : n + 21 ≤ l.length) : l.take (l.length - 4) = l.take 2 ++ (l.drop 2).take 15 ++ (l.drop 17).take n ++ (l.drop (17 + n)).take (l.length - 21 - n) := by
  have e1 : l.length - 4 = 2 + (15 + (n + (l.length - 21 - n))) := by omega
  rw [e1, List.take_add, List.take_add, List.take_add, List.drop_drop, List.drop_drop, ← List.append_assoc, ← List.append_assoc]
theorem good_of_parts {l : List Nat} (hl : ∀ b ∈ l, b < 256) (hs : l.length = 64 ∨ l.length = 128) (hp : PV (tagOf l) = true) (hn : bodyN l ≤ roomN ((l.length / 64 : Nat) : Int)) (hz : zeroB (padOf l) = true) (hc : sumOf l = digs 4 (crcS (l.take (l.length - 4)))) : goodB l = true := by
  obtain ⟨hroom, hdiv⟩ := room_le_of hs hn
  have hbl : (bodyOf l).length = bodyN l := by unfold bodyOf; rw [List.length_take, List.length_drop]; omega
  have h2 : digs 2 (bodyOf l).length = l.take 2 := by
    rw [hbl]
    have e := digs_num (l.take 2) (fun b hb => hl b (List.mem_of_mem_take hb))
    rw [List.length_take, Nat.min_eq_left (by omega)] at e
    exact e
  have hpad : List.replicate (64 * (l.length / 64) - 21 - (bodyOf l).length) 0 = (l.drop (17 + bodyN l)).take (l.length - 21 - bodyN l) := by
    rw [hbl, Nat.mul_comm 64, hdiv]
    symm
    refine List.eq_replicate_iff.2 ⟨by rw [List.length_take, List.length_drop]; omega, fun x hx => ?_⟩
    have := List.all_eq_true.1 hz x hx
    simpa using this
  have hh : frameH (bodyOf l) (tagOf l) (l.length / 64) = l.take (l.length - 4) := by
    rw [take_end hroom]
    unfold frameH
    rw [h2, hpad]
    rfl
  have hf : frameL (bodyOf l) (tagOf l) (l.length / 64) = l := by
    unfold frameL
    rw [hh, ← hc]
    exact List.take_append_drop _ _
  unfold goodB szB
  rw [hp, hf]
  simp only [hn, decide_true, Bool.and_true]
  rcases hs with h | h <;> simp [h]
theorem parts_of_good {l : List Nat} (h : goodB l = true) : zeroB (padOf l) = true ∧ sumOf l = digs 4 (crcS (l.take (l.length - 4))) := by
  obtain ⟨hs, hp, hn, hf⟩ := good_parts h
  obtain ⟨hroom, hdiv⟩ := room_le_of hs hn
  have hbl : (bodyOf l).length = bodyN l := by unfold bodyOf; rw [List.length_take, List.length_drop]; omega
  have hol : (tagOf l).length = 15 := by unfold tagOf; rw [List.length_take, List.length_drop]; omega
  have hS : 1 ≤ l.length / 64 := by omega
  have hHl : (frameH (bodyOf l) (tagOf l) (l.length / 64)).length = l.length - 4 := by
    rw [frameH_len hol (by omega) hS]; omega
  have ht : l.take (l.length - 4) = frameH (bodyOf l) (tagOf l) (l.length / 64) := by
    have e : l.take (l.length - 4) = (frameL (bodyOf l) (tagOf l) (l.length / 64)).take (l.length - 4) := congrArg (List.take (l.length - 4)) hf
    rw [e, frameL, List.take_append_of_le_length (by omega), List.take_of_length_le (by omega)]
  have hd : l.drop (l.length - 4) = digs 4 (crcS (frameH (bodyOf l) (tagOf l) (l.length / 64))) := by
    have e : l.drop (l.length - 4) = (frameL (bodyOf l) (tagOf l) (l.length / 64)).drop (l.length - 4) := congrArg (List.drop (l.length - 4)) hf
    rw [e, frameL, List.drop_left' hHl]
  refine ⟨?_, ?_⟩
  · have hx := take_end hroom
    rw [ht] at hx
    unfold frameH at hx
    have hlen2 : (digs 2 (bodyOf l).length ++ tagOf l ++ bodyOf l).length = (l.take 2 ++ (l.drop 2).take 15 ++ (l.drop 17).take (bodyN l)).length := by
      simp only [List.length_append, digs_length, hol, hbl, List.length_take, List.length_drop]
      omega
    have hpe := (List.append_inj hx hlen2).2
    refine List.all_eq_true.2 fun x hx => ?_
    have : x ∈ List.replicate (64 * (l.length / 64) - 21 - (bodyOf l).length) 0 := by rw [hpe]; exact hx
    have := (List.mem_replicate.1 this).2
    simp [this]
  · unfold sumOf
    rw [hd, ht]
/-- The sum as a number. -/
theorem sum_num {l : List Nat} (hl : ∀ b ∈ l, b < 256) (h4 : 4 ≤ l.length) (s : Nat) (hs : s < 4294967296) : sumOf l = digs 4 s ↔ num (sumOf l) = s := by
  have hlen : (sumOf l).length = 4 := by unfold sumOf; rw [List.length_drop]; omega
  constructor
  · intro h
    rw [h, num_digs 4 s (by simpa using hs)]
  · intro h
    have e := digs_num (sumOf l) (fun b hb => hl b (List.mem_of_mem_drop hb))
    rw [hlen, h] at e
    exact e.symm

/-- Up to three bits that are turned about: good just if nothing is changed. -/
theorem spoilt {l ps : List Nat} (hg : goodB l = true) (hl : ∀ x ∈ l, x < 256) (hps : ps.length ≤ 3) (hp : ∀ p ∈ ps, p < 8 * l.length) : goodB (flips l ps) = decide (l = flips l ps) := by
  by_cases h : l = flips l ps
  · rw [decide_eq_true h, ← h]
    exact hg
  · rw [decide_eq_false h]
    by_cases hg2 : goodB (flips l ps) = true
    · obtain ⟨hs, _⟩ := good_parts hg
      exact absurd (few_ne hl (by omega) hps hp (good_same hg hg2 hl (flips_lt ps hl))) h
    · simpa using hg2
/-- Some bits within 32: never good. -/
theorem near_bad {l : List Nat} {p w : Nat} (hg : goodB l = true) (hl : ∀ x ∈ l, x < 256) (hp : p + 32 ≤ 8 * l.length) (hw : w < 4294967296) (h0 : w ≠ 0) : goodB (flipN l p w 32) = false := by
  by_cases hg2 : goodB (flipN l p w 32) = true
  · exact absurd (good_same hg hg2 hl (flipN_lt p w 32 hl)) (near_ne hl hp hw h0)
  · simpa using hg2
/-- Bytes of another length are never good. -/
theorem good_size {l : List Nat} (h : l.length ≠ 64) (h' : l.length ≠ 128) : goodB l = false := by
  unfold goodB szB
  simp [h, h']
end Go.Proofs.YtlikhmhomkiadaaDoor

namespace Go.Proofs.YtlikhmhomkiadaaDoor
set_option maxRecDepth 100000
open Go Go.RowKit

theorem By.sub {w : World} {g o n c : Nat} {l : List Nat} (h : By w (some ⟨g, o, none⟩) n c l) (i k c' : Nat) (hk : i + k ≤ n) (hc : k ≤ c') (hm : c' ≤ 9223372036854775807) : By w (some ⟨g, o + i, none⟩) k c' ((l.drop i).take k) :=
  ⟨by rw [List.length_take, List.length_drop, h.len]; omega, hc, hm, (h.rd.drop rfl i).take k, fun hh => by cases hh⟩

/-- What parts answers: the tag's numbers, the body; none where the tag isn't valid or the body is longer than the bytes. -/
def okB (l : List Nat) : Bool := PV (tagOf l) && decide (17 + bodyN l ≤ l.length)
def qf (l : List Nat) (k : Nat) : Nat := if okB l = true then pf (tagOf l) k else 0
def ql (l : List Nat) : List Nat := if okB l = true then bodyOf l else []
theorem qf_yes {l : List Nat} (h : okB l = true) (k : Nat) : qf l k = pf (tagOf l) k := by unfold qf; rw [if_pos h]
theorem qf_no {l : List Nat} (h : okB l = false) (k : Nat) : qf l k = 0 := by unfold qf; rw [if_neg (by rw [h]; simp)]
theorem ql_yes {l : List Nat} (h : okB l = true) : ql l = bodyOf l := by unfold ql; rw [if_pos h]
theorem ql_no {l : List Nat} (h : okB l = false) : ql l = [] := by unfold ql; rw [if_neg (by rw [h]; simp)]
theorem okB_PV {l : List Nat} (h : PV (tagOf l) = false) : okB l = false := by unfold okB; rw [h]; rfl
theorem okB_long {l : List Nat} (h : l.length < 17 + bodyN l) : okB l = false := by
  unfold okB
  rw [decide_eq_false (by omega), Bool.and_false]
theorem okB_yes {l : List Nat} (hp : PV (tagOf l) = true) (h : 17 + bodyN l ≤ l.length) : okB l = true := by
  unfold okB
  rw [hp, decide_eq_true h]
  rfl

/-- What Open answers: the state, the tag's numbers, the body. -/
def stN (l : List Nat) : Nat := if szB l = true then (if zeroB l = true then 0 else if goodB l = true then 1 else 2) else 2
def ofl (l : List Nat) (k : Nat) : Nat := if goodB l = true then pf (tagOf l) k else 0
def obl (l : List Nat) : List Nat := if goodB l = true then bodyOf l else []
theorem ofl_yes {l : List Nat} (h : goodB l = true) (k : Nat) : ofl l k = pf (tagOf l) k := by unfold ofl; rw [if_pos h]
theorem ofl_no {l : List Nat} (h : goodB l = false) (k : Nat) : ofl l k = 0 := by unfold ofl; rw [if_neg (by rw [h]; simp)]
theorem obl_yes {l : List Nat} (h : goodB l = true) : obl l = bodyOf l := by unfold obl; rw [if_pos h]
theorem obl_no {l : List Nat} (h : goodB l = false) : obl l = [] := by unfold obl; rw [if_neg (by rw [h]; simp)]
theorem good_sz {l : List Nat} (h : goodB l = true) : szB l = true := by
  unfold goodB at h
  simp only [Bool.and_eq_true] at h
  exact h.1.1.1
theorem szB_iff {l : List Nat} : szB l = true ↔ l.length = 64 ∨ l.length = 128 := by
  unfold szB
  simp
theorem stN_good {l : List Nat} (h : goodB l = true) : stN l = 1 := by
  unfold stN
  rw [if_pos (good_sz h), if_neg (by rw [good_not_zero h]; simp), if_pos h]
theorem stN_blank {l : List Nat} (hs : szB l = true) (h : zeroB l = true) : stN l = 0 := by unfold stN; rw [if_pos hs, if_pos h]
theorem stN_size {l : List Nat} (h : szB l = false) : stN l = 2 := by unfold stN; rw [if_neg (by rw [h]; simp)]
theorem stN_bad {l : List Nat} (hz : zeroB l = false) (h : goodB l = false) : stN l = 2 := by
  unfold stN
  rw [if_neg (show ¬ zeroB l = true by rw [hz]; simp), if_neg (show ¬ goodB l = true by rw [h]; simp)]
  split <;> rfl
theorem size_bad {l : List Nat} (h : szB l = false) : goodB l = false := by
  unfold goodB
  rw [h]
  rfl
theorem zero_bad {l : List Nat} (h : zeroB l = true) : goodB l = false := by
  by_cases hg : goodB l = true
  · rw [good_not_zero hg] at h; cases h
  · simpa using hg
theorem stN_one {l : List Nat} : stN l = 1 ↔ goodB l = true := by
  constructor
  · intro h
    by_cases hg : goodB l = true
    · exact hg
    · have hg' : goodB l = false := by simpa using hg
      unfold stN at h
      rw [if_neg hg] at h
      split at h
      · split at h <;> cases h
      · cases h
  · exact stN_good
theorem room_ws {l : List Nat} (h : szB l = false) : roomN ((wsN l.length : Nat) : Int) = 0 := by
  have hs : ¬ (l.length = 64 ∨ l.length = 128) := fun hh => by rw [szB_iff.2 hh] at h; cases h
  unfold wsN
  by_cases hm : l.length % 64 = 0
  · rw [if_pos hm]
    exact roomN_no (by omega) (by omega)
  · rw [if_neg hm]
    exact roomN_no (by omega) (by omega)
theorem ws_div {l : List Nat} (h : szB l = true) : wsN l.length = l.length / 64 := by
  unfold wsN
  rw [szB_iff] at h
  rw [if_pos (by omega)]
theorem room_pos {l : List Nat} (h : szB l = true) : roomN ((l.length / 64 : Nat) : Int) ≠ 0 := by
  rw [szB_iff] at h
  rcases h with h | h
  · rw [h]; decide
  · rw [h]; decide
theorem good_okB {l : List Nat} (h : goodB l = true) : okB l = true := by
  obtain ⟨hs, hp, hn, _⟩ := good_parts h
  have := room_le_of hs hn
  exact okB_yes hp (by omega)
theorem may_pf {l : List Nat} (h : PV l = true) : mayB (pf l 0) (pf l 1) (pf l 2) (pf l 3) (pf l 4) = true := by
  rw [pf_yes h, pf_yes h, pf_yes h, pf_yes h, pf_yes h]
  unfold PV at h
  simp only [Bool.and_eq_true] at h
  exact h.2
theorem tagOf_lt {l : List Nat} (hl : ∀ b ∈ l, b < 256) : ∀ b ∈ tagOf l, b < 256 := fun x hx => hl x (List.mem_of_mem_drop (List.mem_of_mem_take hx))
theorem bodyOf_len {l : List Nat} (h : 17 + bodyN l ≤ l.length) : (bodyOf l).length = bodyN l := by unfold bodyOf; rw [List.length_take, List.length_drop]; omega
theorem okB_parts {l : List Nat} (h : okB l = true) : PV (tagOf l) = true ∧ 17 + bodyN l ≤ l.length := by
  unfold okB at h
  simpa using h

/-- The parts, sealed once more, tell the good ones. -/
def reE (l : List Nat) : Int := sealE (qf l 0) (qf l 1) (qf l 2) (qf l 3) (qf l 4) (ql l).length ((l.length / 64 : Nat) : Int)
def reL (l : List Nat) : List Nat := sealL (qf l 0) (qf l 1) (qf l 2) (qf l 3) (qf l 4) (ql l) ((l.length / 64 : Nat) : Int)
theorem re_no {l : List Nat} (hs : szB l = true) (h : reE l ≠ 0) : goodB l = false := by
  by_cases hg : goodB l = true
  · refine absurd ?_ h
    have ho := good_okB hg
    obtain ⟨hp, hn⟩ := okB_parts ho
    unfold reE
    rw [qf_yes ho, qf_yes ho, qf_yes ho, qf_yes ho, qf_yes ho, ql_yes ho]
    exact sealE_yes (room_pos hs) (may_pf hp) (by rw [bodyOf_len hn]; exact (good_parts hg).2.2.1)
  · simpa using hg
theorem re_yes {l : List Nat} (hs : szB l = true) (hl : ∀ b ∈ l, b < 256) (h : reE l = 0) : goodB l = decide (reL l = l) := by
  have hr := room_pos hs
  by_cases ho : okB l = true
  · obtain ⟨hp, hn⟩ := okB_parts ho
    unfold reE at h
    rw [qf_yes ho, qf_yes ho, qf_yes ho, qf_yes ho, qf_yes ho, ql_yes ho, bodyOf_len hn] at h
    have hroom : bodyN l ≤ roomN ((l.length / 64 : Nat) : Int) := by
      rcases Nat.lt_or_ge (roomN ((l.length / 64 : Nat) : Int)) (bodyN l) with h1 | h1
      · rw [sealE_long hr (may_pf hp) h1] at h; cases h
      · exact h1
    have hL : reL l = frameL (bodyOf l) (tagOf l) (l.length / 64) := by
      unfold reL
      rw [qf_yes ho, qf_yes ho, qf_yes ho, qf_yes ho, qf_yes ho, ql_yes ho, sealL_yes (by rw [bodyOf_len hn]; exact h), (pl_of hp (tagOf_lt hl)).1, Int.toNat_natCast]
    rw [hL]
    unfold goodB
    rw [hs, hp, decide_eq_true hroom, Bool.true_and, Bool.true_and, Bool.true_and]
    by_cases he : l = frameL (bodyOf l) (tagOf l) (l.length / 64)
    · rw [decide_eq_true he, decide_eq_true he.symm]
    · rw [decide_eq_false he, decide_eq_false fun hh => he hh.symm]
  · have ho' : okB l = false := by simpa using ho
    unfold reE at h
    rw [qf_no ho', qf_no ho', qf_no ho', qf_no ho', qf_no ho', sealE_arg (.inr (by decide))] at h
    cases h
end Go.Proofs.YtlikhmhomkiadaaDoor
