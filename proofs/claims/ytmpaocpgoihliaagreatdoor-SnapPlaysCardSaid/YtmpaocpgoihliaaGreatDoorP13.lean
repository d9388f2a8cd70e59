/-
  Plain facts on logs: puts on a disk, one behind the other; what faults leave of their slots, if all that is hurt is seen.
-/
import Derived.Test.YtmpaocpgoihliaaGreatDoorP00
import Derived.Test.YtmpaocpgoihliaaGreatDoorP01
import Derived.Test.YtmpaocpgoihliaaGreatDoorP02
import Derived.Test.YtmpaocpgoihliaaGreatDoorP05
import Derived.Test.YtmpaocpgoihliaaGreatDoorP06
import Derived.Test.YtmpaocpgoihliaaGreatDoorP07
import Derived.Test.YtmpaocpgoihliaaGreatDoorP11
import Derived.Test.YtmpaocpgoihliaaGreatDoorP12
import Derived.Deep.RegionHeld3
import Derived.LoopN
import Derived.Deep.DeepCutAuto
import Derived.RangeFuncNested
import Derived.RangeFuncBound
import Derived.RangeFuncCalls
import Derived.RangeFuncLeaves
import Derived.Shelf.Abstract
import Derived.Shelf.RegionOpen
import Derived.WalkKit
import Derived.OwnWalkIn
import Derived.TacticsInMore
import Derived.LoopNIn
import Derived.LoopIn
import Derived.OrdersIn
import Derived.TacticsIn
import Derived.Laws.IdiomArrays
namespace Go.Proofs.YtmpaocpgoihliaaGreatDoor
set_option maxRecDepth 100000
section
set_option maxRecDepth 100000
end
section
def unE (x : Int × DM) (f : DM → Int × DM) : Int × DM := if x.1 = 0 then f x.2 else x
def wrsE (x : Int × DM) (S : Int) (L : List Nat) : Nat → Int × DM
 | 0 => x
 | k + 1 => unE (wrsE x S L k) fun m => m.write (S + (k : Int)) ((L.drop (64 * k)).take 64)
theorem wrs_err {E : Int} {m : DM} (h : E ≠ 0) (S : Int) (L : List Nat) : ∀ W, wrsE (E, m) S L W = (E, m)
 | 0 => rfl
 | k + 1 => by
  show unE (wrsE (E, m) S L k) _ = _
  rw [wrs_err h S L k]
  exact if_neg h
end
section
def fitsC (k count n : Nat) : Bool := decide (1 ≤ count ∧ count ≤ 8 ∧ k < count ∧ n ≤ 80 ∧ (k + 1 < count → n = 80) ∧ (1 ≤ n ∨ count = 1))
theorem fitsC_iff {k count n : Nat} : fitsC k count n = true ↔ 1 ≤ count ∧ count ≤ 8 ∧ k < count ∧ n ≤ 80 ∧ (k + 1 < count → n = 80) ∧ (1 ≤ n ∨ count = 1) := decide_eq_true_iff
def chunkN (n : Nat) : Nat := if n ≤ 80 then 1 else (n + 79) / 80
def chunkL (b : List Nat) (k : Nat) : List Nat := (b.drop (80 * k)).take 80
def splitL (b : List Nat) : List (List Nat) := (List.range (chunkN b.length)).map (chunkL b)
theorem chunkN_in {n : Nat} (h : n ≤ 640) : 1 ≤ chunkN n ∧ chunkN n ≤ 8 ∧ n ≤ 80 * chunkN n ∧ (2 ≤ chunkN n → 80 * (chunkN n - 1) < n) := by unfold chunkN; split <;> omega
theorem splitL_len (b : List Nat) : (splitL b).length = chunkN b.length := by unfold splitL; simp
theorem chunkL_len (b : List Nat) (k : Nat) : (chunkL b k).length = min 80 (b.length - 80 * k) := by unfold chunkL; rw [List.length_take, List.length_drop]
end
section
open Go Go.RowKit
theorem u8_sizeZ (w : World) : (sizeOf (Tryz.prog.elem 45)).run Tryz.prog w = .ok 1 w := by
 have ht : Tryz.prog.elem 45 = 5 := by kernel_rfl
 obtain ⟨i0, hi, _, hz1, _⟩ := info_parts byte_info
 rw [ht]
 simp [Go.sizeOf, typeInfo, hi, hz1]
def inZ (a n b : Int) : Bool := decide (a ≤ n ∧ n ≤ b)
theorem inZ_iff {a n b : Int} : inZ a n b = true ↔ a ≤ n ∧ n ≤ b := decide_eq_true_iff
set_option maxHeartbeats 400000 in
theorem zwithin_of (a n b : Int) (w : World) : Calls Tryz.prog 245 #[.int .i64 a, .int .i64 n, .int .i64 b] w fun e w' => e = .returned (.bool (inZ a n b)) ∧ w = w' := by
 by_cases h1 : a ≤ n
 ·by_cases h2 : n ≤ b
  ·have hd : inZ a n b = true := inZ_iff.2 ⟨h1, h2⟩
   rw [hd]
   clear hd
   go_enter Tryz.func245, Tryz.ntmps245
   go_wp2
   go_ret
   exact ⟨rfl, rfl⟩
  ·have hd : inZ a n b = false := by unfold inZ; exact decide_eq_false fun h => h2 h.2
   rw [hd]
   clear hd
   go_enter Tryz.func245, Tryz.ntmps245
   go_wp2
   go_ret
   exact ⟨rfl, rfl⟩
 ·have hd : inZ a n b = false := by unfold inZ; exact decide_eq_false fun h => h1 h.1
  rw [hd]
  clear hd
  go_enter Tryz.func245, Tryz.ntmps245
  go_wp2
  go_ret
  exact ⟨rfl, rfl⟩
set_option maxHeartbeats 400000 in
theorem zcount_of (n : Int) (w : World) : Calls Tryz.prog 217 #[.int .i64 n] w fun e w' => e = .returned (.bool (inZ 1 n 8)) ∧ w = w' := by
 go_enter Tryz.func217, Tryz.ntmps217
 go_wp2_with fail
 refine (zwithin_of 1 n 8 _).mono ?_
 rintro e w1 ⟨rfl, rfl⟩
 go_wp2_with fail
 go_ret
 exact ⟨rfl, rfl⟩
def fitsZ (k : Int) (count n : Nat) : Bool := decide (0 ≤ k) && fitsC k.toNat count n
theorem fitsZ_nat {k count n : Nat} : fitsZ (k : Int) count n = fitsC k count n := by unfold fitsZ; simp
theorem fitsZ_eq {k : Int} {count n : Nat} (hc : 1 ≤ count ∧ count ≤ 8) : fitsZ k count n = (inZ 0 k ((count : Int) - 1) && inZ (if count = 1 then 0 else if k < (count : Int) - 1 then 80 else 1) (n : Int) 80) := by
 unfold fitsZ inZ
 rw [Bool.eq_iff_iff, Bool.and_eq_true, Bool.and_eq_true, decide_eq_true_iff, decide_eq_true_iff, decide_eq_true_iff, fitsC_iff]
 by_cases h1 : count = 1
 ·rw [if_pos h1]; omega
 ·rw [if_neg h1]
  by_cases h2 : k < (count : Int) - 1
  ·rw [if_pos h2]; omega
  ·rw [if_neg h2]; omega
set_option maxHeartbeats 800000 in
theorem zmay_of (count : Nat) (hc : 1 ≤ count ∧ count ≤ 8) (k : Int) (A : Option Addr) (n c : Nat) (w : World) :
 Calls Tryz.prog 219 #[.int .i64 (count : Int), .int .i64 k, .slice A n c] w fun e w' => e = .returned (.bool (fitsZ k count n)) ∧ w = w' := by
 rw [fitsZ_eq hc]
 have fin : ∀ L : Int, (if count = 1 then (0 : Int) else if k < (count : Int) - 1 then 80 else 1) = L → Hid (Calls Tryz.prog 245 #[.int .i64 L, .int .i64 (n : Int), .int .i64 80] w fun e w' => e = .returned (.bool (inZ L n 80)) ∧ w = w') := fun L _ => Lib.hid (zwithin_of L n 80 w)
 have HI := Lib.hid (zwithin_of 0 k ((count : Int) - 1) w)
 obtain ⟨b0, hb0⟩ : ∃ b0, inZ 0 k ((count : Int) - 1) = b0 := ⟨_, rfl⟩
 rw [hb0] at HI ⊢
 clear hb0
 by_cases h1 : count = 1
 ·subst h1
  have H2 := fin 0 rfl
  rw [if_pos rfl]
  clear fin
  cases b0 with
  | false =>
   go_enter Tryz.func219, Tryz.ntmps219
   go_wp2_with fail
   refine HI.out.mono ?_
   rintro e w1 ⟨rfl, rfl⟩
   go_wp2_with fail
   go_ret
   exact ⟨rfl, rfl⟩
  | true =>
   go_enter Tryz.func219, Tryz.ntmps219
   go_wp2_with fail
   refine HI.out.mono ?_
   rintro e w1 ⟨rfl, rfl⟩
   go_wp2_with fail
   refine H2.out.mono ?_
   rintro e w1 ⟨rfl, rfl⟩
   go_wp2_with fail
   go_ret
   exact ⟨rfl, rfl⟩
 ·have h1i : ¬ (count : Int) = 1 := by omega
  by_cases h2 : k < (count : Int) - 1
  ·have H2 := fin 80 (by rw [if_neg h1, if_pos h2])
   rw [if_neg h1, if_pos h2]
   clear fin
   cases b0 with
   | false =>
    go_enter Tryz.func219, Tryz.ntmps219
    go_wp2_with fail
    refine HI.out.mono ?_
    rintro e w1 ⟨rfl, rfl⟩
    go_wp2_with fail
    go_ret
    exact ⟨rfl, rfl⟩
   | true =>
    go_enter Tryz.func219, Tryz.ntmps219
    go_wp2_with fail
    refine HI.out.mono ?_
    rintro e w1 ⟨rfl, rfl⟩
    go_wp2_with fail
    refine H2.out.mono ?_
    rintro e w1 ⟨rfl, rfl⟩
    go_wp2_with fail
    go_ret
    exact ⟨rfl, rfl⟩
  ·have H2 := fin 1 (by rw [if_neg h1, if_neg h2])
   rw [if_neg h1, if_neg h2]
   clear fin
   cases b0 with
   | false =>
    go_enter Tryz.func219, Tryz.ntmps219
    go_wp2_with fail
    refine HI.out.mono ?_
    rintro e w1 ⟨rfl, rfl⟩
    go_wp2_with fail
    go_ret
    exact ⟨rfl, rfl⟩
   | true =>
    go_enter Tryz.func219, Tryz.ntmps219
    go_wp2_with fail
    refine HI.out.mono ?_
    rintro e w1 ⟨rfl, rfl⟩
    go_wp2_with fail
    refine H2.out.mono ?_
    rintro e w1 ⟨rfl, rfl⟩
    go_wp2_with fail
    go_ret
    exact ⟨rfl, rfl⟩
end
section
open Go Go.RowKit Go.Lib
theorem own_madeZ (w : World) : (w.alloc (.cells #[] 5)).ownsRow w.heap.size 5 1 (.slice (some ⟨w.heap.size, 0, none⟩) 0 0) 0 (vb []) := World.ownsRow_made w #[] 0 (Nat.le_refl _) (Nat.zero_le _) rfl
theorem sclone_by (A : Option Addr) (l : List Nat) (n c : Nat) (w : World) (hb : By w A n c l) (hm : n ≤ 140737488355328) :
 Calls Tryz.prog 165 #[.slice A n c] w fun e w' => ∃ A' c', e = .returned (.slice A' n c') ∧ By w' A' n c' l ∧ Ext w w' ∧ w'.ownsRow w.heap.size 5 1 (.slice A' n c') n (vb l) := by
 obtain ⟨i0, hi, hz0, hz1, hz2⟩ := info_parts byte_info
 have q22 : ∀ (w : World) (a : Option Addr) (n c n' c' : Nat), (binOp .eql 45 (.slice a n c) (.slice none n' c')).run Tryz.prog w = .ok (.bool a.isNone) w := fun w a n c n' c' => Lib.run_eql_slice_nil w _ _ a n c n' c' Tryz.underlying45
 have HB := Lib.hid hb
 cases A with
 | none =>
  obtain rfl := Bs.nil_ hb rfl
  have hn : n = 0 := by have := Bs.cap hb; omega
  subst hn
  have hl0 : l = [] := List.eq_nil_of_length_eq_zero (Bs.len hb)
  subst hl0
  clear hb
  go_enter Tryz.func165, Tryz.ntmps165
  go_wp2_with fail
  go_ret
  exact ⟨none, 0, rfl, By.nil_ _, Ext.refl _, World.ownsRow_nil _ _ _ _⟩
 | some ad =>
  have HX := Lib.hid ((Ext.refl w).alloc (.cells #[] 5))
  have HO := Lib.hid (own_madeZ w)
  clear hb
  go_enter Tryz.func165, Tryz.ntmps165
  go_wp2_with (at_builtin; refine wpList_append_by rfl _ _ 45 rfl w.heap.size 5 i0 Tryz.underlying45 hi hz0 hz1 hz2 _ 0 (vb []) rfl HO.out (some ad) n c l rfl (HB.out.ext HX.out) (by omega) (Ext.size HX.out) ?_)
  intro v2 w2 hown hg
  obtain ⟨hx, A2, c2, rfl, hb2, ho2⟩ := app_step (l1 := []) HX.out HO.out hg hown (by simp) HB.out.rd.lt
  have HX2 := Lib.hid hx
  have HB2 := Lib.hid hb2
  have HO2 := Lib.hid ho2
  clear hx hb2 ho2 hown hg
  go_wp2_with fail
  go_ret
  exact ⟨A2, c2, rfl, HB2.out, HX2.out, HO2.out⟩
end
section
open Go Go.RowKit
def bdZ (count : Int) (c : List Nat) : Bool := decide (1 ≤ count ∧ count ≤ 8 ∧ c.length ≤ 80)
theorem bdZ_iff {count : Int} {c : List Nat} : bdZ count c = true ↔ 1 ≤ count ∧ count ≤ 8 ∧ c.length ≤ 80 := decide_eq_true_iff
def prZE (count : Int) (c : List Nat) : Int := if bdZ count c = true then 0 else 2
def prZL (count : Int) (c : List Nat) : List Nat := if bdZ count c = true then count.toNat :: c else []
def paZ : List Nat → Nat × List Nat × Int
 | [] => (0, [], 120)
 | x :: r => if 1 ≤ x ∧ x ≤ 8 ∧ r.length ≤ 80 then (x, r, 0) else (0, [], 120)
theorem digs_byteZ {n : Nat} (h : n < 256) : digs 1 n = [n] := by simp [digs]; omega
theorem fits_byteZ {n : Nat} (h : n < 256) : fitsB (1 : Nat) n = true := fits_iff.2 ⟨rfl, by omega, by simpa using h⟩
set_option maxHeartbeats 1000000 in
theorem zprint_any (count : Int) (A : Option Addr) (n c : Nat) (l : List Nat) (w : World) (hL : Laid w) (hb : By w A n c l) (hn : n ≤ 140737488355000) :
 Calls Tryz.prog 216 #[.int .i64 count, .slice A n c] w fun e w' => ∃ A' N' c', e = .returned (.tuple #[.slice A' N' c', .int .i64 (prZE count l)]) ∧ By w' A' N' c' (prZL count l) ∧ Ext w w' := by
 have HL := Lib.hid hL
 have HB := Lib.hid hb
 have hlen := hb.len
 clear hL hb
 cases hz : bdZ count l with
 | true =>
  obtain ⟨h1, h8, h80⟩ := bdZ_iff.1 hz
  obtain ⟨k, rfl⟩ := Int.eq_ofNat_of_zero_le (show 0 ≤ count by omega)
  have hin : inZ 1 (k : Int) 8 = true := inZ_iff.2 ⟨h1, h8⟩
  have HIN := Lib.hid hin
  have HZ := Lib.hid hz
  have hk : k ≤ 8 := by omega
  have hn80 : n ≤ 80 := by omega
  have hp := fun V (hV : Laid V) => put_by 1 k V hV (fits_byteZ (by omega))
  rw [digs_byteZ (show k < 256 by omega)] at hp
  have HP := Lib.hid hp
  clear hin hz h1 h8 h80 hlen hp
  go_enter Tryz.func216, Tryz.ntmps216
  go_wp2_with fail
  refine (zcount_of _ _).mono ?_
  rw [HIN.out]
  rintro e w1 ⟨rfl, rfl⟩
  go_wp2_with fail
  refine (HP.out _ HL.out).mono ?_
  rintro e w1 ⟨A1, c1, rfl, hby, hx⟩
  have HBY := Lib.hid hby
  have HX := Lib.hid hx
  have HB1 := Lib.hid (HB.out.ext hx)
  clear hby hx
  go_wp2_with fail
  have hj := join2_by w1 HBY.out HB1.out (by omega)
  rw [show ([k] : List Nat) ++ l = k :: l from rfl] at hj
  refine hj.mono ?_
  rintro e w2 ⟨A2, c2, rfl, hby, hx⟩
  have HBY2 := Lib.hid hby
  have HX2 := Lib.hid (HX.out.trans hx)
  clear hby hx hj
  go_wp2_with fail
  refine bodyPost_ret (v := .tuple #[.slice A2 (1 + n) c2, .int .i64 0]) (by simp [results, Tryz.results216, go_sem]) rfl ?_
  exact ⟨A2, 1 + n, c2, by unfold prZE; rw [HZ.out]; rfl, by unfold prZL; rw [HZ.out]; simpa using HBY2.out, HX2.out⟩
 | false =>
  have HZ := Lib.hid hz
  cases hin : inZ 1 count 8 with
  | false =>
   have HIN := Lib.hid hin
   clear hz hin
   go_enter Tryz.func216, Tryz.ntmps216
   go_wp2_with fail
   refine (zcount_of _ _).mono ?_
   rw [HIN.out]
   rintro e w1 ⟨rfl, rfl⟩
   go_wp2_with fail
   refine bodyPost_ret (v := .tuple #[.slice none 0 0, .int .i64 2]) (by simp [results, Tryz.results216, go_sem]) rfl ?_
   exact ⟨none, 0, 0, by unfold prZE; rw [HZ.out]; rfl, by unfold prZL; rw [HZ.out]; exact By.nil_ _, Ext.refl _⟩
  | true =>
   have h81 : 80 < n := by
    have h1 := inZ_iff.1 hin
    by_cases h : n ≤ 80
    ·have hln := Bs.len HB.out
     have := (bdZ_iff (count := count) (c := l)).2 ⟨h1.1, h1.2, by omega⟩
     rw [hz] at this
     cases this
    ·omega
   have HIN := Lib.hid hin
   clear hz hin
   go_enter Tryz.func216, Tryz.ntmps216
   go_wp2_with fail
   refine (zcount_of _ _).mono ?_
   rw [HIN.out]
   rintro e w1 ⟨rfl, rfl⟩
   go_wp2_with fail
   refine bodyPost_ret (v := .tuple #[.slice none 0 0, .int .i64 2]) (by simp [results, Tryz.results216, go_sem]) rfl ?_
   exact ⟨none, 0, 0, by unfold prZE; rw [HZ.out]; rfl, by unfold prZL; rw [HZ.out]; exact By.nil_ _, Ext.refl _⟩
def tlA (A : Option Addr) (c : Nat) : Option Addr := if c = 1 then A else A.map fun a => a.add 1
theorem By.tail1 {w : World} {A : Option Addr} {n c x : Nat} {r : List Nat} (h : By w A n c (x :: r)) : By w (tlA A c) (n - 1) (c - 1) r := by
 have hl := h.len
 have hcp := h.cap
 have hm := h.most
 rw [List.length_cons] at hl
 obtain ⟨g, o, hA, _⟩ := h.rd.2 (by simp)
 cases r with
 | nil =>
  simp at hl
  refine ⟨by simp; omega, by omega, by omega, Rd.nil_, fun e => ?_⟩
  subst hA
  unfold tlA at e
  split at e
  ·cases e
  ·cases e
 | cons y r =>
  rw [List.length_cons] at hl
  subst hA
  have e : tlA (some ⟨g, o, none⟩) c = some ⟨g, o + 1, none⟩ := by
   unfold tlA
   rw [if_neg (by omega), Option.map_some, Addr.add_lit]
  rw [e]
  refine ⟨by rw [List.length_cons]; omega, by omega, by omega, h.rd.drop rfl 1, fun e => by cases e⟩
theorem zcut_one (A : Option Addr) (n c : Nat) (h : 1 ≤ n) (w : World) : (Instr.slice 45 (.slice A n c) (some (.int .i64 1)) none none).run Tryz.prog w = .ok (.slice (tlA A c) (n - 1) (c - 1)) w := by
 have ht : Tryz.prog.elem 45 = 5 := by kernel_rfl
 rw [run_slice_l w 45 A n c (by rw [ht]; exact Tryz.underlying45) .i64 1 (by omega) (by omega), u8_sizeZ]
 simp only [Result.andThen, sliced]
 rw [show (1 : Int).toNat = 1 from rfl]
 unfold tlA
 simp
theorem getS_cons (x : Nat) (r : List Nat) : getS (x :: r) 0 1 = (x, 1, 0) := by
 unfold getS
 rw [if_neg (by simp [show wOk 1 = true from by decide]; omega), if_neg (by simp; omega)]
 simp [num]
theorem getS_nilZ : getS [] 0 1 = (0, 0, 10) := by decide
end
section
open Go
/- There and back. -/
end
section
theorem no_copy {x : List Nat} {r g p : Int} (h : stM x r g p ≠ 1) (k : Nat) : mfl x r g p k = 0 := by
 unfold mfl
 split
 ·rename_i hm
  exact absurd (by unfold stM; rw [if_pos (by unfold mineB at hm; rw [Bool.and_eq_true] at hm; exact hm.1), if_pos hm]) h
 ·rfl
theorem nil_bad (r g p : Int) : stM [] r g p = 2 := by
 have hz : szB [] = false := by decide
 rw [(mine_bad (size_bad hz)).1]
 exact stN_size hz
section
variable {g : Int} {x y : List Nat} {v c u d : Nat} {b e : List Nat}
end
section
variable {m : DM} {pw : Int} {g : Int} {v : Nat} {b : List Nat}
end
end
section
variable {r : Int}
section
variable {g : Int} {x y : List Nat} {v c u d : Nat} {b e : List Nat}
end
section
variable {m : DM} {pw : Int} {g : Int} {v : Nat} {b : List Nat}
end
end
section
variable {r : Int}
end
section
section
variable {m : DM} {pw : Int} {r : Int} {v : Nat} {b : List Nat}
end
end
section
structure ShM where
 ix : Nat := 0
 ar : Nat := 0
 ct : Nat := 0
def manL (s : ShM) : List Nat := (digs 6 s.ix ++ digs 1 s.ar) ++ digs 1 s.ct
def manR (b : List Nat) : ShM := ⟨num ((b.drop 0).take 6), num ((b.drop 6).take 1), num ((b.drop 7).take 1)⟩
def manOk (s : ShM) : Bool := decide (1 ≤ s.ix ∧ s.ix ≤ 1099511627752 ∧ s.ar ≤ 1 ∧ 1 ≤ s.ct ∧ s.ct ≤ 8)
def manB (b : List Nat) : Bool := decide (b.length = 8) && manOk (manR b)
def manE (b : List Nat) : Int := if manB b = true then 0 else 130
def manS (b : List Nat) : ShM := if manB b = true then manR b else {}
theorem manOk_iff {s : ShM} : manOk s = true ↔ 1 ≤ s.ix ∧ s.ix ≤ 1099511627752 ∧ s.ar ≤ 1 ∧ 1 ≤ s.ct ∧ s.ct ≤ 8 := decide_eq_true_iff
theorem manL_lt (s : ShM) : ∀ x ∈ manL s, x < 256 := by
 intro x hx
 unfold manL at hx
 rcases List.mem_append.1 hx with h | h
 ·rcases List.mem_append.1 h with h | h
  ·exact digs_lt _ _ x h
  ·exact digs_lt _ _ x h
 ·exact digs_lt _ _ x h
theorem manS_ok {b : List Nat} (h : manE b = 0) : manOk (manS b) = true := by
 unfold manE at h
 unfold manS
 by_cases hb : manB b = true
 ·rw [if_pos hb]
  unfold manB at hb
  rw [Bool.and_eq_true] at hb
  exact hb.2
 ·rw [if_neg hb] at h
  cases h
def sC (p : Nat) : Nat := 124 + 2 * p
theorem first5 {p : Nat} (h : p < 16) : firstS 5 (p : Int) = (sC p : Nat) := by
 unfold firstS sC
 rw [if_pos (by simp [plc]; omega)]
 simp [beg, wid]
 omega
theorem sC_lt {p : Nat} (h : p < 16) : sC p + 1 < 156 := by unfold sC; omega
def DM.kb (m : DM) (p : Int) : List Nat := pair2 (m.read (firstS 5 p)).1 (m.read (firstS 5 p + 1)).1
def okC (r : Int) (s : ShM) (k : Nat) (x : List Nat) : Bool := decide (stM x r 5 ((8 * s.ar + k : Nat) : Int) = 1 ∧ mfl x r 5 ((8 * s.ar + k : Nat) : Int) 3 = s.ix ∧ (paZ (mbl x r 5 ((8 * s.ar + k : Nat) : Int))).2.2 = 0 ∧ (paZ (mbl x r 5 ((8 * s.ar + k : Nat) : Int))).1 = s.ct ∧ fitsC k s.ct (paZ (mbl x r 5 ((8 * s.ar + k : Nat) : Int))).2.1.length = true)
def bytC (r : Int) (s : ShM) (k : Nat) (x : List Nat) : List Nat := if okC r s k x = true then (paZ (mbl x r 5 ((8 * s.ar + k : Nat) : Int))).2.1 else []
def DM.chB (m : DM) (r : Int) (s : ShM) (k : Nat) : Bool := okC r s k (m.kb ((8 * s.ar + k : Nat) : Int))
def DM.chL (m : DM) (r : Int) (s : ShM) (k : Nat) : List Nat := bytC r s k (m.kb ((8 * s.ar + k : Nat) : Int))
def DM.hurtK (m : DM) (r : Int) (s : ShM) (n : Nat) : List Nat := (List.range n).filter fun k => !m.chB r s k
theorem hurtK_succ (m : DM) (r : Int) (s : ShM) (n : Nat) : m.hurtK r s (n + 1) = if m.chB r s n = true then m.hurtK r s n else m.hurtK r s n ++ [n] := by
 unfold DM.hurtK
 rw [List.range_succ, List.filter_append]
 cases h : m.chB r s n <;> simp [h]
theorem hurtK_nil {m : DM} {r : Int} {s : ShM} {n : Nat} : m.hurtK r s n = [] ↔ ∀ k, k < n → m.chB r s k = true := by
 unfold DM.hurtK
 rw [List.filter_eq_nil_iff]
 constructor
 ·intro h k hk
  have := h k (List.mem_range.2 hk)
  simpa using this
 ·intro h k hk
  simp [h k (List.mem_range.1 hk)]
def DM.catK (m : DM) (r : Int) (s : ShM) (n : Nat) : List Nat := ((List.range n).map (m.chL r s)).flatten
theorem catK_succ (m : DM) (r : Int) (s : ShM) (n : Nat) : m.catK r s (n + 1) = m.catK r s n ++ m.chL r s n := by
 unfold DM.catK
 rw [List.range_succ]
 simp
def DM.chunkE (m : DM) (r : Int) (s : ShM) (k : Int) : Int := if ¬ (0 ≤ k ∧ k < (s.ct : Int)) then 2 else if m.up = false then 5 else if m.chB r s k.toNat = true then 0 else 130
def DM.chunkO (m : DM) (r : Int) (s : ShM) (k : Int) : List Nat := if m.chunkE r s k = 0 then m.chL r s k.toNat else []
def DM.allE (m : DM) (r : Int) (s : ShM) : Int := if m.up = false then 5 else if m.hurtK r s s.ct = [] then 0 else 130
def DM.allO (m : DM) (r : Int) (s : ShM) : List Nat := if m.allE r s = 0 then m.catK r s s.ct else []
def frmY (r inc : Int) (s : ShM) (k : Nat) (c : List Nat) : List Nat := sealL r 5 ((8 * s.ar + k : Nat) : Int) (s.ix : Int) inc (prZL (s.ct : Int) c) 2
def wrsY (r inc : Int) (s : ShM) : Int × DM → Nat → List (List Nat) → Int × DM
 | x, _, [] => x
 | x, k, c :: l => wrsY r inc s (wrsE x (firstS 5 ((8 * s.ar + k : Nat) : Int)) (frmY r inc s k c) 2) (k + 1) l
theorem wrsY_snoc (r inc : Int) (s : ShM) (c : List Nat) : ∀ (l : List (List Nat)) (x : Int × DM) (k : Nat), wrsY r inc s x k (l ++ [c]) = wrsE (wrsY r inc s x k l) (firstS 5 ((8 * s.ar + (k + l.length) : Nat) : Int)) (frmY r inc s (k + l.length) c) 2
 | [], x, k => rfl
 | d :: l, x, k => by
  show wrsY r inc s _ (k + 1) (l ++ [c]) = _
  rw [wrsY_snoc r inc s c l]
  rw [List.length_cons, show k + 1 + l.length = k + (l.length + 1) from by omega]
  rfl
theorem wrsY_err (r inc : Int) (s : ShM) {E : Int} {m : DM} (h : E ≠ 0) : ∀ (l : List (List Nat)) (k : Nat), wrsY r inc s (E, m) k l = (E, m)
 | [], _ => rfl
 | c :: l, k => by
  show wrsY r inc s _ (k + 1) l = _
  rw [wrs_err h]
  exact wrsY_err r inc s h l (k + 1)
def DM.wrY (m : DM) (r inc : Int) (s : ShM) (k : Nat) (l : List (List Nat)) : Int × DM := unE (wrsY r inc s (0, m) k l) DM.flush
def nextY (s : ShM) (i n : Nat) : ShM := ⟨i, if s.ix = 0 then 0 else 1 - s.ar, n⟩
def DM.putY (m : DM) (r inc : Int) (s : ShM) (l : List (List Nat)) : Int × DM := if (m.wrY r inc s 0 l).1 ≠ 0 then m.wrY r inc s 0 l else (m.wrY r inc s 0 l).2.store r 2 inc (manL s)
end
section
open Go Go.RowKit
theorem wrap_i64 {x : Int} (h1 : -9223372036854775808 ≤ x) (h2 : x ≤ 9223372036854775807) : IntKind.i64.wrap x = x := IntWalk.i64_in _ (by omega)
def inI (a b c : Int) : Bool := decide (a ≤ b) && decide (b ≤ c)
end
section
open Go Go.RowKit Go.Shelf
attribute [local go_sem] Oper.semAt_some
def pcA (A : Option Addr) (c k : Nat) : Option Addr := if c = 80 * k then A else A.map fun a => a.add (80 * k)
def pcV (A : Option Addr) (n c k : Nat) : Value := .slice (pcA A c k) (min 80 (n - 80 * k)) (c - 80 * k)
theorem By.chunk {w : World} {A : Option Addr} {n c : Nat} {b : List Nat} (h : By w A n c b) (k : Nat) (hk : 80 * k ≤ n) : By w (pcA A c k) (min 80 (n - 80 * k)) (c - 80 * k) (chunkL b k) := by
 have hl := h.len
 have hcp := h.cap
 have hm := h.most
 by_cases hz : n = 80 * k
 ·have hnil : chunkL b k = [] := by
   unfold chunkL
   rw [List.drop_of_length_le (by omega)]; rfl
  rw [hnil]
  refine ⟨by simp; omega, by omega, by omega, Rd.nil_, fun e => ?_⟩
  unfold pcA at e
  split at e
  ·omega
  ·rw [Option.map_eq_none_iff] at e
   have := Bs.nil_ h e
   omega
 ·obtain ⟨g, o, hA, _⟩ := h.rd.2 (by omega)
  subst hA
  have e : pcA (some ⟨g, o, none⟩) c k = some ⟨g, o + 80 * k, none⟩ := by
   unfold pcA
   rw [if_neg (by omega), Option.map_some, Addr.add_lit]
  rw [e]
  unfold chunkL
  refine ⟨by rw [List.length_take, List.length_drop]; omega, by omega, by omega, (h.rd.drop rfl (80 * k)).take 80, fun e => by cases e⟩
theorem zcut_mid (A : Option Addr) (n c k : Nat) (h : 80 * k + 80 ≤ n) (hc : n ≤ c) (w : World) : (Instr.slice 45 (.slice A n c) (some (.int .i64 (80 * (k : Int)))) (some (.int .i64 (80 * (k : Int) + 80))) none).run Tryz.prog w = .ok (pcV A n c k) w := by
 have ht : Tryz.prog.elem 45 = 5 := by kernel_rfl
 rw [run_slice_lh w 45 A n c (by rw [ht]; exact Tryz.underlying45) .i64 .i64 (80 * (k : Int)) (80 * (k : Int) + 80) (by omega) (by omega) (by omega), u8_sizeZ]
 simp only [Result.andThen, sliced]
 rw [show (80 * (k : Int)).toNat = 80 * k by omega, show (80 * (k : Int) + 80).toNat = 80 * k + 80 by omega]
 unfold pcV pcA
 rw [show min 80 (n - 80 * k) = 80 * k + 80 - 80 * k by omega]
 simp
theorem zcut_end (A : Option Addr) (n c k : Nat) (h : 80 * k ≤ n) (h2 : n ≤ 80 * k + 80) (w : World) : (Instr.slice 45 (.slice A n c) (some (.int .i64 (80 * (k : Int)))) none none).run Tryz.prog w = .ok (pcV A n c k) w := by
 have ht : Tryz.prog.elem 45 = 5 := by kernel_rfl
 rw [run_slice_l w 45 A n c (by rw [ht]; exact Tryz.underlying45) .i64 (80 * (k : Int)) (by omega) (by omega), u8_sizeZ]
 simp only [Result.andThen, sliced]
 rw [show (80 * (k : Int)).toNat = 80 * k by omega]
 unfold pcV pcA
 rw [show min 80 (n - 80 * k) = n - 80 * k by omega]
 simp
abbrev PcIn (n : Nat) := { k : Nat // k < chunkN n }
def encPc (A : Option Addr) (n c : Nat) (x : PcIn n) : Array Value := #[pcV A n c x.1]
set_option maxHeartbeats 400000 in
theorem zpieces_of (A : Option Addr) (n c : Nat) (w : World) :
 Calls Tryz.prog 164 #[.slice A n c] w fun e w' => e = .returned (.func (.func 215) #[] #[.pointer (some ⟨w.heap.size, 0, none⟩)]) ∧ w' = w.alloc (.cells #[.slice A n c] 45) := by
 go_enter Tryz.func164, Tryz.ntmps164
 go_wp2
 go_ret
 exact ⟨rfl, rfl⟩
set_option maxHeartbeats 1600000 in
theorem zpieces1_in (n0 : Nat) (hn0 : 1 ≤ n0) (l bl : Nat) (G : Nat → Prop) (A : Option Addr) (n c : Nat) (hn9 : n ≤ 640) (hnc : n ≤ c) (J Jx : List (PcIn n) → World → Prop) (W0 V : World) (hV : Mod G W0 V)
 (hGf : ¬ G bl) (hcl : V.cell? ⟨bl, 0, none⟩ = some (.slice A n c))
 (hY : ∀ pre x W, J pre W → pre.length < chunkN n → YieldAt Fence.wide (n0 - 1) Tryz.prog l (encPc A n c x) W fun e W' =>
  (e = .returned (.bool true) ∧ J (pre ++ [x]) W' ∧ Mod G W W') ∨ (e = .returned (.bool false) ∧ Jx (pre ++ [x]) W')) (h0 : J [] V) :
 CallsIn Fence.wide n0 Tryz.prog 215 #[.func (.yield l) #[] #[], .pointer (some ⟨bl, 0, none⟩)] V fun e W' => (∃ v, e = .returned v) ∧
  ((∃ ys : List (PcIn n), ys.map (fun x => x.1) = List.range (chunkN n) ∧ J ys W') ∨ (∃ pre : List (PcIn n), True ∧ Jx pre W')) := by
 have HC := Lib.hid hcl
 have HG := Lib.hid hGf
 have HV := Lib.hid hV
 have HY := Lib.hid hY
 have HN : Hid ((1 ≤ chunkN n ∧ chunkN n ≤ 8 ∧ n ≤ 80 * chunkN n ∧ (2 ≤ chunkN n → 80 * (chunkN n - 1) < n))) := Lib.hid (chunkN_in hn9)
 clear hcl hV hY hGf
 refine callsIn_of_wp Tryz.func215 rfl trivial ?_ rfl
 simp only [Tryz.ntmps215, List.size_toArray, List.length_cons, List.length_nil, Nat.reduceAdd, Nat.reduceSub, Array.replicate_succ, Array.replicate_zero, List.push_toArray, List.append_toArray, List.nil_append, List.cons_append]
 gi_wp2
 gi_loopw [3] (fun i wr => ∃ (j : Nat) (pre : List (PcIn n)), j < chunkN n ∧ i = .int .i64 (80 * (j : Int)) ∧ Hid (pre.map (fun x => x.1) = List.range j) ∧ Hid (J pre wr) ∧ Hid (Mod G V wr)) (fun i _ => 1000 - (intOf i).toNat)
 case atStart => exact ⟨0, [], by have := HN.out; omega, rfl, Lib.hid rfl, Lib.hid h0, Lib.hid (Mod.refl _ _)⟩
 case round =>
  obtain ⟨j, pre, hj, rfl, HP, HJ, HM⟩ := hrel
  have hc0 : wr.cell? ⟨bl, 0, none⟩ = some (.slice A n c) := mod_cell HM.out HG.out HC.out
  have hj8 : j < 8 := by have := HN.out; omega
  obtain ⟨fn, tmps, assign, body, hy, hR⟩ := HY.out pre ⟨j, hj⟩ wr HJ.out (by have := congrArg List.length HP.out; simp at this; omega)
  have HR := Lib.hid hR
  have hy2 : (Instr.yield l #[pcV A n c j]).run Tryz.prog wr = .ok (.round l fn tmps assign body) wr := hy
  clear hR hy
  by_cases hlt : 80 < (n : Int) - 80 * (j : Int)
  ·have hj2 : j + 1 < chunkN n := by have := HN.out; omega
   have hcut := fun W => zcut_mid A n c j (by omega) hnc W
   generalize pcV A n c j = pv at hcut hy2
   gi_wp2
   refine HR.out.mono ?_
   rintro e W4 (⟨rfl, hJ4, hM4⟩ | ⟨rfl, hJ4⟩)
   ·have HJ4 := Lib.hid hJ4
    have HM4 : Hid (Mod G V W4) := Lib.hid (HM.out.trans hM4 fun _ hi => .inl hi)
    clear hJ4 hM4 hy2 hc0 hcut
    gi_wp2
    go_roundw
    case rel => exact ⟨j + 1, _, hj2, by go_num, Lib.hid (by rw [List.map_append, HP.out, List.range_succ]; rfl), HJ4, HM4⟩
    case measure => simp [intOf]; omega
   ·have HJ4 := Lib.hid hJ4
    clear hJ4 hy2 hc0 hcut
    gi_wp2
    refine bodyPost_ret (results_none rfl _ _ _) rfl ?_
    exact ⟨⟨_, rfl⟩, .inr ⟨_, trivial, HJ4.out⟩⟩
  ·have hj2 : j + 1 = chunkN n := by
    have h8 := HN.out
    by_cases h : j + 1 < chunkN n
    ·have := h8.2.2.2 (by omega)
     have : 80 * (j + 1) ≤ 80 * (chunkN n - 1) := Nat.mul_le_mul_left _ (by omega)
     omega
    ·omega
   have hjn : 80 * j ≤ n := by
    have h8 := HN.out
    by_cases h : j = 0
    ·omega
    ·have := h8.2.2.2 (by omega)
     have : 80 * j = 80 * (chunkN n - 1) := by rw [← hj2]; omega
     omega
   have hcut := fun W => zcut_end A n c j hjn (by omega) W
   generalize pcV A n c j = pv at hcut hy2
   gi_wp2
   refine HR.out.mono ?_
   rintro e W4 (⟨rfl, hJ4, hM4⟩ | ⟨rfl, hJ4⟩)
   ·have HJ4 := Lib.hid hJ4
    clear hJ4 hM4 hy2 hc0 hcut
    gi_wp2
    go_end0
    exact ⟨⟨_, rfl⟩, .inl ⟨_, by rw [List.map_append, HP.out, show List.range (chunkN n) = List.range (j + 1) by rw [hj2], List.range_succ]; rfl, HJ4.out⟩⟩
   ·have HJ4 := Lib.hid hJ4
    clear hJ4 hy2 hc0 hcut
    gi_wp2
    go_end0
    exact ⟨⟨_, rfl⟩, .inr ⟨_, trivial, HJ4.out⟩⟩
theorem zpieces_stops (n0 : Nat) (hn0 : 1 ≤ n0) (bl : Nat) (G : Nat → Prop) (A : Option Addr) (n c : Nat) (hn9 : n ≤ 640) (hnc : n ≤ c) (W0 : World) (hGf : ¬ G bl) (hcl : W0.cell? ⟨bl, 0, none⟩ = some (.slice A n c)) :
 SeqStopsK Fence.wide n0 Tryz.prog 215 #[.pointer (some ⟨bl, 0, none⟩)] (encPc A n c) (Mod G) (fun ys => ys.map (fun x => x.1) = List.range (chunkN n)) (fun _ => True) (chunkN n) W0 := fun l J Jx V hV hJ _ hY h0 => by
 have hx : Ext W0 V := hV
 have hm : Mod G W0 V := Mod.of_ext hx
 exact zpieces1_in n0 hn0 l bl G A n c hn9 hnc J Jx W0 V hm hGf (mod_cell hm hGf hcl) hY h0
end
section
open Go
theorem rowsIn_round {n l : Nat} {P : Program} {row : String} {args : Array Value} {w : World} {R : Value → World → Prop} (h : Rows P row args w R) : RowsIn (Fence.wide.inRound l) n P row args w R :=
 fun c cs _ => let ⟨v, w', r, s⟩ := h c cs; ⟨v, w', r, (stepsIn_wide.2 s : StepsIn (Machine.fenced P Fence.wide) P _ _)⟩
theorem op_in_round {n l : Nat} {P : Program} {o : Oper} {a : Act} {w : World} {K : Act → World → Prop} {Q : Exit → Act → World → Prop} (hd : ∀ c, o.op ≠ .defer c) (h : Oper.wp P o a w K Q) : Oper.wpIn (Fence.wide.inRound l) n P o a w K Q := by
 refine ⟨fun _ _ => trivial, ?_⟩
 rw [Fence.inRound_round, Oper.semAt_some l _ _ hd]
 unfold Oper.wp at h
 generalize (execOp a.eval o).run P w = r at h ⊢
 have hdp : (Fence.wide.inRound l).depth.isSome = true → 1 ≤ n := fun e => by cases e
 cases r with
 | ok x w' =>
  cases x <;> simp only [Oper.upon, Oper.uponIn] at h ⊢ <;>
   first
    | exact h
    | exact ⟨hdp, CallsIn.inRound l (callsIn_wide.2 h)⟩
    | exact ⟨hdp, rowsIn_round h⟩
    | exact h.elim
 | halt x w' => cases x <;> simp only [Oper.upon, Oper.uponIn] at h ⊢ <;> exact h
theorem step_in_round {n l : Nat} {P : Program} {o : Oper} {a : Act} {w : World} {K : Act → World → Prop} {Q : Exit → Act → World → Prop} {b : Bool} (hd : ∀ c, o.op ≠ .defer c) (h : if b = true then Oper.wp P o a w K Q else K (a.put o.dst undef) w) :
 if b = true then Oper.wpIn (Fence.wide.inRound l) n P o a w K Q else (∀ f, o.about P w a.eval = some f → (Fence.wide.inRound l).fn f) ∧ K (a.put o.dst undef) w := by
 cases b with
 | true => exact op_in_round hd h
 | false => exact ⟨fun _ _ => trivial, h⟩
end
section
open Go Go.RowKit Go.ChangeShapes Go.WideShapes Go.Deep
structure Lst where
 A : Option Addr := none
 n : Nat := 0
 c : Nat := 0
 l : List Nat := []
instance : Inhabited Lst := ⟨{}⟩
def Lst.Ok (a : Lst) (w : World) (B : Nat) : Prop := Bs w B a.A a.n a.c a.l
structure Lsts (w : World) (B : Nat) (A : Option Addr) (n c : Nat) (l : List Lst) : Prop where
 len : l.length = n
 cap : n ≤ c
 most : c ≤ 9223372036854775807
 each : ∀ a ∈ l, a.Ok w B
 rd : 0 < n → ∃ g o, A = some ⟨g, o, none⟩ ∧ g < B ∧ ∀ j a, l[j]? = some a → w.cell? ⟨g, o + j, none⟩ = some (.slice a.A a.n a.c)
 nil_ : A = none → c = 0
theorem Lsts.below {w w' : World} {B : Nat} {A : Option Addr} {n c : Nat} {l : List Lst} (h : Lsts w B A n c l) (hb : Below B w w') : Lsts w' B A n c l :=
 ⟨h.len, h.cap, h.most, fun a ha => (h.each a ha).below hb, fun hn => by
  obtain ⟨g, o, e, hg, hc⟩ := h.rd hn
  exact ⟨g, o, e, hg, fun j a ha => (hb.cell (p := ⟨g, o + j, none⟩) hg).trans (hc j a ha)⟩, h.nil_⟩
theorem Lsts.more {w : World} {B B' : Nat} {A : Option Addr} {n c : Nat} {l : List Lst} (h : Lsts w B A n c l) (hB : B ≤ B') : Lsts w B' A n c l :=
 ⟨h.len, h.cap, h.most, fun a ha => (h.each a ha).more hB, fun hn => by
  obtain ⟨g, o, e, hg, hc⟩ := h.rd hn
  exact ⟨g, o, e, by omega, hc⟩, h.nil_⟩
theorem Lsts.at_ {w : World} {B : Nat} {A : Option Addr} {n c : Nat} {l : List Lst} (h : Lsts w B A n c l) {j : Nat} (hj : j < n) : ∃ g o a, A = some ⟨g, o, none⟩ ∧ g < B ∧ l[j]? = some a ∧ Bs w B a.A a.n a.c a.l ∧
 w.cell? ⟨g, o + j, none⟩ = some (.slice a.A a.n a.c) := by
 obtain ⟨g, o, e, hg, hc⟩ := h.rd (by omega)
 have hj' : j < l.length := by rw [h.len]; exact hj
 have ha : l[j]? = some l[j] := List.getElem?_eq_getElem hj'
 exact ⟨g, o, l[j], e, hg, ha, h.each _ (List.getElem_mem hj'), hc j _ ha⟩
section
variable {H : Type} {enc : TypeId × Value → H} {P : Program} {w : World} {base : Nat} {spare : Nat → Bool} {held : Bool}
end
end
end Go.Proofs.YtmpaocpgoihliaaGreatDoor
