/-
  The contracts of Put, the program's and the document's: the bytes of a number in a width, or which error.
  The contracts of Put, Get and Fits in the words 'By' and 'Ext', and facts on lists of bytes that go with them.
  The contract of the program's Print.
  The contract of the document's own Places.
  The contract of the document's own May.
  Rows of bytes that the call itself has made: kept over calls that write nothing that was there.
  The contract of the document's own Print.
  The contracts of Print, the program's and the document's, in one form for valid tags and others.
  The contracts of the program's checksum: half a byte by the table, bytes.
-/
import Derived.Test.YtlikhmhomkiadaaGreatDoorM01
import Derived.Test.YtlikhmhomkiadaaGreatDoorM07
import Derived.Test.YtlikhmhomkiadaaGreatDoorM08
import Derived.Test.YtlikhmhomkiadaaGreatDoorM09
import Derived.OwnWalk
import Derived.Test.YtlikhmhomkiadaaGreatDoorProg
import Derived.WalkKit
import Derived.WalkSpells
import Derived.WalkLawsBesides
import Derived.BigQuiet
import Derived.Lib.Hide
import Derived.Outline
import Derived.Deep.QuietTactic
import Derived.Laws.OwnMore
import Derived.Laws.BitsAllLaws
namespace Go.Proofs.YtlikhmhomkiadaaGreatDoor
set_option maxRecDepth 100000
open Go Go.RowKit

theorem pad_set (k x N : Nat) (hk : k < x) : (vb (digs k N ++ List.replicate (x - k) 0)).set k (.int .u8 ((N / 256 ^ k % 256 : Nat) : Int)) = vb (digs (k + 1) N ++ List.replicate (x - (k + 1)) 0) := by
  have e : x - k = (x - (k + 1)) + 1 := by omega
  rw [digs_snoc, e, List.replicate_succ]
  simp only [vb, List.map_append, List.map_cons, List.append_assoc, List.map_nil]
  rw [List.set_append_right _ _ (by simp [digs_length])]
  simp [digs_length]

theorem shr_byte (N k : Nat) : (((N : Int) / 2 ^ (8 * k)) % 256) = ((N / 256 ^ k % 256 : Nat) : Int) := by
  have e : (2 : Nat) ^ (8 * k) = 256 ^ k := by rw [Nat.pow_mul]
  rw [← e]
  simp

set_option maxHeartbeats 800000 in
theorem oput_yes (x N : Nat) (w : World) (hL : Laid w) (hf : fitsB x N = true) :
    Calls Tryz.prog 146 #[.int .i64 x, .int .i64 N] w fun e w' => ∃ A' c', e = .returned (.tuple #[.slice A' x c', .int .i64 0]) ∧ w'.ownsRow w.heap.size 5 1 (.slice A' x c') x (vb (digs x N)) ∧ Below w.heap.size w w' := by
  obtain ⟨i0, hi, hz0, hz1, hz2⟩ := info_parts byte_info
  obtain ⟨hw, _, hN⟩ := fits_iff.1 hf
  have hx0 : 1 ≤ x ∧ x ≤ 6 := by rcases wOk_cases hw with h | h | h | h <;> omega
  have hN2 : N < 281474976710656 := by
    have h1 : 256 ^ x ≤ 256 ^ 6 := Nat.pow_le_pow_right (by omega) hx0.2
    simp only [Int.toNat_natCast] at hN
    exact Nat.lt_of_lt_of_le hN (Nat.le_trans h1 (by decide))
  have H := Lib.hid hL
  have HF := Lib.hid hf
  clear hL hf hN hw
  go_enter Tryz.func146, Tryz.ntmps146
  go_wp2_with (first
    | (go_at_call 159; refine (fits_any _ _ _ H.out).mono ?_; rintro e w' ⟨rfl, rfl⟩; rw [HF.out])
    | (at_make; refine wpList_make_full _ rfl _ _ 34 rfl w.heap.size 5 i0 (.int .u8 0) 1 Tryz.underlying34 hi hz0 hz1 .i64 .i64 _ _ x rfl rfl rfl rfl ?b1 ?b2 ?b3 ?_))
  case b1 => rw [hz2]; omega
  case b2 => unfold maxLen; omega
  case b3 => exact Nat.le_refl _
  intro w1 hown hg
  have HO : Hid (w1.ownsRow w.heap.size 5 1 (.slice (some ⟨w.heap.size, 0, none⟩) x x) x (vb (digs 0 N ++ List.replicate (x - 0) 0))) := by
    have e : (madeCells #[Value.int .u8 0] x).toList = vb (digs 0 N ++ List.replicate (x - 0) 0) := by
      rw [toList_madeCells_one]
      simp [vb, digs]
    rw [e] at hown
    exact hown
  have HB := Lib.hid ((Below.refl w.heap.size w).grown hg (Nat.le_refl _) (by simp))
  clear hown hg
  go_wp2_with fail
  go_loopw [15] (fun i wr => ∃ k : Nat, k ≤ x ∧ i = .int .i64 k ∧ Hid (wr.ownsRow w.heap.size 5 1 (.slice (some ⟨w.heap.size, 0, none⟩) x x) x (vb (digs k N ++ List.replicate (x - k) 0))) ∧ Below w.heap.size w wr) (fun i _ => x - (intOf i).toNat)
  case atStart => exact ⟨0, Nat.zero_le _, rfl, HO, HB.out⟩
  case round =>
    obtain ⟨k, hk, rfl, HOk, hbk⟩ := hrel
    have HBk := Lib.hid hbk
    clear hbk
    by_cases hlt : k < x
    · have hcell : ∃ v, wr.cell? ⟨w.heap.size, k, none⟩ = some v := by
        rw [HOk.out.cellAt k (by omega)]
        exact ⟨_, List.getElem?_eq_getElem (by rw [vb_length, List.length_append, digs_length, List.length_replicate]; omega)⟩
      obtain ⟨v0, hv0⟩ := hcell
      have hfz := HOk.out.frozenAt k
      go_wp2_with fail
      go_roundw
      case rel =>
        refine ⟨k + 1, by omega, by go_num, ?_, HBk.out.setCell (Nat.le_refl _) _⟩
        have hs := (HOk.out.stored k (.int .u8 ((N / 256 ^ k % 256 : Nat) : Int))).1
        rw [pad_set k x N hlt] at hs
        rw [← shr_byte] at hs
        exact hs
      case measure => simp [intOf]; omega
    · have HK : Hid (k = x) := Lib.hid (by omega)
      go_wp2_with fail
      go_ret2
      refine ⟨_, _, rfl, ?_, HBk.out⟩
      have := HOk.out
      rw [HK.out, Nat.sub_self, List.replicate_zero, List.append_nil] at this
      exact this

theorem rput_step {w wr w1 : World} {k q N : Nat} {v v1 : Value} (hq : q = N / 256 ^ k) (hown : wr.ownsRow w.heap.size 5 1 v k (vb (digs k N))) (hbel : Below w.heap.size w wr)
    (hown1 : w1.ownsRow w.heap.size 5 1 v1 (k + 1) (vb (digs k N) ++ [.int .u8 ((q : Int) % 256)])) (hg : (wr.alloc (.cells #[.int .u8 ((q : Int) % 256)] 5)).grownBy w1 v.ownBlock) :
    w1.ownsRow w.heap.size 5 1 v1 (k + 1) (vb (digs (k + 1) N)) ∧ Below w.heap.size w w1 := by
  refine ⟨?_, ?_⟩
  · rw [digs_snoc, vb_append]
    have e : ((q : Int) % 256) = ((N / 256 ^ k % 256 : Nat) : Int) := by rw [← hq]; omega
    rw [e] at hown1
    exact hown1
  · refine (hbel.alloc hbel.size _).grown hg (Nat.le_trans hbel.size (by simp)) ?_
    intro g hg'
    exact (hown.lt g hg').1

set_option maxHeartbeats 1000000 in
theorem rput_yes (x N : Nat) (w : World) (hf : fitsB x N = true) :
    Calls Tryz.prog 95 #[.int .i64 x, .int .i64 N] w fun e w' => ∃ A' c', e = .returned (.tuple #[.slice A' x c', .int .i64 0]) ∧ w'.ownsRow w.heap.size 5 1 (.slice A' x c') x (vb (digs x N)) ∧ Below w.heap.size w w' := by
  obtain ⟨i0, hi, hz0, hz1, hz2⟩ := info_parts byte_info
  obtain ⟨hw, _, hN⟩ := fits_iff.1 hf
  have hx0 : 1 ≤ x ∧ x ≤ 6 := by rcases wOk_cases hw with h | h | h | h <;> omega
  have hN2 : N < 281474976710656 := by
    have h1 : 256 ^ x ≤ 256 ^ 6 := Nat.pow_le_pow_right (by omega) hx0.2
    simp only [Int.toNat_natCast] at hN
    exact Nat.lt_of_lt_of_le hN (Nat.le_trans h1 (by decide))
  have HF := Lib.hid hf
  clear hf hN hw
  go_enter Tryz.func95, Tryz.ntmps95
  go_wp2_with (go_at_call 135; refine (rfits_any _ _ _ (by omega)).mono ?_; rintro e w' ⟨rfl, rfl⟩; rw [HF.out])
  go_loopw [1, 6, 7] (fun m v i wr => ∃ k q : Nat, k ≤ x ∧ i = .int .i64 k ∧ m = .int .i64 q ∧ Hid (q = N / 256 ^ k) ∧ q ≤ N ∧ Hid (wr.ownsRow w.heap.size 5 1 v k (vb (digs k N))) ∧ Below w.heap.size w wr) (fun _ _ i _ => x - (intOf i).toNat)
  case atStart => exact ⟨0, N, Nat.zero_le _, rfl, rfl, Lib.hid (by simp), Nat.le_refl _, Lib.hid (World.ownsRow_nil _ _ _ _), Below.refl _ _⟩
  case round =>
    obtain ⟨k, q, hk, rfl, rfl, HQ, hqN, HO, hbk⟩ := hrel
    have HBk := Lib.hid hbk
    have hsz := hbk.size
    clear hbk
    by_cases hlt : k < x
    · go_wp2_with (at_builtin; refine wpList_append_own _ rfl _ _ 34 rfl w.heap.size 5 i0 (.int .u8 0) 1 1 Tryz.underlying34 hi hz0 hz1 hz2 rfl (by decide) _ _ _ rfl (HO.out.alloc _) ⟨wr.heap.size, 0, none⟩ 1 1 [.int .u8 ((q : Int) % 256)] rfl rfl ?c1 ?c2 ?c3 ?c4 ?c5 ?_)
      case c1 =>
        intro j u hj
        match j, hj with
        | 0, hj => simp at hj; subst hj; simp [Addr.add]
      case c2 => intro u hu; simp at hu; subst hu; rfl
      case c3 => unfold maxLen; omega
      case c4 => omega
      case c5 => simp; omega
      intro v1 w1 hown hg _
      have R := rput_step HQ.out HO.out HBk.out hown hg
      have HO1 := Lib.hid R.1
      have HB1 := Lib.hid R.2
      clear hown hg R
      go_wp2_with fail
      go_roundw
      case rel => exact ⟨k + 1, q / 256, by omega, by go_num, by go_num, Lib.hid (by rw [HQ.out, Nat.div_div_eq_div_mul, Nat.pow_succ]), by omega, HO1, HB1.out⟩
      case measure => simp [intOf]; omega
    · have HK : Hid (k = x) := Lib.hid (by omega)
      obtain ⟨A', c', hv, _, _⟩ := own_form HO.out
      subst hv
      go_wp2_with fail
      go_ret2
      have h1 := HO.out
      rw [HK.out] at h1
      exact ⟨A', c', by rw [HK.out]; rfl, h1, HBk.out⟩
end Go.Proofs.YtlikhmhomkiadaaGreatDoor

namespace Go.Proofs.YtlikhmhomkiadaaGreatDoor
set_option maxRecDepth 100000
open Go Go.RowKit

theorem getS_zero {l : List Nat} {x : Nat} (hw : wOk x = true) (h : x ≤ l.length) : getS l 0 x = (num (l.take x), x, 0) := by
  rw [getS_yes hw (by omega) (by omega) (by omega)]
  simp
theorem put_by (x N : Nat) (w : World) (hL : Laid w) (hf : fitsB x N = true) :
    Calls Tryz.prog 146 #[.int .i64 x, .int .i64 N] w fun e w' => ∃ A' c', e = .returned (.tuple #[.slice A' x c', .int .i64 0]) ∧ By w' A' x c' (digs x N) ∧ Ext w w' :=
  (oput_yes x N w hL hf).mono fun _ _ ⟨A', c', h1, h2, h3⟩ => ⟨A', c', h1, Bs.of_own h2 (digs_lt x N), h3⟩
theorem get_by (A : Option Addr) (l : List Nat) (n c : Nat) (a x : Int) (w : World) (hL : Laid w) (hb : By w A n c l) (hm : n ≤ 9000000000000000000) :
    Calls Tryz.prog 151 #[.slice A n c, .int .i64 a, .int .i64 x] w fun e w' => e = .returned (.tuple #[.int .i64 (getS l a x).1, .int .i64 (getS l a x).2.1, .int .i64 (getS l a x).2.2]) ∧ Ext w w' :=
  (oget_any A l n c _ a x w hL hb.len hb.rd hm).mono fun _ _ ⟨h, hw⟩ => ⟨h, by subst hw; exact Ext.refl _⟩
end Go.Proofs.YtlikhmhomkiadaaGreatDoor

namespace Go.Proofs.YtlikhmhomkiadaaGreatDoor
set_option maxRecDepth 100000
open Go Go.RowKit

/-- What the table of widths holds; what all three tables hold. -/
def LaidW (w : World) : Prop := ∀ k : Nat, k < 5 → w.cell? ⟨1, k, none⟩ = some (.int .i64 (wth k))
theorem LaidW.ext {a b : World} (h : LaidW a) (k : Ext a b) : LaidW b := fun i hi => Ext.cell k (h i hi)
structure LaidA (w : World) : Prop where
  o : Laid w
  t : LaidT w
  w : LaidW w
theorem LaidA.ext {a b : World} (h : LaidA a) (k : Ext a b) : LaidA b := ⟨h.o.ext k, h.t.ext k, h.w.ext k⟩

theorem five_index (a b c d e k : Nat) (hk : k < 5) (w : World) : (Instr.index 222 (.agg #[.int .i64 a, .int .i64 b, .int .i64 c, .int .i64 d, .int .i64 e]) (.int .i64 k)).run Tryz.prog w = .ok (.int .i64 (fld a b c d e k)) w := by
  have hj' : k = 0 ∨ k = 1 ∨ k = 2 ∨ k = 3 ∨ k = 4 := by omega
  rcases hj' with rfl | rfl | rfl | rfl | rfl <;> (show _ = _; kernel_rfl)

set_option maxRecDepth 100000 in
set_option maxHeartbeats 1600000 in
theorem print_no (a b c d e : Int) (w : World) (hL : LaidT w) (hm : mayB a b c d e = false) :
    Calls Tryz.prog 147 #[.agg #[.int .i64 a, .int .i64 b, .int .i64 c, .int .i64 d, .int .i64 e]] w fun r w' => r = .returned (.tuple #[.slice none 0 0, .int .i64 2]) ∧ Ext w w' := by
  have hE := (Ext.refl w).alloc (.cells #[.int .i64 a, .int .i64 b, .int .i64 c, .int .i64 d, .int .i64 e] 33)
  have HL := Lib.hid (hL.ext hE)
  have HE := Lib.hid hE
  have HM := Lib.hid hm
  clear hL hE hm
  go_enter Tryz.func147, Tryz.ntmps147
  go_wp2_with fail
  refine (may_any _ _ _ _ _ _ HL.out).mono ?_
  rw [HM.out]
  rintro r w1 ⟨rfl, hx⟩
  have HE := Lib.hid (HE.out.trans hx)
  clear hx
  go_wp2_with fail
  go_ret2
  exact ⟨rfl, HE.out⟩

set_option maxRecDepth 100000 in
set_option maxHeartbeats 3200000 in
theorem print_yes (a b c d e : Nat) (w : World) (hL : LaidA w) (hm : mayB a b c d e = true) :
    Calls Tryz.prog 147 #[.agg #[.int .i64 a, .int .i64 b, .int .i64 c, .int .i64 d, .int .i64 e]] w fun r w' => ∃ A cp, r = .returned (.tuple #[.slice A 15 cp, .int .i64 0]) ∧ By w' A 15 cp (tagBytes a b c d e) ∧ Ext w w' := by
  have hE := (Ext.refl w).alloc (.cells #[.int .i64 a, .int .i64 b, .int .i64 c, .int .i64 d, .int .i64 e] 33)
  have hc := fun i => (cell_of_row _ w.heap.size i _ 33 (0, 0) (heap_alloc_new w (.cells #[.int .i64 a, .int .i64 b, .int .i64 c, .int .i64 d, .int .i64 e] 33)))
  have HC := Lib.hid hc
  have HL := Lib.hid (hL.ext hE)
  have HE := Lib.hid hE
  have HM := Lib.hid hm
  clear hL hE hm hc
  go_enter Tryz.func147, Tryz.ntmps147
  go_wp2_with fail
  refine (may_any _ _ _ _ _ _ HL.out.t).mono ?_
  rw [HM.out]
  rintro r w1 ⟨rfl, hx⟩
  have i0 : w1.cell? ⟨w.heap.size, 0, none⟩ = some (.int .i64 a) := Ext.cell hx (HC.out 0)
  have i1 : w1.cell? ⟨w.heap.size, 1, none⟩ = some (.int .i64 b) := Ext.cell hx (HC.out 1)
  have i2 : w1.cell? ⟨w.heap.size, 2, none⟩ = some (.int .i64 c) := Ext.cell hx (HC.out 2)
  have i3 : w1.cell? ⟨w.heap.size, 3, none⟩ = some (.int .i64 d) := Ext.cell hx (HC.out 3)
  have i4 : w1.cell? ⟨w.heap.size, 4, none⟩ = some (.int .i64 e) := Ext.cell hx (HC.out 4)
  have HL := Lib.hid (HL.out.ext hx)
  have HE := Lib.hid (HE.out.trans hx)
  clear hx HC
  go_wp2_with fail
  clear i0 i1 i2 i3 i4
  go_loopw [4, 23] (fun v i wr => ∃ k : Nat, k ≤ 5 ∧ i = .int .i64 k ∧ ∃ A n cp, v = .slice A n cp ∧ Hid (By wr A n cp (pre (fld a b c d e) k)) ∧ Hid (Ext w1 wr)) (fun _ i _ => 5 - (intOf i).toNat)
  case atStart => exact ⟨0, Nat.zero_le _, rfl, none, 0, 0, rfl, Lib.hid (By.nil_ _), Lib.hid (Ext.refl _)⟩
  case round =>
    obtain ⟨k, hk, rfl, A, n, cp, rfl, HB, HX⟩ := hrel
    by_cases hlt : k < 5
    · have hn : n ≤ 30 := by
        have h1 := HB.out.len
        have h2 := pre_len_le (fld a b c d e) k
        omega
      have hcap := HB.out.cap
      have hW := (HL.out.ext HX.out).w k hlt
      have hI := five_index a b c d e k hlt
      have hwl := wth_le k
      go_wp2_with fail
      refine (put_by _ _ _ (HL.out.ext HX.out).o (fld_fits HM.out k)).mono ?_
      rintro r w2 ⟨A2, c2, rfl, hb, hx⟩
      have HB2 := Lib.hid hb
      have HB := Lib.hid (HB.out.ext hx)
      have HX := Lib.hid (HX.out.trans hx)
      clear hx hb hW hI
      go_wp2_with fail
      refine (join2_by _ HB.out HB2.out (by omega)).mono ?_
      rintro r w3 ⟨A3, c3, rfl, hb, hx⟩
      have HB3 := Lib.hid hb
      have HX := Lib.hid (HX.out.trans hx)
      clear hx hb
      go_wp2_with fail
      go_roundw
      case rel => exact ⟨k + 1, by omega, by go_num, A3, _, c3, rfl, HB3, HX⟩
      case measure => simp [intOf]; omega
    · have HK : Hid (k = 5) := Lib.hid (by omega)
      have hb := HB.out
      rw [HK.out] at hb
      have hn : n = 15 := hb.len.symm.trans (tagBytes_len a b c d e)
      subst hn
      have HB := Lib.hid hb
      clear hb
      go_wp2_with fail
      go_ret2
      exact ⟨A, cp, rfl, HB.out, HE.out.trans HX.out⟩
end Go.Proofs.YtlikhmhomkiadaaGreatDoor

namespace Go.Proofs.YtlikhmhomkiadaaGreatDoor
set_option maxRecDepth 100000
open Go Go.RowKit

theorem rplaces_any (r : Int) (w : World) :
    Calls Tryz.prog 59 #[.int .i64 r] w fun e w' => e = .returned (.int .i64 (plc r)) ∧ w = w' := by
  by_cases h : r < 1 ∨ 5 < r
  · have HF := Lib.hid (plc_out h)
    have g1 : (r == 1) = false := by simp; omega
    have g2 : (r == 2) = false := by simp; omega
    have g3 : (r == 3) = false := by simp; omega
    have g4 : (r == 4) = false := by simp; omega
    have g5 : (r == 5) = false := by simp; omega
    clear h
    go_enter Tryz.func59, Tryz.ntmps59
    go_wp2_with fail
    go_ret
    exact ⟨by rw [HF.out]; rfl, rfl⟩
  · rcases region_cases (r := r) (by omega) with rfl | rfl | rfl | rfl | rfl
    all_goals
      go_enter Tryz.func59, Tryz.ntmps59
      go_wp2_with fail
      go_ret
      exact ⟨rfl, rfl⟩
end Go.Proofs.YtlikhmhomkiadaaGreatDoor

namespace Go.Proofs.YtlikhmhomkiadaaGreatDoor
set_option maxRecDepth 100000
open Go Go.RowKit

theorem mayB_no {a b c d e : Int} (h : ¬ (0 ≤ a ∧ a ≤ 6 ∧ 1 ≤ b ∧ b ≤ 5 ∧ 0 ≤ c ∧ c < plc b ∧ 0 ≤ d ∧ d ≤ 1099511627776 ∧ 1 ≤ e ∧ e ≤ 1099511627776)) : mayB a b c d e = false := by
  unfold mayB
  exact decide_eq_false h

set_option maxRecDepth 100000 in
set_option maxHeartbeats 3200000 in
theorem rmay_any (a b c d e : Int) (w : World) :
    Calls Tryz.prog 134 #[.agg #[.int .i64 a, .int .i64 b, .int .i64 c, .int .i64 d, .int .i64 e]] w fun r w' => r = .returned (.bool (mayB a b c d e)) ∧ Ext w w' := by
  have hE := (Ext.refl w).alloc (.cells #[.int .i64 a, .int .i64 b, .int .i64 c, .int .i64 d, .int .i64 e] 33)
  have HE := Lib.hid hE
  clear hE
  by_cases h1 : a < 0
  · have HM := Lib.hid (mayB_no (a := a) (b := b) (c := c) (d := d) (e := e) (by omega))
    have g1 : decide (a < 0) = true := by simpa using h1
    clear h1
    go_enter Tryz.func134, Tryz.ntmps134
    go_wp2_with fail
    go_quiet ((go_at_call 59; exact Calls.quiet_of_same ((rplaces_any _ _).mono fun _ _ h => ⟨h.1, h.2.symm⟩)))
    go_wp2_with fail
    go_ret
    exact ⟨by rw [HM.out]; rfl, HE.out.drewN _⟩
  by_cases h2 : 6 < a
  · have HM := Lib.hid (mayB_no (a := a) (b := b) (c := c) (d := d) (e := e) (by omega))
    have g2 : decide (6 < a) = true := by simpa using h2
    have g1 : decide (a < 0) = false := by simpa using h1
    clear h1 h2
    go_enter Tryz.func134, Tryz.ntmps134
    go_wp2_with fail
    go_quiet ((go_at_call 59; exact Calls.quiet_of_same ((rplaces_any _ _).mono fun _ _ h => ⟨h.1, h.2.symm⟩)))
    go_wp2_with fail
    go_ret
    exact ⟨by rw [HM.out]; rfl, HE.out.drewN _⟩
  by_cases h3 : b < 1
  · have HM := Lib.hid (mayB_no (a := a) (b := b) (c := c) (d := d) (e := e) (by omega))
    have g3 : decide (b < 1) = true := by simpa using h3
    have g1 : decide (a < 0) = false := by simpa using h1
    have g2 : decide (6 < a) = false := by simpa using h2
    clear h1 h2 h3
    go_enter Tryz.func134, Tryz.ntmps134
    go_wp2_with fail
    go_quiet ((go_at_call 59; exact Calls.quiet_of_same ((rplaces_any _ _).mono fun _ _ h => ⟨h.1, h.2.symm⟩)))
    go_wp2_with fail
    go_ret
    exact ⟨by rw [HM.out]; rfl, HE.out.drewN _⟩
  by_cases h4 : 5 < b
  · have HM := Lib.hid (mayB_no (a := a) (b := b) (c := c) (d := d) (e := e) (by omega))
    have g4 : decide (5 < b) = true := by simpa using h4
    have g1 : decide (a < 0) = false := by simpa using h1
    have g2 : decide (6 < a) = false := by simpa using h2
    have g3 : decide (b < 1) = false := by simpa using h3
    clear h1 h2 h3 h4
    go_enter Tryz.func134, Tryz.ntmps134
    go_wp2_with fail
    go_quiet ((go_at_call 59; exact Calls.quiet_of_same ((rplaces_any _ _).mono fun _ _ h => ⟨h.1, h.2.symm⟩)))
    go_wp2_with fail
    go_ret
    exact ⟨by rw [HM.out]; rfl, HE.out.drewN _⟩
  by_cases h5 : c < 0
  · have HM := Lib.hid (mayB_no (a := a) (b := b) (c := c) (d := d) (e := e) (by omega))
    have g5 : decide (c < 0) = true := by simpa using h5
    have g1 : decide (a < 0) = false := by simpa using h1
    have g2 : decide (6 < a) = false := by simpa using h2
    have g3 : decide (b < 1) = false := by simpa using h3
    have g4 : decide (5 < b) = false := by simpa using h4
    clear h1 h2 h3 h4 h5
    go_enter Tryz.func134, Tryz.ntmps134
    go_wp2_with fail
    go_quiet ((go_at_call 59; exact Calls.quiet_of_same ((rplaces_any _ _).mono fun _ _ h => ⟨h.1, h.2.symm⟩)))
    go_wp2_with fail
    go_ret
    exact ⟨by rw [HM.out]; rfl, HE.out.drewN _⟩
  by_cases h6 : (plc b : Int) ≤ c
  · have HM := Lib.hid (mayB_no (a := a) (b := b) (c := c) (d := d) (e := e) (by omega))
    have g6 : decide ((plc b : Int) ≤ c) = true := by simpa using h6
    have g1 : decide (a < 0) = false := by simpa using h1
    have g2 : decide (6 < a) = false := by simpa using h2
    have g3 : decide (b < 1) = false := by simpa using h3
    have g4 : decide (5 < b) = false := by simpa using h4
    have g5 : decide (c < 0) = false := by simpa using h5
    clear h1 h2 h3 h4 h5 h6
    go_enter Tryz.func134, Tryz.ntmps134
    go_wp2_with fail
    go_quiet ((go_at_call 59; exact Calls.quiet_of_same ((rplaces_any _ _).mono fun _ _ h => ⟨h.1, h.2.symm⟩)))
    go_wp2_with fail
    go_ret
    exact ⟨by rw [HM.out]; rfl, HE.out.drewN _⟩
  have g1 : decide (a < 0) = false := by simpa using h1
  have g2 : decide (6 < a) = false := by simpa using h2
  have g3 : decide (b < 1) = false := by simpa using h3
  have g4 : decide (5 < b) = false := by simpa using h4
  have g5 : decide (c < 0) = false := by simpa using h5
  have g6 : decide ((plc b : Int) ≤ c) = false := by simpa using h6
  by_cases k1 : ¬ 0 ≤ d
  · have HM := Lib.hid (mayB_no (a := a) (b := b) (c := c) (d := d) (e := e) (by omega))
    have j1 : decide (0 ≤ d) = false := by simpa using k1
    clear h1 h2 h3 h4 h5 h6 k1
    go_enter Tryz.func134, Tryz.ntmps134
    go_wp2_with fail
    go_quiet ((go_at_call 59; exact Calls.quiet_of_same ((rplaces_any _ _).mono fun _ _ h => ⟨h.1, h.2.symm⟩)))
    go_wp2_with fail
    go_ret
    exact ⟨by rw [HM.out]; rfl, HE.out.drewN _⟩
  by_cases k2 : ¬ d ≤ 1099511627776
  · have HM := Lib.hid (mayB_no (a := a) (b := b) (c := c) (d := d) (e := e) (by omega))
    have j2 : decide (d ≤ 1099511627776) = false := by simpa using k2
    have j1 : decide (0 ≤ d) = true := by simpa using k1
    clear h1 h2 h3 h4 h5 h6 k1 k2
    go_enter Tryz.func134, Tryz.ntmps134
    go_wp2_with fail
    go_quiet ((go_at_call 59; exact Calls.quiet_of_same ((rplaces_any _ _).mono fun _ _ h => ⟨h.1, h.2.symm⟩)))
    go_wp2_with fail
    go_ret
    exact ⟨by rw [HM.out]; rfl, HE.out.drewN _⟩
  by_cases k3 : ¬ 1 ≤ e
  · have HM := Lib.hid (mayB_no (a := a) (b := b) (c := c) (d := d) (e := e) (by omega))
    have j3 : decide (1 ≤ e) = false := by simpa using k3
    have j1 : decide (0 ≤ d) = true := by simpa using k1
    have j2 : decide (d ≤ 1099511627776) = true := by simpa using k2
    clear h1 h2 h3 h4 h5 h6 k1 k2 k3
    go_enter Tryz.func134, Tryz.ntmps134
    go_wp2_with fail
    go_quiet ((go_at_call 59; exact Calls.quiet_of_same ((rplaces_any _ _).mono fun _ _ h => ⟨h.1, h.2.symm⟩)))
    go_wp2_with fail
    go_ret
    exact ⟨by rw [HM.out]; rfl, HE.out.drewN _⟩
  by_cases k4 : ¬ e ≤ 1099511627776
  · have HM := Lib.hid (mayB_no (a := a) (b := b) (c := c) (d := d) (e := e) (by omega))
    have j4 : decide (e ≤ 1099511627776) = false := by simpa using k4
    have j1 : decide (0 ≤ d) = true := by simpa using k1
    have j2 : decide (d ≤ 1099511627776) = true := by simpa using k2
    have j3 : decide (1 ≤ e) = true := by simpa using k3
    clear h1 h2 h3 h4 h5 h6 k1 k2 k3 k4
    go_enter Tryz.func134, Tryz.ntmps134
    go_wp2_with fail
    go_quiet ((go_at_call 59; exact Calls.quiet_of_same ((rplaces_any _ _).mono fun _ _ h => ⟨h.1, h.2.symm⟩)))
    go_wp2_with fail
    go_ret
    exact ⟨by rw [HM.out]; rfl, HE.out.drewN _⟩
  have j1 : decide (0 ≤ d) = true := by simpa using k1
  have j2 : decide (d ≤ 1099511627776) = true := by simpa using k2
  have j3 : decide (1 ≤ e) = true := by simpa using k3
  have j4 : decide (e ≤ 1099511627776) = true := by simpa using k4
  have HM := Lib.hid (mayB_iff (a := a) (b := b) (c := c) (d := d) (e := e) |>.2 (by omega))
  clear h1 h2 h3 h4 h5 h6 k1 k2 k3 k4
  go_enter Tryz.func134, Tryz.ntmps134
  go_wp2_with fail
  go_quiet ((go_at_call 59; exact Calls.quiet_of_same ((rplaces_any _ _).mono fun _ _ h => ⟨h.1, h.2.symm⟩)))
  go_wp2_with fail
  go_ret
  exact ⟨by rw [HM.out]; rfl, HE.out.drewN _⟩
end Go.Proofs.YtlikhmhomkiadaaGreatDoor

namespace Go.Proofs.YtlikhmhomkiadaaGreatDoor
set_option maxRecDepth 100000
open Go Go.RowKit

theorem own_ext {w w' : World} {base : Nat} {e : TypeId} {size : Nat} {v : Value} {n : Nat} {xs : List Value} (h : w.ownsRow base e size v n xs) (k : Ext w w') : w'.ownsRow base e size v n xs := by
  refine ⟨h.1, ?_⟩
  rcases h.2 with h0 | ⟨g, cap, cur, hv, hb, hg, h1⟩
  · exact .inl h0
  · exact .inr ⟨g, cap, cur, hv, hb, (k.block g (Array.getElem?_eq_some_iff.1 hg).1).trans hg, h1⟩
/-- A literal of bytes that the call has just made is its own. -/
theorem own_lit (w : World) (l : List Nat) (base : Nat) (e : TypeId) (hb : base ≤ w.heap.size) (hm : l.length ≤ 9223372036854775807) (cs : Array Value) (hcs : cs = (vb l).toArray) : (w.alloc (.cells cs e)).ownsRow base e 1 (.slice (some ⟨w.heap.size, 0, none⟩) l.length l.length) l.length (vb l) := by
  subst hcs
  have h := World.ownsRow_lit (e := e) (size := 1) w (vb l).toArray l.length hb (by unfold maxLen; omega) (by simp [vb_length])
  simpa using h
end Go.Proofs.YtlikhmhomkiadaaGreatDoor

namespace Go.Proofs.YtlikhmhomkiadaaGreatDoor
set_option maxRecDepth 100000
open Go Go.RowKit

theorem Ext.cellv {a b : World} {p : Addr} {v : Value} (k : Ext a b) (h : a.cell? p = some v) : b.cell? p = some v := (Below.cell k (World.block_lt_of_cell? a _ h)).trans h
theorem tagBytes_eq {a b c d e : Nat} (h : mayB a b c d e = true) : tagBytes a b c d e = [a, b, c] ++ digs 6 d ++ digs 6 e := by
  rw [mayB_iff] at h
  have hp := plc_le (b : Int)
  simp only [tagBytes, pre, wth, fld, digs, List.nil_append]
  rw [show a % 256 = a by omega, show b % 256 = b by omega, show c % 256 = c by omega]
  rfl

set_option maxRecDepth 100000 in
set_option maxHeartbeats 1600000 in
theorem rprint_no (a b c d e : Int) (w : World) (hm : mayB a b c d e = false) :
    Calls Tryz.prog 93 #[.agg #[.int .i64 a, .int .i64 b, .int .i64 c, .int .i64 d, .int .i64 e]] w fun r w' => r = .returned (.tuple #[.slice none 0 0, .int .i64 2]) ∧ Ext w w' := by
  have hE := (Ext.refl w).alloc (.cells #[.int .i64 a, .int .i64 b, .int .i64 c, .int .i64 d, .int .i64 e] 33)
  have HE := Lib.hid hE
  have HM := Lib.hid hm
  clear hE hm
  go_enter Tryz.func93, Tryz.ntmps93
  go_wp2_with fail
  refine (rmay_any _ _ _ _ _ _).mono ?_
  rw [HM.out]
  rintro r w1 ⟨rfl, hx⟩
  have HE := Lib.hid (HE.out.trans hx)
  clear hx
  go_wp2_with fail
  go_ret2
  exact ⟨rfl, HE.out⟩

set_option maxRecDepth 100000 in
set_option maxHeartbeats 3200000 in
theorem rprint_yes (a b c d e : Nat) (w : World) (hm : mayB a b c d e = true) :
    Calls Tryz.prog 93 #[.agg #[.int .i64 a, .int .i64 b, .int .i64 c, .int .i64 d, .int .i64 e]] w fun r w' => ∃ A cp, r = .returned (.tuple #[.slice A 15 cp, .int .i64 0]) ∧ By w' A 15 cp (tagBytes a b c d e) ∧ Ext w w' := by
  obtain ⟨i0, hi, hz0, hz1, hz2⟩ := info_parts byte_info
  have hE := (Ext.refl w).alloc (.cells #[.int .i64 a, .int .i64 b, .int .i64 c, .int .i64 d, .int .i64 e] 33)
  have hc := fun i => (cell_of_row _ w.heap.size i _ 33 (0, 0) (heap_alloc_new w (.cells #[.int .i64 a, .int .i64 b, .int .i64 c, .int .i64 d, .int .i64 e] 33)))
  have HC := Lib.hid hc
  have HE := Lib.hid hE
  have HM := Lib.hid hm
  have HT := Lib.hid (tagBytes_eq hm)
  rw [mayB_iff] at hm
  have hp := plc_le (b : Int)
  have ha : a < 256 := by omega
  have hb : b < 256 := by omega
  have hc' : c < 256 := by omega
  generalize tagBytes a b c d e = T at *
  clear hE hm hc hp
  go_enter Tryz.func93, Tryz.ntmps93
  go_wp2_with fail
  refine (rmay_any _ _ _ _ _ _).mono ?_
  rw [HM.out]
  rintro r w1 ⟨rfl, hx⟩
  have j0 : w1.cell? ⟨w.heap.size, 0, none⟩ = some (.int .i64 a) := Ext.cellv hx (HC.out 0)
  have j1 : w1.cell? ⟨w.heap.size, 1, none⟩ = some (.int .i64 b) := Ext.cellv hx (HC.out 1)
  have j2 : w1.cell? ⟨w.heap.size, 2, none⟩ = some (.int .i64 c) := Ext.cellv hx (HC.out 2)
  have j3 : w1.cell? ⟨w.heap.size, 3, none⟩ = some (.int .i64 d) := Ext.cellv hx (HC.out 3)
  have j4 : w1.cell? ⟨w.heap.size, 4, none⟩ = some (.int .i64 e) := Ext.cellv hx (HC.out 4)
  have HE := Lib.hid (HE.out.trans hx)
  have k3 : (w1.alloc (.cells #[.int .u8 a, .int .u8 b, .int .u8 c] 5)).cell? ⟨w.heap.size, 3, none⟩ = some (.int .i64 d) := Ext.cellv ((Ext.refl w1).alloc _) j3
  have k4 : (w1.alloc (.cells #[.int .u8 a, .int .u8 b, .int .u8 c] 5)).cell? ⟨w.heap.size, 4, none⟩ = some (.int .i64 e) := Ext.cellv ((Ext.refl w1).alloc _) j4
  have HK4 := Lib.hid k4
  have HO : Hid ((w1.alloc (.cells #[.int .u8 a, .int .u8 b, .int .u8 c] 5)).ownsRow w.heap.size 5 1 (.slice (some ⟨w1.heap.size, 0, none⟩) 3 3) 3 (vb [a, b, c])) := Lib.hid (own_lit w1 [a, b, c] w.heap.size 5 (Ext.size HE.out) (by simp) _ rfl)
  have HE := Lib.hid (HE.out.alloc (.cells #[.int .u8 a, .int .u8 b, .int .u8 c] 5))
  clear hx HC j3 j4 k4
  go_wp2_with fail
  clear j0 j1 j2 k3
  refine (rput_yes 6 d _ (fld_fits HM.out 3)).mono ?_
  rintro r w2 ⟨A2, c2, rfl, hown, hx⟩
  have HB2 : Hid (By w2 A2 6 c2 (digs 6 d)) := Lib.hid (Bs.of_own hown (digs_lt 6 d))
  have j4 : w2.cell? ⟨w.heap.size, 4, none⟩ = some (.int .i64 e) := Ext.cellv hx HK4.out
  have HO := Lib.hid (own_ext HO.out hx)
  have HE := Lib.hid (HE.out.trans hx)
  have hs := Ext.size hx
  have hs12 : w1.heap.size < w2.heap.size := by simp at hs; omega
  have HS12 := Lib.hid hs12
  clear hown hx HK4 hs hs12
  go_wp2_with fail
  clear j4
  refine (rput_yes 6 e _ (fld_fits HM.out 4)).mono ?_
  rintro r w3 ⟨A3, c3, rfl, hown, hx⟩
  have HO3 := Lib.hid hown
  have HB2 := Lib.hid (HB2.out.ext hx)
  have HO := Lib.hid (own_ext HO.out hx)
  have HE := Lib.hid (HE.out.trans hx)
  have hsz := Ext.size HE.out
  clear hown hx
  go_wp2_with (at_builtin; refine wpList_append_by rfl _ _ 34 rfl w.heap.size 5 i0 Tryz.underlying34 hi hz0 hz1 hz2 _ 3 (vb [a, b, c]) rfl HO.out _ 6 _ (digs 6 d) rfl HB2.out (by omega) hsz ?_)
  intro v4 w4 hown hg
  obtain ⟨hx, A4, c4, rfl, hb4, hown⟩ := app_step HE.out HO.out hg hown (by intro x hx; simp at hx; omega) (digs_lt 6 d)
  have HO4 := Lib.hid hown
  have hne : (Value.slice A3 6 c3).ownBlock ≠ (Value.slice (some ⟨w1.heap.size, 0, none⟩) 3 3).ownBlock := fun h => by
    have h1 : w2.heap.size ≤ w1.heap.size := (HO3.out.lt _ h).1
    have h2 := HS12.out
    omega
  have HB3 : Hid (By w4 A3 6 c3 (digs 6 e)) := Lib.hid (Bs.of_own (HO3.out.kept hg (.inr hne)) (digs_lt 6 e))
  have HE := Lib.hid hx
  have hsz4 := Ext.size HE.out
  clear hown hg hx hb4 hne
  go_wp2_with (at_builtin; refine wpList_append_by rfl _ _ 34 rfl w.heap.size 5 i0 Tryz.underlying34 hi hz0 hz1 hz2 _ 9 (vb ([a, b, c] ++ digs 6 d)) rfl HO4.out _ 6 _ (digs 6 e) rfl HB3.out (by omega) hsz4 ?_)
  intro v5 w5 hown hg
  obtain ⟨hx, A5, c5, rfl, hb5, _⟩ := app_step HE.out HO4.out hg hown (by
    intro x hx
    rcases List.mem_append.1 (show x ∈ [a, b, c] ++ digs 6 d from hx) with h | h
    · simp at h; omega
    · exact digs_lt 6 d x h) (digs_lt 6 e)
  have HB5 := Lib.hid hb5
  have HX5 := Lib.hid hx
  clear hown hg hx hb5 hsz hsz4
  go_wp2_with fail
  go_ret2
  exact ⟨A5, c5, rfl, by rw [HT.out]; exact HB5.out, HX5.out⟩
end Go.Proofs.YtlikhmhomkiadaaGreatDoor

namespace Go.Proofs.YtlikhmhomkiadaaGreatDoor
set_option maxRecDepth 100000
open Go Go.RowKit

theorem print_any (a b c d e : Int) (w : World) (hL : LaidA w) :
    Calls Tryz.prog 147 #[.agg #[.int .i64 a, .int .i64 b, .int .i64 c, .int .i64 d, .int .i64 e]] w fun r w' => ∃ A cp, r = .returned (.tuple #[.slice A (pl a b c d e).length cp, .int .i64 (pr a b c d e)]) ∧ By w' A (pl a b c d e).length cp (pl a b c d e) ∧ Ext w w' := by
  by_cases h : mayB a b c d e = true
  · obtain ⟨a, b, c, d, e, rfl, rfl, rfl, rfl, rfl⟩ := may_nat h
    rw [pl_yes h, pr_yes h]
    simp only [Int.toNat_natCast, tagBytes_len]
    exact print_yes a b c d e w hL h
  · have h' : mayB a b c d e = false := by simpa using h
    rw [pl_no h', pr_no h']
    exact (print_no a b c d e w hL.t h').mono fun _ w' ⟨h1, h2⟩ => ⟨none, 0, h1, By.nil_ w', h2⟩
theorem rprint_any (a b c d e : Int) (w : World) :
    Calls Tryz.prog 93 #[.agg #[.int .i64 a, .int .i64 b, .int .i64 c, .int .i64 d, .int .i64 e]] w fun r w' => ∃ A cp, r = .returned (.tuple #[.slice A (pl a b c d e).length cp, .int .i64 (pr a b c d e)]) ∧ By w' A (pl a b c d e).length cp (pl a b c d e) ∧ Ext w w' := by
  by_cases h : mayB a b c d e = true
  · obtain ⟨a, b, c, d, e, rfl, rfl, rfl, rfl, rfl⟩ := may_nat h
    rw [pl_yes h, pr_yes h]
    simp only [Int.toNat_natCast, tagBytes_len]
    exact rprint_yes a b c d e w h
  · have h' : mayB a b c d e = false := by simpa using h
    rw [pl_no h', pr_no h']
    exact (rprint_no a b c d e w h').mono fun _ w' ⟨h1, h2⟩ => ⟨none, 0, h1, By.nil_ w', h2⟩
end Go.Proofs.YtlikhmhomkiadaaGreatDoor

namespace Go.Proofs.YtlikhmhomkiadaaGreatDoor
set_option maxRecDepth 100000
open Go Go.RowKit

/-- What the table of halves holds. -/
def LaidH (w : World) : Prop := ∀ i, i < 16 → w.cell? ⟨4, i, none⟩ = some (.int .u32 ((stps 4 i : Nat) : Int))

theorem half_any (r : Nat) (w : World) (hL : LaidH w) (hr : r < 4294967296) :
    Calls Tryz.prog 168 #[.int .u32 r] w fun e w' => e = .returned (.int .u32 ((stps 4 r : Nat) : Int)) ∧ w = w' := by
  have ha : bits .and .u32 (r : Int) 15 = ((r % 16 : Nat) : Int) := by
    have := u32_and_nat r 15 hr (by omega)
    rw [nat_mask4] at this
    exact this
  have hm : r % 16 < 16 := Nat.mod_lt _ (by omega)
  have hc := hL (r % 16) hm
  have HS : Hid ((r / 16) ^^^ stps 4 (r % 16) = stps 4 r) := Lib.hid (stps_split 4 r).symm
  have hlt : stps 4 (r % 16) < 4294967296 := stps_lt (by omega)
  have hx : bits .xor .u32 ((r : Int) / 16) ((stps 4 (r % 16) : Nat) : Int) = ((r / 16 ^^^ stps 4 (r % 16) : Nat) : Int) := u32_xor_nat (r / 16) _ (by omega) hlt
  clear hL hlt
  go_enter Tryz.func168, Tryz.ntmps168
  go_wp2_with fail
  go_ret
  exact ⟨by rw [HS.out]; rfl, rfl⟩

theorem not_u32 (s : Nat) (h : s < 4294967296) : bits .xor .u32 IntKind.u32.max (s : Int) = ((inv s : Nat) : Int) := by
  have e : IntKind.u32.max = ((4294967295 : Nat) : Int) := by decide
  rw [e, u32_xor_nat 4294967295 s (by omega) h, inv_xor h, Nat.xor_comm]
set_option maxHeartbeats 400000 in
theorem ext_any (A : Option Addr) (l : List Nat) (n c B s : Nat) (w : World) (hL : LaidH w) (hl : l.length = n) (hr : Rd w B A l) (hm : n ≤ maxLen) (hs : s < 4294967296) :
    Calls Tryz.prog 161 #[.int .u32 s, .slice A n c] w fun e w' => e = .returned (.int .u32 ((crcE s l : Nat) : Int)) ∧ w = w' := by
  unfold maxLen at hm
  have H := Lib.hid hL
  have HL := Lib.hid hl
  clear hl hL
  go_enter Tryz.func161, Tryz.ntmps161
  go_wp2_with fail
  go_loop [5, 12] (fun vr vi => ∃ k t : Nat, k ≤ n ∧ vi = .int .i64 k ∧ vr = .int .u32 t ∧ t < 4294967296 ∧ Hid (t = feed (inv s) (l.take k))) (fun _ vi => n - (intOf vi).toNat)
  case atStart => exact ⟨0, inv s, Nat.zero_le _, rfl, by rw [not_u32 s hs], inv_lt s, Lib.hid rfl⟩
  case round =>
    obtain ⟨k, t, hk, rfl, rfl, ht, HT⟩ := hrel
    by_cases hlt : k < n
    · obtain ⟨g, o, x, hA, _, hx, hx2, hcx⟩ := hr.at_ (k := k) (by rw [HL.out]; exact hlt)
      subst hA
      have HX : Hid (inb t x = feed (inv s) (l.take (k + 1))) := Lib.hid (by rw [feed_take hx, ← HT.out])
      have hin := inb_lt ht hx2
      have hxor := u32_xor_nat t x ht (by omega)
      have h1 : t ^^^ x < 4294967296 := xor_lt32 ht (by omega)
      have h2 : stps 4 (t ^^^ x) < 4294967296 := stps_lt h1
      have HI : Hid (stps 4 (stps 4 (t ^^^ x)) = inb t x) := Lib.hid (by rw [← stps_add]; rfl)
      clear hx HT
      go_wp2_with fail
      refine (half_any _ _ H.out h1).mono ?_
      rintro e w' ⟨rfl, rfl⟩
      go_wp2_with fail
      refine (half_any _ _ H.out h2).mono ?_
      rintro e w' ⟨rfl, rfl⟩
      rw [HI.out]
      go_wp2_with fail
      go_round
      case rel => exact ⟨k + 1, inb t x, by omega, by go_num, rfl, hin, HX⟩
      case measure => simp [intOf]; omega
    · have HF : Hid (inv t = crcE s l) := by
        have := HT.out
        rw [List.take_of_length_le (by have := HL.out; omega)] at this
        exact Lib.hid (by rw [this]; rfl)
      go_wp2_with fail
      go_ret
      exact ⟨by rw [← HF.out, ← not_u32 t ht]; rfl, rfl⟩
theorem sum_any (A : Option Addr) (l : List Nat) (n c B : Nat) (w : World) (hL : LaidH w) (hl : l.length = n) (hr : Rd w B A l) (hm : n ≤ maxLen) :
    Calls Tryz.prog 149 #[.slice A n c] w fun e w' => e = .returned (.int .u32 ((crcS l : Nat) : Int)) ∧ w = w' := by
  have HM := Lib.hid hm
  have H := Lib.hid hL
  clear hm hL
  go_enter Tryz.func149, Tryz.ntmps149
  go_wp2_with fail
  refine (ext_any A l n c B 0 _ H.out hl hr HM.out (by omega)).mono ?_
  rintro e w' ⟨rfl, rfl⟩
  go_wp2_with fail
  go_ret
  exact ⟨rfl, rfl⟩
end Go.Proofs.YtlikhmhomkiadaaGreatDoor
