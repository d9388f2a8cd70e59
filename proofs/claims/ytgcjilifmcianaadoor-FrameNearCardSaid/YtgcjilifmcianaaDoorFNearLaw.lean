/-
  The walk of FrameNear: a frame of which some bits within 32 are turned about is not good.
-/
import Derived.Test.YtgcjilifmcianaaDoorFSealed
import Derived.Test.YtgcjilifmcianaaDoorTNeq
import Derived.Test.YtgcjilifmcianaaDoorPat
import Derived.IntWalk
import Derived.Laws.BitsAllLaws
namespace Go.Proofs.YtgcjilifmcianaaDoor
open Go Go.RowKit

set_option maxHeartbeats 6400000 in
set_option maxRecDepth 100000 in
theorem near_false (a b c d e : Int) (A : Option Addr) (n cp : Nat) (l : List Nat) (fr wh : Nat) (w : World) (hb : By w A n cp l) (hL : LaidF w) (hn : n ≤ 300) (hfr : fr < 65536) (hw : wh < 4294967296) (hw0 : wh ≠ 0) (hz : sealE a b c d e n (sS false) = 0) :
    Calls Tryd.prog 7 #[.agg #[.int .i64 a, .int .i64 b, .int .i64 c, .int .i64 d, .int .i64 e], .slice A n cp, .bool false, .int .u16 fr, .int .u32 wh] w fun r w' => r = .returned (.bool true) ∧ Ext w w' := by
  have hE := (Ext.refl w).alloc (.cells #[.int .i64 a, .int .i64 b, .int .i64 c, .int .i64 d, .int .i64 e] 23)
  have HT := Lib.hid (heap_alloc_new w (.cells #[.int .i64 a, .int .i64 b, .int .i64 c, .int .i64 d, .int .i64 e] 23))
  have hlen : l.length = n := Bs.len hb
  have hz' : sealE a b c d e l.length (sS false) = 0 := by rw [hlen]; exact hz
  have hgood := (sealL_good hz').1
  have hL64 : (sealL a b c d e l (sS false)).length = 64 := (sealL_len hz').1
  have HLt : Hid (∀ v ∈ sealL a b c d e l (sS false), v < 256) := Lib.hid (sealL_lt (Bs.rd hb).lt)
  have HG := Lib.hid hgood
  have H64 : Hid ((sealL a b c d e l (sS false)).length = 64) := Lib.hid hL64
  have HB := Lib.hid hb
  have HL := Lib.hid hL
  have HE := Lib.hid hE
  have HZ := Lib.hid hz
  have HW0 := Lib.hid hw0
  have hwz : (((wh : Nat) : Int) == 0) = false := by simp; omega
  obtain ⟨p, hpn⟩ : ∃ p, fr % 481 = p := ⟨_, rfl⟩
  have hp2 : p < 481 := by omega
  have hp0 : ((fr : Int)).tmod 481 = (p : Int) := by rw [Int.tmod_eq_emod_of_nonneg (by omega)]; omega
  have hp1 : ((fr : Int)) % 481 = (p : Int) := by omega
  clear hE hb hL hz hz' hgood hlen hL64 hw0 hpn
  go_enter Tryd.func7, Tryd.ntmps7
  go_wp2_with fail
  refine (fawake_any _ (HL.out.ext HE.out)).mono ?_
  rintro r w1 ⟨rfl, hx⟩
  have HE := Lib.hid (HE.out.trans hx)
  have ht := (hx.block _ (Array.getElem?_eq_some_iff.1 HT.out).1).trans HT.out
  obtain ⟨⟨j0, j1, j2, j3, j4⟩, _⟩ := five_cells ht
  clear hx ht
  go_wp2_with fail
  refine (sealed_own _ _ _ _ _ _ _ _ l false _ (HL.out.ext HE.out) (HB.out.ext HE.out)).mono ?_
  rw [decide_eq_true HZ.out, H64.out]
  generalize hLq : sealL a b c d e l (sS false) = L at *
  rintro r w2 ⟨A1, c1, rfl, _, ho, hx⟩
  have HO : Hid (w2.ownsRow w1.heap.size 5 1 (.slice A1 64 c1) 64 (vb (flipN L p wh 0))) := Lib.hid (ho HZ.out)
  have hz0 := Ext.size HE.out
  have HE := Lib.hid (HE.out.trans hx)
  clear hx ho j0 j1 j2 j3 j4 hLq
  go_wp2_with fail
  clear hp0 hp1
  go_loopw [14] (fun i wr => ∃ k : Nat, k ≤ 32 ∧ i = .int .i64 k ∧ Hid (wr.ownsRow w1.heap.size 5 1 (.slice A1 64 c1) 64 (vb (flipN L p wh k))) ∧ Hid (Ext w wr)) (fun i _ => 32 - (intOf i).toNat)
  case atStart => exact ⟨0, Nat.zero_le _, rfl, HO, HE⟩
  case round =>
    obtain ⟨k, hk, rfl, HOk, HEk⟩ := hrel
    clear HO HE
    by_cases hlt : k < 32
    · obtain ⟨g, cap, hv⟩ := Go.Joins.ownsRow_form HOk.out (by omega)
      injection hv with hv _ hcap
      subst hv; subst hcap
      have hg := (HOk.out.lt g rfl).1
      have ha1 : bits .and .u32 ((wh : Int) / 2 ^ k) 1 = ((wh / 2 ^ k % 2 : Nat) : Int) := by
        have h1 : wh / 2 ^ k < 4294967296 := Nat.lt_of_le_of_lt (Nat.div_le_self _ _) hw
        have h2 := u32_and_nat (wh / 2 ^ k) 1 h1 (by omega)
        rw [nat_mask1] at h2
        rw [← h2]
        simp
      have hlen : (flipN L p wh k).length = 64 := by rw [flipN_length, H64.out]
      rcases Nat.mod_two_eq_zero_or_one (wh / 2 ^ k) with h2 | h2
      · have HF : Hid (flipN L p wh k = flipN L p wh (k + 1)) := Lib.hid (by simp only [flipN]; rw [if_neg (by omega)])
        rw [h2] at ha1
        clear h2 hlen
        go_wp2_with fail
        go_roundw
        case rel => exact ⟨k + 1, by omega, by go_num, by rw [← HF.out]; exact HOk, HEk⟩
        case measure => simp [intOf]; omega
      · rw [h2] at ha1
        obtain ⟨y, hy⟩ : ∃ y, (flipN L p wh k)[(p + k) / 8]? = some y := ⟨_, List.getElem?_eq_getElem (by omega)⟩
        have HF : Hid ((flipN L p wh k).set ((p + k) / 8) (y ^^^ 2 ^ ((p + k) % 8)) = flipN L p wh (k + 1)) := Lib.hid (by
          simp only [flipN]
          rw [if_pos h2, flipB_set hy])
        have hy2 : y < 256 := flipN_lt p wh k HLt.out y (List.mem_of_getElem? hy)
        have hc : wr.cell? ⟨g, (p + k) / 8, none⟩ = some (.int .u8 (y : Int)) := by
          rw [HOk.out.cellAt _ (by omega), vb_get, hy]
          rfl
        have hfz := HOk.out.frozenAt ((p + k) / 8)
        have hm8 : (p + k) % 8 < 8 := Nat.mod_lt _ (by omega)
        have hx8 := turn_u8 y ((p + k) % 8) hy2 hm8
        clear h2 hlen hy
        go_wp2_with fail
        go_roundw
        case rel =>
          refine ⟨k + 1, by omega, by go_num, Lib.hid ?_, Lib.hid (Below.setCell HEk.out (Nat.le_trans hz0 hg) _)⟩
          have hs := (HOk.out.stored ((p + k) / 8) (.int .u8 ((y ^^^ 2 ^ ((p + k) % 8) : Nat) : Int))).1
          rw [vb_set, HF.out] at hs
          exact hs
        case measure => simp [intOf]; omega
    · obtain rfl : k = 32 := by omega
      have hb1 : By wr A1 64 c1 (flipN L p wh 32) := Bs.of_own HOk.out (flipN_lt p wh 32 HLt.out)
      have HC := Lib.hid hb1
      have HE := Lib.hid HEk.out
      have hbad : goodB (flipN L p wh 32) = false := near_bad HG.out HLt.out (by rw [H64.out]; omega) hw HW0.out
      have hst : ¬ stN (flipN L p wh 32) = 1 := fun h => by rw [stN_one.1 h] at hbad; cases hbad
      have g0 : ((stN (flipN L p wh 32) : Int) != 1) = true := by simp; omega
      have hq := tag_eql 0 0 0 0 0 0 0 0 0 0
      have HF : Hid ((∀ k, ofl (flipN L p wh 32) k = 0) ∧ obl (flipN L p wh 32) = []) := Lib.hid ⟨ofl_no hbad, obl_no hbad⟩
      clear hb1 HOk HEk hbad hst
      generalize hst : stN (flipN L p wh 32) = st at *
      have HSTq := Lib.hid hst
      clear hst
      go_wp2_with fail
      refine (open_any _ _ _ (flipN L p wh 32) _ (HL.out.ext HE.out) HC.out).mono ?_
      rw [HSTq.out, HF.out.1, HF.out.1, HF.out.1, HF.out.1, HF.out.1, HF.out.2]
      rintro r w3 ⟨A3, N3, rfl, hb3, _, hx⟩
      obtain rfl : N3 = 0 := hb3.len.symm
      have hr := heap_alloc_new w3 (.cells #[.int .i64 0, .int .i64 0, .int .i64 0, .int .i64 0, .int .i64 0] 23)
      have HE := Lib.hid ((HE.out.trans hx).alloc (.cells #[.int .i64 0, .int .i64 0, .int .i64 0, .int .i64 0, .int .i64 0] 23))
      obtain ⟨⟨k0, k1, k2, k3, k4⟩, _⟩ := five_cells hr
      clear hx hb3 hr
      go_wp2_with fail
      go_ret
      exact ⟨rfl, HE.out⟩

set_option maxHeartbeats 6400000 in
set_option maxRecDepth 100000 in
theorem near_true (a b c d e : Int) (A : Option Addr) (n cp : Nat) (l : List Nat) (fr wh : Nat) (w : World) (hb : By w A n cp l) (hL : LaidF w) (hn : n ≤ 300) (hfr : fr < 65536) (hw : wh < 4294967296) (hw0 : wh ≠ 0) (hz : sealE a b c d e n (sS true) = 0) :
    Calls Tryd.prog 7 #[.agg #[.int .i64 a, .int .i64 b, .int .i64 c, .int .i64 d, .int .i64 e], .slice A n cp, .bool true, .int .u16 fr, .int .u32 wh] w fun r w' => r = .returned (.bool true) ∧ Ext w w' := by
  have hE := (Ext.refl w).alloc (.cells #[.int .i64 a, .int .i64 b, .int .i64 c, .int .i64 d, .int .i64 e] 23)
  have HT := Lib.hid (heap_alloc_new w (.cells #[.int .i64 a, .int .i64 b, .int .i64 c, .int .i64 d, .int .i64 e] 23))
  have hlen : l.length = n := Bs.len hb
  have hz' : sealE a b c d e l.length (sS true) = 0 := by rw [hlen]; exact hz
  have hgood := (sealL_good hz').1
  have hL64 : (sealL a b c d e l (sS true)).length = 128 := (sealL_len hz').1
  have HLt : Hid (∀ v ∈ sealL a b c d e l (sS true), v < 256) := Lib.hid (sealL_lt (Bs.rd hb).lt)
  have HG := Lib.hid hgood
  have H64 : Hid ((sealL a b c d e l (sS true)).length = 128) := Lib.hid hL64
  have HB := Lib.hid hb
  have HL := Lib.hid hL
  have HE := Lib.hid hE
  have HZ := Lib.hid hz
  have HW0 := Lib.hid hw0
  have hwz : (((wh : Nat) : Int) == 0) = false := by simp; omega
  obtain ⟨p, hpn⟩ : ∃ p, fr % 993 = p := ⟨_, rfl⟩
  have hp2 : p < 993 := by omega
  have hp0 : ((fr : Int)).tmod 993 = (p : Int) := by rw [Int.tmod_eq_emod_of_nonneg (by omega)]; omega
  have hp1 : ((fr : Int)) % 993 = (p : Int) := by omega
  clear hE hb hL hz hz' hgood hlen hL64 hw0 hpn
  go_enter Tryd.func7, Tryd.ntmps7
  go_wp2_with fail
  refine (fawake_any _ (HL.out.ext HE.out)).mono ?_
  rintro r w1 ⟨rfl, hx⟩
  have HE := Lib.hid (HE.out.trans hx)
  have ht := (hx.block _ (Array.getElem?_eq_some_iff.1 HT.out).1).trans HT.out
  obtain ⟨⟨j0, j1, j2, j3, j4⟩, _⟩ := five_cells ht
  clear hx ht
  go_wp2_with fail
  refine (sealed_own _ _ _ _ _ _ _ _ l true _ (HL.out.ext HE.out) (HB.out.ext HE.out)).mono ?_
  rw [decide_eq_true HZ.out, H64.out]
  generalize hLq : sealL a b c d e l (sS true) = L at *
  rintro r w2 ⟨A1, c1, rfl, _, ho, hx⟩
  have HO : Hid (w2.ownsRow w1.heap.size 5 1 (.slice A1 128 c1) 128 (vb (flipN L p wh 0))) := Lib.hid (ho HZ.out)
  have hz0 := Ext.size HE.out
  have HE := Lib.hid (HE.out.trans hx)
  clear hx ho j0 j1 j2 j3 j4 hLq
  go_wp2_with fail
  clear hp0 hp1
  go_loopw [14] (fun i wr => ∃ k : Nat, k ≤ 32 ∧ i = .int .i64 k ∧ Hid (wr.ownsRow w1.heap.size 5 1 (.slice A1 128 c1) 128 (vb (flipN L p wh k))) ∧ Hid (Ext w wr)) (fun i _ => 32 - (intOf i).toNat)
  case atStart => exact ⟨0, Nat.zero_le _, rfl, HO, HE⟩
  case round =>
    obtain ⟨k, hk, rfl, HOk, HEk⟩ := hrel
    clear HO HE
    by_cases hlt : k < 32
    · obtain ⟨g, cap, hv⟩ := Go.Joins.ownsRow_form HOk.out (by omega)
      injection hv with hv _ hcap
      subst hv; subst hcap
      have hg := (HOk.out.lt g rfl).1
      have ha1 : bits .and .u32 ((wh : Int) / 2 ^ k) 1 = ((wh / 2 ^ k % 2 : Nat) : Int) := by
        have h1 : wh / 2 ^ k < 4294967296 := Nat.lt_of_le_of_lt (Nat.div_le_self _ _) hw
        have h2 := u32_and_nat (wh / 2 ^ k) 1 h1 (by omega)
        rw [nat_mask1] at h2
        rw [← h2]
        simp
      have hlen : (flipN L p wh k).length = 128 := by rw [flipN_length, H64.out]
      rcases Nat.mod_two_eq_zero_or_one (wh / 2 ^ k) with h2 | h2
      · have HF : Hid (flipN L p wh k = flipN L p wh (k + 1)) := Lib.hid (by simp only [flipN]; rw [if_neg (by omega)])
        rw [h2] at ha1
        clear h2 hlen
        go_wp2_with fail
        go_roundw
        case rel => exact ⟨k + 1, by omega, by go_num, by rw [← HF.out]; exact HOk, HEk⟩
        case measure => simp [intOf]; omega
      · rw [h2] at ha1
        obtain ⟨y, hy⟩ : ∃ y, (flipN L p wh k)[(p + k) / 8]? = some y := ⟨_, List.getElem?_eq_getElem (by omega)⟩
        have HF : Hid ((flipN L p wh k).set ((p + k) / 8) (y ^^^ 2 ^ ((p + k) % 8)) = flipN L p wh (k + 1)) := Lib.hid (by
          simp only [flipN]
          rw [if_pos h2, flipB_set hy])
        have hy2 : y < 256 := flipN_lt p wh k HLt.out y (List.mem_of_getElem? hy)
        have hc : wr.cell? ⟨g, (p + k) / 8, none⟩ = some (.int .u8 (y : Int)) := by
          rw [HOk.out.cellAt _ (by omega), vb_get, hy]
          rfl
        have hfz := HOk.out.frozenAt ((p + k) / 8)
        have hm8 : (p + k) % 8 < 8 := Nat.mod_lt _ (by omega)
        have hx8 := turn_u8 y ((p + k) % 8) hy2 hm8
        clear h2 hlen hy
        go_wp2_with fail
        go_roundw
        case rel =>
          refine ⟨k + 1, by omega, by go_num, Lib.hid ?_, Lib.hid (Below.setCell HEk.out (Nat.le_trans hz0 hg) _)⟩
          have hs := (HOk.out.stored ((p + k) / 8) (.int .u8 ((y ^^^ 2 ^ ((p + k) % 8) : Nat) : Int))).1
          rw [vb_set, HF.out] at hs
          exact hs
        case measure => simp [intOf]; omega
    · obtain rfl : k = 32 := by omega
      have hb1 : By wr A1 128 c1 (flipN L p wh 32) := Bs.of_own HOk.out (flipN_lt p wh 32 HLt.out)
      have HC := Lib.hid hb1
      have HE := Lib.hid HEk.out
      have hbad : goodB (flipN L p wh 32) = false := near_bad HG.out HLt.out (by rw [H64.out]; omega) hw HW0.out
      have hst : ¬ stN (flipN L p wh 32) = 1 := fun h => by rw [stN_one.1 h] at hbad; cases hbad
      have g0 : ((stN (flipN L p wh 32) : Int) != 1) = true := by simp; omega
      have hq := tag_eql 0 0 0 0 0 0 0 0 0 0
      have HF : Hid ((∀ k, ofl (flipN L p wh 32) k = 0) ∧ obl (flipN L p wh 32) = []) := Lib.hid ⟨ofl_no hbad, obl_no hbad⟩
      clear hb1 HOk HEk hbad hst
      generalize hst : stN (flipN L p wh 32) = st at *
      have HSTq := Lib.hid hst
      clear hst
      go_wp2_with fail
      refine (open_any _ _ _ (flipN L p wh 32) _ (HL.out.ext HE.out) HC.out).mono ?_
      rw [HSTq.out, HF.out.1, HF.out.1, HF.out.1, HF.out.1, HF.out.1, HF.out.2]
      rintro r w3 ⟨A3, N3, rfl, hb3, _, hx⟩
      obtain rfl : N3 = 0 := hb3.len.symm
      have hr := heap_alloc_new w3 (.cells #[.int .i64 0, .int .i64 0, .int .i64 0, .int .i64 0, .int .i64 0] 23)
      have HE := Lib.hid ((HE.out.trans hx).alloc (.cells #[.int .i64 0, .int .i64 0, .int .i64 0, .int .i64 0, .int .i64 0] 23))
      obtain ⟨⟨k0, k1, k2, k3, k4⟩, _⟩ := five_cells hr
      clear hx hb3 hr
      go_wp2_with fail
      go_ret
      exact ⟨rfl, HE.out⟩

set_option maxRecDepth 100000 in
set_option maxHeartbeats 3200000 in
theorem near_none (a b c d e : Int) (A : Option Addr) (n cp : Nat) (l : List Nat) (two : Bool) (fr wh : Nat) (w : World) (hb : By w A n cp l) (hL : LaidF w) (hn : n ≤ 300) (hw0 : wh ≠ 0) (hz : ¬ sealE a b c d e n (sS two) = 0) :
    Calls Tryd.prog 7 #[.agg #[.int .i64 a, .int .i64 b, .int .i64 c, .int .i64 d, .int .i64 e], .slice A n cp, .bool two, .int .u16 fr, .int .u32 wh] w fun r w' => r = .returned (.bool true) ∧ Ext w w' := by
  have HT := Lib.hid (heap_alloc_new w (.cells #[.int .i64 a, .int .i64 b, .int .i64 c, .int .i64 d, .int .i64 e] 23))
  have HE := Lib.hid ((Ext.refl w).alloc (.cells #[.int .i64 a, .int .i64 b, .int .i64 c, .int .i64 d, .int .i64 e] 23))
  have HL := Lib.hid hL
  have HB : Hid (By w A n cp l) := Lib.hid hb
  have HD := Lib.hid hz
  have hwz : (((wh : Nat) : Int) == 0) = false := by simp; omega
  have HM : Hid (mayB a b c d e = true → 43 < n) := Lib.hid fun hm => by
    rcases Nat.lt_or_ge 43 n with h | h
    · exact h
    · refine absurd (sealE_zero.2 ⟨?_, hm, ?_⟩) hz
      · cases two <;> decide
      · have : 43 ≤ roomN (sS two) := by cases two <;> decide
        omega
  clear hb hL hz hw0
  go_enter Tryd.func7, Tryd.ntmps7
  go_wp2_with fail
  refine (fawake_any _ (HL.out.ext HE.out)).mono ?_
  rintro r w1 ⟨rfl, hx⟩
  have HE := Lib.hid (HE.out.trans hx)
  have ht := (hx.block _ (Array.getElem?_eq_some_iff.1 HT.out).1).trans HT.out
  have HT := Lib.hid ht
  obtain ⟨⟨j0, j1, j2, j3, j4⟩, _⟩ := five_cells ht
  clear hx ht
  go_wp2_with fail
  refine (sealed_any _ _ _ _ _ _ _ _ l two _ (HL.out.ext HE.out) (HB.out.ext HE.out)).mono ?_
  rw [decide_eq_false HD.out]
  rintro r w2 ⟨A3, c3, rfl, _, hx⟩
  generalize (sealL a b c d e l (sS two)).length = m3 at *
  have HE := Lib.hid (HE.out.trans hx)
  have ht := (hx.block _ (Array.getElem?_eq_some_iff.1 HT.out).1).trans HT.out
  clear hx j0 j1 j2 j3 j4
  obtain ⟨⟨j0, j1, j2, j3, j4⟩, _⟩ := five_cells ht
  clear ht
  go_wp2_with fail
  refine (may_any _ _ _ _ _ _ (HL.out.ext HE.out).a.t).mono ?_
  by_cases hm : mayB a b c d e = true
  · have hlong := HM.out hm
    have hl2 : decide ((43 : Int) < (n : Int)) = true := by simp; omega
    rw [hm]
    rintro r w4 ⟨rfl, hx⟩
    have HE := Lib.hid (HE.out.trans hx)
    clear hx j0 j1 j2 j3 j4 hm
    go_wp2_with fail
    go_ret
    exact ⟨rfl, HE.out⟩
  · rw [show mayB a b c d e = false by simpa using hm]
    rintro r w4 ⟨rfl, hx⟩
    have HE := Lib.hid (HE.out.trans hx)
    clear hx j0 j1 j2 j3 j4 hm
    go_wp2_with fail
    go_ret
    exact ⟨rfl, HE.out⟩

set_option maxRecDepth 100000 in
set_option maxHeartbeats 3200000 in
theorem frameNear_law (a b c d e : Int) (A : Option Addr) (n cp : Nat) (l : List Nat) (two : Bool) (fr wh : Int) (w : World) (hb : Bs w w.heap.size A n cp l) (hfr : (Lit.int .u16 fr).wf = true) (hw : (Lit.int .u32 wh).wf = true) (hL : LaidF w) :
    Calls Tryd.prog 7 #[.agg #[.int .i64 a, .int .i64 b, .int .i64 c, .int .i64 d, .int .i64 e], .slice A n cp, .bool two, .int .u16 fr, .int .u32 wh] w fun r w' => r = .returned (.bool true) ∧ Below w.heap.size w w' := by
  show Calls Tryd.prog 7 #[.agg #[.int .i64 a, .int .i64 b, .int .i64 c, .int .i64 d, .int .i64 e], .slice A n cp, .bool two, .int .u16 fr, .int .u32 wh] w fun r w' => r = .returned (.bool true) ∧ Ext w w'
  have h := bounds_u32 hw
  have hf := bounds_u16 hfr
  obtain ⟨wh, rfl⟩ := Int.eq_ofNat_of_zero_le h.1
  obtain ⟨fr, rfl⟩ := Int.eq_ofNat_of_zero_le hf.1
  have hcap := hb.cap
  have hmost := hb.most
  by_cases hn : 300 < n
  · have HE := Lib.hid ((Ext.refl w).alloc (.cells #[.int .i64 a, .int .i64 b, .int .i64 c, .int .i64 d, .int .i64 e] 23))
    have HL := Lib.hid hL
    clear hb hL
    go_enter Tryd.func7, Tryd.ntmps7
    go_wp2_with fail
    refine (fawake_any _ (HL.out.ext HE.out)).mono ?_
    rintro r w1 ⟨rfl, hx⟩
    have HE := Lib.hid (HE.out.trans hx)
    clear hx
    go_wp2_with fail
    go_ret
    exact ⟨rfl, HE.out⟩
  by_cases hw0 : wh = 0
  · have HE := Lib.hid ((Ext.refl w).alloc (.cells #[.int .i64 a, .int .i64 b, .int .i64 c, .int .i64 d, .int .i64 e] 23))
    have HL := Lib.hid hL
    subst hw0
    clear hb hL
    go_enter Tryd.func7, Tryd.ntmps7
    go_wp2_with fail
    refine (fawake_any _ (HL.out.ext HE.out)).mono ?_
    rintro r w1 ⟨rfl, hx⟩
    have HE := Lib.hid (HE.out.trans hx)
    clear hx
    go_wp2_with fail
    go_ret
    exact ⟨rfl, HE.out⟩
  by_cases hz : sealE a b c d e n (sS two) = 0
  · cases two
    · exact near_false a b c d e A n cp l fr wh w hb hL (by omega) (by omega) (by omega) hw0 hz
    · exact near_true a b c d e A n cp l fr wh w hb hL (by omega) (by omega) (by omega) hw0 hz
  · exact near_none a b c d e A n cp l two fr wh w hb hL (by omega) hw0 hz
end Go.Proofs.YtgcjilifmcianaaDoor
