/-
  The walk of the statement on rows that differ in bits none of which is more than 31 bits behind the first one.
-/
import Derived.Test.YtpfclldpebfocaaDoorCAwake
import Derived.Test.YtpfclldpebfocaaDoorFlip
import Derived.Test.YtpfclldpebfocaaDoorPat
import Derived.Test.YtpfclldpebfocaaDoorOpen
import Derived.IntWalk
import Derived.IntWalk
namespace Go.Proofs.YtpfclldpebfocaaDoor
open Go Go.RowKit Go.Joins

set_option maxHeartbeats 4000000 in
set_option maxRecDepth 100000 in
theorem near_yes (A : Option Addr) (n c : Nat) (la : List Nat) (x : Int) (wh : Nat) (w : World) (ha : By w A n c la) (hL : LaidH w) (hn : n ≤ 1500) (hn4 : 4 ≤ n) (hw : wh < 4294967296) (hw0 : wh ≠ 0) :
    Calls Tryd.prog 7 #[.slice A n c, .int .i64 x, .int .u32 wh] w fun e w' => e = .returned (.bool true) ∧ Ext w w' := by
  have HL := Lib.hid hL
  have HA := Lib.hid ha
  have hwz : (((wh : Nat) : Int) == 0) = false := by simp; omega
  have HW0 := Lib.hid hw0
  clear hL ha hw0
  go_enter Tryd.func7, Tryd.ntmps7
  go_wp2_with fail
  refine (cawake_any _ HL.out).mono ?_
  rintro e w1 ⟨rfl, hx⟩
  have HE := Lib.hid hx
  clear hx
  go_wp2_with fail
  obtain ⟨p, hp, hp2⟩ := pos_ex x (8 * (n : Int) - 31) (by omega)
  rw [hp, IntWalk.wrap64_in _ (by omega)]
  clear hp
  have hpn : p + 32 ≤ 8 * n := by omega
  refine (copy_by A la n c _ (HA.out.ext HE.out) (by omega)).mono ?_
  rintro e w2 ⟨A1, c1, rfl, hb1, hx, hown⟩
  have HO : Hid (w2.ownsRow w1.heap.size 5 1 (.slice A1 n c1) n (vb (flipN la p wh 0))) := Lib.hid hown
  have hz0 := Ext.size HE.out
  have HE := Lib.hid (HE.out.trans hx)
  clear hx hown hb1
  go_wp2_with fail
  go_loopw [8] (fun i wr => ∃ k : Nat, k ≤ 32 ∧ i = .int .i64 k ∧ Hid (wr.ownsRow w1.heap.size 5 1 (.slice A1 n c1) n (vb (flipN la p wh k))) ∧ Hid (Ext w wr)) (fun i _ => 32 - (intOf i).toNat)
  case atStart => exact ⟨0, Nat.zero_le _, rfl, HO, HE⟩
  case round =>
    obtain ⟨k, hk, rfl, HOk, HEk⟩ := hrel
    clear HO HE
    by_cases hlt : k < 32
    · obtain ⟨g, cap, hv⟩ := ownsRow_form HOk.out (by omega)
      injection hv with hv _ hcap
      subst hv; subst hcap
      have hg := (HOk.out.lt g rfl).1
      have ha1 : bits .and .u32 ((wh : Int) / 2 ^ k) 1 = ((wh / 2 ^ k % 2 : Nat) : Int) := by
        have h1 : wh / 2 ^ k < 4294967296 := Nat.lt_of_le_of_lt (Nat.div_le_self _ _) hw
        have h2 := u32_and_nat (wh / 2 ^ k) 1 h1 (by omega)
        rw [nat_mask1] at h2
        rw [← h2]
        simp
      have hlen : (flipN la p wh k).length = n := by rw [flipN_length, HA.out.len]
      rcases Nat.mod_two_eq_zero_or_one (wh / 2 ^ k) with h2 | h2
      · have HF : Hid (flipN la p wh k = flipN la p wh (k + 1)) := Lib.hid (by simp only [flipN]; rw [if_neg (by omega)])
        rw [h2] at ha1
        clear h2 hlen
        go_wp2_with fail
        go_roundw
        case rel => exact ⟨k + 1, by omega, by go_num, by rw [← HF.out]; exact HOk, HEk⟩
        case measure => simp [intOf]; omega
      · rw [h2] at ha1
        obtain ⟨y, hy⟩ : ∃ y, (flipN la p wh k)[(p + k) / 8]? = some y := ⟨_, List.getElem?_eq_getElem (by omega)⟩
        have HF : Hid ((flipN la p wh k).set ((p + k) / 8) (y ^^^ 2 ^ ((p + k) % 8)) = flipN la p wh (k + 1)) := Lib.hid (by
          simp only [flipN]
          rw [if_pos h2, flipB_set hy])
        have hy2 : y < 256 := flipN_lt p wh k HA.out.rd.lt y (List.mem_of_getElem? hy)
        have hc : wr.cell? ⟨g, (p + k) / 8, none⟩ = some (.int .u8 (y : Int)) := by
          rw [HOk.out.cellAt _ (by omega), vb_get, hy]
          rfl
        have hfz := HOk.out.frozenAt ((p + k) / 8)
        have hm8 : (p + k) % 8 < 8 := Nat.mod_lt _ (by omega)
        have hx8 := turn_u8 y ((p + k) % 8) hy2 hm8
        clear h2 hlen hy
        go_wp2_with fail
        go_roundw
        case rel =>
          refine ⟨k + 1, by omega, by go_num, Lib.hid ?_, Lib.hid (Below.setCell HEk.out (Nat.le_trans hz0 hg) _)⟩
          have hs := (HOk.out.stored ((p + k) / 8) (.int .u8 ((y ^^^ 2 ^ ((p + k) % 8) : Nat) : Int))).1
          rw [vb_set, HF.out] at hs
          exact hs
        case measure => simp [intOf]; omega
    · obtain rfl : k = 32 := by omega
      have hb1 : By wr A1 n c1 (flipN la p wh 32) := Bs.of_own HOk.out (flipN_lt p wh 32 HA.out.rd.lt)
      have HT := Lib.hid hb1
      have HE := Lib.hid HEk.out
      have hne : (((crcS la : Nat) : Int) != ((crcS (flipN la p wh 32) : Nat) : Int)) = true := by
        rw [bne_iff_ne]
        intro h
        exact near_ne HA.out.rd.lt (by rw [HA.out.len]; exact hpn) hw HW0.out (by omega)
      clear hb1 HOk HEk
      go_wp2_with fail
      refine (sum_by _ la _ _ _ (HL.out.ext HE.out) (HA.out.ext HE.out)).mono ?_
      rintro e w3 ⟨rfl, hx⟩
      have HT := Lib.hid (HT.out.ext hx)
      have HE := Lib.hid (HE.out.trans hx)
      clear hx
      go_wp2_with fail
      refine (sum_by _ (flipN la p wh 32) _ _ _ (HL.out.ext HE.out) HT.out).mono ?_
      rintro e w4 ⟨rfl, hx⟩
      have HE := Lib.hid (HE.out.trans hx)
      clear hx HT
      go_wp2_with fail
      go_ret
      exact ⟨rfl, HE.out⟩
theorem near_no (A : Option Addr) (n c : Nat) (x : Int) (wh : Nat) (w : World) (hL : LaidH w) (h : 1500 < n ∨ n < 4 ∨ wh = 0) :
    Calls Tryd.prog 7 #[.slice A n c, .int .i64 x, .int .u32 wh] w fun e w' => e = .returned (.bool true) ∧ Ext w w' := by
  have HL := Lib.hid hL
  clear hL
  by_cases h1 : 1500 < n
  · clear h
    go_enter Tryd.func7, Tryd.ntmps7
    go_wp2_with fail
    refine (cawake_any _ HL.out).mono ?_
    rintro e w1 ⟨rfl, hx⟩
    have HE := Lib.hid hx
    clear hx
    go_wp2_with fail
    go_ret
    exact ⟨rfl, HE.out⟩
  by_cases h2 : n < 4
  · clear h
    go_enter Tryd.func7, Tryd.ntmps7
    go_wp2_with fail
    refine (cawake_any _ HL.out).mono ?_
    rintro e w1 ⟨rfl, hx⟩
    have HE := Lib.hid hx
    clear hx
    go_wp2_with fail
    go_ret
    exact ⟨rfl, HE.out⟩
  · obtain rfl : wh = 0 := by omega
    clear h
    go_enter Tryd.func7, Tryd.ntmps7
    go_wp2_with fail
    refine (cawake_any _ HL.out).mono ?_
    rintro e w1 ⟨rfl, hx⟩
    have HE := Lib.hid hx
    clear hx
    go_wp2_with fail
    go_ret
    exact ⟨rfl, HE.out⟩
theorem crcNear_law (A : Option Addr) (n c : Nat) (la : List Nat) (x wh : Int) (w : World) (ha : Bs w w.heap.size A n c la) (_ : (Lit.int .i64 x).wf = true) (hw : (Lit.int .u32 wh).wf = true) (hL : LaidH w) :
    Calls Tryd.prog 7 #[.slice A n c, .int .i64 x, .int .u32 wh] w fun e w' => e = .returned (.bool true) ∧ Below w.heap.size w w' := by
  have h := bounds_u32 hw
  obtain ⟨wh, rfl⟩ := Int.eq_ofNat_of_zero_le h.1
  by_cases h : 1500 < n ∨ n < 4 ∨ wh = 0
  · exact near_no A n c x wh w hL h
  · exact near_yes A n c la x wh w ha hL (by omega) (by omega) (by omega) (by omega)
end Go.Proofs.YtpfclldpebfocaaDoor
