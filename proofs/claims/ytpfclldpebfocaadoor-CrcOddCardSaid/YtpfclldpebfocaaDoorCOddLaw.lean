/-
  The walk of the statement on rows that differ in an odd number of bits.
-/
import Derived.Test.YtpfclldpebfocaaDoorCAwake
import Derived.Test.YtpfclldpebfocaaDoorOpen
namespace Go.Proofs.YtpfclldpebfocaaDoor
open Go Go.RowKit

set_option maxHeartbeats 1000000 in
set_option maxRecDepth 100000 in
theorem odd_walk (A A' : Option Addr) (n c n' c' : Nat) (l l' : List Nat) (w : World) (hb : By w A n c l) (hb' : By w A' n' c' l') (hL : LaidH w) :
    Calls Tryd.prog 8 #[.slice A n c, .slice A' n' c'] w fun e w' => e = .returned (.bool true) ∧ Ext w w' := by
  have HL := Lib.hid hL
  have HB := Lib.hid hb
  have HB' := Lib.hid hb'
  clear hL hb hb'
  by_cases h1 : 1500 < n
  · go_enter Tryd.func8, Tryd.ntmps8
    go_wp2_with fail
    refine (cawake_any _ HL.out).mono ?_
    rintro e w1 ⟨rfl, hx⟩
    have HE := Lib.hid hx
    clear hx
    go_wp2_with fail
    go_ret
    exact ⟨rfl, HE.out⟩
  by_cases h2 : n = n'
  · subst h2
    have hnn : (((n : Nat) : Int) != ((n : Nat) : Int)) = false := by simp
    have hn2 : n ≤ 1500 := by omega
    have hlen : l.length = l'.length := HB.out.len.trans HB'.out.len.symm
    have HT : Hid (turnedI l l' = ((cnt l l' : Nat) : Int)) := Lib.hid (by unfold turnedI; rw [if_pos hlen])
    have hle : cnt l l' ≤ 8 * n := by have := cnt_le l l'; rw [HB.out.len] at this; exact this
    have HP := Lib.hid (cnt_par hlen HB.out.rd.lt HB'.out.rd.lt)
    have HS : Hid (crcS l = crcS l' → parL l = parL l') := Lib.hid (crcS_par HB.out.rd.lt HB'.out.rd.lt)
    clear hlen
    by_cases h3 : cnt l l' % 2 = 0
    · have hz : (((cnt l l' : Nat) : Int) % 2 == 0) = true := by simp; omega
      clear h3
      go_enter Tryd.func8, Tryd.ntmps8
      go_wp2_with fail
      refine (cawake_any _ HL.out).mono ?_
      rintro e w1 ⟨rfl, hx⟩
      have HE := Lib.hid hx
      have HB := Lib.hid (HB.out.ext hx)
      have HB' := Lib.hid (HB'.out.ext hx)
      clear hx
      go_wp2_with fail
      refine (turned_by _ _ l l' _ _ _ _ _ HB.out HB'.out (by omega) (by omega)).mono ?_
      rw [HT.out]
      rintro e w2 ⟨rfl, hx⟩
      have HE := Lib.hid (HE.out.trans hx)
      clear hx
      go_wp2_with fail
      go_ret
      exact ⟨rfl, HE.out⟩
    · have hz : (((cnt l l' : Nat) : Int) % 2 == 0) = false := by simp; omega
      have hne : (((crcS l : Nat) : Int) != ((crcS l' : Nat) : Int)) = true := by
        rw [bne_iff_ne]
        intro h
        have h5 := HS.out (by omega)
        have h6 := HP.out
        omega
      clear h3
      go_enter Tryd.func8, Tryd.ntmps8
      go_wp2_with fail
      refine (cawake_any _ HL.out).mono ?_
      rintro e w1 ⟨rfl, hx⟩
      have HE := Lib.hid hx
      have HB := Lib.hid (HB.out.ext hx)
      have HB' := Lib.hid (HB'.out.ext hx)
      have HL := Lib.hid (HL.out.ext hx)
      clear hx
      go_wp2_with fail
      refine (turned_by _ _ l l' _ _ _ _ _ HB.out HB'.out (by omega) (by omega)).mono ?_
      rw [HT.out]
      rintro e w2 ⟨rfl, hx⟩
      have HE := Lib.hid (HE.out.trans hx)
      have HB := Lib.hid (HB.out.ext hx)
      have HB' := Lib.hid (HB'.out.ext hx)
      have HL := Lib.hid (HL.out.ext hx)
      clear hx
      go_wp2_with fail
      refine (sum_by _ l _ _ _ HL.out HB.out).mono ?_
      rintro e w3 ⟨rfl, hx⟩
      have HE := Lib.hid (HE.out.trans hx)
      have HB' := Lib.hid (HB'.out.ext hx)
      have HL := Lib.hid (HL.out.ext hx)
      clear hx
      go_wp2_with fail
      refine (sum_by _ l' _ _ _ HL.out HB'.out).mono ?_
      rintro e w4 ⟨rfl, hx⟩
      have HE := Lib.hid (HE.out.trans hx)
      clear hx
      go_wp2_with fail
      go_ret
      exact ⟨rfl, HE.out⟩
  · have hnn : (((n : Nat) : Int) != ((n' : Nat) : Int)) = true := by rw [bne_iff_ne]; omega
    clear h2
    go_enter Tryd.func8, Tryd.ntmps8
    go_wp2_with fail
    refine (cawake_any _ HL.out).mono ?_
    rintro e w1 ⟨rfl, hx⟩
    have HE := Lib.hid hx
    clear hx
    go_wp2_with fail
    go_ret
    exact ⟨rfl, HE.out⟩
theorem crcOdd_law (A : Option Addr) (n c : Nat) (l : List Nat) (A' : Option Addr) (n' c' : Nat) (l' : List Nat) (w : World) (hb : Bs w w.heap.size A n c l) (hb' : Bs w w.heap.size A' n' c' l') (hL : LaidH w) :
    Calls Tryd.prog 8 #[.slice A n c, .slice A' n' c'] w fun e w' => e = .returned (.bool true) ∧ Below w.heap.size w w' := odd_walk A A' n c n' c' l l' w hb hb' hL
end Go.Proofs.YtpfclldpebfocaaDoor
