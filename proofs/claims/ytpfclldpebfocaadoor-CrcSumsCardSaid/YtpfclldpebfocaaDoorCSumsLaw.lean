/-
  The walk of the statement on sums: the program's sum and the document's are the same, for any bytes and any sum.
-/
import Derived.Test.YtpfclldpebfocaaDoorCAwake
import Derived.Test.YtpfclldpebfocaaDoorRefC
import Derived.Test.YtpfclldpebfocaaDoorOpen
namespace Go.Proofs.YtpfclldpebfocaaDoor
open Go Go.RowKit

theorem rsum_by (A : Option Addr) (l : List Nat) (n c : Nat) (w : World) (hb : By w A n c l) :
    Calls Tryd.prog 12 #[.slice A n c] w fun e w' => e = .returned (.int .u32 ((crcS l : Nat) : Int)) ∧ Ext w w' :=
  (rsum_any A l n c _ w hb.len hb.rd (by have := hb.cap; have := hb.most; unfold maxLen; omega)).mono fun _ _ ⟨h, hw⟩ => ⟨h, by subst hw; exact Ext.refl _⟩
theorem rext_by (A : Option Addr) (l : List Nat) (n c s : Nat) (w : World) (hb : By w A n c l) (hs : s < 4294967296) :
    Calls Tryd.prog 14 #[.int .u32 s, .slice A n c] w fun e w' => e = .returned (.int .u32 ((crcE s l : Nat) : Int)) ∧ Ext w w' :=
  (rext_any A l n c _ s w hb.len hb.rd (by have := hb.cap; have := hb.most; unfold maxLen; omega) hs).mono fun _ _ ⟨h, hw⟩ => ⟨h, by subst hw; exact Ext.refl _⟩

set_option maxHeartbeats 1000000 in
set_option maxRecDepth 100000 in
theorem sums_walk (A : Option Addr) (n c : Nat) (l : List Nat) (s : Nat) (w : World) (hb : By w A n c l) (hs : s < 4294967296) (hL : LaidH w) :
    Calls Tryd.prog 3 #[.slice A n c, .int .u32 s] w fun e w' => e = .returned (.bool true) ∧ Ext w w' := by
  have HL := Lib.hid hL
  have HB := Lib.hid hb
  clear hL hb
  by_cases hn : 2000 < n
  · go_enter Tryd.func3, Tryd.ntmps3
    go_wp2_with fail
    go_ret
    exact ⟨rfl, Ext.refl _⟩
  · have hn2 : n ≤ 2000 := by omega
    go_enter Tryd.func3, Tryd.ntmps3
    go_wp2_with fail
    refine (copy_by A l n c _ HB.out (by omega)).mono ?_
    rintro e w1 ⟨A1, c1, rfl, hb1, hx, _⟩
    have HB1 := Lib.hid hb1
    have HB := Lib.hid (HB.out.ext hx)
    have HL := Lib.hid (HL.out.ext hx)
    have HE := Lib.hid hx
    clear hx hb1
    go_wp2_with fail
    refine (sum_by _ l _ _ _ HL.out HB1.out).mono ?_
    rintro e w2 ⟨rfl, hx⟩
    have HB1 := Lib.hid (HB1.out.ext hx)
    have HB := Lib.hid (HB.out.ext hx)
    have HL := Lib.hid (HL.out.ext hx)
    have HE := Lib.hid (HE.out.trans hx)
    clear hx
    go_wp2_with fail
    refine (rsum_by _ l _ _ _ HB.out).mono ?_
    rintro e w3 ⟨rfl, hx⟩
    have HB1 := Lib.hid (HB1.out.ext hx)
    have HB := Lib.hid (HB.out.ext hx)
    have HL := Lib.hid (HL.out.ext hx)
    have HE := Lib.hid (HE.out.trans hx)
    clear hx
    go_wp2_with fail
    refine (ext_by _ l _ _ s _ HL.out HB1.out hs).mono ?_
    rintro e w4 ⟨rfl, hx⟩
    have HB1 := Lib.hid (HB1.out.ext hx)
    have HB := Lib.hid (HB.out.ext hx)
    have HE := Lib.hid (HE.out.trans hx)
    clear hx
    go_wp2_with fail
    refine (rext_by _ l _ _ s _ HB.out hs).mono ?_
    rintro e w5 ⟨rfl, hx⟩
    have HB1 := Lib.hid (HB1.out.ext hx)
    have HB := Lib.hid (HB.out.ext hx)
    have HE := Lib.hid (HE.out.trans hx)
    clear hx
    go_wp2_with fail
    refine (same_by _ _ l l _ _ _ _ _ HB1.out HB.out).mono ?_
    rw [show decide (l = l) = true from by simp]
    rintro e w6 ⟨rfl, hx⟩
    have HE := Lib.hid (HE.out.trans hx)
    clear hx
    go_wp2_with fail
    go_ret
    exact ⟨rfl, HE.out⟩
theorem crcSums_law (A : Option Addr) (n c : Nat) (l : List Nat) (s : Int) (w : World) (hb : Bs w w.heap.size A n c l) (hs : (Lit.int .u32 s).wf = true) (hL : LaidH w) :
    Calls Tryd.prog 3 #[.slice A n c, .int .u32 s] w fun e w' => e = .returned (.bool true) ∧ Below w.heap.size w w' := by
  have h := bounds_u32 hs
  obtain ⟨s, rfl⟩ := Int.eq_ofNat_of_zero_le h.1
  exact sums_walk A n c l s w hb (by omega) hL
end Go.Proofs.YtpfclldpebfocaaDoor
