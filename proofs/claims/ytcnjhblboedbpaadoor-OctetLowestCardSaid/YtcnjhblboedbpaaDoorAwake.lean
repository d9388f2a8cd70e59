/-
  The contract of the statements' own first look at the chapter's examples: it answers true and writes nothing that was there.
-/
import Derived.Test.YtcnjhblboedbpaaDoorBy
import Derived.Test.YtcnjhblboedbpaaDoorLaid
import Derived.Test.YtcnjhblboedbpaaDoorRead
import Derived.Test.YtcnjhblboedbpaaDoorPut
namespace Go.Proofs.YtcnjhblboedbpaaDoor
open Go Go.RowKit

theorem put_by (x N : Nat) (w : World) (hL : Laid w) (hf : fitsB x N = true) :
    Calls Tryd.prog 9 #[.int .i64 x, .int .i64 N] w fun e w' => ∃ A' c', e = .returned (.tuple #[.slice A' x c', .int .i64 0]) ∧ By w' A' x c' (digs x N) ∧ Ext w w' :=
  (oput_yes x N w hL hf).mono fun _ _ ⟨A', c', h1, h2, h3⟩ => ⟨A', c', h1, Bs.of_own h2 (digs_lt x N), h3⟩
theorem get_by (A : Option Addr) (l : List Nat) (n c : Nat) (a x : Int) (w : World) (hL : Laid w) (hb : By w A n c l) (hm : n ≤ 9000000000000000000) :
    Calls Tryd.prog 15 #[.slice A n c, .int .i64 a, .int .i64 x] w fun e w' => e = .returned (.tuple #[.int .i64 (getS l a x).1, .int .i64 (getS l a x).2.1, .int .i64 (getS l a x).2.2]) ∧ Ext w w' :=
  (oget_any A l n c _ a x w hL hb.len hb.rd hm).mono fun _ _ ⟨h, hw⟩ => ⟨h, by subst hw; exact Ext.refl _⟩
theorem read_by (A : Option Addr) (l : List Nat) (n c : Nat) (a : Int) (w : World) (hL : Laid w) (hb : By w A n c l) (hm : n ≤ 9000000000000000000) :
    Calls Tryd.prog 17 #[.slice A n c, .int .i64 a] w fun e w' => e = .returned (.tuple #[.string (str (readS l a).1), .int .i64 (readS l a).2.1, .int .i64 (readS l a).2.2]) ∧ Ext w w' :=
  (oread_any A l n c _ a w hL hb.len hb.cap hb.rd hm).mono fun _ _ ⟨h, hw⟩ => ⟨h, by subst hw; exact Ext.refl _⟩
set_option maxHeartbeats 2000000 in
set_option maxRecDepth 100000 in
theorem awake_any (w : World) (hL : Laid w) : Calls Tryd.prog 19 #[] w fun e w' => e = .returned (.bool true) ∧ Ext w w' := by
  have HL := Lib.hid hL
  clear hL
  go_enter Tryd.func19, Tryd.ntmps19
  go_wp2_with fail
  refine (put_by 2 258 _ HL.out rfl).mono ?_
  rintro e w1 ⟨A1, c1, rfl, hb1, hx⟩
  have HB := Lib.hid hb1
  have HE := Lib.hid hx
  have HL := Lib.hid (HL.out.ext hx)
  clear hb1 hx
  go_wp2_with fail
  refine (oput_no 1 258 _ HL.out rfl).mono ?_
  rintro e w2 ⟨rfl, rfl⟩
  go_wp2_with fail
  refine (oput_no 3 258 _ HL.out rfl).mono ?_
  rintro e w2 ⟨rfl, rfl⟩
  go_wp2_with fail
  have HY := Lib.hid ((Ext.refl w1).alloc (.cells #[.int .u8 9, .int .u8 2, .int .u8 1] 5))
  refine (get_by _ [9, 2, 1] 3 3 1 2 _ (HL.out.ext HY.out) (By.lit w1 [9, 2, 1] 5 (by decide) (by decide) _ rfl) (by omega)).mono ?_
  rw [show getS [9, 2, 1] 1 2 = (258, 3, 0) from rfl]
  rintro e w2 ⟨rfl, hx⟩
  replace hx := HY.out.trans hx
  have HB := Lib.hid (HB.out.ext hx)
  have HE := Lib.hid (HE.out.trans hx)
  have HL := Lib.hid (HL.out.ext hx)
  clear hx HY
  go_wp2_with fail
  have HY := Lib.hid ((Ext.refl w2).alloc (.cells #[.int .u8 9, .int .u8 2, .int .u8 1] 5))
  refine (get_by _ [9, 2, 1] 3 3 2 2 _ (HL.out.ext HY.out) (By.lit w2 [9, 2, 1] 5 (by decide) (by decide) _ rfl) (by omega)).mono ?_
  rw [show getS [9, 2, 1] 2 2 = (0, 0, 10) from rfl]
  rintro e w3 ⟨rfl, hx⟩
  replace hx := HY.out.trans hx
  have HB := Lib.hid (HB.out.ext hx)
  have HE := Lib.hid (HE.out.trans hx)
  have HL := Lib.hid (HL.out.ext hx)
  clear hx HY
  go_wp2_with fail
  have HY := Lib.hid ((Ext.refl w3).alloc (.cells #[.int .u8 9, .int .u8 2, .int .u8 1] 5))
  refine (get_by _ [9, 2, 1] 3 3 4 1 _ (HL.out.ext HY.out) (By.lit w3 [9, 2, 1] 5 (by decide) (by decide) _ rfl) (by omega)).mono ?_
  rw [show getS [9, 2, 1] 4 1 = (0, 0, 2) from rfl]
  rintro e w4 ⟨rfl, hx⟩
  replace hx := HY.out.trans hx
  have HB := Lib.hid (HB.out.ext hx)
  have HE := Lib.hid (HE.out.trans hx)
  have HL := Lib.hid (HL.out.ext hx)
  clear hx HY
  go_wp2_with fail
  refine (text_by _ _ (by decide)).mono ?_
  rintro e w5 ⟨A2, c2, rfl, hb2, hx⟩
  have HB2 := Lib.hid hb2
  have HB := Lib.hid (HB.out.ext hx)
  have HE := Lib.hid (HE.out.trans hx)
  have HL := Lib.hid (HL.out.ext hx)
  clear hx hb2
  go_wp2_with fail
  have HY := Lib.hid ((Ext.refl w5).alloc (.cells #[.int .u8 2, .int .u8 97, .int .u8 98, .int .u8 7] 5))
  refine (read_by _ [2, 97, 98, 7] 4 4 0 _ (HL.out.ext HY.out) (By.lit w5 [2, 97, 98, 7] 5 (by decide) (by decide) _ rfl) (by omega)).mono ?_
  rw [show readS [2, 97, 98, 7] 0 = ([97, 98], 3, 0) from rfl, show str ([97, 98], 3, (0 : Int)).1 = (⟨#[97, 98]⟩ : ByteArray) from rfl]
  rintro e w6 ⟨rfl, hx⟩
  replace hx := HY.out.trans hx
  have HB := Lib.hid (HB.out.ext hx)
  have HE := Lib.hid (HE.out.trans hx)
  have HL := Lib.hid (HL.out.ext hx)
  have HB2 := Lib.hid (HB2.out.ext hx)
  clear hx HY
  go_wp2_with fail
  have HY := Lib.hid ((Ext.refl w6).alloc (.cells #[.int .u8 2, .int .u8 97] 5))
  refine (read_by _ [2, 97] 2 2 0 _ (HL.out.ext HY.out) (By.lit w6 [2, 97] 5 (by decide) (by decide) _ rfl) (by omega)).mono ?_
  rw [show readS [2, 97] 0 = ([], 0, 10) from rfl]
  rintro e w7 ⟨rfl, hx⟩
  replace hx := HY.out.trans hx
  have HB := Lib.hid (HB.out.ext hx)
  have HE := Lib.hid (HE.out.trans hx)
  have HL := Lib.hid (HL.out.ext hx)
  have HB2 := Lib.hid (HB2.out.ext hx)
  clear hx HY
  go_wp2_with fail
  have HY := Lib.hid ((Ext.refl w7).alloc (.cells #[.int .u8 2, .int .u8 1] 5))
  refine (same_by _ _ _ [2, 1] _ 2 _ 2 _ (HB.out.ext HY.out) (By.lit w7 [2, 1] 5 (by decide) (by decide) _ rfl)).mono ?_
  rw [show decide (digs 2 258 = [2, 1]) = true from rfl]
  rintro e w8 ⟨rfl, hx⟩
  replace hx := HY.out.trans hx
  have HE := Lib.hid (HE.out.trans hx)
  have HB2 := Lib.hid (HB2.out.ext hx)
  clear hx HY
  go_wp2_with fail
  have HY := Lib.hid ((Ext.refl w8).alloc (.cells #[.int .u8 2, .int .u8 97, .int .u8 98] 5))
  refine (same_by _ _ [2, 97, 98] [2, 97, 98] _ 3 _ 3 _ (HB2.out.ext HY.out) (By.lit w8 [2, 97, 98] 5 (by decide) (by decide) _ rfl)).mono ?_
  rw [show decide (([2, 97, 98] : List Nat) = [2, 97, 98]) = true from rfl]
  rintro e w9 ⟨rfl, hx⟩
  replace hx := HY.out.trans hx
  have HE := Lib.hid (HE.out.trans hx)
  clear hx HY
  go_wp2_with fail
  go_ret
  exact ⟨rfl, HE.out⟩
end Go.Proofs.YtcnjhblboedbpaaDoor
