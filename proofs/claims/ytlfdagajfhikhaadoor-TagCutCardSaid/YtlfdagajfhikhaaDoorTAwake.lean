/-
  The contract of the tag statements' own first look at the chapter's examples: it answers true and writes nothing that was there.
-/
import Derived.Test.YtlfdagajfhikhaaDoorTAll
import Derived.Test.YtlfdagajfhikhaaDoorTWhere
import Derived.Test.YtlfdagajfhikhaaDoorSC
namespace Go.Proofs.YtlfdagajfhikhaaDoor
open Go Go.RowKit

set_option maxHeartbeats 3200000 in
set_option maxRecDepth 100000 in
theorem tawake_any (w : World) (hL : LaidA w) : Calls Tryd.prog 26 #[] w fun e w' => e = .returned (.bool true) ∧ Ext w w' := by
  have HL := Lib.hid hL
  clear hL
  go_enter Tryd.func26, Tryd.ntmps26
  go_wp2_with fail
  refine (print_any 1 4 47 258 3 _ HL.out).mono ?_
  rw [show pl 1 4 47 258 3 = [1, 4, 47, 2, 1, 0, 0, 0, 0, 3, 0, 0, 0, 0, 0] from by decide, show pr 1 4 47 258 3 = 0 from by decide]
  rintro e w1 ⟨A1, c1, rfl, hb1, hx⟩
  have HB : Hid (By w1 A1 15 c1 [1, 4, 47, 2, 1, 0, 0, 0, 0, 3, 0, 0, 0, 0, 0]) := Lib.hid hb1
  have HE := Lib.hid hx
  clear hb1 hx
  go_wp2_with fail
  refine (owhere_any 31 _ (HL.out.ext HE.out).t (by omega)).mono ?_
  rw [show wReg 31 = 4 from by decide, show wPlc 31 = 1 from by decide, show wBeh 31 = 1 from by decide, show wIs 31 = true from by decide]
  rintro e w2 ⟨rfl, hx⟩
  have HB := Lib.hid (HB.out.ext hx)
  have HE := Lib.hid (HE.out.trans hx)
  clear hx
  go_wp2_with fail
  refine (owhere_any 156 _ (HL.out.ext HE.out).t (by omega)).mono ?_
  rw [show wReg 156 = 0 from by decide, show wPlc 156 = 0 from by decide, show wBeh 156 = 0 from by decide, show wIs 156 = false from by decide]
  rintro e w3 ⟨rfl, hx⟩
  have HB := Lib.hid (HB.out.ext hx)
  have HE := Lib.hid (HE.out.trans hx)
  clear hx
  go_wp2_with fail
  have HY := Lib.hid ((Ext.refl w3).alloc (.cells #[.int .u8 1, .int .u8 4, .int .u8 47, .int .u8 2, .int .u8 1, .int .u8 0, .int .u8 0, .int .u8 0, .int .u8 0, .int .u8 3, .int .u8 0, .int .u8 0, .int .u8 0, .int .u8 0, .int .u8 0] 5))
  refine (same_by _ _ _ [1, 4, 47, 2, 1, 0, 0, 0, 0, 3, 0, 0, 0, 0, 0] _ 15 _ 15 _ (HB.out.ext HY.out) (By.lit w3 [1, 4, 47, 2, 1, 0, 0, 0, 0, 3, 0, 0, 0, 0, 0] 5 (by decide) (by decide) _ rfl)).mono ?_
  rw [decide_eq_true (rfl : ([1, 4, 47, 2, 1, 0, 0, 0, 0, 3, 0, 0, 0, 0, 0] : List Nat) = _)]
  rintro e w4 ⟨rfl, hx⟩
  have HE := Lib.hid (HE.out.trans (HY.out.trans hx))
  clear hx HY
  go_wp2_with fail
  refine (first_any 1 0 _ (HL.out.ext HE.out).t).mono ?_
  rw [show firstS 1 0 = 0 from by decide]
  rintro e w5 ⟨rfl, hx⟩
  have HE := Lib.hid (HE.out.trans hx)
  clear hx
  go_wp2_with fail
  refine (first_any 3 0 _ (HL.out.ext HE.out).t).mono ?_
  rw [show firstS 3 0 = 4 from by decide]
  rintro e w6 ⟨rfl, hx⟩
  have HE := Lib.hid (HE.out.trans hx)
  clear hx
  go_wp2_with fail
  refine (first_any 4 1 _ (HL.out.ext HE.out).t).mono ?_
  rw [show firstS 4 1 = 30 from by decide]
  rintro e w7 ⟨rfl, hx⟩
  have HE := Lib.hid (HE.out.trans hx)
  clear hx
  go_wp2_with fail
  refine (first_any 5 15 _ (HL.out.ext HE.out).t).mono ?_
  rw [show firstS 5 15 = 154 from by decide]
  rintro e w8 ⟨rfl, hx⟩
  have HE := Lib.hid (HE.out.trans hx)
  clear hx
  go_wp2_with fail
  refine (first_any 2 2 _ (HL.out.ext HE.out).t).mono ?_
  rw [show firstS 2 2 = -1 from by decide]
  rintro e w9 ⟨rfl, hx⟩
  have HE := Lib.hid (HE.out.trans hx)
  clear hx
  go_wp2_with fail
  go_ret
  exact ⟨rfl, HE.out⟩
end Go.Proofs.YtlfdagajfhikhaaDoor
