/-
  The contracts of the statements' own great and awake.
-/
import Derived.Test.YtoapjgkfggggmaaDoorEPrint
import Derived.Test.YtoapjgkfggggmaaDoorERead
import Derived.Test.YtoapjgkfggggmaaDoorSC
namespace Go.Proofs.YtoapjgkfggggmaaDoor
open Go Go.RowKit

/-- Are an entry's texts longer than are gone through? -/
def grE (key old val : ByteArray) : Bool := decide (300 < key.size ∨ 300 < old.size ∨ 300 < val.size)
set_option maxRecDepth 100000 in
theorem great_any (k : Nat) (cl sq : Int) (ok : Nat) (key old val : ByteArray) (w : World) :
    Calls Tryd.prog 9 #[.agg #[.int .u8 (k : Int), .int .i64 cl, .int .i64 sq, .int .u8 (ok : Int), .string key, .string old, .string val]] w fun e w' => e = .returned (.bool (grE key old val)) ∧ Ext w w' := by
  have HE := Lib.hid ((Ext.refl w).alloc (.cells #[.int .u8 (k : Int), .int .i64 cl, .int .i64 sq, .int .u8 (ok : Int), .string key, .string old, .string val] 27))
  have fin : ∀ x y : Bool, x = y → Ending.returned (Value.bool x) = .returned (.bool y) := fun x y h => by rw [h]
  obtain ⟨r, hr⟩ : ∃ r, grE key old val = r := ⟨_, rfl⟩
  rw [hr]
  by_cases q1 : 300 < key.size
  · have HR : Hid (r = true) := Lib.hid (by rw [← hr]; exact decide_eq_true (.inl q1))
    clear hr
    go_enter Tryd.func9, Tryd.ntmps9
    go_wp2_with fail
    go_ret
    exact ⟨fin _ _ HR.out.symm, HE.out⟩
  by_cases q2 : 300 < old.size
  · have HR : Hid (r = true) := Lib.hid (by rw [← hr]; exact decide_eq_true (.inr (.inl q2)))
    clear hr
    go_enter Tryd.func9, Tryd.ntmps9
    go_wp2_with fail
    go_ret
    exact ⟨fin _ _ HR.out.symm, HE.out⟩
  by_cases q3 : 300 < val.size
  · have HR : Hid (r = true) := Lib.hid (by rw [← hr]; exact decide_eq_true (.inr (.inr q3)))
    clear hr
    go_enter Tryd.func9, Tryd.ntmps9
    go_wp2_with fail
    go_ret
    refine ⟨fin _ _ ?_, HE.out⟩
    rw [HR.out]
    simp
    omega
  · have HR : Hid (r = false) := Lib.hid (by rw [← hr]; exact decide_eq_false (by omega))
    clear hr
    go_enter Tryd.func9, Tryd.ntmps9
    go_wp2_with fail
    go_ret
    refine ⟨fin _ _ ?_, HE.out⟩
    rw [HR.out]
    simp
    omega
abbrev exL : List Nat := [2, 2, 3, 0, 0, 0, 0, 0, 2, 1, 107, 0, 1, 118]
abbrev exRow : Array Value := #[.int .u8 2, .int .i64 2, .int .i64 3, .int .u8 2, .string ⟨#[107]⟩, .string ⟨#[]⟩, .string ⟨#[118]⟩]
theorem ex_noopL : eL ⟨1, 0, 0, 0, ⟨#[]⟩, ⟨#[]⟩, ⟨#[]⟩⟩ = [1] := by decide
theorem ex_noopR : eR ⟨1, 0, 0, 0, ⟨#[]⟩, ⟨#[]⟩, ⟨#[]⟩⟩ = 0 := by decide
theorem ex_putL : eL ⟨2, 2, 3, 2, ⟨#[107]⟩, ⟨#[]⟩, ⟨#[118]⟩⟩ = exL := by decide
theorem ex_putR : eR ⟨2, 2, 3, 2, ⟨#[107]⟩, ⟨#[]⟩, ⟨#[118]⟩⟩ = 0 := by decide
theorem ex_getL : eL ⟨2, 2, 3, 1, ⟨#[107]⟩, ⟨#[]⟩, ⟨#[]⟩⟩ = [] := by decide
theorem ex_getR : eR ⟨2, 2, 3, 1, ⟨#[107]⟩, ⟨#[]⟩, ⟨#[]⟩⟩ = 2 := by decide
theorem ex_read : rdE exL 0 = (⟨2, 2, 3, 2, ⟨#[107]⟩, ⟨#[]⟩, ⟨#[118]⟩⟩, 14, 0) := by rfl
set_option maxRecDepth 100000 in
set_option maxHeartbeats 2000000 in
theorem eawake_any (w : World) (hL : Laid w) : Calls Tryd.prog 24 #[] w fun e w' => e = .returned (.bool true) ∧ Ext w w' := by
  have hx := (Ext.refl w).alloc (.cells #[.int .u8 2, .int .i64 2, .int .i64 3, .int .u8 2, .string ⟨#[107]⟩, .string ⟨#[]⟩, .string ⟨#[118]⟩] 27)
  have HT := Lib.hid (heap_alloc_new w (.cells #[.int .u8 2, .int .i64 2, .int .i64 3, .int .u8 2, .string ⟨#[107]⟩, .string ⟨#[]⟩, .string ⟨#[118]⟩] 27))
  have HE := Lib.hid hx
  have HL := Lib.hid (hL.ext hx)
  clear hx hL
  go_enter Tryd.func24, Tryd.ntmps24
  go_wp2_with fail
  refine (bytes_any 1 0 0 0 ⟨#[]⟩ ⟨#[]⟩ ⟨#[]⟩ _ HL.out (by omega)).mono ?_
  rw [ex_noopL, ex_noopR]
  rintro e w1 ⟨A1, c1, rfl, hb, hx⟩
  have HB1 : Hid (By w1 A1 1 c1 [1]) := Lib.hid hb
  have HT := Lib.hid (heap_ext HT.out hx)
  have HE := Lib.hid (HE.out.trans hx)
  have HL := Lib.hid (HL.out.ext hx)
  obtain ⟨i0, i1, i2, i3, i4, i5, i6⟩ := seven_cells HT.out
  clear hb hx
  go_wp2_with fail
  refine (bytes_any 2 2 3 2 ⟨#[107]⟩ ⟨#[]⟩ ⟨#[118]⟩ _ HL.out (by omega)).mono ?_
  rw [ex_putL, ex_putR]
  rintro e w2 ⟨A2, c2, rfl, hb, hx⟩
  have HB2 : Hid (By w2 A2 14 c2 exL) := Lib.hid hb
  have HB1 := Lib.hid (HB1.out.ext hx)
  have HT := Lib.hid (heap_ext HT.out hx)
  have HE := Lib.hid (HE.out.trans hx)
  have HL := Lib.hid (HL.out.ext hx)
  clear hb hx i0 i1 i2 i3 i4 i5 i6
  obtain ⟨i0, i1, i2, i3, i4, i5, i6⟩ := seven_cells HT.out
  go_upto_region 6 with (fail)
  have hx := (Ext.refl w2).alloc (.cells #[.int .u8 2, .int .i64 2, .int .i64 3, .int .u8 1, .string ⟨#[107]⟩, .string ⟨#[]⟩, .string ⟨#[]⟩] 27)
  have HG := Lib.hid (heap_alloc_new w2 (.cells #[.int .u8 2, .int .i64 2, .int .i64 3, .int .u8 1, .string ⟨#[107]⟩, .string ⟨#[]⟩, .string ⟨#[]⟩] 27))
  have HB2 := Lib.hid (HB2.out.ext hx)
  have HB1 := Lib.hid (HB1.out.ext hx)
  have HT := Lib.hid (heap_ext HT.out hx)
  have HE := Lib.hid (HE.out.trans hx)
  have HL := Lib.hid (HL.out.ext hx)
  clear hx i0 i1 i2 i3 i4 i5 i6
  generalize (w2.alloc (.cells #[.int .u8 2, .int .i64 2, .int .i64 3, .int .u8 1, .string ⟨#[107]⟩, .string ⟨#[]⟩, .string ⟨#[]⟩] 27)) = w3 at *
  generalize w2.heap.size = g2 at *
  obtain ⟨i0, i1, i2, i3, i4, i5, i6⟩ := seven_cells HG.out
  go_wp2_with fail
  refine (bytes_any 2 2 3 1 ⟨#[107]⟩ ⟨#[]⟩ ⟨#[]⟩ _ HL.out (by omega)).mono ?_
  rw [ex_getL, ex_getR]
  rintro e w4 ⟨A4, c4, rfl, _, hx⟩
  have HG := Lib.hid (heap_ext HG.out hx)
  have HB2 := Lib.hid (HB2.out.ext hx)
  have HB1 := Lib.hid (HB1.out.ext hx)
  have HT := Lib.hid (heap_ext HT.out hx)
  have HE := Lib.hid (HE.out.trans hx)
  have HL := Lib.hid (HL.out.ext hx)
  clear hx i0 i1 i2 i3 i4 i5 i6
  go_wp2_with fail
  refine (read_any A2 14 c2 exL 0 _ HL.out HB2.out (by omega)).mono ?_
  rw [ex_read]
  dsimp only
  rintro e w5 ⟨rfl, hx⟩
  have hx := hx.trans ((Ext.refl w5).alloc (.cells #[.int .u8 2, .int .i64 2, .int .i64 3, .int .u8 2, .string ⟨#[107]⟩, .string ⟨#[]⟩, .string ⟨#[118]⟩] 27))
  have HP := Lib.hid (heap_alloc_new w5 (.cells #[.int .u8 2, .int .i64 2, .int .i64 3, .int .u8 2, .string ⟨#[107]⟩, .string ⟨#[]⟩, .string ⟨#[118]⟩] 27))
  have HG := Lib.hid (heap_ext HG.out hx)
  have HB2 := Lib.hid (HB2.out.ext hx)
  have HB1 := Lib.hid (HB1.out.ext hx)
  have HT := Lib.hid (heap_ext HT.out hx)
  have HE := Lib.hid (HE.out.trans hx)
  clear hx
  go_upto_region 8 with (fail)
  generalize (w5.alloc (.cells #[.int .u8 2, .int .i64 2, .int .i64 3, .int .u8 2, .string ⟨#[107]⟩, .string ⟨#[]⟩, .string ⟨#[118]⟩] 27)) = w6 at *
  generalize w5.heap.size = g5 at *
  go_wp2_with fail
  have hx := (Ext.refl w6).alloc (.cells #[.int .u8 1] 5)
  have HLT := Lib.hid (By.lit w6 [1] 5 (by decide) (by decide) _ rfl)
  refine (same_by A1 _ [1] [1] 1 1 c1 1 _ (HB1.out.ext hx) HLT.out).mono ?_
  rw [show decide (([1] : List Nat) = [1]) = true from rfl]
  rintro e w7 ⟨rfl, hx7⟩
  have hx := hx.trans hx7
  have HP := Lib.hid (heap_ext HP.out hx)
  have HG := Lib.hid (heap_ext HG.out hx)
  have HB2 := Lib.hid (HB2.out.ext hx)
  have HT := Lib.hid (heap_ext HT.out hx)
  have HE := Lib.hid (HE.out.trans hx)
  clear hx hx7 HLT
  go_wp2_with fail
  have hx := (Ext.refl w7).alloc (.cells #[.int .u8 2, .int .u8 2, .int .u8 3, .int .u8 0, .int .u8 0, .int .u8 0, .int .u8 0, .int .u8 0, .int .u8 2, .int .u8 1, .int .u8 107, .int .u8 0, .int .u8 1, .int .u8 118] 5)
  have HLT := Lib.hid (By.lit w7 exL 5 (by decide) (by decide) _ rfl)
  refine (same_by A2 _ exL exL 14 14 c2 14 _ (HB2.out.ext hx) HLT.out).mono ?_
  rw [show decide (exL = exL) = true from rfl]
  rintro e w8 ⟨rfl, hx8⟩
  have hx := hx.trans hx8
  have HP := Lib.hid (heap_ext HP.out hx)
  have HG := Lib.hid (heap_ext HG.out hx)
  have HT := Lib.hid (heap_ext HT.out hx)
  have HE := Lib.hid (HE.out.trans hx)
  clear hx hx8 HLT
  obtain ⟨i0, i1, i2, i3, i4, i5, i6⟩ := seven_cells HT.out
  obtain ⟨j0, j1, j2, j3, j4, j5, j6⟩ := seven_cells HP.out
  obtain ⟨_, _, _, l3, l4, l5, l6⟩ := seven_cells HG.out
  have hq : ∀ w, (binOp .eql 27 (.agg #[.int .u8 2, .int .i64 2, .int .i64 3, .int .u8 2, .string ⟨#[107]⟩, .string ⟨#[]⟩, .string ⟨#[118]⟩]) (.agg #[.int .u8 2, .int .i64 2, .int .i64 3, .int .u8 2, .string ⟨#[107]⟩, .string ⟨#[]⟩, .string ⟨#[118]⟩])).run Tryd.prog w = .ok (.bool true) w := fun w => ent_eql_self 2 2 3 2 ⟨#[107]⟩ ⟨#[]⟩ ⟨#[118]⟩ w
  have hg : Tryd.prog.eqGuardType Tryd.prog.depth 27 = false := by kernel_rfl
  go_wp2_with fail
  refine (mayOp_any 1 ⟨#[107]⟩ ⟨#[]⟩ ⟨#[]⟩ _).mono ?_
  rw [show opOk 1 ⟨#[107]⟩ ⟨#[]⟩ ⟨#[]⟩ = true from by decide]
  rintro e w9 ⟨rfl, hx⟩
  have HE := Lib.hid (HE.out.trans hx)
  clear hx
  go_wp2_with fail
  refine (mayOp_any 2 ⟨#[]⟩ ⟨#[]⟩ ⟨#[]⟩ _).mono ?_
  rw [show opOk 2 ⟨#[]⟩ ⟨#[]⟩ ⟨#[]⟩ = false from by decide]
  rintro e w10 ⟨rfl, hx⟩
  have HE := Lib.hid (HE.out.trans hx)
  clear hx
  go_wp2_with fail
  go_ret
  exact ⟨rfl, HE.out⟩
end Go.Proofs.YtoapjgkfggggmaaDoor
