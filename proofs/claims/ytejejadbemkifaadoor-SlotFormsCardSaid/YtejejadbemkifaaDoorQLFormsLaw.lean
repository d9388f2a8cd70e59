/-
  The walk of SlotForms: any ballot's record has the body that the chapter says, or none; any bytes are the record that it says, or none; they stay.
-/
import Derived.Test.YtejejadbemkifaaDoorQ06
import Derived.Test.YtejejadbemkifaaDoorQ12
import Derived.Test.YtejejadbemkifaaDoorQ14
import Derived.Test.YtejejadbemkifaaDoorQ15
import Derived.Deep.DeepCutAuto
namespace Go.Proofs.YtejejadbemkifaaDoor
set_option maxRecDepth 100000
open Go Go.RowKit

set_option maxRecDepth 100000 in
set_option maxHeartbeats 1200000 in
theorem slotForms_law (x y h : Int) (A : Option Addr) (n cp : Nat) (l : List Nat) (w : World) (_ : (Lit.int .i64 h).wf = true) (hb : Bs w w.heap.size A n cp l) (hL : LaidS w) :
    Calls Tryd.prog 3 #[.agg #[.int .i64 x, .int .i64 y], .int .i64 h, .slice A n cp] w fun r w' => r = .returned (.bool true) ∧ Below w.heap.size w w' := by
  show Calls Tryd.prog 3 #[.agg #[.int .i64 x, .int .i64 y], .int .i64 h, .slice A n cp] w fun r w' => r = .returned (.bool true) ∧ Ext w w'
  have hE := (Ext.refl w).alloc (.cells #[.int .i64 x, .int .i64 y] 23)
  have HT := Lib.hid (heap_alloc_new w (.cells #[.int .i64 x, .int .i64 y] 23))
  have HB : Hid (By w A n cp l) := Lib.hid hb
  have HL := Lib.hid hL
  have HE := Lib.hid hE
  have hcap := hb.cap
  have hmost := hb.most
  clear hE hb hL
  by_cases hn : 100 < n
  · clear hcap hmost
    go_enter Tryd.func3, Tryd.ntmps3
    go_wp2_with fail
    go_ret
    exact ⟨rfl, HE.out⟩
  have HC1 := Lib.hid (fun V hV => sprint_of x y h V hV)
  have HC2 := Lib.hid (fun V => rsprint_of x y h V)
  have HC3 := Lib.hid (fun A' c' V hV hB => sparse_of A' n c' l V hV hB (by omega))
  have HC4 := Lib.hid (fun V hB => rsparse_of A n cp l V hB)
  generalize rcL x y h = L at *
  generalize rcE x y h = E at *
  generalize ((rcR l).1 : Int) = R0 at *
  generalize ((rcR l).2.1 : Int) = R1 at *
  generalize ((rcR l).2.2.1 : Int) = R2 at *
  generalize (rcR l).2.2.2 = R3 at *
  have q1 : (E == E) = true := beq_self_eq_true _
  have q2 : (R2 == R2) = true := beq_self_eq_true _
  have q3 : (R3 == R3) = true := beq_self_eq_true _
  have hq := lbal_eql_self R0 R1
  obtain ⟨⟨i0, i1⟩, _⟩ := two_row HT.out
  go_enter Tryd.func3, Tryd.ntmps3
  go_wp2_with fail
  refine (copy_by A l n cp _ (HB.out.ext HE.out) (by omega)).mono ?_
  rintro r w1 ⟨A1, c1, rfl, hb1, hx, _⟩
  have HB1 := Lib.hid hb1
  have HE := Lib.hid (HE.out.trans hx)
  have HT := Lib.hid (keep_row hx HT.out)
  clear hb1 hx i0 i1
  obtain ⟨⟨i0, i1⟩, _⟩ := two_row HT.out
  go_wp2_with fail
  refine (HC1.out _ (HL.out.ext HE.out)).mono ?_
  rintro r w2 ⟨A2, c2, rfl, hb2, hx⟩
  have HB2 := Lib.hid hb2
  have HE := Lib.hid (HE.out.trans hx)
  have HT := Lib.hid (keep_row hx HT.out)
  have HB1 := Lib.hid (HB1.out.ext hx)
  clear hb2 hx i0 i1
  obtain ⟨⟨i0, i1⟩, _⟩ := two_row HT.out
  go_wp2_with fail
  refine (HC2.out _).mono ?_
  rintro r w3 ⟨A3, c3, rfl, hb3, hx⟩
  have HB3 := Lib.hid hb3
  have HE := Lib.hid (HE.out.trans hx)
  have HB1 := Lib.hid (HB1.out.ext hx)
  have HB2 := Lib.hid (HB2.out.ext hx)
  clear hb3 hx i0 i1
  go_wp2_with fail
  refine (HC3.out _ _ _ (HL.out.ext HE.out) HB1.out).mono ?_
  rintro r w4 ⟨rfl, hx⟩
  have HE := Lib.hid (HE.out.trans hx)
  have HB1 := Lib.hid (HB1.out.ext hx)
  have HB2 := Lib.hid (HB2.out.ext hx)
  have HB3 := Lib.hid (HB3.out.ext hx)
  clear hx
  go_upto_region 7 with (fail)
  have hx := (Ext.refl w4).alloc (.cells #[.int .i64 R0, .int .i64 R1] 23)
  have HP := Lib.hid (heap_alloc_new w4 (.cells #[.int .i64 R0, .int .i64 R1] 23))
  have HE := Lib.hid (HE.out.trans hx)
  have HB1 := Lib.hid (HB1.out.ext hx)
  have HB2 := Lib.hid (HB2.out.ext hx)
  have HB3 := Lib.hid (HB3.out.ext hx)
  clear hx
  generalize (w4.alloc (.cells #[.int .i64 R0, .int .i64 R1] 23)) = w5 at *
  generalize w4.heap.size = g5 at *
  go_wp2_with fail
  refine (HC4.out _ (HB.out.ext HE.out)).mono ?_
  rintro r w6 ⟨rfl, hx⟩
  have HE := Lib.hid (HE.out.trans hx)
  have HB1 := Lib.hid (HB1.out.ext hx)
  have HB2 := Lib.hid (HB2.out.ext hx)
  have HB3 := Lib.hid (HB3.out.ext hx)
  have HP := Lib.hid (keep_row hx HP.out)
  clear hx
  go_upto_region 8 with (fail)
  have hx := (Ext.refl w6).alloc (.cells #[.int .i64 R0, .int .i64 R1] 23)
  have HQ := Lib.hid (heap_alloc_new w6 (.cells #[.int .i64 R0, .int .i64 R1] 23))
  have HE := Lib.hid (HE.out.trans hx)
  have HB1 := Lib.hid (HB1.out.ext hx)
  have HB2 := Lib.hid (HB2.out.ext hx)
  have HB3 := Lib.hid (HB3.out.ext hx)
  have HP := Lib.hid (keep_row hx HP.out)
  clear hx
  generalize (w6.alloc (.cells #[.int .i64 R0, .int .i64 R1] 23)) = w7 at *
  generalize w6.heap.size = g7 at *
  go_wp2_with fail
  refine (same_by A2 A3 L L _ _ c2 c3 _ HB2.out HB3.out).mono ?_
  rw [decide_eq_true (rfl : L = L)]
  rintro r w8 ⟨rfl, hx⟩
  have HE := Lib.hid (HE.out.trans hx)
  have HB1 := Lib.hid (HB1.out.ext hx)
  have HP := Lib.hid (keep_row hx HP.out)
  have HQ := Lib.hid (keep_row hx HQ.out)
  clear hx
  obtain ⟨⟨j0, j1⟩, _⟩ := two_row HP.out
  obtain ⟨⟨k0, k1⟩, _⟩ := two_row HQ.out
  go_wp2_with fail
  refine (same_by A1 A l l _ _ c1 cp _ HB1.out (HB.out.ext HE.out)).mono ?_
  rw [decide_eq_true (rfl : l = l)]
  rintro r w9 ⟨rfl, hx⟩
  have HE := Lib.hid (HE.out.trans hx)
  clear hx j0 j1 k0 k1
  go_wp2_with fail
  go_ret
  exact ⟨rfl, HE.out⟩
end Go.Proofs.YtejejadbemkifaaDoor
