/-
  The walk of FrameSeals: the frame of any tag and body, in any number of sectors, is what the chapter says, or none; the body stays.
-/
import Derived.Test.YtgcjilifmcianaaDoorFRSeal
import Derived.Test.YtgcjilifmcianaaDoorTNear
namespace Go.Proofs.YtgcjilifmcianaaDoor
open Go Go.RowKit

set_option maxRecDepth 100000 in
set_option maxHeartbeats 6400000 in
theorem frameSeals_law (a b c d e : Int) (A : Option Addr) (n cp : Nat) (l : List Nat) (s : Int) (w : World) (hb : Bs w w.heap.size A n cp l) (_ : (Lit.int .i64 s).wf = true) (hL : LaidF w) :
    Calls Tryd.prog 3 #[.agg #[.int .i64 a, .int .i64 b, .int .i64 c, .int .i64 d, .int .i64 e], .slice A n cp, .int .i64 s] w fun r w' => r = .returned (.bool true) ∧ Below w.heap.size w w' := by
  show Calls Tryd.prog 3 #[.agg #[.int .i64 a, .int .i64 b, .int .i64 c, .int .i64 d, .int .i64 e], .slice A n cp, .int .i64 s] w fun r w' => r = .returned (.bool true) ∧ Ext w w'
  have hE := (Ext.refl w).alloc (.cells #[.int .i64 a, .int .i64 b, .int .i64 c, .int .i64 d, .int .i64 e] 23)
  have HT := Lib.hid (heap_alloc_new w (.cells #[.int .i64 a, .int .i64 b, .int .i64 c, .int .i64 d, .int .i64 e] 23))
  have hcap := hb.cap
  have hmost := hb.most
  have HE := Lib.hid hE
  have HB : Hid (By w A n cp l) := Lib.hid hb
  have HL := Lib.hid hL
  clear hE hb hL
  by_cases hn : 300 < n
  · go_enter Tryd.func3, Tryd.ntmps3
    go_wp2_with fail
    go_ret
    exact ⟨rfl, HE.out⟩
  go_enter Tryd.func3, Tryd.ntmps3
  go_wp2_with fail
  refine (copy_by A l n cp _ (HB.out.ext HE.out) (by omega)).mono ?_
  rintro r w1 ⟨A1, c1, rfl, hb1, hx, _⟩
  have HB1 := Lib.hid hb1
  have HE := Lib.hid (HE.out.trans hx)
  have ht := (hx.block _ (Array.getElem?_eq_some_iff.1 HT.out).1).trans HT.out
  have HT := Lib.hid ht
  obtain ⟨⟨i0, i1, i2, i3, i4⟩, _⟩ := five_cells ht
  clear hb1 hx ht
  go_wp2_with fail
  refine (seal_any _ _ _ _ _ _ _ _ _ l _ (HL.out.ext HE.out) HB1.out).mono ?_
  rintro r w2 ⟨A2, c2, rfl, hb2, hx⟩
  have HB2 := Lib.hid hb2
  have HB1 := Lib.hid (HB1.out.ext hx)
  have HE := Lib.hid (HE.out.trans hx)
  have ht := (hx.block _ (Array.getElem?_eq_some_iff.1 HT.out).1).trans HT.out
  clear hb2 hx i0 i1 i2 i3 i4
  obtain ⟨⟨i0, i1, i2, i3, i4⟩, _⟩ := five_cells ht
  clear ht
  go_wp2_with fail
  refine (rseal_any _ _ _ _ _ _ _ _ _ l _ (HB.out.ext HE.out)).mono ?_
  rintro r w3 ⟨A3, c3, rfl, hb3, hx⟩
  have HB3 := Lib.hid hb3
  have HB2 := Lib.hid (HB2.out.ext hx)
  have HB1 := Lib.hid (HB1.out.ext hx)
  have HE := Lib.hid (HE.out.trans hx)
  clear hb3 hx i0 i1 i2 i3 i4
  generalize sealL a b c d e l s = L at *
  generalize sealE a b c d e n s = E at *
  go_wp2_with fail
  refine (room_any _ _).mono ?_
  rintro r w4 ⟨rfl, rfl⟩
  go_wp2_with fail
  refine (rroom_any _ _).mono ?_
  rintro r w4 ⟨rfl, rfl⟩
  go_wp2_with fail
  refine (same_by _ _ L L _ _ _ _ _ HB2.out HB3.out).mono ?_
  rw [decide_eq_true (rfl : L = L)]
  rintro r w4 ⟨rfl, hx⟩
  have HB1 := Lib.hid (HB1.out.ext hx)
  have HE := Lib.hid (HE.out.trans hx)
  clear hx
  go_wp2_with fail
  refine (same_by _ _ l l _ _ _ _ _ HB1.out (HB.out.ext HE.out)).mono ?_
  rw [decide_eq_true (rfl : l = l)]
  rintro r w5 ⟨rfl, hx⟩
  have HE := Lib.hid (HE.out.trans hx)
  clear hx
  go_wp2_with fail
  go_ret
  exact ⟨rfl, HE.out⟩
end Go.Proofs.YtgcjilifmcianaaDoor
