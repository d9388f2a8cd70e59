/-
  The walk of EntryForms: whether any entry, any operation may be, its bytes, and its body with any ballot, is what the chapter says.
-/
import Derived.Test.YtoapjgkfggggmaaDoorEAwake
import Derived.Test.YtoapjgkfggggmaaDoorERPrint
import Derived.Test.YtoapjgkfggggmaaDoorEOpen
namespace Go.Proofs.YtoapjgkfggggmaaDoor
open Go Go.RowKit

/-- What holds while the last line is reckoned: the entry's cells; what there was at its beginning is as it was. -/
def EFS (W : World) (g : Nat) (k : Nat) (cl sq : Int) (ok : Nat) (key old val : ByteArray) (w' : World) : Prop :=
  w'.cell? ⟨g, 0, none⟩ = some (.int .u8 (k : Int)) ∧ w'.cell? ⟨g, 1, none⟩ = some (.int .i64 cl) ∧ w'.cell? ⟨g, 2, none⟩ = some (.int .i64 sq) ∧ w'.cell? ⟨g, 3, none⟩ = some (.int .u8 (ok : Int)) ∧ w'.cell? ⟨g, 4, none⟩ = some (.string key) ∧ w'.cell? ⟨g, 5, none⟩ = some (.string old) ∧ w'.cell? ⟨g, 6, none⟩ = some (.string val) ∧ Hid (Ext W w')
theorem EFS.mono {W w w' : World} {g k ok : Nat} {cl sq : Int} {key old val : ByteArray} (h : EFS W g k cl sq ok key old val w) (hx : Ext w w') : EFS W g k cl sq ok key old val w' := by
  obtain ⟨h0, h1, h2, h3, h4, h5, h6, hE⟩ := h
  exact ⟨ext_cell hx h0, ext_cell hx h1, ext_cell hx h2, ext_cell hx h3, ext_cell hx h4, ext_cell hx h5, ext_cell hx h6, Lib.hid (hE.out.trans hx)⟩
theorem EFS.ext {W w : World} {g k ok : Nat} {cl sq : Int} {key old val : ByteArray} (h : EFS W g k cl sq ok key old val w) : Ext W w := h.2.2.2.2.2.2.2.out
set_option maxRecDepth 100000 in
set_option maxHeartbeats 3200000 in
theorem entryForms_law (x y : Int) (e : Ent) (w : World) (hw : e.Wf) (hL : Laid w) :
    Calls Tryd.prog 3 #[.agg #[.int .i64 x, .int .i64 y], .agg #[.int .u8 (e.k : Nat), .int .i64 e.cl, .int .i64 e.sq, .int .u8 (e.ok : Nat), .string e.key, .string e.old, .string e.val]] w fun r w' => r = .returned (.bool true) ∧ Below w.heap.size w w' := by
  show Calls Tryd.prog 3 #[.agg #[.int .i64 x, .int .i64 y], .agg #[.int .u8 (e.k : Nat), .int .i64 e.cl, .int .i64 e.sq, .int .u8 (e.ok : Nat), .string e.key, .string e.old, .string e.val]] w fun r w' => r = .returned (.bool true) ∧ Ext w w'
  obtain ⟨k, cl, sq, ok, key, old, val⟩ := e
  have hok : ok < 256 := hw.ok
  clear hw
  dsimp only
  have hx1 := (Ext.refl w).alloc (.cells #[.int .i64 x, .int .i64 y] 23)
  have hx2 := (Ext.refl (w.alloc (.cells #[.int .i64 x, .int .i64 y] 23))).alloc (.cells #[.int .u8 (k : Int), .int .i64 cl, .int .i64 sq, .int .u8 (ok : Int), .string key, .string old, .string val] 27)
  have HTB := Lib.hid (heap_ext (heap_alloc_new w (.cells #[.int .i64 x, .int .i64 y] 23)) hx2)
  have HT := Lib.hid (heap_alloc2_new w (.cells #[.int .i64 x, .int .i64 y] 23) (.cells #[.int .u8 (k : Int), .int .i64 cl, .int .i64 sq, .int .u8 (ok : Int), .string key, .string old, .string val] 27))
  have HE := Lib.hid (hx1.trans hx2)
  have HL := Lib.hid (hL.ext (hx1.trans hx2))
  clear hx1 hx2 hL
  cases hg : grE key old val with
  | true =>
    have HG := Lib.hid hg
    clear hg
    go_enter Tryd.func3, Tryd.ntmps3
    go_wp2_with fail
    refine (great_any _ _ _ _ _ _ _ _).mono ?_
    rw [HG.out]
    rintro r w1 ⟨rfl, hx⟩
    have HE := Lib.hid (HE.out.trans hx)
    clear hx
    go_wp2_with fail
    go_ret
    exact ⟨rfl, HE.out⟩
  | false =>
    have HG := Lib.hid hg
    clear hg
    go_enter Tryd.func3, Tryd.ntmps3
    go_wp2_with fail
    refine (great_any _ _ _ _ _ _ _ _).mono ?_
    rw [HG.out]
    rintro r w1 ⟨rfl, hx⟩
    have HT := Lib.hid (heap_ext HT.out hx)
    have HTB := Lib.hid (heap_ext HTB.out hx)
    have HE := Lib.hid (HE.out.trans hx)
    have HL := Lib.hid (HL.out.ext hx)
    clear hx
    obtain ⟨i0, i1, i2, i3, i4, i5, i6⟩ := seven_cells HT.out
    go_wp2_with fail
    refine (bytes_any _ _ _ _ _ _ _ _ HL.out hok).mono ?_
    rintro r w2 ⟨A2, c2, rfl, hb, hx⟩
    have HB2 := Lib.hid hb
    have HT := Lib.hid (heap_ext HT.out hx)
    have HTB := Lib.hid (heap_ext HTB.out hx)
    have HE := Lib.hid (HE.out.trans hx)
    have HL := Lib.hid (HL.out.ext hx)
    clear hb hx i0 i1 i2 i3 i4 i5 i6
    obtain ⟨i0, i1, i2, i3, i4, i5, i6⟩ := seven_cells HT.out
    go_wp2_with fail
    refine (rbytes_any _ _ _ _ _ _ _ _ hok).mono ?_
    rintro r w3 ⟨A3, c3, rfl, hb, hx⟩
    have HB3 := Lib.hid hb
    have HB2 := Lib.hid (HB2.out.ext hx)
    have HT := Lib.hid (heap_ext HT.out hx)
    have HTB := Lib.hid (heap_ext HTB.out hx)
    have HE := Lib.hid (HE.out.trans hx)
    have HL := Lib.hid (HL.out.ext hx)
    clear hb hx i0 i1 i2 i3 i4 i5 i6
    obtain ⟨i0, i1, i2, i3, i4, i5, i6⟩ := seven_cells HT.out
    obtain ⟨b0, b1⟩ := two_cells HTB.out
    go_wp2_with fail
    refine (print_any _ _ _ _ _ _ _ _ _ _ HL.out hok).mono ?_
    rintro r w4 ⟨A4, c4, rfl, hb, hx⟩
    have HB4 := Lib.hid hb
    have HB3 := Lib.hid (HB3.out.ext hx)
    have HB2 := Lib.hid (HB2.out.ext hx)
    have HT := Lib.hid (heap_ext HT.out hx)
    have HTB := Lib.hid (heap_ext HTB.out hx)
    have HE := Lib.hid (HE.out.trans hx)
    clear hb hx i0 i1 i2 i3 i4 i5 i6 b0 b1
    obtain ⟨i0, i1, i2, i3, i4, i5, i6⟩ := seven_cells HT.out
    obtain ⟨b0, b1⟩ := two_cells HTB.out
    go_wp2_with fail
    refine (rprint_any _ _ _ _ _ _ _ _ _ _ hok).mono ?_
    rintro r w5 ⟨A5, c5, rfl, hb, hx⟩
    have HB5 := Lib.hid hb
    have HB4 := Lib.hid (HB4.out.ext hx)
    have HB3 := Lib.hid (HB3.out.ext hx)
    have HB2 := Lib.hid (HB2.out.ext hx)
    have HT := Lib.hid (heap_ext HT.out hx)
    have HE := Lib.hid (HE.out.trans hx)
    clear hb hx i0 i1 i2 i3 i4 i5 i6 b0 b1
    obtain ⟨i0, i1, i2, i3, i4, i5, i6⟩ := seven_cells HT.out
    go_wp2_with fail
    generalize w.heap.size = g at *
    have hS : EFS w5 (g + 1) k cl sq ok key old val w5 := ⟨i0, i1, i2, i3, i4, i5, i6, Lib.hid (Ext.refl _)⟩
    have hS := hS.mono (Ext.refl w5).drew
    clear i0 i1 i2 i3 i4 i5 i6
    have HC1 := Lib.hid (mayOp_any ok key old val)
    have HC2 := Lib.hid (rmayOp_any ok key old val)
    have HC3 := Lib.hid (may_any k cl sq ok key old val)
    have HC4 := Lib.hid (rmay_any k cl sq ok key old val)
    generalize opOk ok key old val = m at *
    generalize enOk ⟨k, cl, sq, ok, key, old, val⟩ = q at *
    generalize eL ⟨k, cl, sq, ok, key, old, val⟩ = l1 at *
    generalize eR ⟨k, cl, sq, ok, key, old, val⟩ = r1 at *
    generalize pL x y ⟨k, cl, sq, ok, key, old, val⟩ = l2 at *
    generalize pR x y ⟨k, cl, sq, ok, key, old, val⟩ = r2 at *
    go_region_held3 (fun w' => w'.cell? ⟨g + 1, 0, none⟩ = some (.int .u8 (k : Int)) ∧ w'.cell? ⟨g + 1, 1, none⟩ = some (.int .i64 cl) ∧ w'.cell? ⟨g + 1, 2, none⟩ = some (.int .i64 sq) ∧ w'.cell? ⟨g + 1, 3, none⟩ = some (.int .u8 (ok : Int)) ∧ w'.cell? ⟨g + 1, 4, none⟩ = some (.string key) ∧ w'.cell? ⟨g + 1, 5, none⟩ = some (.string old) ∧ w'.cell? ⟨g + 1, 6, none⟩ = some (.string val) ∧ Hid (Ext w5 w'))
      (first | exact hS | exact EFS.mono (by assumption) hx)
      (first
        | (go_at_call 14; ((with_reducible refine (HC1.out _).mono ?_); rintro r w' ⟨rfl, hx⟩))
        | (go_at_call 15; ((with_reducible refine (HC2.out _).mono ?_); rintro r w' ⟨rfl, hx⟩))
        | (go_at_call 16; ((with_reducible refine (HC3.out _).mono ?_); rintro r w' ⟨rfl, hx⟩))
        | (go_at_call 17; ((with_reducible refine (HC4.out _).mono ?_); rintro r w' ⟨rfl, hx⟩))
        | (go_at_call 18; ((with_reducible refine (same_by A2 A3 l1 l1 _ _ c2 c3 _ ?_ ?_).mono ?_); (exact HB2.out.ext (EFS.ext (g := g + 1) (k := k) (cl := cl) (sq := sq) (ok := ok) (key := key) (old := old) (val := val) (by assumption))); (exact HB3.out.ext (EFS.ext (g := g + 1) (k := k) (cl := cl) (sq := sq) (ok := ok) (key := key) (old := old) (val := val) (by assumption))); rw [decide_eq_true (rfl : l1 = l1)]; rintro r w' ⟨rfl, hx⟩))
        | (go_at_call 18; ((with_reducible refine (same_by A4 A5 l2 l2 _ _ c4 c5 _ ?_ ?_).mono ?_); (exact HB4.out.ext (EFS.ext (g := g + 1) (k := k) (cl := cl) (sq := sq) (ok := ok) (key := key) (old := old) (val := val) (by assumption))); (exact HB5.out.ext (EFS.ext (g := g + 1) (k := k) (cl := cl) (sq := sq) (ok := ok) (key := key) (old := old) (val := val) (by assumption))); rw [decide_eq_true (rfl : l2 = l2)]; rintro r w' ⟨rfl, hx⟩)))
    have hF : EFS w5 (g + 1) k cl sq ok key old val w' := by assumption
    have HF := Lib.hid (HE.out.trans hF.ext)
    clear hF hx hS
    go_wp2_with fail
    go_ret
    exact ⟨rfl, HF.out⟩
end Go.Proofs.YtoapjgkfggggmaaDoor
