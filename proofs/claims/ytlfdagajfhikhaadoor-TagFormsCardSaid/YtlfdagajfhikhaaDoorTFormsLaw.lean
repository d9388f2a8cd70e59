/-
  The walk of TagForms: any tag has the form that the chapter says, or none; any bytes are the tag that it says, or none; they stay.
-/
import Derived.Test.YtlfdagajfhikhaaDoorTAll
import Derived.Test.YtlfdagajfhikhaaDoorTRParse
import Derived.Test.YtlfdagajfhikhaaDoorSC
namespace Go.Proofs.YtlfdagajfhikhaaDoor
open Go Go.RowKit

/-- What holds while the last line is reckoned: three tags' cells; what there was at its beginning is as it was. -/
def FS (W : World) (gt gp gq : Nat) (a b c d e : Int) (l : List Nat) (w' : World) : Prop :=
  w'.cell? ⟨gt, 0, none⟩ = some (.int .i64 a) ∧ w'.cell? ⟨gt, 1, none⟩ = some (.int .i64 b) ∧ w'.cell? ⟨gt, 2, none⟩ = some (.int .i64 c) ∧ w'.cell? ⟨gt, 3, none⟩ = some (.int .i64 d) ∧ w'.cell? ⟨gt, 4, none⟩ = some (.int .i64 e) ∧
  w'.cell? ⟨gp, 0, none⟩ = some (.int .i64 (pf l 0)) ∧ w'.cell? ⟨gp, 1, none⟩ = some (.int .i64 (pf l 1)) ∧ w'.cell? ⟨gp, 2, none⟩ = some (.int .i64 (pf l 2)) ∧ w'.cell? ⟨gp, 3, none⟩ = some (.int .i64 (pf l 3)) ∧ w'.cell? ⟨gp, 4, none⟩ = some (.int .i64 (pf l 4)) ∧
  w'.cell? ⟨gq, 0, none⟩ = some (.int .i64 (pf l 0)) ∧ w'.cell? ⟨gq, 1, none⟩ = some (.int .i64 (pf l 1)) ∧ w'.cell? ⟨gq, 2, none⟩ = some (.int .i64 (pf l 2)) ∧ w'.cell? ⟨gq, 3, none⟩ = some (.int .i64 (pf l 3)) ∧ w'.cell? ⟨gq, 4, none⟩ = some (.int .i64 (pf l 4)) ∧ Hid (Ext W w')
theorem FS.mono {W w w' : World} {gt gp gq : Nat} {a b c d e : Int} {l : List Nat} (h : FS W gt gp gq a b c d e l w) (k : Ext w w') : FS W gt gp gq a b c d e l w' := by
  obtain ⟨h0, h1, h2, h3, h4, h5, h6, h7, h8, h9, h10, h11, h12, h13, h14, hE⟩ := h
  exact ⟨Ext.cell k h0, Ext.cell k h1, Ext.cell k h2, Ext.cell k h3, Ext.cell k h4, Ext.cell k h5, Ext.cell k h6, Ext.cell k h7, Ext.cell k h8, Ext.cell k h9, Ext.cell k h10, Ext.cell k h11, Ext.cell k h12, Ext.cell k h13, Ext.cell k h14, Lib.hid (hE.out.trans k)⟩
theorem FS.ext {W w : World} {gt gp gq : Nat} {a b c d e : Int} {l : List Nat} (h : FS W gt gp gq a b c d e l w) : Ext W w := h.2.2.2.2.2.2.2.2.2.2.2.2.2.2.2.out

set_option maxRecDepth 100000 in
set_option maxHeartbeats 6400000 in
theorem tagForms_law (a b c d e : Int) (A : Option Addr) (n cp : Nat) (l : List Nat) (w : World) (hb : Bs w w.heap.size A n cp l) (hL : LaidA w) :
    Calls Tryd.prog 3 #[.agg #[.int .i64 a, .int .i64 b, .int .i64 c, .int .i64 d, .int .i64 e], .slice A n cp] w fun r w' => r = .returned (.bool true) ∧ Below w.heap.size w w' := by
  show Calls Tryd.prog 3 #[.agg #[.int .i64 a, .int .i64 b, .int .i64 c, .int .i64 d, .int .i64 e], .slice A n cp] w fun r w' => r = .returned (.bool true) ∧ Ext w w'
  have hE := (Ext.refl w).alloc (.cells #[.int .i64 a, .int .i64 b, .int .i64 c, .int .i64 d, .int .i64 e] 23)
  have hcap := hb.cap
  have hmost := hb.most
  by_cases hn : 300 < n
  · have HE := Lib.hid hE
    clear hE hb hL
    go_enter Tryd.func3, Tryd.ntmps3
    go_wp2_with fail
    go_ret
    exact ⟨rfl, HE.out⟩
  have HT := Lib.hid (heap_alloc_new w (.cells #[.int .i64 a, .int .i64 b, .int .i64 c, .int .i64 d, .int .i64 e] 23))
  have HB : Hid (By w A n cp l) := Lib.hid hb
  have HL := Lib.hid hL
  have HE := Lib.hid hE
  obtain ⟨⟨i0, i1, i2, i3, i4⟩, _⟩ := five_cells HT.out
  clear hE hb hL
  go_enter Tryd.func3, Tryd.ntmps3
  go_wp2_with fail
  refine (copy_by A l n cp _ (HB.out.ext HE.out) (by omega)).mono ?_
  rintro r w1 ⟨A1, c1, rfl, hb1, hx, _⟩
  have HB1 := Lib.hid hb1
  have HE := Lib.hid (HE.out.trans hx)
  have ht := (hx.block _ (Array.getElem?_eq_some_iff.1 HT.out).1).trans HT.out
  have HT := Lib.hid ht
  clear hb1 hx ht i0 i1 i2 i3 i4
  obtain ⟨⟨i0, i1, i2, i3, i4⟩, _⟩ := five_cells HT.out
  go_wp2_with fail
  refine (print_any _ _ _ _ _ _ (HL.out.ext HE.out)).mono ?_
  rintro r w2 ⟨A2, c2, rfl, hb2, hx⟩
  have HB2 := Lib.hid hb2
  have HB1 := Lib.hid (HB1.out.ext hx)
  have HE := Lib.hid (HE.out.trans hx)
  have ht := (hx.block _ (Array.getElem?_eq_some_iff.1 HT.out).1).trans HT.out
  have HT := Lib.hid ht
  clear hb2 hx ht i0 i1 i2 i3 i4
  obtain ⟨⟨i0, i1, i2, i3, i4⟩, _⟩ := five_cells HT.out
  go_wp2_with fail
  refine (rprint_any _ _ _ _ _ _).mono ?_
  rintro r w3 ⟨A3, c3, rfl, hb3, hx⟩
  have HB3 := Lib.hid hb3
  have HB2 := Lib.hid (HB2.out.ext hx)
  have HB1 := Lib.hid (HB1.out.ext hx)
  have HE := Lib.hid (HE.out.trans hx)
  have ht := (hx.block _ (Array.getElem?_eq_some_iff.1 HT.out).1).trans HT.out
  have HT := Lib.hid ht
  clear hb3 hx ht i0 i1 i2 i3 i4
  go_wp2_with fail
  refine (parse_any _ _ _ l _ (HL.out.ext HE.out) HB1.out (by omega)).mono ?_
  rintro r w4 ⟨rfl, hx⟩
  have HB3 := Lib.hid (HB3.out.ext hx)
  have HB2 := Lib.hid (HB2.out.ext hx)
  have HB1 := Lib.hid (HB1.out.ext hx)
  have HE := Lib.hid (HE.out.trans hx)
  have ht := (hx.block _ (Array.getElem?_eq_some_iff.1 HT.out).1).trans HT.out
  have HT := Lib.hid ht
  clear hx ht
  go_wp2_with fail
  have hx : Ext w4 (w4.alloc (.cells #[.int .i64 (pf l 0), .int .i64 (pf l 1), .int .i64 (pf l 2), .int .i64 (pf l 3), .int .i64 (pf l 4)] 23)) := (Ext.refl w4).alloc _
  have HP := Lib.hid (heap_alloc_new w4 (.cells #[.int .i64 (pf l 0), .int .i64 (pf l 1), .int .i64 (pf l 2), .int .i64 (pf l 3), .int .i64 (pf l 4)] 23))
  have HB3 := Lib.hid (HB3.out.ext hx)
  have HB2 := Lib.hid (HB2.out.ext hx)
  have HB1 := Lib.hid (HB1.out.ext hx)
  have HE := Lib.hid (HE.out.trans hx)
  have ht := (hx.block _ (Array.getElem?_eq_some_iff.1 HT.out).1).trans HT.out
  have HT := Lib.hid ht
  clear hx ht
  refine (rparse_any _ _ _ l _ (HB.out.ext HE.out) (by omega)).mono ?_
  rintro r w5 ⟨rfl, hx⟩
  have HB3 := Lib.hid (HB3.out.ext hx)
  have HB2 := Lib.hid (HB2.out.ext hx)
  have HB1 := Lib.hid (HB1.out.ext hx)
  have HE := Lib.hid (HE.out.trans hx)
  have ht := (hx.block _ (Array.getElem?_eq_some_iff.1 HT.out).1).trans HT.out
  have hp := (hx.block _ (Array.getElem?_eq_some_iff.1 HP.out).1).trans HP.out
  have HT := Lib.hid ht
  have HP := Lib.hid hp
  clear hx ht hp
  go_wp2_with fail
  have hx : Ext w5 (w5.alloc (.cells #[.int .i64 (pf l 0), .int .i64 (pf l 1), .int .i64 (pf l 2), .int .i64 (pf l 3), .int .i64 (pf l 4)] 23)) := (Ext.refl w5).alloc _
  have hq := heap_alloc_new w5 (.cells #[.int .i64 (pf l 0), .int .i64 (pf l 1), .int .i64 (pf l 2), .int .i64 (pf l 3), .int .i64 (pf l 4)] 23)
  have HB3 := Lib.hid (HB3.out.ext hx)
  have HB2 := Lib.hid (HB2.out.ext hx)
  have HB1 := Lib.hid (HB1.out.ext hx)
  have HE := Lib.hid (HE.out.trans hx)
  have ht := (hx.block _ (Array.getElem?_eq_some_iff.1 HT.out).1).trans HT.out
  have hp := (hx.block _ (Array.getElem?_eq_some_iff.1 HP.out).1).trans HP.out
  have HT := Lib.hid ht
  have HP := Lib.hid hp
  clear hx
  obtain ⟨⟨i0, i1, i2, i3, i4⟩, _⟩ := five_cells ht
  obtain ⟨⟨j0, j1, j2, j3, j4⟩, _⟩ := five_cells hp
  obtain ⟨⟨k0, k1, k2, k3, k4⟩, _⟩ := five_cells hq
  clear ht hp hq
  generalize (w5.alloc (.cells #[.int .i64 (pf l 0), .int .i64 (pf l 1), .int .i64 (pf l 2), .int .i64 (pf l 3), .int .i64 (pf l 4)] 23)) = W at *
  generalize w5.heap.size = gq at *
  generalize w4.heap.size = gp at *
  generalize w.heap.size = gt at *
  have hS : FS W gt gp gq a b c d e l W := ⟨i0, i1, i2, i3, i4, j0, j1, j2, j3, j4, k0, k1, k2, k3, k4, Lib.hid (Ext.refl W)⟩
  have hS := hS.mono ((Ext.refl W).drew)
  have hq := tag_eql (pf l 0) (pf l 1) (pf l 2) (pf l 3) (pf l 4) (pf l 0) (pf l 1) (pf l 2) (pf l 3) (pf l 4)
  have hg : Tryd.prog.eqGuardType Tryd.prog.depth 23 = false := by kernel_rfl
  clear i0 i1 i2 i3 i4 j0 j1 j2 j3 j4 k0 k1 k2 k3 k4
  have HLW := Lib.hid (HL.out.ext HE.out)
  have HBW := Lib.hid (HB.out.ext HE.out)
  generalize hm : mayB a b c d e = m at *
  go_region_held3 (fun w' => w'.cell? ⟨gt, 0, none⟩ = some (.int .i64 a) ∧ w'.cell? ⟨gt, 1, none⟩ = some (.int .i64 b) ∧ w'.cell? ⟨gt, 2, none⟩ = some (.int .i64 c) ∧ w'.cell? ⟨gt, 3, none⟩ = some (.int .i64 d) ∧ w'.cell? ⟨gt, 4, none⟩ = some (.int .i64 e) ∧
      w'.cell? ⟨gp, 0, none⟩ = some (.int .i64 (pf l 0)) ∧ w'.cell? ⟨gp, 1, none⟩ = some (.int .i64 (pf l 1)) ∧ w'.cell? ⟨gp, 2, none⟩ = some (.int .i64 (pf l 2)) ∧ w'.cell? ⟨gp, 3, none⟩ = some (.int .i64 (pf l 3)) ∧ w'.cell? ⟨gp, 4, none⟩ = some (.int .i64 (pf l 4)) ∧
      w'.cell? ⟨gq, 0, none⟩ = some (.int .i64 (pf l 0)) ∧ w'.cell? ⟨gq, 1, none⟩ = some (.int .i64 (pf l 1)) ∧ w'.cell? ⟨gq, 2, none⟩ = some (.int .i64 (pf l 2)) ∧ w'.cell? ⟨gq, 3, none⟩ = some (.int .i64 (pf l 3)) ∧ w'.cell? ⟨gq, 4, none⟩ = some (.int .i64 (pf l 4)) ∧ Hid (Ext W w'))
    (first | exact hS | exact FS.mono (by assumption) hx)
    (first
      | (go_at_call 14; ((with_reducible refine (may_any _ _ _ _ _ _ ?_).mono ?_); (exact HLW.out.t.ext (FS.ext (gt := gt) (gp := gp) (gq := gq) (a := a) (b := b) (c := c) (d := d) (e := e) (l := l) (by assumption))); rw [hm]; rintro r w' ⟨rfl, hx⟩))
      | (go_at_call 15; ((with_reducible refine (rmay_any _ _ _ _ _ _).mono ?_); rw [hm]; rintro r w' ⟨rfl, hx⟩))
      | (go_at_call 16; ((with_reducible refine (same_by A2 A3 (pl a b c d e) (pl a b c d e) _ _ c2 c3 _ ?_ ?_).mono ?_); (exact HB2.out.ext (FS.ext (gt := gt) (gp := gp) (gq := gq) (a := a) (b := b) (c := c) (d := d) (e := e) (l := l) (by assumption))); (exact HB3.out.ext (FS.ext (gt := gt) (gp := gp) (gq := gq) (a := a) (b := b) (c := c) (d := d) (e := e) (l := l) (by assumption))); rw [decide_eq_true (rfl : pl a b c d e = pl a b c d e)]; rintro r w' ⟨rfl, hx⟩))
      | (go_at_call 16; ((with_reducible refine (same_by A1 A l l n n c1 cp _ ?_ ?_).mono ?_); (exact HB1.out.ext (FS.ext (gt := gt) (gp := gp) (gq := gq) (a := a) (b := b) (c := c) (d := d) (e := e) (l := l) (by assumption))); (exact HBW.out.ext (FS.ext (gt := gt) (gp := gp) (gq := gq) (a := a) (b := b) (c := c) (d := d) (e := e) (l := l) (by assumption))); rw [decide_eq_true (rfl : l = l)]; rintro r w' ⟨rfl, hx⟩)))
  have hF : FS W gt gp gq a b c d e l w' := by assumption
  have HF := Lib.hid (HE.out.trans hF.ext)
  clear hF hx hS hq hg
  go_wp2_with fail
  go_ret
  exact ⟨rfl, HF.out⟩
end Go.Proofs.YtlfdagajfhikhaaDoor
