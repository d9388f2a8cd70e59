/-
  The walk of MetaForms: any metadata have the form that the chapter says, or none; any bytes are the metadata that it says, or none; they stay.
-/
import Derived.Test.YtlikhmhomkiadaaDoorURParse
import Derived.Test.YtlikhmhomkiadaaDoorSC
namespace Go.Proofs.YtlikhmhomkiadaaDoor
open Go Go.RowKit

/-- What holds while the last line is reckoned: the cells of three metadata; what there was at its beginning is as it was. -/
def UFS (W : World) (gt gp gq : Nat) (a b c : Int) (l : List Nat) (w' : World) : Prop :=
  w'.cell? ⟨gt, 0, none⟩ = some (.int .i64 a) ∧ w'.cell? ⟨gt, 1, none⟩ = some (.int .i64 b) ∧ w'.cell? ⟨gt, 2, none⟩ = some (.int .i64 c) ∧
  w'.cell? ⟨gp, 0, none⟩ = some (.int .i64 (uF l 0)) ∧ w'.cell? ⟨gp, 1, none⟩ = some (.int .i64 (uF l 1)) ∧ w'.cell? ⟨gp, 2, none⟩ = some (.int .i64 (uF l 2)) ∧
  w'.cell? ⟨gq, 0, none⟩ = some (.int .i64 (uF l 0)) ∧ w'.cell? ⟨gq, 1, none⟩ = some (.int .i64 (uF l 1)) ∧ w'.cell? ⟨gq, 2, none⟩ = some (.int .i64 (uF l 2)) ∧ Hid (Ext W w')
theorem UFS.mono {W w w' : World} {gt gp gq : Nat} {a b c : Int} {l : List Nat} (h : UFS W gt gp gq a b c l w) (k : Ext w w') : UFS W gt gp gq a b c l w' := by
  obtain ⟨h0, h1, h2, h3, h4, h5, h6, h7, h8, hE⟩ := h
  exact ⟨Ext.cell k h0, Ext.cell k h1, Ext.cell k h2, Ext.cell k h3, Ext.cell k h4, Ext.cell k h5, Ext.cell k h6, Ext.cell k h7, Ext.cell k h8, Lib.hid (hE.out.trans k)⟩
theorem UFS.ext {W w : World} {gt gp gq : Nat} {a b c : Int} {l : List Nat} (h : UFS W gt gp gq a b c l w) : Ext W w := h.2.2.2.2.2.2.2.2.2.out

set_option maxRecDepth 100000 in
set_option maxHeartbeats 3200000 in
theorem metaForms_law (a b c : Int) (A : Option Addr) (n cp : Nat) (l : List Nat) (w : World) (hb : Bs w w.heap.size A n cp l) (hL : Laid w) :
    Calls Tryd.prog 3 #[.agg #[.int .i64 a, .int .i64 b, .int .i64 c], .slice A n cp] w fun r w' => r = .returned (.bool true) ∧ Below w.heap.size w w' := by
  show Calls Tryd.prog 3 #[.agg #[.int .i64 a, .int .i64 b, .int .i64 c], .slice A n cp] w fun r w' => r = .returned (.bool true) ∧ Ext w w'
  have hE := (Ext.refl w).alloc (.cells #[.int .i64 a, .int .i64 b, .int .i64 c] 25)
  have hcap := hb.cap
  have hmost := hb.most
  by_cases hn : 100 < n
  · have HE := Lib.hid hE
    clear hE hb hL
    go_enter Tryd.func3, Tryd.ntmps3
    go_wp2_with fail
    go_ret
    exact ⟨rfl, HE.out⟩
  have HT := Lib.hid (heap_alloc_new w (.cells #[.int .i64 a, .int .i64 b, .int .i64 c] 25))
  have HB : Hid (By w A n cp l) := Lib.hid hb
  have HL := Lib.hid hL
  have HE := Lib.hid hE
  obtain ⟨⟨i0, i1, i2⟩, _⟩ := three_cells HT.out
  clear hE hb hL
  go_enter Tryd.func3, Tryd.ntmps3
  go_wp2_with fail
  refine (copy_by A l n cp _ (HB.out.ext HE.out) (by omega)).mono ?_
  rintro r w1 ⟨A1, c1, rfl, hb1, hx, _⟩
  have HB1 := Lib.hid hb1
  have HE := Lib.hid (HE.out.trans hx)
  have ht := (hx.block _ (Array.getElem?_eq_some_iff.1 HT.out).1).trans HT.out
  have HT := Lib.hid ht
  clear hb1 hx ht i0 i1 i2
  obtain ⟨⟨i0, i1, i2⟩, _⟩ := three_cells HT.out
  go_wp2_with fail
  refine (printU_any _ _ _ _ (HL.out.ext HE.out)).mono ?_
  rintro r w2 ⟨A2, c2, rfl, hb2, _, hx⟩
  have HB2 := Lib.hid hb2
  have HB1 := Lib.hid (HB1.out.ext hx)
  have HE := Lib.hid (HE.out.trans hx)
  have ht := (hx.block _ (Array.getElem?_eq_some_iff.1 HT.out).1).trans HT.out
  have HT := Lib.hid ht
  clear hb2 hx ht i0 i1 i2
  obtain ⟨⟨i0, i1, i2⟩, _⟩ := three_cells HT.out
  go_wp2_with fail
  refine (rprintU_any _ _ _ _).mono ?_
  rintro r w3 ⟨A3, c3, rfl, hb3, _, hx⟩
  have HB3 := Lib.hid hb3
  have HB2 := Lib.hid (HB2.out.ext hx)
  have HB1 := Lib.hid (HB1.out.ext hx)
  have HE := Lib.hid (HE.out.trans hx)
  have ht := (hx.block _ (Array.getElem?_eq_some_iff.1 HT.out).1).trans HT.out
  have HT := Lib.hid ht
  clear hb3 hx ht i0 i1 i2
  go_wp2_with fail
  refine (parseU _ _ _ l _ (HL.out.ext HE.out) HB1.out (by omega)).mono ?_
  rintro r w4 ⟨rfl, hx⟩
  have HB3 := Lib.hid (HB3.out.ext hx)
  have HB2 := Lib.hid (HB2.out.ext hx)
  have HB1 := Lib.hid (HB1.out.ext hx)
  have HE := Lib.hid (HE.out.trans hx)
  have ht := (hx.block _ (Array.getElem?_eq_some_iff.1 HT.out).1).trans HT.out
  have HT := Lib.hid ht
  clear hx ht
  go_wp2_with fail
  have hx : Ext w4 (w4.alloc (.cells #[.int .i64 (uF l 0), .int .i64 (uF l 1), .int .i64 (uF l 2)] 25)) := (Ext.refl w4).alloc _
  have HP := Lib.hid (heap_alloc_new w4 (.cells #[.int .i64 (uF l 0), .int .i64 (uF l 1), .int .i64 (uF l 2)] 25))
  have HB3 := Lib.hid (HB3.out.ext hx)
  have HB2 := Lib.hid (HB2.out.ext hx)
  have HB1 := Lib.hid (HB1.out.ext hx)
  have HE := Lib.hid (HE.out.trans hx)
  have ht := (hx.block _ (Array.getElem?_eq_some_iff.1 HT.out).1).trans HT.out
  have HT := Lib.hid ht
  clear hx ht
  refine (rparseU _ _ _ l _ (HB.out.ext HE.out) (by omega)).mono ?_
  rintro r w5 ⟨rfl, hx⟩
  have HB3 := Lib.hid (HB3.out.ext hx)
  have HB2 := Lib.hid (HB2.out.ext hx)
  have HB1 := Lib.hid (HB1.out.ext hx)
  have HE := Lib.hid (HE.out.trans hx)
  have ht := (hx.block _ (Array.getElem?_eq_some_iff.1 HT.out).1).trans HT.out
  have hp := (hx.block _ (Array.getElem?_eq_some_iff.1 HP.out).1).trans HP.out
  have HT := Lib.hid ht
  have HP := Lib.hid hp
  clear hx ht hp
  go_wp2_with fail
  have hx : Ext w5 (w5.alloc (.cells #[.int .i64 (uF l 0), .int .i64 (uF l 1), .int .i64 (uF l 2)] 25)) := (Ext.refl w5).alloc _
  have hq := heap_alloc_new w5 (.cells #[.int .i64 (uF l 0), .int .i64 (uF l 1), .int .i64 (uF l 2)] 25)
  have HB3 := Lib.hid (HB3.out.ext hx)
  have HB2 := Lib.hid (HB2.out.ext hx)
  have HB1 := Lib.hid (HB1.out.ext hx)
  have HE := Lib.hid (HE.out.trans hx)
  have ht := (hx.block _ (Array.getElem?_eq_some_iff.1 HT.out).1).trans HT.out
  have hp := (hx.block _ (Array.getElem?_eq_some_iff.1 HP.out).1).trans HP.out
  have HT := Lib.hid ht
  have HP := Lib.hid hp
  clear hx
  obtain ⟨⟨i0, i1, i2⟩, _⟩ := three_cells ht
  obtain ⟨⟨j0, j1, j2⟩, _⟩ := three_cells hp
  obtain ⟨⟨k0, k1, k2⟩, _⟩ := three_cells hq
  clear ht hp hq
  generalize (w5.alloc (.cells #[.int .i64 (uF l 0), .int .i64 (uF l 1), .int .i64 (uF l 2)] 25)) = W at *
  generalize w5.heap.size = gq at *
  generalize w4.heap.size = gp at *
  generalize w.heap.size = gt at *
  have hS : UFS W gt gp gq a b c l W := ⟨i0, i1, i2, j0, j1, j2, k0, k1, k2, Lib.hid (Ext.refl W)⟩
  have hS := hS.mono ((Ext.refl W).drew)
  have hq := meta_eql (uF l 0) (uF l 1) (uF l 2) (uF l 0) (uF l 1) (uF l 2)
  have hg : Tryd.prog.eqGuardType Tryd.prog.depth 25 = false := by kernel_rfl
  clear i0 i1 i2 j0 j1 j2 k0 k1 k2
  have HLW := Lib.hid (HL.out.ext HE.out)
  have HBW := Lib.hid (HB.out.ext HE.out)
  generalize hm : mayU a b c = m at *
  go_region_held3 (fun w' => w'.cell? ⟨gt, 0, none⟩ = some (.int .i64 a) ∧ w'.cell? ⟨gt, 1, none⟩ = some (.int .i64 b) ∧ w'.cell? ⟨gt, 2, none⟩ = some (.int .i64 c) ∧
      w'.cell? ⟨gp, 0, none⟩ = some (.int .i64 (uF l 0)) ∧ w'.cell? ⟨gp, 1, none⟩ = some (.int .i64 (uF l 1)) ∧ w'.cell? ⟨gp, 2, none⟩ = some (.int .i64 (uF l 2)) ∧
      w'.cell? ⟨gq, 0, none⟩ = some (.int .i64 (uF l 0)) ∧ w'.cell? ⟨gq, 1, none⟩ = some (.int .i64 (uF l 1)) ∧ w'.cell? ⟨gq, 2, none⟩ = some (.int .i64 (uF l 2)) ∧ Hid (Ext W w'))
    (first | exact hS | exact UFS.mono (by assumption) hx)
    (first
      | (go_at_call 12; ((with_reducible refine (mayU_any _ _ _ _).mono ?_); rw [hm]; rintro r w' ⟨rfl, hx⟩))
      | (go_at_call 13; ((with_reducible refine (rmayU _ _ _ _).mono ?_); rw [hm]; rintro r w' ⟨rfl, hx⟩))
      | (go_at_call 14; ((with_reducible refine (same_by A2 A3 (uL a b c) (uL a b c) _ _ c2 c3 _ ?_ ?_).mono ?_); (exact HB2.out.ext (UFS.ext (gt := gt) (gp := gp) (gq := gq) (a := a) (b := b) (c := c) (l := l) (by assumption))); (exact HB3.out.ext (UFS.ext (gt := gt) (gp := gp) (gq := gq) (a := a) (b := b) (c := c) (l := l) (by assumption))); rw [decide_eq_true (rfl : uL a b c = uL a b c)]; rintro r w' ⟨rfl, hx⟩))
      | (go_at_call 14; ((with_reducible refine (same_by A1 A l l n n c1 cp _ ?_ ?_).mono ?_); (exact HB1.out.ext (UFS.ext (gt := gt) (gp := gp) (gq := gq) (a := a) (b := b) (c := c) (l := l) (by assumption))); (exact HBW.out.ext (UFS.ext (gt := gt) (gp := gp) (gq := gq) (a := a) (b := b) (c := c) (l := l) (by assumption))); rw [decide_eq_true (rfl : l = l)]; rintro r w' ⟨rfl, hx⟩)))
  have hF : UFS W gt gp gq a b c l w' := by assumption
  have HF := Lib.hid (HE.out.trans hF.ext)
  clear hF hx hS hq hg
  go_wp2_with fail
  go_ret
  exact ⟨rfl, HF.out⟩
end Go.Proofs.YtlikhmhomkiadaaDoor
