/-
  The walk of TagBack: a tag that is printed is parsed as it was; bytes that are parsed are those of what they are.
-/
import Derived.Test.YtlfdagajfhikhaaDoorTBack
namespace Go.Proofs.YtlfdagajfhikhaaDoor
open Go Go.RowKit

set_option maxRecDepth 100000 in
set_option maxHeartbeats 3200000 in
theorem tagBack_tt (a b c d e : Nat) (A : Option Addr) (n cp : Nat) (l : List Nat) (w : World) (hb : By w A n cp l) (hL : LaidA w) (hn : n ≤ 300) (hm : mayB a b c d e = true) (hv : PV l = true) :
    Calls Tryd.prog 5 #[.agg #[.int .i64 a, .int .i64 b, .int .i64 c, .int .i64 d, .int .i64 e], .slice A n cp] w fun r w' => r = .returned (.bool true) ∧ Ext w w' := by
  have hE := (Ext.refl w).alloc (.cells #[.int .i64 a, .int .i64 b, .int .i64 c, .int .i64 d, .int .i64 e] 23)
  have HT := Lib.hid (heap_alloc_new w (.cells #[.int .i64 a, .int .i64 b, .int .i64 c, .int .i64 d, .int .i64 e] 23))
  have HB := Lib.hid hb
  have HL := Lib.hid hL
  have HE := Lib.hid hE
  have HM := Lib.hid hm
  have HV := Lib.hid hv
  clear hE hb hL hm hv
  go_enter Tryd.func5, Tryd.ntmps5
  go_wp2_with fail
  refine (tawake_any _ (HL.out.ext HE.out)).mono ?_
  rintro r w1 ⟨rfl, hx⟩
  have HE := Lib.hid (HE.out.trans hx)
  have ht := (hx.block _ (Array.getElem?_eq_some_iff.1 HT.out).1).trans HT.out
  have HT := Lib.hid ht
  clear hx ht
  obtain ⟨⟨i0, i1, i2, i3, i4⟩, _⟩ := five_cells HT.out
  go_wp2_with fail
  refine (print_yes a b c d e _ (HL.out.ext HE.out) HM.out).mono ?_
  rintro r w2 ⟨A2, c2, rfl, hb2, hx⟩
  have HB2 := Lib.hid hb2
  have HE := Lib.hid (HE.out.trans hx)
  have ht := (hx.block _ (Array.getElem?_eq_some_iff.1 HT.out).1).trans HT.out
  have HT := Lib.hid ht
  clear hb2 hx ht i0 i1 i2 i3 i4
  obtain ⟨⟨i0, i1, i2, i3, i4⟩, _⟩ := five_cells HT.out
  go_wp2_with fail
  refine (may_any _ _ _ _ _ _ (HL.out.ext HE.out).t).mono ?_
  rw [HM.out]
  rintro r w3 ⟨rfl, hx⟩
  have HB2 := Lib.hid (HB2.out.ext hx)
  have HE := Lib.hid (HE.out.trans hx)
  have ht := (hx.block _ (Array.getElem?_eq_some_iff.1 HT.out).1).trans HT.out
  have HT := Lib.hid ht
  clear hx ht i0 i1 i2 i3 i4
  go_wp2_with fail
  refine (parse_any _ _ _ (tagBytes a b c d e) _ (HL.out.ext HE.out) HB2.out (by omega)).mono ?_
  rw [(PV_tag HM.out).2 0 (by omega), (PV_tag HM.out).2 1 (by omega), (PV_tag HM.out).2 2 (by omega), (PV_tag HM.out).2 3 (by omega), (PV_tag HM.out).2 4 (by omega), pe_yes (PV_tag HM.out).1]
  simp only [fld]
  rintro r w4 ⟨rfl, hx⟩
  have HE := Lib.hid (HE.out.trans hx)
  have ht := (hx.block _ (Array.getElem?_eq_some_iff.1 HT.out).1).trans HT.out
  have HT := Lib.hid ht
  clear hx ht
  have hx : Ext w4 (w4.alloc (.cells #[.int .i64 a, .int .i64 b, .int .i64 c, .int .i64 d, .int .i64 e] 23)) := (Ext.refl w4).alloc _
  have HE := Lib.hid (HE.out.trans hx)
  have ht := (hx.block _ (Array.getElem?_eq_some_iff.1 HT.out).1).trans HT.out
  have HT := Lib.hid ht
  clear hx
  obtain ⟨⟨i0, i1, i2, i3, i4⟩, _⟩ := five_cells ht
  clear ht
  have hq := tag_neq a b c d e a b c d e
  have hg : Tryd.prog.eqGuardType Tryd.prog.depth 23 = false := by kernel_rfl
  go_wp2_with fail
  clear hq hg
  refine (parse_any _ _ _ l _ (HL.out.ext HE.out) (HB.out.ext HE.out) (by omega)).mono ?_
  rw [pe_yes HV.out]
  rintro r w5 ⟨rfl, hx⟩
  have HE := Lib.hid ((HE.out.trans hx).alloc (.cells #[.int .i64 (pf l 0), .int .i64 (pf l 1), .int .i64 (pf l 2), .int .i64 (pf l 3), .int .i64 (pf l 4)] 23))
  clear hx
  go_wp2_with fail
  refine (print_any _ _ _ _ _ _ (HL.out.ext HE.out)).mono ?_
  rw [(pl_of HV.out HB.out.rd.lt).1, (pl_of HV.out HB.out.rd.lt).2, HB.out.len]
  rintro r w6 ⟨A6, c6, rfl, hb6, hx⟩
  have HB6 := Lib.hid hb6
  have HE := Lib.hid (HE.out.trans hx)
  clear hx hb6
  go_wp2_with fail
  refine (same_by _ _ l l _ _ _ _ _ HB6.out (HB.out.ext HE.out)).mono ?_
  rw [decide_eq_true (rfl : l = l)]
  rintro r w7 ⟨rfl, hx⟩
  have HE := Lib.hid (HE.out.trans hx)
  clear hx
  go_wp2_with fail
  go_ret
  exact ⟨rfl, HE.out⟩

set_option maxRecDepth 100000 in
set_option maxHeartbeats 3200000 in
theorem tagBack_tf (a b c d e : Nat) (A : Option Addr) (n cp : Nat) (l : List Nat) (w : World) (hb : By w A n cp l) (hL : LaidA w) (hn : n ≤ 300) (hm : mayB a b c d e = true) (hv : PV l = false) :
    Calls Tryd.prog 5 #[.agg #[.int .i64 a, .int .i64 b, .int .i64 c, .int .i64 d, .int .i64 e], .slice A n cp] w fun r w' => r = .returned (.bool true) ∧ Ext w w' := by
  have hE := (Ext.refl w).alloc (.cells #[.int .i64 a, .int .i64 b, .int .i64 c, .int .i64 d, .int .i64 e] 23)
  have HT := Lib.hid (heap_alloc_new w (.cells #[.int .i64 a, .int .i64 b, .int .i64 c, .int .i64 d, .int .i64 e] 23))
  have HB := Lib.hid hb
  have HL := Lib.hid hL
  have HE := Lib.hid hE
  have HM := Lib.hid hm
  have HV := Lib.hid hv
  clear hE hb hL hm hv
  go_enter Tryd.func5, Tryd.ntmps5
  go_wp2_with fail
  refine (tawake_any _ (HL.out.ext HE.out)).mono ?_
  rintro r w1 ⟨rfl, hx⟩
  have HE := Lib.hid (HE.out.trans hx)
  have ht := (hx.block _ (Array.getElem?_eq_some_iff.1 HT.out).1).trans HT.out
  have HT := Lib.hid ht
  clear hx ht
  obtain ⟨⟨i0, i1, i2, i3, i4⟩, _⟩ := five_cells HT.out
  go_wp2_with fail
  refine (print_yes a b c d e _ (HL.out.ext HE.out) HM.out).mono ?_
  rintro r w2 ⟨A2, c2, rfl, hb2, hx⟩
  have HB2 := Lib.hid hb2
  have HE := Lib.hid (HE.out.trans hx)
  have ht := (hx.block _ (Array.getElem?_eq_some_iff.1 HT.out).1).trans HT.out
  have HT := Lib.hid ht
  clear hb2 hx ht i0 i1 i2 i3 i4
  obtain ⟨⟨i0, i1, i2, i3, i4⟩, _⟩ := five_cells HT.out
  go_wp2_with fail
  refine (may_any _ _ _ _ _ _ (HL.out.ext HE.out).t).mono ?_
  rw [HM.out]
  rintro r w3 ⟨rfl, hx⟩
  have HB2 := Lib.hid (HB2.out.ext hx)
  have HE := Lib.hid (HE.out.trans hx)
  have ht := (hx.block _ (Array.getElem?_eq_some_iff.1 HT.out).1).trans HT.out
  have HT := Lib.hid ht
  clear hx ht i0 i1 i2 i3 i4
  go_wp2_with fail
  refine (parse_any _ _ _ (tagBytes a b c d e) _ (HL.out.ext HE.out) HB2.out (by omega)).mono ?_
  rw [(PV_tag HM.out).2 0 (by omega), (PV_tag HM.out).2 1 (by omega), (PV_tag HM.out).2 2 (by omega), (PV_tag HM.out).2 3 (by omega), (PV_tag HM.out).2 4 (by omega), pe_yes (PV_tag HM.out).1]
  simp only [fld]
  rintro r w4 ⟨rfl, hx⟩
  have HE := Lib.hid (HE.out.trans hx)
  have ht := (hx.block _ (Array.getElem?_eq_some_iff.1 HT.out).1).trans HT.out
  have HT := Lib.hid ht
  clear hx ht
  have hx : Ext w4 (w4.alloc (.cells #[.int .i64 a, .int .i64 b, .int .i64 c, .int .i64 d, .int .i64 e] 23)) := (Ext.refl w4).alloc _
  have HE := Lib.hid (HE.out.trans hx)
  have ht := (hx.block _ (Array.getElem?_eq_some_iff.1 HT.out).1).trans HT.out
  have HT := Lib.hid ht
  clear hx
  obtain ⟨⟨i0, i1, i2, i3, i4⟩, _⟩ := five_cells ht
  clear ht
  have hq := tag_neq a b c d e a b c d e
  have hg : Tryd.prog.eqGuardType Tryd.prog.depth 23 = false := by kernel_rfl
  go_wp2_with fail
  clear hq hg
  refine (parse_any _ _ _ l _ (HL.out.ext HE.out) (HB.out.ext HE.out) (by omega)).mono ?_
  rw [pe_no HV.out, pf_no HV.out, pf_no HV.out, pf_no HV.out, pf_no HV.out, pf_no HV.out]
  rintro r w5 ⟨rfl, hx⟩
  have HE := Lib.hid ((HE.out.trans hx).alloc (.cells #[.int .i64 0, .int .i64 0, .int .i64 0, .int .i64 0, .int .i64 0] 23))
  have hq := tag_eql 0 0 0 0 0 0 0 0 0 0
  have hg : Tryd.prog.eqGuardType Tryd.prog.depth 23 = false := by kernel_rfl
  clear hx
  go_wp2_with fail
  go_ret
  exact ⟨rfl, HE.out⟩

set_option maxRecDepth 100000 in
set_option maxHeartbeats 3200000 in
theorem tagBack_ft (a b c d e : Int) (A : Option Addr) (n cp : Nat) (l : List Nat) (w : World) (hb : By w A n cp l) (hL : LaidA w) (hn : n ≤ 300) (hm : mayB a b c d e = false) (hv : PV l = true) :
    Calls Tryd.prog 5 #[.agg #[.int .i64 a, .int .i64 b, .int .i64 c, .int .i64 d, .int .i64 e], .slice A n cp] w fun r w' => r = .returned (.bool true) ∧ Ext w w' := by
  have hE := (Ext.refl w).alloc (.cells #[.int .i64 a, .int .i64 b, .int .i64 c, .int .i64 d, .int .i64 e] 23)
  have HT := Lib.hid (heap_alloc_new w (.cells #[.int .i64 a, .int .i64 b, .int .i64 c, .int .i64 d, .int .i64 e] 23))
  have HB := Lib.hid hb
  have HL := Lib.hid hL
  have HE := Lib.hid hE
  have HM := Lib.hid hm
  have HV := Lib.hid hv
  clear hE hb hL hm hv
  go_enter Tryd.func5, Tryd.ntmps5
  go_wp2_with fail
  refine (tawake_any _ (HL.out.ext HE.out)).mono ?_
  rintro r w1 ⟨rfl, hx⟩
  have HE := Lib.hid (HE.out.trans hx)
  have ht := (hx.block _ (Array.getElem?_eq_some_iff.1 HT.out).1).trans HT.out
  have HT := Lib.hid ht
  clear hx ht
  obtain ⟨⟨i0, i1, i2, i3, i4⟩, _⟩ := five_cells HT.out
  go_wp2_with fail
  refine (print_no a b c d e _ (HL.out.ext HE.out).t HM.out).mono ?_
  rintro r w2 ⟨rfl, hx⟩
  have HE := Lib.hid (HE.out.trans hx)
  have ht := (hx.block _ (Array.getElem?_eq_some_iff.1 HT.out).1).trans HT.out
  have HT := Lib.hid ht
  clear hx ht i0 i1 i2 i3 i4
  obtain ⟨⟨i0, i1, i2, i3, i4⟩, _⟩ := five_cells HT.out
  go_wp2_with fail
  refine (may_any _ _ _ _ _ _ (HL.out.ext HE.out).t).mono ?_
  rw [HM.out]
  rintro r w3 ⟨rfl, hx⟩
  have HE := Lib.hid (HE.out.trans hx)
  have ht := (hx.block _ (Array.getElem?_eq_some_iff.1 HT.out).1).trans HT.out
  have HT := Lib.hid ht
  clear hx ht i0 i1 i2 i3 i4
  go_wp2_with fail
  refine (parse_any _ _ _ l _ (HL.out.ext HE.out) (HB.out.ext HE.out) (by omega)).mono ?_
  rw [pe_yes HV.out]
  rintro r w5 ⟨rfl, hx⟩
  have HE := Lib.hid ((HE.out.trans hx).alloc (.cells #[.int .i64 (pf l 0), .int .i64 (pf l 1), .int .i64 (pf l 2), .int .i64 (pf l 3), .int .i64 (pf l 4)] 23))
  clear hx
  go_wp2_with fail
  refine (print_any _ _ _ _ _ _ (HL.out.ext HE.out)).mono ?_
  rw [(pl_of HV.out HB.out.rd.lt).1, (pl_of HV.out HB.out.rd.lt).2, HB.out.len]
  rintro r w6 ⟨A6, c6, rfl, hb6, hx⟩
  have HB6 := Lib.hid hb6
  have HE := Lib.hid (HE.out.trans hx)
  clear hx hb6
  go_wp2_with fail
  refine (same_by _ _ l l _ _ _ _ _ HB6.out (HB.out.ext HE.out)).mono ?_
  rw [decide_eq_true (rfl : l = l)]
  rintro r w7 ⟨rfl, hx⟩
  have HE := Lib.hid (HE.out.trans hx)
  clear hx
  go_wp2_with fail
  go_ret
  exact ⟨rfl, HE.out⟩

set_option maxRecDepth 100000 in
set_option maxHeartbeats 3200000 in
theorem tagBack_ff (a b c d e : Int) (A : Option Addr) (n cp : Nat) (l : List Nat) (w : World) (hb : By w A n cp l) (hL : LaidA w) (hn : n ≤ 300) (hm : mayB a b c d e = false) (hv : PV l = false) :
    Calls Tryd.prog 5 #[.agg #[.int .i64 a, .int .i64 b, .int .i64 c, .int .i64 d, .int .i64 e], .slice A n cp] w fun r w' => r = .returned (.bool true) ∧ Ext w w' := by
  have hE := (Ext.refl w).alloc (.cells #[.int .i64 a, .int .i64 b, .int .i64 c, .int .i64 d, .int .i64 e] 23)
  have HT := Lib.hid (heap_alloc_new w (.cells #[.int .i64 a, .int .i64 b, .int .i64 c, .int .i64 d, .int .i64 e] 23))
  have HB := Lib.hid hb
  have HL := Lib.hid hL
  have HE := Lib.hid hE
  have HM := Lib.hid hm
  have HV := Lib.hid hv
  clear hE hb hL hm hv
  go_enter Tryd.func5, Tryd.ntmps5
  go_wp2_with fail
  refine (tawake_any _ (HL.out.ext HE.out)).mono ?_
  rintro r w1 ⟨rfl, hx⟩
  have HE := Lib.hid (HE.out.trans hx)
  have ht := (hx.block _ (Array.getElem?_eq_some_iff.1 HT.out).1).trans HT.out
  have HT := Lib.hid ht
  clear hx ht
  obtain ⟨⟨i0, i1, i2, i3, i4⟩, _⟩ := five_cells HT.out
  go_wp2_with fail
  refine (print_no a b c d e _ (HL.out.ext HE.out).t HM.out).mono ?_
  rintro r w2 ⟨rfl, hx⟩
  have HE := Lib.hid (HE.out.trans hx)
  have ht := (hx.block _ (Array.getElem?_eq_some_iff.1 HT.out).1).trans HT.out
  have HT := Lib.hid ht
  clear hx ht i0 i1 i2 i3 i4
  obtain ⟨⟨i0, i1, i2, i3, i4⟩, _⟩ := five_cells HT.out
  go_wp2_with fail
  refine (may_any _ _ _ _ _ _ (HL.out.ext HE.out).t).mono ?_
  rw [HM.out]
  rintro r w3 ⟨rfl, hx⟩
  have HE := Lib.hid (HE.out.trans hx)
  have ht := (hx.block _ (Array.getElem?_eq_some_iff.1 HT.out).1).trans HT.out
  have HT := Lib.hid ht
  clear hx ht i0 i1 i2 i3 i4
  go_wp2_with fail
  refine (parse_any _ _ _ l _ (HL.out.ext HE.out) (HB.out.ext HE.out) (by omega)).mono ?_
  rw [pe_no HV.out, pf_no HV.out, pf_no HV.out, pf_no HV.out, pf_no HV.out, pf_no HV.out]
  rintro r w5 ⟨rfl, hx⟩
  have HE := Lib.hid ((HE.out.trans hx).alloc (.cells #[.int .i64 0, .int .i64 0, .int .i64 0, .int .i64 0, .int .i64 0] 23))
  have hq := tag_eql 0 0 0 0 0 0 0 0 0 0
  have hg : Tryd.prog.eqGuardType Tryd.prog.depth 23 = false := by kernel_rfl
  clear hx
  go_wp2_with fail
  go_ret
  exact ⟨rfl, HE.out⟩

set_option maxRecDepth 100000 in
theorem tagBack_law (a b c d e : Int) (A : Option Addr) (n cp : Nat) (l : List Nat) (w : World) (hb : Bs w w.heap.size A n cp l) (hL : LaidA w) :
    Calls Tryd.prog 5 #[.agg #[.int .i64 a, .int .i64 b, .int .i64 c, .int .i64 d, .int .i64 e], .slice A n cp] w fun r w' => r = .returned (.bool true) ∧ Below w.heap.size w w' := by
  show Calls Tryd.prog 5 #[.agg #[.int .i64 a, .int .i64 b, .int .i64 c, .int .i64 d, .int .i64 e], .slice A n cp] w fun r w' => r = .returned (.bool true) ∧ Ext w w'
  have hcap := hb.cap
  have hmost := hb.most
  by_cases hn : 300 < n
  · have HE := Lib.hid ((Ext.refl w).alloc (.cells #[.int .i64 a, .int .i64 b, .int .i64 c, .int .i64 d, .int .i64 e] 23))
    have HL := Lib.hid hL
    clear hb hL
    go_enter Tryd.func5, Tryd.ntmps5
    go_wp2_with fail
    refine (tawake_any _ (HL.out.ext HE.out)).mono ?_
    rintro r w1 ⟨rfl, hx⟩
    have HE := Lib.hid (HE.out.trans hx)
    clear hx
    go_wp2_with fail
    go_ret
    exact ⟨rfl, HE.out⟩
  have hn' : n ≤ 300 := by omega
  by_cases hm : mayB a b c d e = true
  · obtain ⟨a, b, c, d, e, rfl, rfl, rfl, rfl, rfl⟩ := may_nat hm
    by_cases hv : PV l = true
    · exact tagBack_tt a b c d e A n cp l w hb hL hn' hm hv
    · exact tagBack_tf a b c d e A n cp l w hb hL hn' hm (by simpa using hv)
  · have hm' : mayB a b c d e = false := by simpa using hm
    by_cases hv : PV l = true
    · exact tagBack_ft a b c d e A n cp l w hb hL hn' hm' hv
    · exact tagBack_ff a b c d e A n cp l w hb hL hn' hm' (by simpa using hv)
end Go.Proofs.YtlfdagajfhikhaaDoor
