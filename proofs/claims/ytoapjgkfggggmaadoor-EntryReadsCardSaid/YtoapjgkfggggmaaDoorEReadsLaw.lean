/-
  The walk of EntryReads: the entry that begins at any place of any bytes, and the body that they are, is what the chapter says, or none; they stay.
-/
import Derived.Test.YtoapjgkfggggmaaDoorEAwake
import Derived.Test.YtoapjgkfggggmaaDoorERParse
import Derived.Test.YtoapjgkfggggmaaDoorSC
namespace Go.Proofs.YtoapjgkfggggmaaDoor
open Go Go.RowKit

set_option maxRecDepth 100000 in
set_option maxHeartbeats 3200000 in
theorem entryReads_law (A : Option Addr) (n c : Nat) (l : List Nat) (a : Int) (w : World) (hb : Bs w w.heap.size A n c l) (_hw : (Lit.int .i64 a).wf = true) (hL : Laid w) :
    Calls Tryd.prog 4 #[.slice A n c, .int .i64 a] w fun r w' => r = .returned (.bool true) ∧ Below w.heap.size w w' := by
  show Calls Tryd.prog 4 #[.slice A n c, .int .i64 a] w fun r w' => r = .returned (.bool true) ∧ Ext w w'
  clear _hw
  have hcap := hb.cap
  have hmost := hb.most
  by_cases hn : 300 < n
  · clear hb hL
    go_enter Tryd.func4, Tryd.ntmps4
    go_wp2_with fail
    go_ret
    exact ⟨rfl, Ext.refl w⟩
  have HB : Hid (By w A n c l) := Lib.hid hb
  have HL := Lib.hid hL
  clear hb hL
  go_enter Tryd.func4, Tryd.ntmps4
  go_wp2_with fail
  refine (copy_by A l n c _ HB.out (by omega)).mono ?_
  rintro r w1 ⟨A1, c1, rfl, hb1, hx, _⟩
  have HB1 := Lib.hid hb1
  have HB := Lib.hid (HB.out.ext hx)
  have HE := Lib.hid hx
  have HL := Lib.hid (HL.out.ext hx)
  clear hb1 hx
  go_wp2_with fail
  have HC := Lib.hid (fun V (hV : By V A n c l) => rentry_any A n c l a V hV (by omega))
  have HC2 := Lib.hid (fun V (hV : By V A n c l) => rparse_any A n c l V hV (by omega))
  have HC3 := Lib.hid (fun V hLV (hV : By V A1 n c1 l) => parse_any A1 n c1 l V hLV hV (by omega))
  refine (read_any A1 n c1 l a _ HL.out HB1.out (by omega)).mono ?_
  generalize rdE l a = R at *
  obtain ⟨⟨k, cl, sq, ok, key, old, val⟩, m, er⟩ := R
  generalize psE l = R at *
  obtain ⟨x, y, ⟨k2, cl2, sq2, ok2, key2, old2, val2⟩, er2⟩ := R
  dsimp only at HC HC2 HC3 ⊢
  rintro r w2 ⟨rfl, hx⟩
  have hx := hx.trans ((Ext.refl w2).alloc (.cells #[.int .u8 (k : Int), .int .i64 cl, .int .i64 sq, .int .u8 (ok : Int), .string key, .string old, .string val] 27))
  have HT := Lib.hid (heap_alloc_new w2 (.cells #[.int .u8 (k : Int), .int .i64 cl, .int .i64 sq, .int .u8 (ok : Int), .string key, .string old, .string val] 27))
  have HB1 := Lib.hid (HB1.out.ext hx)
  have HB := Lib.hid (HB.out.ext hx)
  have HE := Lib.hid (HE.out.trans hx)
  have HL := Lib.hid (HL.out.ext hx)
  clear hx
  go_upto_region 5 with (fail)
  generalize (w2.alloc (.cells #[.int .u8 (k : Int), .int .i64 cl, .int .i64 sq, .int .u8 (ok : Int), .string key, .string old, .string val] 27)) = w3 at *
  generalize w2.heap.size = g2 at *
  go_wp2_with fail
  refine (HC.out _ HB.out).mono ?_
  rintro r w4 ⟨rfl, hx⟩
  have hx := hx.trans ((Ext.refl w4).alloc (.cells #[.int .u8 (k : Int), .int .i64 cl, .int .i64 sq, .int .u8 (ok : Int), .string key, .string old, .string val] 27))
  have HT2 := Lib.hid (heap_alloc_new w4 (.cells #[.int .u8 (k : Int), .int .i64 cl, .int .i64 sq, .int .u8 (ok : Int), .string key, .string old, .string val] 27))
  have HT := Lib.hid (heap_ext HT.out hx)
  have HB1 := Lib.hid (HB1.out.ext hx)
  have HB := Lib.hid (HB.out.ext hx)
  have HE := Lib.hid (HE.out.trans hx)
  have HL := Lib.hid (HL.out.ext hx)
  clear hx
  go_upto_region 6 with (fail)
  generalize (w4.alloc (.cells #[.int .u8 (k : Int), .int .i64 cl, .int .i64 sq, .int .u8 (ok : Int), .string key, .string old, .string val] 27)) = w5 at *
  generalize w4.heap.size = g4 at *
  go_wp2_with fail
  refine (HC3.out _ HL.out HB1.out).mono ?_
  rintro r w6 ⟨rfl, hx⟩
  have hx1 := (Ext.refl w6).alloc (.cells #[.int .i64 (x : Int), .int .i64 (y : Int)] 23)
  have hx2 := (Ext.refl (w6.alloc (.cells #[.int .i64 (x : Int), .int .i64 (y : Int)] 23))).alloc (.cells #[.int .u8 (k2 : Int), .int .i64 cl2, .int .i64 sq2, .int .u8 (ok2 : Int), .string key2, .string old2, .string val2] 27)
  have HP := Lib.hid (heap_ext (heap_alloc_new w6 (.cells #[.int .i64 (x : Int), .int .i64 (y : Int)] 23)) hx2)
  have HQ := Lib.hid (heap_alloc2_new w6 (.cells #[.int .i64 (x : Int), .int .i64 (y : Int)] 23) (.cells #[.int .u8 (k2 : Int), .int .i64 cl2, .int .i64 sq2, .int .u8 (ok2 : Int), .string key2, .string old2, .string val2] 27))
  have hx := hx.trans (hx1.trans hx2)
  have HT := Lib.hid (heap_ext HT.out hx)
  have HT2 := Lib.hid (heap_ext HT2.out hx)
  have HB1 := Lib.hid (HB1.out.ext hx)
  have HB := Lib.hid (HB.out.ext hx)
  have HE := Lib.hid (HE.out.trans hx)
  clear hx hx1 hx2
  go_upto_region 7 with (fail)
  generalize ((w6.alloc (.cells #[.int .i64 (x : Int), .int .i64 (y : Int)] 23)).alloc (.cells #[.int .u8 (k2 : Int), .int .i64 cl2, .int .i64 sq2, .int .u8 (ok2 : Int), .string key2, .string old2, .string val2] 27)) = w7 at *
  generalize w6.heap.size = g6 at *
  go_wp2_with fail
  refine (HC2.out _ HB.out).mono ?_
  rintro r w8 ⟨rfl, hx⟩
  have hx1 := (Ext.refl w8).alloc (.cells #[.int .i64 (x : Int), .int .i64 (y : Int)] 23)
  have hx2 := (Ext.refl (w8.alloc (.cells #[.int .i64 (x : Int), .int .i64 (y : Int)] 23))).alloc (.cells #[.int .u8 (k2 : Int), .int .i64 cl2, .int .i64 sq2, .int .u8 (ok2 : Int), .string key2, .string old2, .string val2] 27)
  have HP2 := Lib.hid (heap_ext (heap_alloc_new w8 (.cells #[.int .i64 (x : Int), .int .i64 (y : Int)] 23)) hx2)
  have HQ2 := Lib.hid (heap_alloc2_new w8 (.cells #[.int .i64 (x : Int), .int .i64 (y : Int)] 23) (.cells #[.int .u8 (k2 : Int), .int .i64 cl2, .int .i64 sq2, .int .u8 (ok2 : Int), .string key2, .string old2, .string val2] 27))
  have hx := hx.trans (hx1.trans hx2)
  have HP := Lib.hid (heap_ext HP.out hx)
  have HQ := Lib.hid (heap_ext HQ.out hx)
  have HT := Lib.hid (heap_ext HT.out hx)
  have HT2 := Lib.hid (heap_ext HT2.out hx)
  have HB1 := Lib.hid (HB1.out.ext hx)
  have HB := Lib.hid (HB.out.ext hx)
  have HE := Lib.hid (HE.out.trans hx)
  clear hx hx1 hx2
  go_upto_region 8 with (fail)
  generalize ((w8.alloc (.cells #[.int .i64 (x : Int), .int .i64 (y : Int)] 23)).alloc (.cells #[.int .u8 (k2 : Int), .int .i64 cl2, .int .i64 sq2, .int .u8 (ok2 : Int), .string key2, .string old2, .string val2] 27)) = w9 at *
  generalize w8.heap.size = g8 at *
  obtain ⟨i0, i1, i2, i3, i4, i5, i6⟩ := seven_cells HT.out
  obtain ⟨j0, j1, j2, j3, j4, j5, j6⟩ := seven_cells HT2.out
  obtain ⟨p0, p1⟩ := two_cells HP.out
  obtain ⟨u0, u1⟩ := two_cells HP2.out
  obtain ⟨q0, q1, q2, q3, q4, q5, q6⟩ := seven_cells HQ.out
  obtain ⟨t0, t1, t2, t3, t4, t5, t6⟩ := seven_cells HQ2.out
  have hq1 := ent_eql_self k cl sq ok key old val
  have hq2 := ent_eql_self k2 cl2 sq2 ok2 key2 old2 val2
  have hq3 := bal_eql_self (x : Int) (y : Int)
  have hg1 : Tryd.prog.eqGuardType Tryd.prog.depth 27 = false := by kernel_rfl
  have hg2 : Tryd.prog.eqGuardType Tryd.prog.depth 23 = false := by kernel_rfl
  clear HC HC2 HC3
  go_wp2_with fail
  refine (same_by A1 A l l n n c1 c _ HB1.out HB.out).mono ?_
  rw [decide_eq_true (rfl : l = l)]
  rintro r w10 ⟨rfl, hx⟩
  have HE := Lib.hid (HE.out.trans hx)
  clear hx
  go_wp2_with fail
  go_ret
  exact ⟨rfl, HE.out⟩
end Go.Proofs.YtoapjgkfggggmaaDoor
