/-
  The contracts of what and look, Get and Class: what a slot is, and tells.
  The contracts of Get and Class.
  Plain facts on writes that are done unless one has failed; on a log's Put, told at once.
  Steps of a disk, one behind the other.
  The contracts of what a log's put writes through: unless something has failed, a sector is written, the disk is flushed.
-/
import Derived.Test.YtnlappoocffcpaaGreatDoorQ04
import Derived.Test.YtnlappoocffcpaaGreatDoorQ13
import Derived.Test.YtnlappoocffcpaaGreatDoorQ28
import Derived.Test.YtnlappoocffcpaaGreatDoorQ29
import Derived.Test.YtnlappoocffcpaaGreatDoorQ30
namespace Go.Proofs.YtnlappoocffcpaaGreatDoor
set_option maxRecDepth 100000
open Go Go.RowKit
set_option maxRecDepth 100000 in
set_option maxHeartbeats 1200000 in
theorem wwhat_core {w : World} (g i : Nat) (p : Rec) (f0 f1 : CopL) (C : Nat) (R : Rpt) (hx0 : ∃ z : Int, ∀ V, Calls Tryz.prog 90 #[.agg #[.int .u8 (p.st : Int), .int .i64 p.ix, .int .i64 p.bx, .int .i64 p.yb, .int .i64 p.wh], .agg #[.int .u8 (f0.st : Int), .int .i64 f0.ix, .int .i64 f0.bx, .int .i64 f0.yb, .int .u8 (f0.e.k : Int), .int .i64 f0.e.cl, .int .i64 f0.e.sq, .int .u8 (f0.e.ok : Int), .string f0.e.key, .string f0.e.old, .string f0.e.val, .int .u8 (f1.st : Int), .int .i64 f1.ix, .int .i64 f1.bx, .int .i64 f1.yb, .int .u8 (f1.e.k : Int), .int .i64 f1.e.cl, .int .i64 f1.e.sq, .int .u8 (f1.e.ok : Int), .string f1.e.key, .string f1.e.old, .string f1.e.val], .int .i64 (i : Int)] V fun e w' => e = .returned (.tuple #[.int .u8 (C : Int), .agg #[.int .i64 R.ix, .int .u8 (R.st : Int), .int .i64 R.x, .int .i64 R.y, .int .u8 (R.e.k : Int), .int .i64 R.e.cl, .int .i64 R.e.sq, .int .u8 (R.e.ok : Int), .string R.e.key, .string R.e.old, .string R.e.val], .int .i64 z]) ∧ Ext V w')
    (hrd : ∀ V, Ext w V → Calls Tryz.prog 47 #[.pointer (some ⟨g, 0, none⟩), .int .i64 (i : Int)] V fun e w' => e = .returned (.tuple #[.agg #[.int .u8 (p.st : Int), .int .i64 p.ix, .int .i64 p.bx, .int .i64 p.yb, .int .i64 p.wh], .agg #[.int .u8 (f0.st : Int), .int .i64 f0.ix, .int .i64 f0.bx, .int .i64 f0.yb, .int .u8 (f0.e.k : Int), .int .i64 f0.e.cl, .int .i64 f0.e.sq, .int .u8 (f0.e.ok : Int), .string f0.e.key, .string f0.e.old, .string f0.e.val, .int .u8 (f1.st : Int), .int .i64 f1.ix, .int .i64 f1.bx, .int .i64 f1.yb, .int .u8 (f1.e.k : Int), .int .i64 f1.e.cl, .int .i64 f1.e.sq, .int .u8 (f1.e.ok : Int), .string f1.e.key, .string f1.e.old, .string f1.e.val]]) ∧ Ext V w') :
    Calls Tryz.prog 128 #[.pointer (some ⟨g, 0, none⟩), .int .i64 (i : Int)] w fun e w' => e = .returned (.tuple #[.int .u8 (C : Int), .agg #[.int .i64 R.ix, .int .u8 (R.st : Int), .int .i64 R.x, .int .i64 R.y, .int .u8 (R.e.k : Int), .int .i64 R.e.cl, .int .i64 R.e.sq, .int .u8 (R.e.ok : Int), .string R.e.key, .string R.e.old, .string R.e.val]]) ∧ Ext w w' := by
  obtain ⟨z, hz⟩ := hx0
  have HW := Lib.hid hz
  have HR := Lib.hid hrd
  obtain ⟨b, w0, hw0, hE0, hT0, hz0w⟩ : ∃ (b : Nat) (w0 : World), (b = w.heap.size ∧ w0 = w.alloc (.cells #[.int .i64 0, .int .u8 0, .int .i64 0, .int .i64 0, .int .u8 0, .int .i64 0, .int .i64 0, .int .u8 0, .string ⟨#[]⟩, .string ⟨#[]⟩, .string ⟨#[]⟩] 86)) ∧ Ext w w0 ∧ w0.heap[b]? = some (.cells #[.int .i64 0, .int .u8 0, .int .i64 0, .int .i64 0, .int .u8 0, .int .i64 0, .int .i64 0, .int .u8 0, .string ⟨#[]⟩, .string ⟨#[]⟩, .string ⟨#[]⟩] 86 (0, 0)) ∧ (w0.heap.size = b + 1 ∧ w.heap.size ≤ b) :=
    ⟨_, _, ⟨rfl, rfl⟩, (Ext.refl w).alloc _, heap_alloc_new w _, by simp, Nat.le_refl _⟩
  have HE0 := Lib.hid hE0
  have HT0 := Lib.hid hT0
  have HZ0 := Lib.hid hz0w
  clear hz hrd hE0 hT0 hz0w
  go_enter Tryz.func128, Tryz.ntmps128
  go_wp2_with fail
  rw [← hw0.1, ← hw0.2]
  clear hw0
  refine (HR.out _ HE0.out).mono ?_
  rintro e w1 ⟨rfl, hx⟩
  have HX := Lib.hid (HE0.out.trans hx)
  have HT := Lib.hid (keep_row hx HT0.out)
  clear hx HE0 HT0
  have hi4 : (Tryz.prog.info? 118).map (·.size) = some 22 := by kernel_rfl
  have HI4 := Lib.hid hi4
  clear hi4
  go_upto_region 2 with (refine wpList_store_fresh rfl 118 _ _ rfl #[.int .u8 (f0.st : Int), .int .i64 f0.ix, .int .i64 f0.bx, .int .i64 f0.yb, .int .u8 (f0.e.k : Int), .int .i64 f0.e.cl, .int .i64 f0.e.sq, .int .u8 (f0.e.ok : Int), .string f0.e.key, .string f0.e.old, .string f0.e.val, .int .u8 (f1.st : Int), .int .i64 f1.ix, .int .i64 f1.bx, .int .i64 f1.yb, .int .u8 (f1.e.k : Int), .int .i64 f1.e.cl, .int .i64 f1.e.sq, .int .u8 (f1.e.ok : Int), .string f1.e.key, .string f1.e.old, .string f1.e.val] (w1.heap.size + 1) (by simp) rfl rfl rfl HI4.out (by simp [Value.oneCell']) ?_)
  simp only [Act.put]
  have hr1 := keep_row ((Ext.refl (w1.alloc (.cells #[.int .u8 (p.st : Int), .int .i64 p.ix, .int .i64 p.bx, .int .i64 p.yb, .int .i64 p.wh] 115))).alloc (.cells #[.int .u8 (f0.st : Int), .int .i64 f0.ix, .int .i64 f0.bx, .int .i64 f0.yb, .int .u8 (f0.e.k : Int), .int .i64 f0.e.cl, .int .i64 f0.e.sq, .int .u8 (f0.e.ok : Int), .string f0.e.key, .string f0.e.old, .string f0.e.val, .int .u8 (f1.st : Int), .int .i64 f1.ix, .int .i64 f1.bx, .int .i64 f1.yb, .int .u8 (f1.e.k : Int), .int .i64 f1.e.cl, .int .i64 f1.e.sq, .int .u8 (f1.e.ok : Int), .string f1.e.key, .string f1.e.old, .string f1.e.val] 118)) (heap_alloc_new w1 (.cells #[.int .u8 (p.st : Int), .int .i64 p.ix, .int .i64 p.bx, .int .i64 p.yb, .int .i64 p.wh] 115))
  have hr2 := heap_alloc2_new w1 (.cells #[.int .u8 (p.st : Int), .int .i64 p.ix, .int .i64 p.bx, .int .i64 p.yb, .int .i64 p.wh] 115) (.cells #[.int .u8 (f0.st : Int), .int .i64 f0.ix, .int .i64 f0.bx, .int .i64 f0.yb, .int .u8 (f0.e.k : Int), .int .i64 f0.e.cl, .int .i64 f0.e.sq, .int .u8 (f0.e.ok : Int), .string f0.e.key, .string f0.e.old, .string f0.e.val, .int .u8 (f1.st : Int), .int .i64 f1.ix, .int .i64 f1.bx, .int .i64 f1.yb, .int .u8 (f1.e.k : Int), .int .i64 f1.e.cl, .int .i64 f1.e.sq, .int .u8 (f1.e.ok : Int), .string f1.e.key, .string f1.e.old, .string f1.e.val] 118)
  have hx1 := ((Ext.refl w1).alloc (.cells #[.int .u8 (p.st : Int), .int .i64 p.ix, .int .i64 p.bx, .int .i64 p.yb, .int .i64 p.wh] 115)).alloc (.cells #[.int .u8 (f0.st : Int), .int .i64 f0.ix, .int .i64 f0.bx, .int .i64 f0.yb, .int .u8 (f0.e.k : Int), .int .i64 f0.e.cl, .int .i64 f0.e.sq, .int .u8 (f0.e.ok : Int), .string f0.e.key, .string f0.e.old, .string f0.e.val, .int .u8 (f1.st : Int), .int .i64 f1.ix, .int .i64 f1.bx, .int .i64 f1.yb, .int .u8 (f1.e.k : Int), .int .i64 f1.e.cl, .int .i64 f1.e.sq, .int .u8 (f1.e.ok : Int), .string f1.e.key, .string f1.e.old, .string f1.e.val] 118)
  have HX := Lib.hid (HX.out.trans hx1)
  have HT := Lib.hid (keep_row hx1 HT.out)
  generalize (w1.alloc (.cells #[.int .u8 (p.st : Int), .int .i64 p.ix, .int .i64 p.bx, .int .i64 p.yb, .int .i64 p.wh] 115)).alloc (.cells #[.int .u8 (f0.st : Int), .int .i64 f0.ix, .int .i64 f0.bx, .int .i64 f0.yb, .int .u8 (f0.e.k : Int), .int .i64 f0.e.cl, .int .i64 f0.e.sq, .int .u8 (f0.e.ok : Int), .string f0.e.key, .string f0.e.old, .string f0.e.val, .int .u8 (f1.st : Int), .int .i64 f1.ix, .int .i64 f1.bx, .int .i64 f1.yb, .int .u8 (f1.e.k : Int), .int .i64 f1.e.cl, .int .i64 f1.e.sq, .int .u8 (f1.e.ok : Int), .string f1.e.key, .string f1.e.old, .string f1.e.val] 118) = W at *
  generalize w1.heap.size = g1 at *
  have c0 := cell_of_row W g1 0 _ _ _ (hr1)
  have c1 := cell_of_row W g1 1 _ _ _ (hr1)
  have c2 := cell_of_row W g1 2 _ _ _ (hr1)
  have c3 := cell_of_row W g1 3 _ _ _ (hr1)
  have c4 := cell_of_row W g1 4 _ _ _ (hr1)
  have HRN : Hid (W.rangeAt (g1 + 1) 0 [.int .u8 (f0.st : Int), .int .i64 f0.ix, .int .i64 f0.bx, .int .i64 f0.yb, .int .u8 (f0.e.k : Int), .int .i64 f0.e.cl, .int .i64 f0.e.sq, .int .u8 (f0.e.ok : Int), .string f0.e.key, .string f0.e.old, .string f0.e.val, .int .u8 (f1.st : Int), .int .i64 f1.ix, .int .i64 f1.bx, .int .i64 f1.yb, .int .u8 (f1.e.k : Int), .int .i64 f1.e.cl, .int .i64 f1.e.sq, .int .u8 (f1.e.ok : Int), .string f1.e.key, .string f1.e.old, .string f1.e.val]) := Lib.hid (row_range [.int .u8 (f0.st : Int), .int .i64 f0.ix, .int .i64 f0.bx, .int .i64 f0.yb, .int .u8 (f0.e.k : Int), .int .i64 f0.e.cl, .int .i64 f0.e.sq, .int .u8 (f0.e.ok : Int), .string f0.e.key, .string f0.e.old, .string f0.e.val, .int .u8 (f1.st : Int), .int .i64 f1.ix, .int .i64 f1.bx, .int .i64 f1.yb, .int .u8 (f1.e.k : Int), .int .i64 f1.e.cl, .int .i64 f1.e.sq, .int .u8 (f1.e.ok : Int), .string f1.e.key, .string f1.e.old, .string f1.e.val] hr2 0)
  clear hr1 hr2 hx1
  go_wp2_with (refine wpList_load_mid rfl 118 _ rfl (g1 + 1) 0 rfl [.int .u8 (f0.st : Int), .int .i64 f0.ix, .int .i64 f0.bx, .int .i64 f0.yb, .int .u8 (f0.e.k : Int), .int .i64 f0.e.cl, .int .i64 f0.e.sq, .int .u8 (f0.e.ok : Int), .string f0.e.key, .string f0.e.old, .string f0.e.val, .int .u8 (f1.st : Int), .int .i64 f1.ix, .int .i64 f1.bx, .int .i64 f1.yb, .int .u8 (f1.e.k : Int), .int .i64 f1.e.cl, .int .i64 f1.e.sq, .int .u8 (f1.e.ok : Int), .string f1.e.key, .string f1.e.old, .string f1.e.val] _ HRN.out Tryz.underlying118 rfl HI4.out ?_)
  refine (HW.out W).mono ?_
  rintro e w3 ⟨rfl, hx⟩
  have HX3 := Lib.hid (HX.out.trans hx)
  have hrb := keep_row hx HT.out
  have hrow9 := heap_alloc_new w3 (.cells #[.int .i64 R.ix, .int .u8 (R.st : Int), .int .i64 R.x, .int .i64 R.y, .int .u8 (R.e.k : Int), .int .i64 R.e.cl, .int .i64 R.e.sq, .int .u8 (R.e.ok : Int), .string R.e.key, .string R.e.old, .string R.e.val] 86)
  have hlb := (Array.getElem?_eq_some_iff.1 hrb).1
  clear hx c0 c1 c2 c3 c4 HRN HT HX
  go_upto_region 3 with (fail)
  have hx3 := (Ext.refl w3).alloc (.cells #[.int .i64 R.ix, .int .u8 (R.st : Int), .int .i64 R.x, .int .i64 R.y, .int .u8 (R.e.k : Int), .int .i64 R.e.cl, .int .i64 R.e.sq, .int .u8 (R.e.ok : Int), .string R.e.key, .string R.e.old, .string R.e.val] 86)
  have hrb := keep_row hx3 hrb
  have hx3 := HX3.out.trans hx3
  have hne : b ≠ w3.heap.size := by omega
  generalize w3.alloc (.cells #[.int .i64 R.ix, .int .u8 (R.st : Int), .int .i64 R.x, .int .i64 R.y, .int .u8 (R.e.k : Int), .int .i64 R.e.cl, .int .i64 R.e.sq, .int .u8 (R.e.ok : Int), .string R.e.key, .string R.e.old, .string R.e.val] 86) = V at *
  generalize w3.heap.size = g9 at *
  have HRB := Lib.hid hrb
  have HX3 := Lib.hid hx3
  have HR9 := Lib.hid hrow9
  have HNE := Lib.hid hne
  have hlt := (Array.getElem?_eq_some_iff.1 hrb).1
  have c0 := cell_of_row V g9 0 _ _ _ (HR9.out)
  have c1 := cell_of_row V g9 1 _ _ _ (HR9.out)
  have c2 := cell_of_row V g9 2 _ _ _ (HR9.out)
  have c3 := cell_of_row V g9 3 _ _ _ (HR9.out)
  have c4 := cell_of_row V g9 4 _ _ _ (HR9.out)
  have c5 := cell_of_row V g9 5 _ _ _ (HR9.out)
  have c6 := cell_of_row V g9 6 _ _ _ (HR9.out)
  have c7 := cell_of_row V g9 7 _ _ _ (HR9.out)
  have c8 := cell_of_row V g9 8 _ _ _ (HR9.out)
  have c9 := cell_of_row V g9 9 _ _ _ (HR9.out)
  have c10 := cell_of_row V g9 10 _ _ _ (HR9.out)
  have d0 := cell_of_row V b 0 _ _ _ (HRB.out)
  have d1 := cell_of_row V b 1 _ _ _ (HRB.out)
  have d2 := cell_of_row V b 2 _ _ _ (HRB.out)
  have d3 := cell_of_row V b 3 _ _ _ (HRB.out)
  have d4 := cell_of_row V b 4 _ _ _ (HRB.out)
  have d5 := cell_of_row V b 5 _ _ _ (HRB.out)
  have d6 := cell_of_row V b 6 _ _ _ (HRB.out)
  have d7 := cell_of_row V b 7 _ _ _ (HRB.out)
  have d8 := cell_of_row V b 8 _ _ _ (HRB.out)
  have d9 := cell_of_row V b 9 _ _ _ (HRB.out)
  have d10 := cell_of_row V b 10 _ _ _ (HRB.out)
  have e0 := frozen_of_row V b 0 _ _ (HRB.out)
  have e1 := frozen_of_row V b 1 _ _ (HRB.out)
  have e2 := frozen_of_row V b 2 _ _ (HRB.out)
  have e3 := frozen_of_row V b 3 _ _ (HRB.out)
  have e4 := frozen_of_row V b 4 _ _ (HRB.out)
  have e5 := frozen_of_row V b 5 _ _ (HRB.out)
  have e6 := frozen_of_row V b 6 _ _ (HRB.out)
  have e7 := frozen_of_row V b 7 _ _ (HRB.out)
  have e8 := frozen_of_row V b 8 _ _ (HRB.out)
  have e9 := frozen_of_row V b 9 _ _ (HRB.out)
  have e10 := frozen_of_row V b 10 _ _ (HRB.out)
  clear hrb hx3 hrow9 hlb hne
  go_region
  go_wp2_with fail
  have hrow := row11 (HRB.out) (.int .i64 R.ix) (.int .u8 (R.st : Int)) (.int .i64 R.x) (.int .i64 R.y) (.int .u8 (R.e.k : Int)) (.int .i64 R.e.cl) (.int .i64 R.e.sq) (.int .u8 (R.e.ok : Int)) (.string R.e.key) (.string R.e.old) (.string R.e.val)
  have hx := ext11 (HX3.out) (HZ0.out.2) (.int .i64 R.ix) (.int .u8 (R.st : Int)) (.int .i64 R.x) (.int .i64 R.y) (.int .u8 (R.e.k : Int)) (.int .i64 R.e.cl) (.int .i64 R.e.sq) (.int .u8 (R.e.ok : Int)) (.string R.e.key) (.string R.e.old) (.string R.e.val)
  clear d0 d1 d2 d3 d4 d5 d6 d7 d8 d9 d10 e0 e1 e2 e3 e4 e5 e6 e7 e8 e9 e10
  generalize (((((((((((V.setCell ⟨b, 0, none⟩ (.int .i64 R.ix)).setCell ⟨b, 1, none⟩ (.int .u8 (R.st : Int))).setCell ⟨b, 2, none⟩ (.int .i64 R.x)).setCell ⟨b, 3, none⟩ (.int .i64 R.y)).setCell ⟨b, 4, none⟩ (.int .u8 (R.e.k : Int))).setCell ⟨b, 5, none⟩ (.int .i64 R.e.cl)).setCell ⟨b, 6, none⟩ (.int .i64 R.e.sq)).setCell ⟨b, 7, none⟩ (.int .u8 (R.e.ok : Int))).setCell ⟨b, 8, none⟩ (.string R.e.key)).setCell ⟨b, 9, none⟩ (.string R.e.old)).setCell ⟨b, 10, none⟩ (.string R.e.val)) = U at hrow hx ⊢
  obtain ⟨⟨c0, c1, c2, c3, c4, c5, c6, c7, c8, c9, c10⟩, _⟩ := free11W (w := U.drew) hrow
  refine bodyPost_ret (v := .tuple #[.int .u8 (C : Int), .agg #[.int .i64 R.ix, .int .u8 (R.st : Int), .int .i64 R.x, .int .i64 R.y, .int .u8 (R.e.k : Int), .int .i64 R.e.cl, .int .i64 R.e.sq, .int .u8 (R.e.ok : Int), .string R.e.key, .string R.e.old, .string R.e.val]]) (by simp [results, Tryz.results128, go_sem, c0, c1, c2, c3, c4, c5, c6, c7, c8, c9, c10]) rfl ?_
  exact ⟨rfl, Below.drew hx⟩
def DM.lkE (m : DM) (s : Nat) (i : Int) : Int := orI (liveE s i) (upE m)
def DM.lkC (m : DM) (s : Nat) (r i : Int) : Nat := if m.lkE s i = 0 then m.clsW r i else 0
def DM.lkR (m : DM) (s : Nat) (r i : Int) : Rpt := if m.lkE s i = 0 then m.rptW r i else {}
theorem lkE_zero {m : DM} {s : Nat} {i : Int} : m.lkE s i = 0 ↔ ((s : Int) + 1 ≤ i ∧ i ≤ (s : Int) + 24) ∧ m.up = true := by
  unfold DM.lkE orI liveE upE
  by_cases h1 : (s : Int) + 1 ≤ i ∧ i ≤ (s : Int) + 24 <;> by_cases h2 : m.up = true <;> simp [h1, h2]
theorem recM_st (m : DM) (r q : Int) : (m.recM r q).st ≤ 2 := recQ_st _ _ _
theorem copM_st (m : DM) (r q : Int) : (m.copM r q).st ≤ 2 := copQ_st _ _ _
section
variable {w : World} {g d s : Nat} {r inc : Int} {F : Nat → Prop} {m : DM}
theorem wwhat_of (h : LogAt w g d r inc s) (hd : PDisk w d F m) (hL : LaidF w) (hLS : LaidS w) (i : Nat) (h1 : 1 ≤ i) (h2 : i ≤ 2000000000000) (hfew : m.waits.length ≤ 1000000) :
    Calls Tryz.prog 128 #[.pointer (some ⟨g, 0, none⟩), .int .i64 (i : Int)] w fun e w' => e = .returned (.tuple #[.int .u8 (m.clsW r i : Nat), .agg #[.int .i64 (m.rptW r i).ix, .int .u8 ((m.rptW r i).st : Int), .int .i64 (m.rptW r i).x, .int .i64 (m.rptW r i).y, .int .u8 ((m.rptW r i).e.k : Int), .int .i64 (m.rptW r i).e.cl, .int .i64 (m.rptW r i).e.sq, .int .u8 ((m.rptW r i).e.ok : Int), .string (m.rptW r i).e.key, .string (m.rptW r i).e.old, .string (m.rptW r i).e.val]]) ∧ Ext w w' :=
  wwhat_core g i _ _ _ (m.clsW r i) (m.rptW r i) ⟨_, fun V => what_of (m.recM r (placeW (i : Int))) (m.copM r (2 * placeW (i : Int))) (m.copM r (2 * placeW (i : Int) + 1)) (i : Int) V (recM_st _ _ _) (copM_st _ _ _) (copM_st _ _ _) (recQ_wh _ _ _)⟩
    (fun _ hV => wread_of (h.ext hV) (hd.ext hV) (hL.ext hV) (hLS.ext hV) i h1 h2 hfew)
set_option maxRecDepth 100000 in
set_option maxHeartbeats 1200000 in
theorem wlook_core (p : Option Addr) (i : Int) (a b : Int) (C : Nat) (R : Rpt) (hk : ∀ V, Ext w V → Calls Tryz.prog 45 #[.pointer p, .int .i64 i] V fun e w' => e = .returned (.int .i64 a) ∧ Ext V w')
    (hr : ∀ V, Ext w V → Calls Tryz.prog 46 #[.pointer p] V fun e w' => e = .returned (.int .i64 b) ∧ V = w')
    (hc : orI a b = 0 → ∀ V, Ext w V → Calls Tryz.prog 128 #[.pointer p, .int .i64 i] V fun e w' => e = .returned (.tuple #[.int .u8 (C : Int), .agg #[.int .i64 R.ix, .int .u8 (R.st : Int), .int .i64 R.x, .int .i64 R.y, .int .u8 (R.e.k : Int), .int .i64 R.e.cl, .int .i64 R.e.sq, .int .u8 (R.e.ok : Int), .string R.e.key, .string R.e.old, .string R.e.val]]) ∧ Ext V w')
    (h0 : orI a b ≠ 0 → C = 0 ∧ R = {}) :
    Calls Tryz.prog 77 #[.pointer p, .int .i64 i] w fun e w' => e = .returned (.tuple #[.int .u8 (C : Int), .agg #[.int .i64 R.ix, .int .u8 (R.st : Int), .int .i64 R.x, .int .i64 R.y, .int .u8 (R.e.k : Int), .int .i64 R.e.cl, .int .i64 R.e.sq, .int .u8 (R.e.ok : Int), .string R.e.key, .string R.e.old, .string R.e.val], .int .i64 (orI a b)]) ∧ Ext w w' := by
  have HK := Lib.hid hk
  have HR := Lib.hid hr
  have HC := Lib.hid hc
  have H0 := Lib.hid h0
  obtain ⟨bb, w0, hw0, hE0, hT0, hz0w⟩ : ∃ (bb : Nat) (w0 : World), (bb = w.heap.size ∧ w0 = w.alloc (.cells #[.int .i64 0, .int .u8 0, .int .i64 0, .int .i64 0, .int .u8 0, .int .i64 0, .int .i64 0, .int .u8 0, .string ⟨#[]⟩, .string ⟨#[]⟩, .string ⟨#[]⟩] 86)) ∧ Ext w w0 ∧ w0.heap[bb]? = some (.cells #[.int .i64 0, .int .u8 0, .int .i64 0, .int .i64 0, .int .u8 0, .int .i64 0, .int .i64 0, .int .u8 0, .string ⟨#[]⟩, .string ⟨#[]⟩, .string ⟨#[]⟩] 86 (0, 0)) ∧ (w0.heap.size = bb + 1 ∧ w.heap.size ≤ bb) :=
    ⟨_, _, ⟨rfl, rfl⟩, (Ext.refl w).alloc _, heap_alloc_new w _, by simp, Nat.le_refl _⟩
  have HE0 := Lib.hid hE0
  have HT0 := Lib.hid hT0
  have HZ0 := Lib.hid hz0w
  clear hk hr hc h0 hE0 hT0 hz0w
  go_enter Tryz.func77, Tryz.ntmps77
  go_wp2_with fail
  rw [← hw0.1, ← hw0.2]
  clear hw0
  refine (HK.out _ HE0.out).mono ?_
  rintro e w1 ⟨rfl, hx⟩
  have HX := Lib.hid (HE0.out.trans hx)
  have HT := Lib.hid (keep_row hx HT0.out)
  clear hx HE0 HT0
  go_wp2_with fail
  refine (HR.out _ HX.out).mono ?_
  rintro e w2 ⟨rfl, rfl⟩
  go_wp2_with fail
  have hro := heap_alloc_new w1 (.cells #[.int .i64 a, .int .i64 b] 25)
  have hxo := (Ext.refl w1).alloc (.cells #[.int .i64 a, .int .i64 b] 25)
  refine (or2E w1.heap.size 2 a b _ (cell_of_row _ _ 0 _ _ _ hro) (cell_of_row _ _ 1 _ _ _ hro)).mono ?_
  rintro e w3 ⟨rfl, rfl⟩
  have HX := Lib.hid (HX.out.trans hxo)
  have HT := Lib.hid (keep_row hxo HT.out)
  clear hro hxo
  generalize w1.alloc (.cells #[.int .i64 a, .int .i64 b] 25) = W at *
  obtain ⟨E, hE⟩ : ∃ E, orI a b = E := ⟨_, rfl⟩
  rw [hE] at HC H0
  by_cases hz : E = 0
  · subst hz
    have HEQ := Lib.hid hE
    rw [hE]
    clear hE
    go_wp2_with fail
    refine (HC.out (by first | rfl | trivial) _ HX.out).mono ?_
    rintro e w4 ⟨rfl, hx⟩
    have HX := Lib.hid (HX.out.trans hx)
    have HT := Lib.hid (keep_row hx HT.out)
    have hlt := (Array.getElem?_eq_some_iff.1 HT.out).1
    clear hx
    have d0 := cell_of_row w4 bb 0 _ _ _ (HT.out)
    have d1 := cell_of_row w4 bb 1 _ _ _ (HT.out)
    have d2 := cell_of_row w4 bb 2 _ _ _ (HT.out)
    have d3 := cell_of_row w4 bb 3 _ _ _ (HT.out)
    have d4 := cell_of_row w4 bb 4 _ _ _ (HT.out)
    have d5 := cell_of_row w4 bb 5 _ _ _ (HT.out)
    have d6 := cell_of_row w4 bb 6 _ _ _ (HT.out)
    have d7 := cell_of_row w4 bb 7 _ _ _ (HT.out)
    have d8 := cell_of_row w4 bb 8 _ _ _ (HT.out)
    have d9 := cell_of_row w4 bb 9 _ _ _ (HT.out)
    have d10 := cell_of_row w4 bb 10 _ _ _ (HT.out)
    have e0 := frozen_of_row w4 bb 0 _ _ (HT.out)
    have e1 := frozen_of_row w4 bb 1 _ _ (HT.out)
    have e2 := frozen_of_row w4 bb 2 _ _ (HT.out)
    have e3 := frozen_of_row w4 bb 3 _ _ (HT.out)
    have e4 := frozen_of_row w4 bb 4 _ _ (HT.out)
    have e5 := frozen_of_row w4 bb 5 _ _ (HT.out)
    have e6 := frozen_of_row w4 bb 6 _ _ (HT.out)
    have e7 := frozen_of_row w4 bb 7 _ _ (HT.out)
    have e8 := frozen_of_row w4 bb 8 _ _ (HT.out)
    have e9 := frozen_of_row w4 bb 9 _ _ (HT.out)
    have e10 := frozen_of_row w4 bb 10 _ _ (HT.out)
    go_upto_region 5 with (fail)
    have hrb := row11 HT.out (.int .i64 R.ix) (.int .u8 (R.st : Int)) (.int .i64 R.x) (.int .i64 R.y) (.int .u8 (R.e.k : Int)) (.int .i64 R.e.cl) (.int .i64 R.e.sq) (.int .u8 (R.e.ok : Int)) (.string R.e.key) (.string R.e.old) (.string R.e.val)
    have hx := ext11 HX.out HZ0.out.2 (.int .i64 R.ix) (.int .u8 (R.st : Int)) (.int .i64 R.x) (.int .i64 R.y) (.int .u8 (R.e.k : Int)) (.int .i64 R.e.cl) (.int .i64 R.e.sq) (.int .u8 (R.e.ok : Int)) (.string R.e.key) (.string R.e.old) (.string R.e.val)
    clear d0 d1 d2 d3 d4 d5 d6 d7 d8 d9 d10 e0 e1 e2 e3 e4 e5 e6 e7 e8 e9 e10 hlt
    generalize (((((((((((w4.setCell ⟨bb, 0, none⟩ (.int .i64 R.ix)).setCell ⟨bb, 1, none⟩ (.int .u8 (R.st : Int))).setCell ⟨bb, 2, none⟩ (.int .i64 R.x)).setCell ⟨bb, 3, none⟩ (.int .i64 R.y)).setCell ⟨bb, 4, none⟩ (.int .u8 (R.e.k : Int))).setCell ⟨bb, 5, none⟩ (.int .i64 R.e.cl)).setCell ⟨bb, 6, none⟩ (.int .i64 R.e.sq)).setCell ⟨bb, 7, none⟩ (.int .u8 (R.e.ok : Int))).setCell ⟨bb, 8, none⟩ (.string R.e.key)).setCell ⟨bb, 9, none⟩ (.string R.e.old)).setCell ⟨bb, 10, none⟩ (.string R.e.val)) = V at hrb hx ⊢
    have HRB := Lib.hid hrb
    have HX3 := Lib.hid hx
    have hlt := (Array.getElem?_eq_some_iff.1 hrb).1
    clear hrb hx
    have d0 := cell_of_row V bb 0 _ _ _ (HRB.out)
    have d1 := cell_of_row V bb 1 _ _ _ (HRB.out)
    have d2 := cell_of_row V bb 2 _ _ _ (HRB.out)
    have d3 := cell_of_row V bb 3 _ _ _ (HRB.out)
    have d4 := cell_of_row V bb 4 _ _ _ (HRB.out)
    have d5 := cell_of_row V bb 5 _ _ _ (HRB.out)
    have d6 := cell_of_row V bb 6 _ _ _ (HRB.out)
    have d7 := cell_of_row V bb 7 _ _ _ (HRB.out)
    have d8 := cell_of_row V bb 8 _ _ _ (HRB.out)
    have d9 := cell_of_row V bb 9 _ _ _ (HRB.out)
    have d10 := cell_of_row V bb 10 _ _ _ (HRB.out)
    have e0 := frozen_of_row V bb 0 _ _ (HRB.out)
    have e1 := frozen_of_row V bb 1 _ _ (HRB.out)
    have e2 := frozen_of_row V bb 2 _ _ (HRB.out)
    have e3 := frozen_of_row V bb 3 _ _ (HRB.out)
    have e4 := frozen_of_row V bb 4 _ _ (HRB.out)
    have e5 := frozen_of_row V bb 5 _ _ (HRB.out)
    have e6 := frozen_of_row V bb 6 _ _ (HRB.out)
    have e7 := frozen_of_row V bb 7 _ _ (HRB.out)
    have e8 := frozen_of_row V bb 8 _ _ (HRB.out)
    have e9 := frozen_of_row V bb 9 _ _ (HRB.out)
    have e10 := frozen_of_row V bb 10 _ _ (HRB.out)
    go_region
    go_wp2_with fail
    have hrow := row11 (HRB.out) (.int .i64 R.ix) (.int .u8 (R.st : Int)) (.int .i64 R.x) (.int .i64 R.y) (.int .u8 (R.e.k : Int)) (.int .i64 R.e.cl) (.int .i64 R.e.sq) (.int .u8 (R.e.ok : Int)) (.string R.e.key) (.string R.e.old) (.string R.e.val)
    have hx := ext11 (HX3.out) (HZ0.out.2) (.int .i64 R.ix) (.int .u8 (R.st : Int)) (.int .i64 R.x) (.int .i64 R.y) (.int .u8 (R.e.k : Int)) (.int .i64 R.e.cl) (.int .i64 R.e.sq) (.int .u8 (R.e.ok : Int)) (.string R.e.key) (.string R.e.old) (.string R.e.val)
    clear d0 d1 d2 d3 d4 d5 d6 d7 d8 d9 d10 e0 e1 e2 e3 e4 e5 e6 e7 e8 e9 e10
    generalize (((((((((((V.setCell ⟨bb, 0, none⟩ (.int .i64 R.ix)).setCell ⟨bb, 1, none⟩ (.int .u8 (R.st : Int))).setCell ⟨bb, 2, none⟩ (.int .i64 R.x)).setCell ⟨bb, 3, none⟩ (.int .i64 R.y)).setCell ⟨bb, 4, none⟩ (.int .u8 (R.e.k : Int))).setCell ⟨bb, 5, none⟩ (.int .i64 R.e.cl)).setCell ⟨bb, 6, none⟩ (.int .i64 R.e.sq)).setCell ⟨bb, 7, none⟩ (.int .u8 (R.e.ok : Int))).setCell ⟨bb, 8, none⟩ (.string R.e.key)).setCell ⟨bb, 9, none⟩ (.string R.e.old)).setCell ⟨bb, 10, none⟩ (.string R.e.val)) = U at hrow hx ⊢
    obtain ⟨⟨c0, c1, c2, c3, c4, c5, c6, c7, c8, c9, c10⟩, _⟩ := free11W (w := U.drew) hrow
    refine bodyPost_ret (v := .tuple #[.int .u8 (C : Int), .agg #[.int .i64 R.ix, .int .u8 (R.st : Int), .int .i64 R.x, .int .i64 R.y, .int .u8 (R.e.k : Int), .int .i64 R.e.cl, .int .i64 R.e.sq, .int .u8 (R.e.ok : Int), .string R.e.key, .string R.e.old, .string R.e.val], .int .i64 0]) (by simp [results, Tryz.results77, go_sem, c0, c1, c2, c3, c4, c5, c6, c7, c8, c9, c10]) rfl ?_
    exact ⟨by rw [HEQ.out], Below.drew hx⟩
  · obtain ⟨hC, hR⟩ := H0.out hz
    subst hC hR
    have HEQ := Lib.hid hE
    rw [hE]
    have hne : (E != 0) = true := by simpa using hz
    clear hz hE
    have d0 := cell_of_row W bb 0 _ _ _ (HT.out)
    have d1 := cell_of_row W bb 1 _ _ _ (HT.out)
    have d2 := cell_of_row W bb 2 _ _ _ (HT.out)
    have d3 := cell_of_row W bb 3 _ _ _ (HT.out)
    have d4 := cell_of_row W bb 4 _ _ _ (HT.out)
    have d5 := cell_of_row W bb 5 _ _ _ (HT.out)
    have d6 := cell_of_row W bb 6 _ _ _ (HT.out)
    have d7 := cell_of_row W bb 7 _ _ _ (HT.out)
    have d8 := cell_of_row W bb 8 _ _ _ (HT.out)
    have d9 := cell_of_row W bb 9 _ _ _ (HT.out)
    have d10 := cell_of_row W bb 10 _ _ _ (HT.out)
    have e0 := frozen_of_row W bb 0 _ _ (HT.out)
    have e1 := frozen_of_row W bb 1 _ _ (HT.out)
    have e2 := frozen_of_row W bb 2 _ _ (HT.out)
    have e3 := frozen_of_row W bb 3 _ _ (HT.out)
    have e4 := frozen_of_row W bb 4 _ _ (HT.out)
    have e5 := frozen_of_row W bb 5 _ _ (HT.out)
    have e6 := frozen_of_row W bb 6 _ _ (HT.out)
    have e7 := frozen_of_row W bb 7 _ _ (HT.out)
    have e8 := frozen_of_row W bb 8 _ _ (HT.out)
    have e9 := frozen_of_row W bb 9 _ _ (HT.out)
    have e10 := frozen_of_row W bb 10 _ _ (HT.out)
    have hlt := (Array.getElem?_eq_some_iff.1 HT.out).1
    go_wp2_with fail
    have hrow := row11 (HT.out) (.int .i64 0) (.int .u8 0) (.int .i64 0) (.int .i64 0) (.int .u8 0) (.int .i64 0) (.int .i64 0) (.int .u8 0) (.string ⟨#[]⟩) (.string ⟨#[]⟩) (.string ⟨#[]⟩)
    have hx := ext11 (HX.out) (HZ0.out.2) (.int .i64 0) (.int .u8 0) (.int .i64 0) (.int .i64 0) (.int .u8 0) (.int .i64 0) (.int .i64 0) (.int .u8 0) (.string ⟨#[]⟩) (.string ⟨#[]⟩) (.string ⟨#[]⟩)
    clear d0 d1 d2 d3 d4 d5 d6 d7 d8 d9 d10 e0 e1 e2 e3 e4 e5 e6 e7 e8 e9 e10
    generalize (((((((((((W.setCell ⟨bb, 0, none⟩ (.int .i64 0)).setCell ⟨bb, 1, none⟩ (.int .u8 0)).setCell ⟨bb, 2, none⟩ (.int .i64 0)).setCell ⟨bb, 3, none⟩ (.int .i64 0)).setCell ⟨bb, 4, none⟩ (.int .u8 0)).setCell ⟨bb, 5, none⟩ (.int .i64 0)).setCell ⟨bb, 6, none⟩ (.int .i64 0)).setCell ⟨bb, 7, none⟩ (.int .u8 0)).setCell ⟨bb, 8, none⟩ (.string ⟨#[]⟩)).setCell ⟨bb, 9, none⟩ (.string ⟨#[]⟩)).setCell ⟨bb, 10, none⟩ (.string ⟨#[]⟩)) = U at hrow hx ⊢
    obtain ⟨⟨c0, c1, c2, c3, c4, c5, c6, c7, c8, c9, c10⟩, _⟩ := free11W (w := U) hrow
    refine bodyPost_ret (v := .tuple #[.int .u8 0, .agg #[.int .i64 0, .int .u8 0, .int .i64 0, .int .i64 0, .int .u8 0, .int .i64 0, .int .i64 0, .int .u8 0, .string ⟨#[]⟩, .string ⟨#[]⟩, .string ⟨#[]⟩], .int .i64 E]) (by simp [results, Tryz.results77, go_sem, c0, c1, c2, c3, c4, c5, c6, c7, c8, c9, c10]) rfl ?_
    exact ⟨by rw [HEQ.out]; rfl, hx⟩
end
end Go.Proofs.YtnlappoocffcpaaGreatDoor

namespace Go.Proofs.YtnlappoocffcpaaGreatDoor
set_option maxRecDepth 100000
open Go Go.RowKit
section
variable {w : World}
set_option maxRecDepth 100000 in
set_option maxHeartbeats 800000 in
theorem wget_core (p : Option Addr) (i E : Int) (C : Nat) (R : Rpt) (hl : ∀ V, Ext w V → Calls Tryz.prog 77 #[.pointer p, .int .i64 i] V fun e w' => e = .returned (.tuple #[.int .u8 (C : Int), .agg #[.int .i64 R.ix, .int .u8 (R.st : Int), .int .i64 R.x, .int .i64 R.y, .int .u8 (R.e.k : Int), .int .i64 R.e.cl, .int .i64 R.e.sq, .int .u8 (R.e.ok : Int), .string R.e.key, .string R.e.old, .string R.e.val], .int .i64 E]) ∧ Ext V w') :
    Calls Tryz.prog 29 #[.pointer p, .int .i64 i] w fun e w' => e = .returned (.tuple #[.agg #[.int .i64 R.ix, .int .u8 (R.st : Int), .int .i64 R.x, .int .i64 R.y, .int .u8 (R.e.k : Int), .int .i64 R.e.cl, .int .i64 R.e.sq, .int .u8 (R.e.ok : Int), .string R.e.key, .string R.e.old, .string R.e.val], .int .i64 E]) ∧ Ext w w' := by
  have HL := Lib.hid hl
  obtain ⟨b, w0, hw0, hE0, hT0, hz0w⟩ : ∃ (b : Nat) (w0 : World), (b = w.heap.size ∧ w0 = w.alloc (.cells #[.int .i64 0, .int .u8 0, .int .i64 0, .int .i64 0, .int .u8 0, .int .i64 0, .int .i64 0, .int .u8 0, .string ⟨#[]⟩, .string ⟨#[]⟩, .string ⟨#[]⟩] 86)) ∧ Ext w w0 ∧ w0.heap[b]? = some (.cells #[.int .i64 0, .int .u8 0, .int .i64 0, .int .i64 0, .int .u8 0, .int .i64 0, .int .i64 0, .int .u8 0, .string ⟨#[]⟩, .string ⟨#[]⟩, .string ⟨#[]⟩] 86 (0, 0)) ∧ (w0.heap.size = b + 1 ∧ w.heap.size ≤ b) :=
    ⟨_, _, ⟨rfl, rfl⟩, (Ext.refl w).alloc _, heap_alloc_new w _, by simp, Nat.le_refl _⟩
  have HE0 := Lib.hid hE0
  have HT0 := Lib.hid hT0
  have HZ0 := Lib.hid hz0w
  clear hl hE0 hT0 hz0w
  go_enter Tryz.func29, Tryz.ntmps29
  go_wp2_with fail
  rw [← hw0.1, ← hw0.2]
  clear hw0
  refine (HL.out _ HE0.out).mono ?_
  rintro e w1 ⟨rfl, hx⟩
  have HX := Lib.hid (HE0.out.trans hx)
  have HT := Lib.hid (keep_row hx HT0.out)
  clear hx HE0 HT0
  go_upto_region 2 with (fail)
  have hr9 := heap_alloc_new w1 (.cells #[.int .i64 R.ix, .int .u8 (R.st : Int), .int .i64 R.x, .int .i64 R.y, .int .u8 (R.e.k : Int), .int .i64 R.e.cl, .int .i64 R.e.sq, .int .u8 (R.e.ok : Int), .string R.e.key, .string R.e.old, .string R.e.val] 86)
  have hx9 := (Ext.refl w1).alloc (.cells #[.int .i64 R.ix, .int .u8 (R.st : Int), .int .i64 R.x, .int .i64 R.y, .int .u8 (R.e.k : Int), .int .i64 R.e.cl, .int .i64 R.e.sq, .int .u8 (R.e.ok : Int), .string R.e.key, .string R.e.old, .string R.e.val] 86)
  have HX := Lib.hid (HX.out.trans hx9)
  have HT := Lib.hid (keep_row hx9 HT.out)
  generalize w1.alloc (.cells #[.int .i64 R.ix, .int .u8 (R.st : Int), .int .i64 R.x, .int .i64 R.y, .int .u8 (R.e.k : Int), .int .i64 R.e.cl, .int .i64 R.e.sq, .int .u8 (R.e.ok : Int), .string R.e.key, .string R.e.old, .string R.e.val] 86) = V at *
  generalize w1.heap.size = g9 at *
  have HR9 := Lib.hid hr9
  have hlt := (Array.getElem?_eq_some_iff.1 HT.out).1
  clear hr9 hx9
  have c0 := cell_of_row V g9 0 _ _ _ (HR9.out)
  have c1 := cell_of_row V g9 1 _ _ _ (HR9.out)
  have c2 := cell_of_row V g9 2 _ _ _ (HR9.out)
  have c3 := cell_of_row V g9 3 _ _ _ (HR9.out)
  have c4 := cell_of_row V g9 4 _ _ _ (HR9.out)
  have c5 := cell_of_row V g9 5 _ _ _ (HR9.out)
  have c6 := cell_of_row V g9 6 _ _ _ (HR9.out)
  have c7 := cell_of_row V g9 7 _ _ _ (HR9.out)
  have c8 := cell_of_row V g9 8 _ _ _ (HR9.out)
  have c9 := cell_of_row V g9 9 _ _ _ (HR9.out)
  have c10 := cell_of_row V g9 10 _ _ _ (HR9.out)
  have d0 := cell_of_row V b 0 _ _ _ (HT.out)
  have d1 := cell_of_row V b 1 _ _ _ (HT.out)
  have d2 := cell_of_row V b 2 _ _ _ (HT.out)
  have d3 := cell_of_row V b 3 _ _ _ (HT.out)
  have d4 := cell_of_row V b 4 _ _ _ (HT.out)
  have d5 := cell_of_row V b 5 _ _ _ (HT.out)
  have d6 := cell_of_row V b 6 _ _ _ (HT.out)
  have d7 := cell_of_row V b 7 _ _ _ (HT.out)
  have d8 := cell_of_row V b 8 _ _ _ (HT.out)
  have d9 := cell_of_row V b 9 _ _ _ (HT.out)
  have d10 := cell_of_row V b 10 _ _ _ (HT.out)
  have e0 := frozen_of_row V b 0 _ _ (HT.out)
  have e1 := frozen_of_row V b 1 _ _ (HT.out)
  have e2 := frozen_of_row V b 2 _ _ (HT.out)
  have e3 := frozen_of_row V b 3 _ _ (HT.out)
  have e4 := frozen_of_row V b 4 _ _ (HT.out)
  have e5 := frozen_of_row V b 5 _ _ (HT.out)
  have e6 := frozen_of_row V b 6 _ _ (HT.out)
  have e7 := frozen_of_row V b 7 _ _ (HT.out)
  have e8 := frozen_of_row V b 8 _ _ (HT.out)
  have e9 := frozen_of_row V b 9 _ _ (HT.out)
  have e10 := frozen_of_row V b 10 _ _ (HT.out)
  go_wp2_with fail
  have hrow := row11 HT.out (.int .i64 R.ix) (.int .u8 (R.st : Int)) (.int .i64 R.x) (.int .i64 R.y) (.int .u8 (R.e.k : Int)) (.int .i64 R.e.cl) (.int .i64 R.e.sq) (.int .u8 (R.e.ok : Int)) (.string R.e.key) (.string R.e.old) (.string R.e.val)
  have hx := ext11 HX.out HZ0.out.2 (.int .i64 R.ix) (.int .u8 (R.st : Int)) (.int .i64 R.x) (.int .i64 R.y) (.int .u8 (R.e.k : Int)) (.int .i64 R.e.cl) (.int .i64 R.e.sq) (.int .u8 (R.e.ok : Int)) (.string R.e.key) (.string R.e.old) (.string R.e.val)
  clear d0 d1 d2 d3 d4 d5 d6 d7 d8 d9 d10 c0 c1 c2 c3 c4 c5 c6 c7 c8 c9 c10 e0 e1 e2 e3 e4 e5 e6 e7 e8 e9 e10 hlt
  generalize (((((((((((V.setCell ⟨b, 0, none⟩ (.int .i64 R.ix)).setCell ⟨b, 1, none⟩ (.int .u8 (R.st : Int))).setCell ⟨b, 2, none⟩ (.int .i64 R.x)).setCell ⟨b, 3, none⟩ (.int .i64 R.y)).setCell ⟨b, 4, none⟩ (.int .u8 (R.e.k : Int))).setCell ⟨b, 5, none⟩ (.int .i64 R.e.cl)).setCell ⟨b, 6, none⟩ (.int .i64 R.e.sq)).setCell ⟨b, 7, none⟩ (.int .u8 (R.e.ok : Int))).setCell ⟨b, 8, none⟩ (.string R.e.key)).setCell ⟨b, 9, none⟩ (.string R.e.old)).setCell ⟨b, 10, none⟩ (.string R.e.val)) = U at hrow hx ⊢
  obtain ⟨⟨c0, c1, c2, c3, c4, c5, c6, c7, c8, c9, c10⟩, _⟩ := free11W hrow
  refine bodyPost_ret (v := .tuple #[.agg #[.int .i64 R.ix, .int .u8 (R.st : Int), .int .i64 R.x, .int .i64 R.y, .int .u8 (R.e.k : Int), .int .i64 R.e.cl, .int .i64 R.e.sq, .int .u8 (R.e.ok : Int), .string R.e.key, .string R.e.old, .string R.e.val], .int .i64 E]) (by simp [results, Tryz.results29, go_sem, c0, c1, c2, c3, c4, c5, c6, c7, c8, c9, c10]) rfl ?_
  exact ⟨rfl, hx⟩
end
section
variable {w : World} {g d s : Nat} {r inc : Int} {F : Nat → Prop} {m : DM}
theorem wlook_of (h : LogAt w g d r inc s) (hd : PDisk w d F m) (hL : LaidF w) (hLS : LaidS w) (hs : s ≤ 1900000000000) (i : Int) (hfew : m.waits.length ≤ 1000000) :
    Calls Tryz.prog 77 #[.pointer (some ⟨g, 0, none⟩), .int .i64 i] w fun e w' => e = .returned (.tuple #[.int .u8 (m.lkC s r i : Nat), .agg #[.int .i64 (m.lkR s r i).ix, .int .u8 ((m.lkR s r i).st : Int), .int .i64 (m.lkR s r i).x, .int .i64 (m.lkR s r i).y, .int .u8 ((m.lkR s r i).e.k : Int), .int .i64 (m.lkR s r i).e.cl, .int .i64 (m.lkR s r i).e.sq, .int .u8 ((m.lkR s r i).e.ok : Int), .string (m.lkR s r i).e.key, .string (m.lkR s r i).e.old, .string (m.lkR s r i).e.val], .int .i64 (m.lkE s i)]) ∧ Ext w w' := by
  refine wlook_core (some ⟨g, 0, none⟩) i (liveE s i) (upE m) (m.lkC s r i) (m.lkR s r i) (fun V hV => wknown_of (h.ext hV) (by omega) i) (fun V hV => wrunning_of (h.ext hV) (hd.ext hV)) (fun h0 V hV => ?_) (fun h0 => ?_)
  · have hl := lkE_zero.1 h0
    have e1 : m.lkC s r i = m.clsW r i := if_pos h0
    have e2 : m.lkR s r i = m.rptW r i := if_pos h0
    obtain ⟨n, rfl⟩ := Int.eq_ofNat_of_zero_le (show 0 ≤ i by omega)
    rw [e1, e2]
    exact wwhat_of (h.ext hV) (hd.ext hV) (hL.ext hV) (hLS.ext hV) n (by omega) (by omega) hfew
  · exact ⟨if_neg h0, if_neg h0⟩
theorem wget_of (h : LogAt w g d r inc s) (hd : PDisk w d F m) (hL : LaidF w) (hLS : LaidS w) (hs : s ≤ 1900000000000) (i : Int) (hfew : m.waits.length ≤ 1000000) :
    Calls Tryz.prog 29 #[.pointer (some ⟨g, 0, none⟩), .int .i64 i] w fun e w' => e = .returned (.tuple #[.agg #[.int .i64 (m.lkR s r i).ix, .int .u8 ((m.lkR s r i).st : Int), .int .i64 (m.lkR s r i).x, .int .i64 (m.lkR s r i).y, .int .u8 ((m.lkR s r i).e.k : Int), .int .i64 (m.lkR s r i).e.cl, .int .i64 (m.lkR s r i).e.sq, .int .u8 ((m.lkR s r i).e.ok : Int), .string (m.lkR s r i).e.key, .string (m.lkR s r i).e.old, .string (m.lkR s r i).e.val], .int .i64 (m.lkE s i)]) ∧ Ext w w' :=
  wget_core _ i _ _ _ fun _ hV => wlook_of (h.ext hV) (hd.ext hV) (hL.ext hV) (hLS.ext hV) hs i hfew
end
end Go.Proofs.YtnlappoocffcpaaGreatDoor

namespace Go.Proofs.YtnlappoocffcpaaGreatDoor
set_option maxRecDepth 100000
def unE (x : Int × DM) (f : DM → Int × DM) : Int × DM := if x.1 = 0 then f x.2 else x
def wrsE (x : Int × DM) (S : Int) (L : List Nat) : Nat → Int × DM
  | 0 => x
  | k + 1 => unE (wrsE x S L k) fun m => m.write (S + (k : Int)) ((L.drop (64 * k)).take 64)
def wrfE (x : Int × DM) (S : Int) (L : List Nat) (W : Nat) : Int × DM := unE (wrsE x S L W) DM.flush
theorem wrs_err {E : Int} {m : DM} (h : E ≠ 0) (S : Int) (L : List Nat) : ∀ W, wrsE (E, m) S L W = (E, m)
  | 0 => rfl
  | k + 1 => by
    show unE (wrsE (E, m) S L k) _ = _
    rw [wrs_err h S L k]
    exact if_neg h
theorem wrf_err {E : Int} {m : DM} (h : E ≠ 0) (S : Int) (L : List Nat) (W : Nat) : wrfE (E, m) S L W = (E, m) := by
  unfold wrfE
  rw [wrs_err h]
  exact if_neg h
theorem wrf_one (m : DM) (S : Int) {L : List Nat} (hL : L.length = 64) : wrfE (0, m) S L 1 = m.putC S L := by
  have h1 : (L.drop (64 * 0)).take 64 = L := by rw [Nat.mul_zero, List.drop_zero, List.take_of_length_le (by omega)]
  have h2 : wrsE (0, m) S L 1 = m.write S L := by
    show unE (0, m) _ = _
    unfold unE
    rw [if_pos rfl]
    simp only
    rw [h1, Int.natCast_zero, Int.add_zero]
  unfold wrfE DM.putC
  rw [h2]
  unfold unE
  by_cases h : (m.write S L).1 = 0
  · rw [if_pos h, if_neg (by simp [h])]
  · rw [if_neg h, if_pos h]
theorem wrf_two (m : DM) (S : Int) {L : List Nat} (hL : L.length = 128) : wrfE (0, m) S L 2 = m.put2C S L := by
  have h0 : (L.drop (64 * 0)).take 64 = L.take 64 := by rw [Nat.mul_zero, List.drop_zero]
  have h1 : (L.drop (64 * 1)).take 64 = L.drop 64 := by rw [List.take_of_length_le (by rw [List.length_drop]; omega)]
  have h2 : wrsE (0, m) S L 1 = m.write S (L.take 64) := by
    show unE (0, m) _ = _
    unfold unE
    rw [if_pos rfl]
    simp only
    rw [h0, Int.natCast_zero, Int.add_zero]
  have h3 : wrsE (0, m) S L 2 = unE (m.write S (L.take 64)) fun m => m.write (S + 1) (L.drop 64) := by
    show unE (wrsE (0, m) S L 1) _ = _
    rw [h2, h1]
    rfl
  unfold wrfE DM.put2C
  rw [h3]
  by_cases h : (m.write S (L.take 64)).1 = 0
  · rw [if_neg (by simp [h])]
    have h4 : unE (m.write S (L.take 64)) (fun m => m.write (S + 1) (L.drop 64)) = (m.write S (L.take 64)).2.write (S + 1) (L.drop 64) := if_pos h
    rw [h4]
    unfold unE
    by_cases h5 : ((m.write S (L.take 64)).2.write (S + 1) (L.drop 64)).1 = 0
    · rw [if_pos h5, if_neg (by simp [h5])]
    · rw [if_neg h5, if_pos h5]
  · rw [if_pos h]
    have h4 : unE (m.write S (L.take 64)) (fun m => m.write (S + 1) (L.drop 64)) = m.write S (L.take 64) := if_neg h
    rw [h4]
    exact if_neg h
def twoE (m : DM) (r inc i q k x y : Int) (e : Ent) : Int × DM := wrfE (wrfE (0, m) (firstS 4 (2 * q + k)) (frmW r inc i (2 * q + k) x y e) 2) (firstS 3 q) (recW r inc i q x y k) 1
theorem two_putK {m : DM} {r inc i q k x y : Int} {e : Ent} (h4 : (frmW r inc i (2 * q + k) x y e).length = 128) (h3 : (recW r inc i q x y k).length = 64) : twoE m r inc i q k x y e = m.putK r inc i q k x y e := by
  unfold twoE DM.putK
  rw [wrf_two m _ h4]
  generalize m.put2C (firstS 4 (2 * q + k)) (frmW r inc i (2 * q + k) x y e) = z
  obtain ⟨E, m'⟩ := z
  by_cases h : E = 0
  · subst h
    rw [wrf_one m' _ h3]
    simp
  · rw [wrf_err h]
    simp [h]
def putE (m : DM) (s : Nat) (i x y : Int) (e : Ent) : Int := if ¬ ((s : Int) + 1 ≤ i ∧ i ≤ (s : Int) + 24) then 2 else if ¬ (balE x y = true ∧ enOk e = true) then 2 else if m.up = false then 5 else 0
def DM.putA (m : DM) (s : Nat) (r inc i x y : Int) (e : Ent) : Int × DM := if putE m s i x y e = 0 then m.putW r inc i x y e else (putE m s i x y e, m)
end Go.Proofs.YtnlappoocffcpaaGreatDoor

namespace Go.Proofs.YtnlappoocffcpaaGreatDoor
set_option maxRecDepth 100000
open Go Go.RowKit
def Step (d : Nat) (F : Nat → Prop) (w : World) (m' : DM) (w' : World) : Prop := PDisk w' d (grow F w w') m' ∧ Mod F w w'
theorem PDisk.more {w : World} {d : Nat} {F G : Nat → Prop} {m : DM} (h : PDisk w d F m) (hG : ∀ k, F k → G k) (hl : ∀ k, G k → k < w.heap.size) : PDisk w d G m := by
  obtain ⟨g, pv, hp, h2, _⟩ := h
  exact ⟨g, pv, hp, fun k hk => hG k (h2 k hk), hl⟩
theorem Step.of_ext {w w' : World} {d : Nat} {F : Nat → Prop} {m : DM} (h : PDisk w d F m) (hx : Ext w w') : Step d F w m w' :=
  ⟨(h.ext hx).more (fun _ hk => .inl hk) (fun k hk => hk.elim (fun h1 => Nat.lt_of_lt_of_le (h.lt k h1) hx.size) (fun h1 => h1.2)), Mod.of_ext hx⟩
end Go.Proofs.YtnlappoocffcpaaGreatDoor

namespace Go.Proofs.YtnlappoocffcpaaGreatDoor
set_option maxRecDepth 100000
open Go Go.RowKit
structure WrS (w0 : World) (d : Nat) (F F' : Nat → Prop) (bf : Nat) (w : World) (x : Int × DM) : Prop where
  disk : PDisk w d F' x.2
  sub : ∀ k, F' k → F k ∨ w0.heap.size ≤ k
  off : ¬ F' bf
  mod : Mod (fun k => F k ∨ k = bf) w0 w
  row : w.heap[bf]? = some (.cells #[.int .i64 x.1] 25 (0, 0))
theorem WrS.start {w : World} {d bf : Nat} {F : Nat → Prop} {m : DM} {E : Int} (h : PDisk w d F m) (ho : ¬ F bf) (hr : w.heap[bf]? = some (.cells #[.int .i64 E] 25 (0, 0))) : WrS w d F F bf w (E, m) :=
  ⟨h, fun _ hk => .inl hk, ho, Mod.refl _ w, hr⟩
section
variable {w0 w w' : World} {d bf : Nat} {F F' : Nat → Prop} {x : Int × DM}
theorem WrS.ext (h : WrS w0 d F F' bf w x) (hx : Ext w w') : WrS w0 d F F' bf w' x :=
  ⟨h.disk.ext hx, h.sub, h.off, h.mod.trans (Mod.of_ext hx) fun _ hi => .inl hi, (hx.block _ (Array.getElem?_eq_some_iff.1 h.row).1).trans h.row⟩
theorem WrS.cell (h : WrS w0 d F F' bf w x) : w.cell? ⟨bf, 0, none⟩ = some (.int .i64 x.1) ∧ w.frozen? ⟨bf, 0, none⟩ = false := ⟨cell_of_row w bf 0 _ _ _ h.row, frozen_of_row w bf 0 _ _ h.row⟩
def WrT (w0 : World) (d : Nat) (F F' : Nat → Prop) (bf : Nat) (w w' : World) (x : Int × DM) : Prop := ∃ F'', WrS w0 d F F'' bf w' x ∧ (∀ k, k < w.heap.size → F'' k → F' k) ∧ Mod (fun k => F' k ∨ k = bf) w w'
theorem WrS.same (h : WrS w0 d F F' bf w x) : WrT w0 d F F' bf w w x := ⟨F', h, fun _ _ hk => hk, Mod.refl _ w⟩
end
theorem WrS.put {w0 w w' : World} {d bf : Nat} {F F' : Nat → Prop} {E0 E : Int} {m m' : DM} {e : Ending} (h : WrS w0 d F F' bf w (E0, m)) (ho : Outc d F' w E m' e w') : WrT w0 d F F' bf w (w'.setCell ⟨bf, 0, none⟩ (.int .i64 E)) (E, m') := by
  have hrow : w'.heap[bf]? = some (.cells #[.int .i64 E0] 25 (0, 0)) := (ho.2.2.block bf (Array.getElem?_eq_some_iff.1 h.row).1 h.off).trans h.row
  have hset : Mod (fun k => k = bf) w' (w'.setCell ⟨bf, 0, none⟩ (.int .i64 E)) := (Mod.refl (fun k => k = bf) w').setCell (p := ⟨bf, 0, none⟩) (.inl rfl) _
  have hs1 := h.mod.size
  have hs2 := ho.2.2.size
  have hlt := (Array.getElem?_eq_some_iff.1 h.row).1
  have hnb : ¬ grow F' w w' bf := fun hk => hk.elim h.off fun h1 => by have := h1.1; omega
  have hm : Mod (fun k => F' k ∨ k = bf) w (w'.setCell ⟨bf, 0, none⟩ (.int .i64 E)) := (ho.2.2.mono fun i hi => .inl hi).trans hset fun i hi => .inl (.inr hi)
  refine ⟨grow F' w w', ⟨ho.2.1.mod hset fun i hi hb => hnb (hb ▸ hi), fun k hk => ?_, hnb, h.mod.trans hm fun i hi => ?_, row_set (cs' := #[.int .i64 E]) 0 hrow (.int .i64 E) rfl⟩, fun k hk hg => ?_, hm⟩
  · rcases hk with hk | hk
    · exact h.sub k hk
    · exact .inr (by omega)
  · rcases hi with hi | hi
    · rcases h.sub i hi with h1 | h1
      · exact .inl (.inl h1)
      · exact .inr h1
    · exact .inl (.inr hi)
  · rcases hg with hg | hg
    · exact hg
    · omega
end Go.Proofs.YtnlappoocffcpaaGreatDoor
