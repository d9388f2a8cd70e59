/-
  The contracts of what and look, Get and Class: what a slot is, and tells.
-/
import Derived.Test.YtmbmpabjclkhlaaGreatDoorQ00
import Derived.Test.YtmbmpabjclkhlaaGreatDoorQ12
import Derived.Test.YtmbmpabjclkhlaaGreatDoorQ16
import Derived.Test.YtmbmpabjclkhlaaGreatDoorQ18
import Derived.Test.YtmbmpabjclkhlaaGreatDoorQ32
import Derived.Test.YtmbmpabjclkhlaaGreatDoorQ33
import Derived.Deep.DeepCutAuto
namespace Go.Proofs.YtmbmpabjclkhlaaGreatDoor
set_option maxRecDepth 100000
section
open Go Go.RowKit
set_option maxHeartbeats 1200000 in
theorem wwhat_core {w : World} (g i : Nat) (p : Rec) (f0 f1 : CopL) (C : Nat) (R : Rpt) (hx0 : ∃ z : Int, ∀ V, Calls Tryz.prog 143 #[.agg #[.int .u8 (p.st : Int), .int .i64 p.ix, .int .i64 p.bx, .int .i64 p.yb, .int .i64 p.wh], .agg #[.int .u8 (f0.st : Int), .int .i64 f0.ix, .int .i64 f0.bx, .int .i64 f0.yb, .int .u8 (f0.e.k : Int), .int .i64 f0.e.cl, .int .i64 f0.e.sq, .int .u8 (f0.e.ok : Int), .string f0.e.key, .string f0.e.old, .string f0.e.val, .int .u8 (f1.st : Int), .int .i64 f1.ix, .int .i64 f1.bx, .int .i64 f1.yb, .int .u8 (f1.e.k : Int), .int .i64 f1.e.cl, .int .i64 f1.e.sq, .int .u8 (f1.e.ok : Int), .string f1.e.key, .string f1.e.old, .string f1.e.val], .int .i64 (i : Int)] V fun e w' => e = .returned (.tuple #[.int .u8 (C : Int), .agg #[.int .i64 R.ix, .int .u8 (R.st : Int), .int .i64 R.x, .int .i64 R.y, .int .u8 (R.e.k : Int), .int .i64 R.e.cl, .int .i64 R.e.sq, .int .u8 (R.e.ok : Int), .string R.e.key, .string R.e.old, .string R.e.val], .int .i64 z]) ∧ Ext V w')
    (hrd : ∀ V, Ext w V → Calls Tryz.prog 69 #[.pointer (some ⟨g, 0, none⟩), .int .i64 (i : Int)] V fun e w' => e = .returned (.tuple #[.agg #[.int .u8 (p.st : Int), .int .i64 p.ix, .int .i64 p.bx, .int .i64 p.yb, .int .i64 p.wh], .agg #[.int .u8 (f0.st : Int), .int .i64 f0.ix, .int .i64 f0.bx, .int .i64 f0.yb, .int .u8 (f0.e.k : Int), .int .i64 f0.e.cl, .int .i64 f0.e.sq, .int .u8 (f0.e.ok : Int), .string f0.e.key, .string f0.e.old, .string f0.e.val, .int .u8 (f1.st : Int), .int .i64 f1.ix, .int .i64 f1.bx, .int .i64 f1.yb, .int .u8 (f1.e.k : Int), .int .i64 f1.e.cl, .int .i64 f1.e.sq, .int .u8 (f1.e.ok : Int), .string f1.e.key, .string f1.e.old, .string f1.e.val]]) ∧ Ext V w') :
    Calls Tryz.prog 177 #[.pointer (some ⟨g, 0, none⟩), .int .i64 (i : Int)] w fun e w' => e = .returned (.tuple #[.int .u8 (C : Int), .agg #[.int .i64 R.ix, .int .u8 (R.st : Int), .int .i64 R.x, .int .i64 R.y, .int .u8 (R.e.k : Int), .int .i64 R.e.cl, .int .i64 R.e.sq, .int .u8 (R.e.ok : Int), .string R.e.key, .string R.e.old, .string R.e.val]]) ∧ Ext w w' := by
  obtain ⟨z, hz⟩ := hx0
  have HW := Lib.hid hz
  have HR := Lib.hid hrd
  obtain ⟨b, w0, hw0, hE0, hT0, hz0w⟩ : ∃ (b : Nat) (w0 : World), (b = w.heap.size ∧ w0 = w.alloc (.cells #[.int .i64 0, .int .u8 0, .int .i64 0, .int .i64 0, .int .u8 0, .int .i64 0, .int .i64 0, .int .u8 0, .string ⟨#[]⟩, .string ⟨#[]⟩, .string ⟨#[]⟩] 80)) ∧ Ext w w0 ∧ w0.heap[b]? = some (.cells #[.int .i64 0, .int .u8 0, .int .i64 0, .int .i64 0, .int .u8 0, .int .i64 0, .int .i64 0, .int .u8 0, .string ⟨#[]⟩, .string ⟨#[]⟩, .string ⟨#[]⟩] 80 (0, 0)) ∧ (w0.heap.size = b + 1 ∧ w.heap.size ≤ b) :=
    ⟨_, _, ⟨rfl, rfl⟩, (Ext.refl w).alloc _, heap_alloc_new w _, by simp, Nat.le_refl _⟩
  have HE0 := Lib.hid hE0
  have HT0 := Lib.hid hT0
  have HZ0 := Lib.hid hz0w
  clear hz hrd hE0 hT0 hz0w
  go_enter Tryz.func177, Tryz.ntmps177
  go_wp2_with fail
  rw [← hw0.1, ← hw0.2]
  clear hw0
  refine (HR.out _ HE0.out).mono ?_
  rintro e w1 ⟨rfl, hx⟩
  have HX := Lib.hid (HE0.out.trans hx)
  have HT := Lib.hid (keep_row hx HT0.out)
  clear hx HE0 HT0
  have hi4 : (Tryz.prog.info? 150).map (·.size) = some 22 := by kernel_rfl
  have HI4 := Lib.hid hi4
  clear hi4
  go_upto_region 2 with (refine wpList_store_fresh rfl 150 _ _ rfl #[.int .u8 (f0.st : Int), .int .i64 f0.ix, .int .i64 f0.bx, .int .i64 f0.yb, .int .u8 (f0.e.k : Int), .int .i64 f0.e.cl, .int .i64 f0.e.sq, .int .u8 (f0.e.ok : Int), .string f0.e.key, .string f0.e.old, .string f0.e.val, .int .u8 (f1.st : Int), .int .i64 f1.ix, .int .i64 f1.bx, .int .i64 f1.yb, .int .u8 (f1.e.k : Int), .int .i64 f1.e.cl, .int .i64 f1.e.sq, .int .u8 (f1.e.ok : Int), .string f1.e.key, .string f1.e.old, .string f1.e.val] (w1.heap.size + 1) (by simp) rfl rfl rfl HI4.out (by simp [Value.oneCell']) ?_)
  simp only [Act.put]
  have hr1 := keep_row ((Ext.refl (w1.alloc (.cells #[.int .u8 (p.st : Int), .int .i64 p.ix, .int .i64 p.bx, .int .i64 p.yb, .int .i64 p.wh] 147))).alloc (.cells #[.int .u8 (f0.st : Int), .int .i64 f0.ix, .int .i64 f0.bx, .int .i64 f0.yb, .int .u8 (f0.e.k : Int), .int .i64 f0.e.cl, .int .i64 f0.e.sq, .int .u8 (f0.e.ok : Int), .string f0.e.key, .string f0.e.old, .string f0.e.val, .int .u8 (f1.st : Int), .int .i64 f1.ix, .int .i64 f1.bx, .int .i64 f1.yb, .int .u8 (f1.e.k : Int), .int .i64 f1.e.cl, .int .i64 f1.e.sq, .int .u8 (f1.e.ok : Int), .string f1.e.key, .string f1.e.old, .string f1.e.val] 150)) (heap_alloc_new w1 (.cells #[.int .u8 (p.st : Int), .int .i64 p.ix, .int .i64 p.bx, .int .i64 p.yb, .int .i64 p.wh] 147))
  have hr2 := heap_alloc2_new w1 (.cells #[.int .u8 (p.st : Int), .int .i64 p.ix, .int .i64 p.bx, .int .i64 p.yb, .int .i64 p.wh] 147) (.cells #[.int .u8 (f0.st : Int), .int .i64 f0.ix, .int .i64 f0.bx, .int .i64 f0.yb, .int .u8 (f0.e.k : Int), .int .i64 f0.e.cl, .int .i64 f0.e.sq, .int .u8 (f0.e.ok : Int), .string f0.e.key, .string f0.e.old, .string f0.e.val, .int .u8 (f1.st : Int), .int .i64 f1.ix, .int .i64 f1.bx, .int .i64 f1.yb, .int .u8 (f1.e.k : Int), .int .i64 f1.e.cl, .int .i64 f1.e.sq, .int .u8 (f1.e.ok : Int), .string f1.e.key, .string f1.e.old, .string f1.e.val] 150)
  have hx1 := ((Ext.refl w1).alloc (.cells #[.int .u8 (p.st : Int), .int .i64 p.ix, .int .i64 p.bx, .int .i64 p.yb, .int .i64 p.wh] 147)).alloc (.cells #[.int .u8 (f0.st : Int), .int .i64 f0.ix, .int .i64 f0.bx, .int .i64 f0.yb, .int .u8 (f0.e.k : Int), .int .i64 f0.e.cl, .int .i64 f0.e.sq, .int .u8 (f0.e.ok : Int), .string f0.e.key, .string f0.e.old, .string f0.e.val, .int .u8 (f1.st : Int), .int .i64 f1.ix, .int .i64 f1.bx, .int .i64 f1.yb, .int .u8 (f1.e.k : Int), .int .i64 f1.e.cl, .int .i64 f1.e.sq, .int .u8 (f1.e.ok : Int), .string f1.e.key, .string f1.e.old, .string f1.e.val] 150)
  have HX := Lib.hid (HX.out.trans hx1)
  have HT := Lib.hid (keep_row hx1 HT.out)
  generalize (w1.alloc (.cells #[.int .u8 (p.st : Int), .int .i64 p.ix, .int .i64 p.bx, .int .i64 p.yb, .int .i64 p.wh] 147)).alloc (.cells #[.int .u8 (f0.st : Int), .int .i64 f0.ix, .int .i64 f0.bx, .int .i64 f0.yb, .int .u8 (f0.e.k : Int), .int .i64 f0.e.cl, .int .i64 f0.e.sq, .int .u8 (f0.e.ok : Int), .string f0.e.key, .string f0.e.old, .string f0.e.val, .int .u8 (f1.st : Int), .int .i64 f1.ix, .int .i64 f1.bx, .int .i64 f1.yb, .int .u8 (f1.e.k : Int), .int .i64 f1.e.cl, .int .i64 f1.e.sq, .int .u8 (f1.e.ok : Int), .string f1.e.key, .string f1.e.old, .string f1.e.val] 150) = W at *
  generalize w1.heap.size = g1 at *
  have c0 := cell_of_row W g1 0 _ _ _ (hr1)
  have c1 := cell_of_row W g1 1 _ _ _ (hr1)
  have c2 := cell_of_row W g1 2 _ _ _ (hr1)
  have c3 := cell_of_row W g1 3 _ _ _ (hr1)
  have c4 := cell_of_row W g1 4 _ _ _ (hr1)
  have HRN : Hid (W.rangeAt (g1 + 1) 0 [.int .u8 (f0.st : Int), .int .i64 f0.ix, .int .i64 f0.bx, .int .i64 f0.yb, .int .u8 (f0.e.k : Int), .int .i64 f0.e.cl, .int .i64 f0.e.sq, .int .u8 (f0.e.ok : Int), .string f0.e.key, .string f0.e.old, .string f0.e.val, .int .u8 (f1.st : Int), .int .i64 f1.ix, .int .i64 f1.bx, .int .i64 f1.yb, .int .u8 (f1.e.k : Int), .int .i64 f1.e.cl, .int .i64 f1.e.sq, .int .u8 (f1.e.ok : Int), .string f1.e.key, .string f1.e.old, .string f1.e.val]) := Lib.hid (row_range [.int .u8 (f0.st : Int), .int .i64 f0.ix, .int .i64 f0.bx, .int .i64 f0.yb, .int .u8 (f0.e.k : Int), .int .i64 f0.e.cl, .int .i64 f0.e.sq, .int .u8 (f0.e.ok : Int), .string f0.e.key, .string f0.e.old, .string f0.e.val, .int .u8 (f1.st : Int), .int .i64 f1.ix, .int .i64 f1.bx, .int .i64 f1.yb, .int .u8 (f1.e.k : Int), .int .i64 f1.e.cl, .int .i64 f1.e.sq, .int .u8 (f1.e.ok : Int), .string f1.e.key, .string f1.e.old, .string f1.e.val] hr2 0)
  clear hr1 hr2 hx1
  go_wp2_with (refine wpList_load_mid rfl 150 _ rfl (g1 + 1) 0 rfl [.int .u8 (f0.st : Int), .int .i64 f0.ix, .int .i64 f0.bx, .int .i64 f0.yb, .int .u8 (f0.e.k : Int), .int .i64 f0.e.cl, .int .i64 f0.e.sq, .int .u8 (f0.e.ok : Int), .string f0.e.key, .string f0.e.old, .string f0.e.val, .int .u8 (f1.st : Int), .int .i64 f1.ix, .int .i64 f1.bx, .int .i64 f1.yb, .int .u8 (f1.e.k : Int), .int .i64 f1.e.cl, .int .i64 f1.e.sq, .int .u8 (f1.e.ok : Int), .string f1.e.key, .string f1.e.old, .string f1.e.val] _ HRN.out Tryz.underlying150 rfl HI4.out ?_)
  refine (HW.out W).mono ?_
  rintro e w3 ⟨rfl, hx⟩
  have HX3 := Lib.hid (HX.out.trans hx)
  have hrb := keep_row hx HT.out
  have hrow9 := heap_alloc_new w3 (.cells #[.int .i64 R.ix, .int .u8 (R.st : Int), .int .i64 R.x, .int .i64 R.y, .int .u8 (R.e.k : Int), .int .i64 R.e.cl, .int .i64 R.e.sq, .int .u8 (R.e.ok : Int), .string R.e.key, .string R.e.old, .string R.e.val] 80)
  have hlb := (Array.getElem?_eq_some_iff.1 hrb).1
  clear hx c0 c1 c2 c3 c4 HRN HT HX
  go_upto_region 3 with (fail)
  have hx3 := (Ext.refl w3).alloc (.cells #[.int .i64 R.ix, .int .u8 (R.st : Int), .int .i64 R.x, .int .i64 R.y, .int .u8 (R.e.k : Int), .int .i64 R.e.cl, .int .i64 R.e.sq, .int .u8 (R.e.ok : Int), .string R.e.key, .string R.e.old, .string R.e.val] 80)
  have hrb := keep_row hx3 hrb
  have hx3 := HX3.out.trans hx3
  have hne : b ≠ w3.heap.size := by omega
  generalize w3.alloc (.cells #[.int .i64 R.ix, .int .u8 (R.st : Int), .int .i64 R.x, .int .i64 R.y, .int .u8 (R.e.k : Int), .int .i64 R.e.cl, .int .i64 R.e.sq, .int .u8 (R.e.ok : Int), .string R.e.key, .string R.e.old, .string R.e.val] 80) = V at *
  generalize w3.heap.size = g9 at *
  have HRB := Lib.hid hrb
  have HX3 := Lib.hid hx3
  have HR9 := Lib.hid hrow9
  have HNE := Lib.hid hne
  have hlt := (Array.getElem?_eq_some_iff.1 hrb).1
  have c0 := cell_of_row V g9 0 _ _ _ (HR9.out)
  have c1 := cell_of_row V g9 1 _ _ _ (HR9.out)
  have c2 := cell_of_row V g9 2 _ _ _ (HR9.out)
  have c3 := cell_of_row V g9 3 _ _ _ (HR9.out)
  have c4 := cell_of_row V g9 4 _ _ _ (HR9.out)
  have c5 := cell_of_row V g9 5 _ _ _ (HR9.out)
  have c6 := cell_of_row V g9 6 _ _ _ (HR9.out)
  have c7 := cell_of_row V g9 7 _ _ _ (HR9.out)
  have c8 := cell_of_row V g9 8 _ _ _ (HR9.out)
  have c9 := cell_of_row V g9 9 _ _ _ (HR9.out)
  have c10 := cell_of_row V g9 10 _ _ _ (HR9.out)
  have d0 := cell_of_row V b 0 _ _ _ (HRB.out)
  have d1 := cell_of_row V b 1 _ _ _ (HRB.out)
  have d2 := cell_of_row V b 2 _ _ _ (HRB.out)
  have d3 := cell_of_row V b 3 _ _ _ (HRB.out)
  have d4 := cell_of_row V b 4 _ _ _ (HRB.out)
  have d5 := cell_of_row V b 5 _ _ _ (HRB.out)
  have d6 := cell_of_row V b 6 _ _ _ (HRB.out)
  have d7 := cell_of_row V b 7 _ _ _ (HRB.out)
  have d8 := cell_of_row V b 8 _ _ _ (HRB.out)
  have d9 := cell_of_row V b 9 _ _ _ (HRB.out)
  have d10 := cell_of_row V b 10 _ _ _ (HRB.out)
  have e0 := frozen_of_row V b 0 _ _ (HRB.out)
  have e1 := frozen_of_row V b 1 _ _ (HRB.out)
  have e2 := frozen_of_row V b 2 _ _ (HRB.out)
  have e3 := frozen_of_row V b 3 _ _ (HRB.out)
  have e4 := frozen_of_row V b 4 _ _ (HRB.out)
  have e5 := frozen_of_row V b 5 _ _ (HRB.out)
  have e6 := frozen_of_row V b 6 _ _ (HRB.out)
  have e7 := frozen_of_row V b 7 _ _ (HRB.out)
  have e8 := frozen_of_row V b 8 _ _ (HRB.out)
  have e9 := frozen_of_row V b 9 _ _ (HRB.out)
  have e10 := frozen_of_row V b 10 _ _ (HRB.out)
  clear hrb hx3 hrow9 hlb hne
  go_region
  go_wp2_with fail
  have hrow := row11 (HRB.out) (.int .i64 R.ix) (.int .u8 (R.st : Int)) (.int .i64 R.x) (.int .i64 R.y) (.int .u8 (R.e.k : Int)) (.int .i64 R.e.cl) (.int .i64 R.e.sq) (.int .u8 (R.e.ok : Int)) (.string R.e.key) (.string R.e.old) (.string R.e.val)
  have hx := ext11 (HX3.out) (HZ0.out.2) (.int .i64 R.ix) (.int .u8 (R.st : Int)) (.int .i64 R.x) (.int .i64 R.y) (.int .u8 (R.e.k : Int)) (.int .i64 R.e.cl) (.int .i64 R.e.sq) (.int .u8 (R.e.ok : Int)) (.string R.e.key) (.string R.e.old) (.string R.e.val)
  clear d0 d1 d2 d3 d4 d5 d6 d7 d8 d9 d10 e0 e1 e2 e3 e4 e5 e6 e7 e8 e9 e10
  generalize (((((((((((V.setCell ⟨b, 0, none⟩ (.int .i64 R.ix)).setCell ⟨b, 1, none⟩ (.int .u8 (R.st : Int))).setCell ⟨b, 2, none⟩ (.int .i64 R.x)).setCell ⟨b, 3, none⟩ (.int .i64 R.y)).setCell ⟨b, 4, none⟩ (.int .u8 (R.e.k : Int))).setCell ⟨b, 5, none⟩ (.int .i64 R.e.cl)).setCell ⟨b, 6, none⟩ (.int .i64 R.e.sq)).setCell ⟨b, 7, none⟩ (.int .u8 (R.e.ok : Int))).setCell ⟨b, 8, none⟩ (.string R.e.key)).setCell ⟨b, 9, none⟩ (.string R.e.old)).setCell ⟨b, 10, none⟩ (.string R.e.val)) = U at hrow hx ⊢
  obtain ⟨⟨c0, c1, c2, c3, c4, c5, c6, c7, c8, c9, c10⟩, _⟩ := free11W (w := U.drew) hrow
  refine bodyPost_ret (v := .tuple #[.int .u8 (C : Int), .agg #[.int .i64 R.ix, .int .u8 (R.st : Int), .int .i64 R.x, .int .i64 R.y, .int .u8 (R.e.k : Int), .int .i64 R.e.cl, .int .i64 R.e.sq, .int .u8 (R.e.ok : Int), .string R.e.key, .string R.e.old, .string R.e.val]]) (by simp [results, Tryz.results177, go_sem, c0, c1, c2, c3, c4, c5, c6, c7, c8, c9, c10]) rfl ?_
  exact ⟨rfl, Below.drew hx⟩
def DM.lkE (m : DM) (s : Nat) (i : Int) : Int := orI (liveE s i) (upE m)
def DM.lkC (m : DM) (s : Nat) (r i : Int) : Nat := if m.lkE s i = 0 then m.clsW r i else 0
def DM.lkR (m : DM) (s : Nat) (r i : Int) : Rpt := if m.lkE s i = 0 then m.rptW r i else {}
theorem lkE_zero {m : DM} {s : Nat} {i : Int} : m.lkE s i = 0 ↔ ((s : Int) + 1 ≤ i ∧ i ≤ (s : Int) + 24) ∧ m.up = true := by
  unfold DM.lkE orI liveE upE
  by_cases h1 : (s : Int) + 1 ≤ i ∧ i ≤ (s : Int) + 24 <;> by_cases h2 : m.up = true <;> simp [h1, h2]
theorem recM_st (m : DM) (r q : Int) : (m.recM r q).st ≤ 2 := recQ_st _ _ _
theorem copM_st (m : DM) (r q : Int) : (m.copM r q).st ≤ 2 := copQ_st _ _ _
section
variable {w : World} {g d s : Nat} {r inc : Int} {F : Nat → Prop} {m : DM}
theorem wwhat_of (h : LogAt w g d r inc s) (hd : PDisk w d F m) (hL : LaidF w) (hLS : LaidS w) (i : Nat) (h1 : 1 ≤ i) (h2 : i ≤ 2000000000000) (hfew : m.waits.length ≤ 1000000) :
    Calls Tryz.prog 177 #[.pointer (some ⟨g, 0, none⟩), .int .i64 (i : Int)] w fun e w' => e = .returned (.tuple #[.int .u8 (m.clsW r i : Nat), .agg #[.int .i64 (m.rptW r i).ix, .int .u8 ((m.rptW r i).st : Int), .int .i64 (m.rptW r i).x, .int .i64 (m.rptW r i).y, .int .u8 ((m.rptW r i).e.k : Int), .int .i64 (m.rptW r i).e.cl, .int .i64 (m.rptW r i).e.sq, .int .u8 ((m.rptW r i).e.ok : Int), .string (m.rptW r i).e.key, .string (m.rptW r i).e.old, .string (m.rptW r i).e.val]]) ∧ Ext w w' :=
  wwhat_core g i _ _ _ (m.clsW r i) (m.rptW r i) ⟨_, fun V => what_of (m.recM r (placeW (i : Int))) (m.copM r (2 * placeW (i : Int))) (m.copM r (2 * placeW (i : Int) + 1)) (i : Int) V (recM_st _ _ _) (copM_st _ _ _) (copM_st _ _ _) (recQ_wh _ _ _)⟩
    (fun _ hV => wread_of (h.ext hV) (hd.ext hV) (hL.ext hV) (hLS.ext hV) i h1 h2 hfew)
set_option maxHeartbeats 1200000 in
theorem wlook_core (p : Option Addr) (i : Int) (a b : Int) (C : Nat) (R : Rpt) (hk : ∀ V, Ext w V → Calls Tryz.prog 67 #[.pointer p, .int .i64 i] V fun e w' => e = .returned (.int .i64 a) ∧ Ext V w')
    (hr : ∀ V, Ext w V → Calls Tryz.prog 68 #[.pointer p] V fun e w' => e = .returned (.int .i64 b) ∧ V = w')
    (hc : orI a b = 0 → ∀ V, Ext w V → Calls Tryz.prog 177 #[.pointer p, .int .i64 i] V fun e w' => e = .returned (.tuple #[.int .u8 (C : Int), .agg #[.int .i64 R.ix, .int .u8 (R.st : Int), .int .i64 R.x, .int .i64 R.y, .int .u8 (R.e.k : Int), .int .i64 R.e.cl, .int .i64 R.e.sq, .int .u8 (R.e.ok : Int), .string R.e.key, .string R.e.old, .string R.e.val]]) ∧ Ext V w')
    (h0 : orI a b ≠ 0 → C = 0 ∧ R = {}) :
    Calls Tryz.prog 92 #[.pointer p, .int .i64 i] w fun e w' => e = .returned (.tuple #[.int .u8 (C : Int), .agg #[.int .i64 R.ix, .int .u8 (R.st : Int), .int .i64 R.x, .int .i64 R.y, .int .u8 (R.e.k : Int), .int .i64 R.e.cl, .int .i64 R.e.sq, .int .u8 (R.e.ok : Int), .string R.e.key, .string R.e.old, .string R.e.val], .int .i64 (orI a b)]) ∧ Ext w w' := by
  have HK := Lib.hid hk
  have HR := Lib.hid hr
  have HC := Lib.hid hc
  have H0 := Lib.hid h0
  obtain ⟨bb, w0, hw0, hE0, hT0, hz0w⟩ : ∃ (bb : Nat) (w0 : World), (bb = w.heap.size ∧ w0 = w.alloc (.cells #[.int .i64 0, .int .u8 0, .int .i64 0, .int .i64 0, .int .u8 0, .int .i64 0, .int .i64 0, .int .u8 0, .string ⟨#[]⟩, .string ⟨#[]⟩, .string ⟨#[]⟩] 80)) ∧ Ext w w0 ∧ w0.heap[bb]? = some (.cells #[.int .i64 0, .int .u8 0, .int .i64 0, .int .i64 0, .int .u8 0, .int .i64 0, .int .i64 0, .int .u8 0, .string ⟨#[]⟩, .string ⟨#[]⟩, .string ⟨#[]⟩] 80 (0, 0)) ∧ (w0.heap.size = bb + 1 ∧ w.heap.size ≤ bb) :=
    ⟨_, _, ⟨rfl, rfl⟩, (Ext.refl w).alloc _, heap_alloc_new w _, by simp, Nat.le_refl _⟩
  have HE0 := Lib.hid hE0
  have HT0 := Lib.hid hT0
  have HZ0 := Lib.hid hz0w
  clear hk hr hc h0 hE0 hT0 hz0w
  go_enter Tryz.func92, Tryz.ntmps92
  go_wp2_with fail
  rw [← hw0.1, ← hw0.2]
  clear hw0
  refine (HK.out _ HE0.out).mono ?_
  rintro e w1 ⟨rfl, hx⟩
  have HX := Lib.hid (HE0.out.trans hx)
  have HT := Lib.hid (keep_row hx HT0.out)
  clear hx HE0 HT0
  go_wp2_with fail
  refine (HR.out _ HX.out).mono ?_
  rintro e w2 ⟨rfl, rfl⟩
  go_wp2_with fail
  have hro := heap_alloc_new w1 (.cells #[.int .i64 a, .int .i64 b] 25)
  have hxo := (Ext.refl w1).alloc (.cells #[.int .i64 a, .int .i64 b] 25)
  refine (or2E w1.heap.size 2 a b _ (cell_of_row _ _ 0 _ _ _ hro) (cell_of_row _ _ 1 _ _ _ hro)).mono ?_
  rintro e w3 ⟨rfl, rfl⟩
  have HX := Lib.hid (HX.out.trans hxo)
  have HT := Lib.hid (keep_row hxo HT.out)
  clear hro hxo
  generalize w1.alloc (.cells #[.int .i64 a, .int .i64 b] 25) = W at *
  obtain ⟨E, hE⟩ : ∃ E, orI a b = E := ⟨_, rfl⟩
  rw [hE] at HC H0
  by_cases hz : E = 0
  · subst hz
    have HEQ := Lib.hid hE
    rw [hE]
    clear hE
    go_wp2_with fail
    refine (HC.out (by first | rfl | trivial) _ HX.out).mono ?_
    rintro e w4 ⟨rfl, hx⟩
    have HX := Lib.hid (HX.out.trans hx)
    have HT := Lib.hid (keep_row hx HT.out)
    have hlt := (Array.getElem?_eq_some_iff.1 HT.out).1
    clear hx
    have d0 := cell_of_row w4 bb 0 _ _ _ (HT.out)
    have d1 := cell_of_row w4 bb 1 _ _ _ (HT.out)
    have d2 := cell_of_row w4 bb 2 _ _ _ (HT.out)
    have d3 := cell_of_row w4 bb 3 _ _ _ (HT.out)
    have d4 := cell_of_row w4 bb 4 _ _ _ (HT.out)
    have d5 := cell_of_row w4 bb 5 _ _ _ (HT.out)
    have d6 := cell_of_row w4 bb 6 _ _ _ (HT.out)
    have d7 := cell_of_row w4 bb 7 _ _ _ (HT.out)
    have d8 := cell_of_row w4 bb 8 _ _ _ (HT.out)
    have d9 := cell_of_row w4 bb 9 _ _ _ (HT.out)
    have d10 := cell_of_row w4 bb 10 _ _ _ (HT.out)
    have e0 := frozen_of_row w4 bb 0 _ _ (HT.out)
    have e1 := frozen_of_row w4 bb 1 _ _ (HT.out)
    have e2 := frozen_of_row w4 bb 2 _ _ (HT.out)
    have e3 := frozen_of_row w4 bb 3 _ _ (HT.out)
    have e4 := frozen_of_row w4 bb 4 _ _ (HT.out)
    have e5 := frozen_of_row w4 bb 5 _ _ (HT.out)
    have e6 := frozen_of_row w4 bb 6 _ _ (HT.out)
    have e7 := frozen_of_row w4 bb 7 _ _ (HT.out)
    have e8 := frozen_of_row w4 bb 8 _ _ (HT.out)
    have e9 := frozen_of_row w4 bb 9 _ _ (HT.out)
    have e10 := frozen_of_row w4 bb 10 _ _ (HT.out)
    go_upto_region 5 with (fail)
    have hrb := row11 HT.out (.int .i64 R.ix) (.int .u8 (R.st : Int)) (.int .i64 R.x) (.int .i64 R.y) (.int .u8 (R.e.k : Int)) (.int .i64 R.e.cl) (.int .i64 R.e.sq) (.int .u8 (R.e.ok : Int)) (.string R.e.key) (.string R.e.old) (.string R.e.val)
    have hx := ext11 HX.out HZ0.out.2 (.int .i64 R.ix) (.int .u8 (R.st : Int)) (.int .i64 R.x) (.int .i64 R.y) (.int .u8 (R.e.k : Int)) (.int .i64 R.e.cl) (.int .i64 R.e.sq) (.int .u8 (R.e.ok : Int)) (.string R.e.key) (.string R.e.old) (.string R.e.val)
    clear d0 d1 d2 d3 d4 d5 d6 d7 d8 d9 d10 e0 e1 e2 e3 e4 e5 e6 e7 e8 e9 e10 hlt
    generalize (((((((((((w4.setCell ⟨bb, 0, none⟩ (.int .i64 R.ix)).setCell ⟨bb, 1, none⟩ (.int .u8 (R.st : Int))).setCell ⟨bb, 2, none⟩ (.int .i64 R.x)).setCell ⟨bb, 3, none⟩ (.int .i64 R.y)).setCell ⟨bb, 4, none⟩ (.int .u8 (R.e.k : Int))).setCell ⟨bb, 5, none⟩ (.int .i64 R.e.cl)).setCell ⟨bb, 6, none⟩ (.int .i64 R.e.sq)).setCell ⟨bb, 7, none⟩ (.int .u8 (R.e.ok : Int))).setCell ⟨bb, 8, none⟩ (.string R.e.key)).setCell ⟨bb, 9, none⟩ (.string R.e.old)).setCell ⟨bb, 10, none⟩ (.string R.e.val)) = V at hrb hx ⊢
    have HRB := Lib.hid hrb
    have HX3 := Lib.hid hx
    have hlt := (Array.getElem?_eq_some_iff.1 hrb).1
    clear hrb hx
    have d0 := cell_of_row V bb 0 _ _ _ (HRB.out)
    have d1 := cell_of_row V bb 1 _ _ _ (HRB.out)
    have d2 := cell_of_row V bb 2 _ _ _ (HRB.out)
    have d3 := cell_of_row V bb 3 _ _ _ (HRB.out)
    have d4 := cell_of_row V bb 4 _ _ _ (HRB.out)
    have d5 := cell_of_row V bb 5 _ _ _ (HRB.out)
    have d6 := cell_of_row V bb 6 _ _ _ (HRB.out)
    have d7 := cell_of_row V bb 7 _ _ _ (HRB.out)
    have d8 := cell_of_row V bb 8 _ _ _ (HRB.out)
    have d9 := cell_of_row V bb 9 _ _ _ (HRB.out)
    have d10 := cell_of_row V bb 10 _ _ _ (HRB.out)
    have e0 := frozen_of_row V bb 0 _ _ (HRB.out)
    have e1 := frozen_of_row V bb 1 _ _ (HRB.out)
    have e2 := frozen_of_row V bb 2 _ _ (HRB.out)
    have e3 := frozen_of_row V bb 3 _ _ (HRB.out)
    have e4 := frozen_of_row V bb 4 _ _ (HRB.out)
    have e5 := frozen_of_row V bb 5 _ _ (HRB.out)
    have e6 := frozen_of_row V bb 6 _ _ (HRB.out)
    have e7 := frozen_of_row V bb 7 _ _ (HRB.out)
    have e8 := frozen_of_row V bb 8 _ _ (HRB.out)
    have e9 := frozen_of_row V bb 9 _ _ (HRB.out)
    have e10 := frozen_of_row V bb 10 _ _ (HRB.out)
    go_region
    go_wp2_with fail
    have hrow := row11 (HRB.out) (.int .i64 R.ix) (.int .u8 (R.st : Int)) (.int .i64 R.x) (.int .i64 R.y) (.int .u8 (R.e.k : Int)) (.int .i64 R.e.cl) (.int .i64 R.e.sq) (.int .u8 (R.e.ok : Int)) (.string R.e.key) (.string R.e.old) (.string R.e.val)
    have hx := ext11 (HX3.out) (HZ0.out.2) (.int .i64 R.ix) (.int .u8 (R.st : Int)) (.int .i64 R.x) (.int .i64 R.y) (.int .u8 (R.e.k : Int)) (.int .i64 R.e.cl) (.int .i64 R.e.sq) (.int .u8 (R.e.ok : Int)) (.string R.e.key) (.string R.e.old) (.string R.e.val)
    clear d0 d1 d2 d3 d4 d5 d6 d7 d8 d9 d10 e0 e1 e2 e3 e4 e5 e6 e7 e8 e9 e10
    generalize (((((((((((V.setCell ⟨bb, 0, none⟩ (.int .i64 R.ix)).setCell ⟨bb, 1, none⟩ (.int .u8 (R.st : Int))).setCell ⟨bb, 2, none⟩ (.int .i64 R.x)).setCell ⟨bb, 3, none⟩ (.int .i64 R.y)).setCell ⟨bb, 4, none⟩ (.int .u8 (R.e.k : Int))).setCell ⟨bb, 5, none⟩ (.int .i64 R.e.cl)).setCell ⟨bb, 6, none⟩ (.int .i64 R.e.sq)).setCell ⟨bb, 7, none⟩ (.int .u8 (R.e.ok : Int))).setCell ⟨bb, 8, none⟩ (.string R.e.key)).setCell ⟨bb, 9, none⟩ (.string R.e.old)).setCell ⟨bb, 10, none⟩ (.string R.e.val)) = U at hrow hx ⊢
    obtain ⟨⟨c0, c1, c2, c3, c4, c5, c6, c7, c8, c9, c10⟩, _⟩ := free11W (w := U.drew) hrow
    refine bodyPost_ret (v := .tuple #[.int .u8 (C : Int), .agg #[.int .i64 R.ix, .int .u8 (R.st : Int), .int .i64 R.x, .int .i64 R.y, .int .u8 (R.e.k : Int), .int .i64 R.e.cl, .int .i64 R.e.sq, .int .u8 (R.e.ok : Int), .string R.e.key, .string R.e.old, .string R.e.val], .int .i64 0]) (by simp [results, Tryz.results92, go_sem, c0, c1, c2, c3, c4, c5, c6, c7, c8, c9, c10]) rfl ?_
    exact ⟨by rw [HEQ.out], Below.drew hx⟩
  · obtain ⟨hC, hR⟩ := H0.out hz
    subst hC hR
    have HEQ := Lib.hid hE
    rw [hE]
    have hne : (E != 0) = true := by simpa using hz
    clear hz hE
    have d0 := cell_of_row W bb 0 _ _ _ (HT.out)
    have d1 := cell_of_row W bb 1 _ _ _ (HT.out)
    have d2 := cell_of_row W bb 2 _ _ _ (HT.out)
    have d3 := cell_of_row W bb 3 _ _ _ (HT.out)
    have d4 := cell_of_row W bb 4 _ _ _ (HT.out)
    have d5 := cell_of_row W bb 5 _ _ _ (HT.out)
    have d6 := cell_of_row W bb 6 _ _ _ (HT.out)
    have d7 := cell_of_row W bb 7 _ _ _ (HT.out)
    have d8 := cell_of_row W bb 8 _ _ _ (HT.out)
    have d9 := cell_of_row W bb 9 _ _ _ (HT.out)
    have d10 := cell_of_row W bb 10 _ _ _ (HT.out)
    have e0 := frozen_of_row W bb 0 _ _ (HT.out)
    have e1 := frozen_of_row W bb 1 _ _ (HT.out)
    have e2 := frozen_of_row W bb 2 _ _ (HT.out)
    have e3 := frozen_of_row W bb 3 _ _ (HT.out)
    have e4 := frozen_of_row W bb 4 _ _ (HT.out)
    have e5 := frozen_of_row W bb 5 _ _ (HT.out)
    have e6 := frozen_of_row W bb 6 _ _ (HT.out)
    have e7 := frozen_of_row W bb 7 _ _ (HT.out)
    have e8 := frozen_of_row W bb 8 _ _ (HT.out)
    have e9 := frozen_of_row W bb 9 _ _ (HT.out)
    have e10 := frozen_of_row W bb 10 _ _ (HT.out)
    have hlt := (Array.getElem?_eq_some_iff.1 HT.out).1
    go_wp2_with fail
    have hrow := row11 (HT.out) (.int .i64 0) (.int .u8 0) (.int .i64 0) (.int .i64 0) (.int .u8 0) (.int .i64 0) (.int .i64 0) (.int .u8 0) (.string ⟨#[]⟩) (.string ⟨#[]⟩) (.string ⟨#[]⟩)
    have hx := ext11 (HX.out) (HZ0.out.2) (.int .i64 0) (.int .u8 0) (.int .i64 0) (.int .i64 0) (.int .u8 0) (.int .i64 0) (.int .i64 0) (.int .u8 0) (.string ⟨#[]⟩) (.string ⟨#[]⟩) (.string ⟨#[]⟩)
    clear d0 d1 d2 d3 d4 d5 d6 d7 d8 d9 d10 e0 e1 e2 e3 e4 e5 e6 e7 e8 e9 e10
    generalize (((((((((((W.setCell ⟨bb, 0, none⟩ (.int .i64 0)).setCell ⟨bb, 1, none⟩ (.int .u8 0)).setCell ⟨bb, 2, none⟩ (.int .i64 0)).setCell ⟨bb, 3, none⟩ (.int .i64 0)).setCell ⟨bb, 4, none⟩ (.int .u8 0)).setCell ⟨bb, 5, none⟩ (.int .i64 0)).setCell ⟨bb, 6, none⟩ (.int .i64 0)).setCell ⟨bb, 7, none⟩ (.int .u8 0)).setCell ⟨bb, 8, none⟩ (.string ⟨#[]⟩)).setCell ⟨bb, 9, none⟩ (.string ⟨#[]⟩)).setCell ⟨bb, 10, none⟩ (.string ⟨#[]⟩)) = U at hrow hx ⊢
    obtain ⟨⟨c0, c1, c2, c3, c4, c5, c6, c7, c8, c9, c10⟩, _⟩ := free11W (w := U) hrow
    refine bodyPost_ret (v := .tuple #[.int .u8 0, .agg #[.int .i64 0, .int .u8 0, .int .i64 0, .int .i64 0, .int .u8 0, .int .i64 0, .int .i64 0, .int .u8 0, .string ⟨#[]⟩, .string ⟨#[]⟩, .string ⟨#[]⟩], .int .i64 E]) (by simp [results, Tryz.results92, go_sem, c0, c1, c2, c3, c4, c5, c6, c7, c8, c9, c10]) rfl ?_
    exact ⟨by rw [HEQ.out]; rfl, hx⟩
end
end
section
open Go Go.RowKit
section
variable {w : World}
set_option maxHeartbeats 800000 in
theorem wget_core (p : Option Addr) (i E : Int) (C : Nat) (R : Rpt) (hl : ∀ V, Ext w V → Calls Tryz.prog 92 #[.pointer p, .int .i64 i] V fun e w' => e = .returned (.tuple #[.int .u8 (C : Int), .agg #[.int .i64 R.ix, .int .u8 (R.st : Int), .int .i64 R.x, .int .i64 R.y, .int .u8 (R.e.k : Int), .int .i64 R.e.cl, .int .i64 R.e.sq, .int .u8 (R.e.ok : Int), .string R.e.key, .string R.e.old, .string R.e.val], .int .i64 E]) ∧ Ext V w') :
    Calls Tryz.prog 30 #[.pointer p, .int .i64 i] w fun e w' => e = .returned (.tuple #[.agg #[.int .i64 R.ix, .int .u8 (R.st : Int), .int .i64 R.x, .int .i64 R.y, .int .u8 (R.e.k : Int), .int .i64 R.e.cl, .int .i64 R.e.sq, .int .u8 (R.e.ok : Int), .string R.e.key, .string R.e.old, .string R.e.val], .int .i64 E]) ∧ Ext w w' := by
  have HL := Lib.hid hl
  obtain ⟨b, w0, hw0, hE0, hT0, hz0w⟩ : ∃ (b : Nat) (w0 : World), (b = w.heap.size ∧ w0 = w.alloc (.cells #[.int .i64 0, .int .u8 0, .int .i64 0, .int .i64 0, .int .u8 0, .int .i64 0, .int .i64 0, .int .u8 0, .string ⟨#[]⟩, .string ⟨#[]⟩, .string ⟨#[]⟩] 80)) ∧ Ext w w0 ∧ w0.heap[b]? = some (.cells #[.int .i64 0, .int .u8 0, .int .i64 0, .int .i64 0, .int .u8 0, .int .i64 0, .int .i64 0, .int .u8 0, .string ⟨#[]⟩, .string ⟨#[]⟩, .string ⟨#[]⟩] 80 (0, 0)) ∧ (w0.heap.size = b + 1 ∧ w.heap.size ≤ b) :=
    ⟨_, _, ⟨rfl, rfl⟩, (Ext.refl w).alloc _, heap_alloc_new w _, by simp, Nat.le_refl _⟩
  have HE0 := Lib.hid hE0
  have HT0 := Lib.hid hT0
  have HZ0 := Lib.hid hz0w
  clear hl hE0 hT0 hz0w
  go_enter Tryz.func30, Tryz.ntmps30
  go_wp2_with fail
  rw [← hw0.1, ← hw0.2]
  clear hw0
  refine (HL.out _ HE0.out).mono ?_
  rintro e w1 ⟨rfl, hx⟩
  have HX := Lib.hid (HE0.out.trans hx)
  have HT := Lib.hid (keep_row hx HT0.out)
  clear hx HE0 HT0
  go_upto_region 2 with (fail)
  have hr9 := heap_alloc_new w1 (.cells #[.int .i64 R.ix, .int .u8 (R.st : Int), .int .i64 R.x, .int .i64 R.y, .int .u8 (R.e.k : Int), .int .i64 R.e.cl, .int .i64 R.e.sq, .int .u8 (R.e.ok : Int), .string R.e.key, .string R.e.old, .string R.e.val] 80)
  have hx9 := (Ext.refl w1).alloc (.cells #[.int .i64 R.ix, .int .u8 (R.st : Int), .int .i64 R.x, .int .i64 R.y, .int .u8 (R.e.k : Int), .int .i64 R.e.cl, .int .i64 R.e.sq, .int .u8 (R.e.ok : Int), .string R.e.key, .string R.e.old, .string R.e.val] 80)
  have HX := Lib.hid (HX.out.trans hx9)
  have HT := Lib.hid (keep_row hx9 HT.out)
  generalize w1.alloc (.cells #[.int .i64 R.ix, .int .u8 (R.st : Int), .int .i64 R.x, .int .i64 R.y, .int .u8 (R.e.k : Int), .int .i64 R.e.cl, .int .i64 R.e.sq, .int .u8 (R.e.ok : Int), .string R.e.key, .string R.e.old, .string R.e.val] 80) = V at *
  generalize w1.heap.size = g9 at *
  have HR9 := Lib.hid hr9
  have hlt := (Array.getElem?_eq_some_iff.1 HT.out).1
  clear hr9 hx9
  have c0 := cell_of_row V g9 0 _ _ _ (HR9.out)
  have c1 := cell_of_row V g9 1 _ _ _ (HR9.out)
  have c2 := cell_of_row V g9 2 _ _ _ (HR9.out)
  have c3 := cell_of_row V g9 3 _ _ _ (HR9.out)
  have c4 := cell_of_row V g9 4 _ _ _ (HR9.out)
  have c5 := cell_of_row V g9 5 _ _ _ (HR9.out)
  have c6 := cell_of_row V g9 6 _ _ _ (HR9.out)
  have c7 := cell_of_row V g9 7 _ _ _ (HR9.out)
  have c8 := cell_of_row V g9 8 _ _ _ (HR9.out)
  have c9 := cell_of_row V g9 9 _ _ _ (HR9.out)
  have c10 := cell_of_row V g9 10 _ _ _ (HR9.out)
  have d0 := cell_of_row V b 0 _ _ _ (HT.out)
  have d1 := cell_of_row V b 1 _ _ _ (HT.out)
  have d2 := cell_of_row V b 2 _ _ _ (HT.out)
  have d3 := cell_of_row V b 3 _ _ _ (HT.out)
  have d4 := cell_of_row V b 4 _ _ _ (HT.out)
  have d5 := cell_of_row V b 5 _ _ _ (HT.out)
  have d6 := cell_of_row V b 6 _ _ _ (HT.out)
  have d7 := cell_of_row V b 7 _ _ _ (HT.out)
  have d8 := cell_of_row V b 8 _ _ _ (HT.out)
  have d9 := cell_of_row V b 9 _ _ _ (HT.out)
  have d10 := cell_of_row V b 10 _ _ _ (HT.out)
  have e0 := frozen_of_row V b 0 _ _ (HT.out)
  have e1 := frozen_of_row V b 1 _ _ (HT.out)
  have e2 := frozen_of_row V b 2 _ _ (HT.out)
  have e3 := frozen_of_row V b 3 _ _ (HT.out)
  have e4 := frozen_of_row V b 4 _ _ (HT.out)
  have e5 := frozen_of_row V b 5 _ _ (HT.out)
  have e6 := frozen_of_row V b 6 _ _ (HT.out)
  have e7 := frozen_of_row V b 7 _ _ (HT.out)
  have e8 := frozen_of_row V b 8 _ _ (HT.out)
  have e9 := frozen_of_row V b 9 _ _ (HT.out)
  have e10 := frozen_of_row V b 10 _ _ (HT.out)
  go_wp2_with fail
  have hrow := row11 HT.out (.int .i64 R.ix) (.int .u8 (R.st : Int)) (.int .i64 R.x) (.int .i64 R.y) (.int .u8 (R.e.k : Int)) (.int .i64 R.e.cl) (.int .i64 R.e.sq) (.int .u8 (R.e.ok : Int)) (.string R.e.key) (.string R.e.old) (.string R.e.val)
  have hx := ext11 HX.out HZ0.out.2 (.int .i64 R.ix) (.int .u8 (R.st : Int)) (.int .i64 R.x) (.int .i64 R.y) (.int .u8 (R.e.k : Int)) (.int .i64 R.e.cl) (.int .i64 R.e.sq) (.int .u8 (R.e.ok : Int)) (.string R.e.key) (.string R.e.old) (.string R.e.val)
  clear d0 d1 d2 d3 d4 d5 d6 d7 d8 d9 d10 c0 c1 c2 c3 c4 c5 c6 c7 c8 c9 c10 e0 e1 e2 e3 e4 e5 e6 e7 e8 e9 e10 hlt
  generalize (((((((((((V.setCell ⟨b, 0, none⟩ (.int .i64 R.ix)).setCell ⟨b, 1, none⟩ (.int .u8 (R.st : Int))).setCell ⟨b, 2, none⟩ (.int .i64 R.x)).setCell ⟨b, 3, none⟩ (.int .i64 R.y)).setCell ⟨b, 4, none⟩ (.int .u8 (R.e.k : Int))).setCell ⟨b, 5, none⟩ (.int .i64 R.e.cl)).setCell ⟨b, 6, none⟩ (.int .i64 R.e.sq)).setCell ⟨b, 7, none⟩ (.int .u8 (R.e.ok : Int))).setCell ⟨b, 8, none⟩ (.string R.e.key)).setCell ⟨b, 9, none⟩ (.string R.e.old)).setCell ⟨b, 10, none⟩ (.string R.e.val)) = U at hrow hx ⊢
  obtain ⟨⟨c0, c1, c2, c3, c4, c5, c6, c7, c8, c9, c10⟩, _⟩ := free11W hrow
  refine bodyPost_ret (v := .tuple #[.agg #[.int .i64 R.ix, .int .u8 (R.st : Int), .int .i64 R.x, .int .i64 R.y, .int .u8 (R.e.k : Int), .int .i64 R.e.cl, .int .i64 R.e.sq, .int .u8 (R.e.ok : Int), .string R.e.key, .string R.e.old, .string R.e.val], .int .i64 E]) (by simp [results, Tryz.results30, go_sem, c0, c1, c2, c3, c4, c5, c6, c7, c8, c9, c10]) rfl ?_
  exact ⟨rfl, hx⟩
set_option maxHeartbeats 800000 in
theorem wclass_core (p : Option Addr) (i E : Int) (C : Nat) (R : Rpt) (hl : ∀ V, Ext w V → Calls Tryz.prog 92 #[.pointer p, .int .i64 i] V fun e w' => e = .returned (.tuple #[.int .u8 (C : Int), .agg #[.int .i64 R.ix, .int .u8 (R.st : Int), .int .i64 R.x, .int .i64 R.y, .int .u8 (R.e.k : Int), .int .i64 R.e.cl, .int .i64 R.e.sq, .int .u8 (R.e.ok : Int), .string R.e.key, .string R.e.old, .string R.e.val], .int .i64 E]) ∧ Ext V w') :
    Calls Tryz.prog 34 #[.pointer p, .int .i64 i] w fun e w' => e = .returned (.tuple #[.int .u8 (C : Int), .int .i64 E]) ∧ Ext w w' := by
  have HL := Lib.hid hl
  clear hl
  go_enter Tryz.func34, Tryz.ntmps34
  go_wp2_with fail
  refine (HL.out _ (Ext.refl w)).mono ?_
  rintro e w1 ⟨rfl, hx⟩
  have HX := Lib.hid hx
  clear hx
  go_wp2_with fail
  refine bodyPost_ret (v := .tuple #[.int .u8 (C : Int), .int .i64 E]) (by simp [results, Tryz.results34, go_sem]) rfl ?_
  exact ⟨rfl, HX.out.alloc _⟩
end
section
variable {w : World} {g d s : Nat} {r inc : Int} {F : Nat → Prop} {m : DM}
theorem wlook_of (h : LogAt w g d r inc s) (hd : PDisk w d F m) (hL : LaidF w) (hLS : LaidS w) (hs : s ≤ 1900000000000) (i : Int) (hfew : m.waits.length ≤ 1000000) :
    Calls Tryz.prog 92 #[.pointer (some ⟨g, 0, none⟩), .int .i64 i] w fun e w' => e = .returned (.tuple #[.int .u8 (m.lkC s r i : Nat), .agg #[.int .i64 (m.lkR s r i).ix, .int .u8 ((m.lkR s r i).st : Int), .int .i64 (m.lkR s r i).x, .int .i64 (m.lkR s r i).y, .int .u8 ((m.lkR s r i).e.k : Int), .int .i64 (m.lkR s r i).e.cl, .int .i64 (m.lkR s r i).e.sq, .int .u8 ((m.lkR s r i).e.ok : Int), .string (m.lkR s r i).e.key, .string (m.lkR s r i).e.old, .string (m.lkR s r i).e.val], .int .i64 (m.lkE s i)]) ∧ Ext w w' := by
  refine wlook_core (some ⟨g, 0, none⟩) i (liveE s i) (upE m) (m.lkC s r i) (m.lkR s r i) (fun V hV => wknown_of (h.ext hV) (by omega) i) (fun V hV => wrunning_of (h.ext hV) (hd.ext hV)) (fun h0 V hV => ?_) (fun h0 => ?_)
  · have hl := lkE_zero.1 h0
    have e1 : m.lkC s r i = m.clsW r i := if_pos h0
    have e2 : m.lkR s r i = m.rptW r i := if_pos h0
    obtain ⟨n, rfl⟩ := Int.eq_ofNat_of_zero_le (show 0 ≤ i by omega)
    rw [e1, e2]
    exact wwhat_of (h.ext hV) (hd.ext hV) (hL.ext hV) (hLS.ext hV) n (by omega) (by omega) hfew
  · exact ⟨if_neg h0, if_neg h0⟩
theorem wget_of (h : LogAt w g d r inc s) (hd : PDisk w d F m) (hL : LaidF w) (hLS : LaidS w) (hs : s ≤ 1900000000000) (i : Int) (hfew : m.waits.length ≤ 1000000) :
    Calls Tryz.prog 30 #[.pointer (some ⟨g, 0, none⟩), .int .i64 i] w fun e w' => e = .returned (.tuple #[.agg #[.int .i64 (m.lkR s r i).ix, .int .u8 ((m.lkR s r i).st : Int), .int .i64 (m.lkR s r i).x, .int .i64 (m.lkR s r i).y, .int .u8 ((m.lkR s r i).e.k : Int), .int .i64 (m.lkR s r i).e.cl, .int .i64 (m.lkR s r i).e.sq, .int .u8 ((m.lkR s r i).e.ok : Int), .string (m.lkR s r i).e.key, .string (m.lkR s r i).e.old, .string (m.lkR s r i).e.val], .int .i64 (m.lkE s i)]) ∧ Ext w w' :=
  wget_core _ i _ _ _ fun _ hV => wlook_of (h.ext hV) (hd.ext hV) (hL.ext hV) (hLS.ext hV) hs i hfew
theorem wclass_of (h : LogAt w g d r inc s) (hd : PDisk w d F m) (hL : LaidF w) (hLS : LaidS w) (hs : s ≤ 1900000000000) (i : Int) (hfew : m.waits.length ≤ 1000000) :
    Calls Tryz.prog 34 #[.pointer (some ⟨g, 0, none⟩), .int .i64 i] w fun e w' => e = .returned (.tuple #[.int .u8 (m.lkC s r i : Nat), .int .i64 (m.lkE s i)]) ∧ Ext w w' :=
  wclass_core _ i _ _ (m.lkR s r i) fun _ hV => wlook_of (h.ext hV) (hd.ext hV) (hL.ext hV) (hLS.ext hV) hs i hfew
end
end
section
open Go Go.RowKit
theorem sjoin3o {A1 A2 : Option Addr} {c1 c2 : Nat} {l1 l2 : List Nat} (w : World) (h1 : By w A1 7 c1 l1) (h2 : By w A2 1 c2 l2) :
    Calls Tryz.prog 139 #[.slice (some ⟨w.heap.size, 0, none⟩) 2 2] (w.alloc (.cells #[.slice A1 7 c1, .slice A2 1 c2] 45)) fun e w' => ∃ A' c', e = .returned (.slice A' 8 c') ∧ By w' A' 8 c' (l1 ++ l2) ∧ (∀ g o, A' = some ⟨g, o, none⟩ → w.heap.size ≤ g) ∧ Ext w w' := by
  have hcat : cat [(.slice A1 7 c1, l1), (.slice A2 1 c2, l2)] = l1 ++ l2 := by simp [cat]
  have hN : (cat [((.slice A1 7 c1 : Value), l1), (.slice A2 1 c2, l2)]).length = 8 := by rw [hcat, List.length_append, h1.len, h2.len]
  have hlt : ∀ b ∈ l1 ++ l2, b < 256 := by
    intro b hb
    rcases List.mem_append.1 hb with h | h
    · exact h1.rd.lt b h
    · exact h2.rd.lt b h
  have hp := parts_lit (w := w) (ps := [(.slice A1 7 c1, l1), (.slice A2 1 c2, l2)]) (m := 2) (cs := #[.slice A1 7 c1, .slice A2 1 c2]) (t := 45) rfl rfl (fun p hp => by
    simp only [List.mem_cons, List.not_mem_nil, or_false] at hp
    rcases hp with rfl | rfl
    · exact ⟨_, _, _, rfl, h1⟩
    · exact ⟨_, _, _, rfl, h2⟩)
  refine (join_any _ 2 2 _ _ hp (by omega) (by rw [hN]; omega)).mono ?_
  rintro e w' ⟨A', c', rfl, hown, hx⟩
  rw [hN, hcat] at hown
  refine ⟨A', c', by rw [hN], Bs.of_own hown hlt, fun g o hA => ?_, ((Ext.refl w).alloc _).trans hx⟩
  have := (hown.lt g (by rw [hA]; rfl)).1
  simp at this
  omega
set_option maxHeartbeats 600000 in
theorem sprint_own (x y h : Nat) (w : World) (hL : LaidS w) (hr : recB x y h = true) :
    Calls Tryz.prog 71 #[.agg #[.int .i64 (x : Int), .int .i64 (y : Int)], .int .i64 (h : Int)] w fun e w' => ∃ A' c', e = .returned (.tuple #[.slice A' 8 c', .int .i64 0]) ∧ By w' A' 8 c' (recL x y h) ∧ (∀ g o, A' = some ⟨g, o, none⟩ → w.heap.size ≤ g) ∧ Ext w w' := by
  have hrr := recB_iff.1 hr
  have hE := (Ext.refl w).alloc (.cells #[.int .i64 (x : Int), .int .i64 (y : Int)] 38)
  have hrow := heap_alloc_new w (.cells #[.int .i64 (x : Int), .int .i64 (y : Int)] 38)
  have HB := Lib.hid (show x ≤ 1099511627776 ∧ y < 256 ∧ h < 256 by omega)
  have HL := Lib.hid (hL.ext hE)
  have HM := Lib.hid (fun V hV => may_of (x : Int) (y : Int) (h : Int) V hV)
  rw [hr] at HM
  have HR := Lib.hid hrow
  have HE := Lib.hid hE
  have i0 := fun w => (idx_three (x : Int) (y : Int) (h : Int) w).1
  have i1 := fun w => (idx_three (x : Int) (y : Int) (h : Int) w).2.1
  have i2 := fun w => (idx_three (x : Int) (y : Int) (h : Int) w).2.2
  have HRL : Hid (recL (x : Int) (y : Int) (h : Int) = digs 6 x ++ [y] ++ [h]) := Lib.hid (by unfold recL; rw [Int.toNat_natCast, Int.toNat_natCast, Int.toNat_natCast])
  clear hrr hr hE hL hrow
  go_enter Tryz.func71, Tryz.ntmps71
  go_upto_region 1 with (fail)
  generalize (w.alloc (.cells #[.int .i64 (x : Int), .int .i64 (y : Int)] 38)) = w0 at *
  generalize hg : w.heap.size = g at *
  have HG := Lib.hid hg
  clear hg
  have b0 := cell_of_row w0 g 0 _ _ _ HR.out
  have b1 := cell_of_row w0 g 1 _ _ _ HR.out
  go_wp2_with fail
  refine (HM.out w0 HL.out.o).mono ?_
  rintro e w1 ⟨rfl, hx⟩
  have HE := Lib.hid (HE.out.trans hx)
  have HL := Lib.hid (HL.out.ext hx)
  have HR := Lib.hid (keep_row hx HR.out)
  clear hx b0 b1
  have b0 := cell_of_row w1 g 0 _ _ _ HR.out
  have b1 := cell_of_row w1 g 1 _ _ _ HR.out
  obtain ⟨t0, t1, t2⟩ := HL.out.t
  go_wp2_with fail
  refine wp_loop_rounds 4 ?_
  rw [rounds_succ]
  go_wp2_with fail
  refine (sput6 x _ HL.out.o HB.out.1).mono ?_
  rintro e w2 ⟨A1, c1, rfl, hb, hx⟩
  have HE := Lib.hid (HE.out.trans hx)
  have HL := Lib.hid (HL.out.ext hx)
  have HBy := Lib.hid hb
  clear hx hb b0 b1 t0 t1 t2
  go_wp2_with fail
  refine (sjoin1 w2 (By.none_ w2) HBy.out).mono ?_
  rintro e w3 ⟨A2, c2, rfl, hb, hx⟩
  have HE := Lib.hid (HE.out.trans hx)
  have HL := Lib.hid (HL.out.ext hx)
  have HBy := Lib.hid hb
  clear hx hb
  obtain ⟨t0, t1, t2⟩ := HL.out.t
  go_wp2_with fail
  rw [rounds_succ]
  go_wp2_with fail
  refine (sput1 y _ HL.out.o HB.out.2.1).mono ?_
  rintro e w4 ⟨A3, c3, rfl, hb, hx⟩
  have HE := Lib.hid (HE.out.trans hx)
  have HL := Lib.hid (HL.out.ext hx)
  have HBy := Lib.hid (HBy.out.ext hx)
  have HB2 := Lib.hid hb
  clear hx hb t0 t1 t2
  go_wp2_with fail
  refine (sjoin2 w4 HBy.out HB2.out).mono ?_
  rintro e w5 ⟨A4, c4, rfl, hb, hx⟩
  have HE := Lib.hid (HE.out.trans hx)
  have HL := Lib.hid (HL.out.ext hx)
  have HBy := Lib.hid hb
  clear hx hb HB2
  obtain ⟨t0, t1, t2⟩ := HL.out.t
  go_wp2_with fail
  rw [rounds_succ]
  go_wp2_with fail
  refine (sput1 h _ HL.out.o HB.out.2.2).mono ?_
  rintro e w6 ⟨A5, c5, rfl, hb, hx⟩
  have HE := Lib.hid (HE.out.trans hx)
  have HL := Lib.hid (HL.out.ext hx)
  have HBy := Lib.hid (HBy.out.ext hx)
  have HB2 := Lib.hid hb
  clear hx hb t0 t1 t2
  go_wp2_with fail
  refine (sjoin3o w6 HBy.out HB2.out).mono ?_
  rintro e w7 ⟨A6, c6, rfl, hb, hfr, hx⟩
  have HFR : Hid (∀ g o, A6 = some ⟨g, o, none⟩ → w.heap.size ≤ g) := Lib.hid fun g o hA => Nat.le_trans HE.out.size (hfr g o hA)
  clear hfr
  have HE := Lib.hid (HE.out.trans hx)
  have HBy := Lib.hid hb
  clear hx hb HB2
  go_wp2_with fail
  rw [rounds_succ]
  go_wp2_with fail
  go_ret2
  exact ⟨A6, c6, rfl, HRL.out ▸ HBy.out, HFR.out, HE.out⟩
end
end Go.Proofs.YtmbmpabjclkhlaaGreatDoor
