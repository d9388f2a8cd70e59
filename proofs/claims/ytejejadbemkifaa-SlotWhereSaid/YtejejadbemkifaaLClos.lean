/-
  The contracts of slot's compare, and of the closures that rules and looks for bad or later frames are made of.
-/
import Derived.Test.YtejejadbemkifaaLSmall
import Derived.Lib.Hide
namespace Go.Proofs.Ytejejadbemkifaa
open Go Go.RowKit

theorem bal_cells {w : World} {g : Nat} {x y : Int} {t : TypeId} (h : w.heap[g]? = some (.cells #[.int .i64 x, .int .i64 y] t (0, 0))) : w.cell? ⟨g, 0, none⟩ = some (.int .i64 x) ∧ w.cell? ⟨g, 1, none⟩ = some (.int .i64 y) := ⟨cell_of_row w g 0 _ _ _ h, cell_of_row w g 1 _ _ _ h⟩
theorem keep_row {u w' : World} {g : Nat} {ob : Obj} (k : Ext u w') (h : u.heap[g]? = some ob) : w'.heap[g]? = some ob := (k.block g (Array.getElem?_eq_some_iff.1 h).1).trans h
theorem cell_new {w : World} {cs : Array Value} {t : TypeId} {g i : Nat} {v : Value} (hg : g = w.heap.size) (hv : cs[i]? = some v) : (w.alloc (.cells cs t)).cell? ⟨g, i, none⟩ = some v := by
  subst hg
  exact cell_of_row _ _ i _ _ _ (heap_alloc_new w _) |>.trans hv
theorem ext_cell {w w' : World} {g i : Nat} {v : Value} (h : Ext w w') (hc : w.cell? ⟨g, i, none⟩ = some v) : w'.cell? ⟨g, i, none⟩ = some v := (Below.cell h (p := ⟨g, i, none⟩) (World.block_lt_of_cell? w _ hc)).trans hc
/-- The greater of two ballots, told by a number. -/
def balI (x y a b : Int) : Int := orI (cmpI x a) (cmpI y b)
theorem balI_pos {x y a b : Int} : 0 < balI x y a b ↔ gtL x y a b := by
  unfold balI orI gtL
  rcases cmpI_cases x a with ⟨h, k⟩ | ⟨h, k⟩ | ⟨h, k⟩ <;> rcases cmpI_cases y b with ⟨h2, k2⟩ | ⟨h2, k2⟩ | ⟨h2, k2⟩ <;> rw [h, h2] <;> simp <;> omega
theorem balI_ge {x y a b : Int} : 0 ≤ balI x y a b ↔ ¬ gtL a b x y := by
  unfold balI orI gtL
  rcases cmpI_cases x a with ⟨h, k⟩ | ⟨h, k⟩ | ⟨h, k⟩ <;> rcases cmpI_cases y b with ⟨h2, k2⟩ | ⟨h2, k2⟩ | ⟨h2, k2⟩ <;> rw [h, h2] <;> simp <;> omega
set_option maxRecDepth 100000 in
set_option maxHeartbeats 600000 in
theorem bal_of (x y a b : Int) (w : World) : Calls Try.prog 23 #[.agg #[.int .i64 x, .int .i64 y], .agg #[.int .i64 a, .int .i64 b]] w fun e w' => e = .returned (.int .i64 (balI x y a b)) ∧ Ext w w' := by
  have hE := ((Ext.refl w).alloc (.cells #[.int .i64 x, .int .i64 y] 25)).alloc (.cells #[.int .i64 a, .int .i64 b] 25)
  have hT : ((w.alloc (.cells #[.int .i64 x, .int .i64 y] 25)).alloc (.cells #[.int .i64 a, .int .i64 b] 25)).heap[w.heap.size]? = some (.cells #[.int .i64 x, .int .i64 y] 25 (0, 0)) := keep_row ((Ext.refl _).alloc _) (heap_alloc_new w _)
  have hU : ((w.alloc (.cells #[.int .i64 x, .int .i64 y] 25)).alloc (.cells #[.int .i64 a, .int .i64 b] 25)).heap[w.heap.size + 1]? = some (.cells #[.int .i64 a, .int .i64 b] 25 (0, 0)) := by
    rw [show w.heap.size + 1 = (w.alloc (.cells #[.int .i64 x, .int .i64 y] 25)).heap.size from by simp]
    exact heap_alloc_new _ _
  have HT := Lib.hid hT
  have HU := Lib.hid hU
  have HE := Lib.hid hE
  obtain ⟨i0, i1⟩ := bal_cells hT
  obtain ⟨j0, j1⟩ := bal_cells hU
  clear hT hU hE
  go_enter Try.func23, Try.ntmps23
  go_wp2_with fail
  go_region_held3 (fun w' => w'.cell? ⟨w.heap.size, 0, none⟩ = some (.int .i64 x) ∧ w'.cell? ⟨w.heap.size, 1, none⟩ = some (.int .i64 y) ∧ w'.cell? ⟨w.heap.size + 1, 0, none⟩ = some (.int .i64 a) ∧ w'.cell? ⟨w.heap.size + 1, 1, none⟩ = some (.int .i64 b))
    (first | with_reducible exact ⟨i0, i1, j0, j1⟩ | (refine (fun k => ⟨(bal_cells (keep_row k HT.out)).1, (bal_cells (keep_row k HT.out)).2, (bal_cells (keep_row k HU.out)).1, (bal_cells (keep_row k HU.out)).2⟩) ?_; repeat (first | exact Ext.refl _ | refine Ext.drew ?_ | refine Ext.alloc ?_ _)))
    (first
      | (go_at_call 29; ((with_reducible refine (compare_of _ _ _).mono ?_); rintro e w1 ⟨rfl, rfl⟩))
      | (go_at_call 28; ((refine (or_of _ _ (cmpI x a) (cmpI y b) _ ?_ ?_).mono ?_); (first | exact cell_new (by simp) rfl | (show (World.drew _).cell? _ = _; exact cell_new (by simp) rfl)); (first | exact cell_new (by simp) rfl | (show (World.drew _).cell? _ = _; exact cell_new (by simp) rfl)); rintro e w1 ⟨rfl, rfl⟩)))
  all_goals
    clear i0 i1 j0 j1
    go_wp2_with fail
    go_ret
    exact ⟨rfl, by repeat (first | exact HE.out | refine Ext.drew ?_ | refine Ext.alloc ?_ _)⟩

/-- Is a frame of index i? -/
theorem isForIndex_of (c : Cop) (g : Nat) (i : Int) (w : World) (hg : w.cell? ⟨g, 0, none⟩ = some (.int .i64 i)) :
    Calls Try.prog 17 #[.agg #[.int .u8 (c.st : Int), .int .i64 c.ix, .int .i64 c.bx, .int .i64 c.yb, .int .u8 (c.e.k : Int), .int .i64 c.e.cl, .int .i64 c.e.sq, .int .u8 (c.e.ok : Int), .string c.e.key, .string c.e.old, .string c.e.val], .pointer (some ⟨g, 0, none⟩)] w fun e w' => e = .returned (.bool ((c.st : Int) == 1 && c.ix == i)) ∧ Ext w w' := by
  have hE := (Ext.refl w).alloc (.cells #[.int .u8 (c.st : Int), .int .i64 c.ix, .int .i64 c.bx, .int .i64 c.yb, .int .u8 (c.e.k : Int), .int .i64 c.e.cl, .int .i64 c.e.sq, .int .u8 (c.e.ok : Int), .string c.e.key, .string c.e.old, .string c.e.val] 33)
  have hg2 := ext_cell ((Ext.refl w).alloc (.cells #[.int .u8 (c.st : Int), .int .i64 c.ix, .int .i64 c.bx, .int .i64 c.yb, .int .u8 (c.e.k : Int), .int .i64 c.e.cl, .int .i64 c.e.sq, .int .u8 (c.e.ok : Int), .string c.e.key, .string c.e.old, .string c.e.val] 33)) hg
  have HE := Lib.hid hE
  have HF := Lib.hid isFor_of
  clear hE hg
  go_enter Try.func17, Try.ntmps17
  go_wp2_with fail
  refine (HF.out _ _ _ _).mono ?_
  rintro e w1 ⟨rfl, rfl⟩
  go_wp2_with fail
  go_ret
  exact ⟨rfl, HE.out⟩
/-- Is a frame bad? -/
theorem isBad1_of (c : Cop) (w : World) :
    Calls Try.prog 20 #[.agg #[.int .u8 (c.st : Int), .int .i64 c.ix, .int .i64 c.bx, .int .i64 c.yb, .int .u8 (c.e.k : Int), .int .i64 c.e.cl, .int .i64 c.e.sq, .int .u8 (c.e.ok : Int), .string c.e.key, .string c.e.old, .string c.e.val]] w fun e w' => e = .returned (.bool ((c.st : Int) != 0 && (c.st : Int) != 1)) ∧ Ext w w' := by
  have hE := (Ext.refl w).alloc (.cells #[.int .u8 (c.st : Int), .int .i64 c.ix, .int .i64 c.bx, .int .i64 c.yb, .int .u8 (c.e.k : Int), .int .i64 c.e.cl, .int .i64 c.e.sq, .int .u8 (c.e.ok : Int), .string c.e.key, .string c.e.old, .string c.e.val] 33)
  have HE := Lib.hid hE
  have HF := Lib.hid isBad_of
  clear hE
  go_enter Try.func20, Try.ntmps20
  go_wp2_with fail
  refine (HF.out _ _).mono ?_
  rintro e w1 ⟨rfl, rfl⟩
  go_wp2_with fail
  go_ret
  exact ⟨rfl, HE.out⟩
theorem isNone_of (c : Cop) (w : World) :
    Calls Try.prog 25 #[.agg #[.int .u8 (c.st : Int), .int .i64 c.ix, .int .i64 c.bx, .int .i64 c.yb, .int .u8 (c.e.k : Int), .int .i64 c.e.cl, .int .i64 c.e.sq, .int .u8 (c.e.ok : Int), .string c.e.key, .string c.e.old, .string c.e.val]] w fun e w' => e = .returned (.bool false) ∧ Ext w w' := by
  have hE := (Ext.refl w).alloc (.cells #[.int .u8 (c.st : Int), .int .i64 c.ix, .int .i64 c.bx, .int .i64 c.yb, .int .u8 (c.e.k : Int), .int .i64 c.e.cl, .int .i64 c.e.sq, .int .u8 (c.e.ok : Int), .string c.e.key, .string c.e.old, .string c.e.val] 33)
  have HE := Lib.hid hE
  clear hE
  go_enter Try.func25, Try.ntmps25
  go_wp2_with fail
  go_ret
  exact ⟨rfl, HE.out⟩
/-- Is a frame of a greater index? -/
theorem isLater_of (c : Cop) (g : Nat) (i : Int) (w : World) (hg : w.cell? ⟨g, 0, none⟩ = some (.int .i64 i)) :
    Calls Try.prog 30 #[.agg #[.int .u8 (c.st : Int), .int .i64 c.ix, .int .i64 c.bx, .int .i64 c.yb, .int .u8 (c.e.k : Int), .int .i64 c.e.cl, .int .i64 c.e.sq, .int .u8 (c.e.ok : Int), .string c.e.key, .string c.e.old, .string c.e.val], .pointer (some ⟨g, 0, none⟩)] w fun e w' => e = .returned (.bool ((c.st : Int) == 1 && decide (i < c.ix))) ∧ Ext w w' := by
  have hE := (Ext.refl w).alloc (.cells #[.int .u8 (c.st : Int), .int .i64 c.ix, .int .i64 c.bx, .int .i64 c.yb, .int .u8 (c.e.k : Int), .int .i64 c.e.cl, .int .i64 c.e.sq, .int .u8 (c.e.ok : Int), .string c.e.key, .string c.e.old, .string c.e.val] 33)
  have hg2 := ext_cell ((Ext.refl w).alloc (.cells #[.int .u8 (c.st : Int), .int .i64 c.ix, .int .i64 c.bx, .int .i64 c.yb, .int .u8 (c.e.k : Int), .int .i64 c.e.cl, .int .i64 c.e.sq, .int .u8 (c.e.ok : Int), .string c.e.key, .string c.e.old, .string c.e.val] 33)) hg
  have HE := Lib.hid hE
  clear hE hg
  obtain ⟨b, hb⟩ : ∃ b, ((c.st : Int) == 1) = b := ⟨_, rfl⟩
  obtain ⟨d, hd⟩ : ∃ d, decide (i < c.ix) = d := ⟨_, rfl⟩
  rw [hb, hd]
  cases b <;>
  · go_enter Try.func30, Try.ntmps30
    go_wp2_with fail
    go_ret
    exact ⟨rfl, HE.out⟩
/-- May a slot be intact by a frame, by a record of its index? -/
theorem isRecent_of (c : Cop) (p : Rec) (g5 g7 g3 : Nat) (i : Int) (w : World) (h5 : w.cell? ⟨g5, 0, none⟩ = some (.int .i64 i)) (h7 : w.cell? ⟨g7, 0, none⟩ = some (.func (.func 17) #[] #[.pointer (some ⟨g5, 0, none⟩)]))
    (hx : w.cell? ⟨g3, 2, none⟩ = some (.int .i64 p.bx)) (hy : w.cell? ⟨g3, 3, none⟩ = some (.int .i64 p.yb)) :
    Calls Try.prog 22 #[.agg #[.int .u8 (c.st : Int), .int .i64 c.ix, .int .i64 c.bx, .int .i64 c.yb, .int .u8 (c.e.k : Int), .int .i64 c.e.cl, .int .i64 c.e.sq, .int .u8 (c.e.ok : Int), .string c.e.key, .string c.e.old, .string c.e.val], .pointer (some ⟨g7, 0, none⟩), .pointer (some ⟨g3, 0, none⟩)] w fun e w' => e = .returned (.bool (((c.st : Int) == 1 && c.ix == i) && decide (0 ≤ balI c.bx c.yb p.bx p.yb))) ∧ Ext w w' := by
  have hE := (Ext.refl w).alloc (.cells #[.int .u8 (c.st : Int), .int .i64 c.ix, .int .i64 c.bx, .int .i64 c.yb, .int .u8 (c.e.k : Int), .int .i64 c.e.cl, .int .i64 c.e.sq, .int .u8 (c.e.ok : Int), .string c.e.key, .string c.e.old, .string c.e.val] 33)
  have HE := Lib.hid hE
  have HI := Lib.hid (isForIndex_of c g5 i _ (ext_cell ((Ext.refl w).alloc (.cells #[.int .u8 (c.st : Int), .int .i64 c.ix, .int .i64 c.bx, .int .i64 c.yb, .int .u8 (c.e.k : Int), .int .i64 c.e.cl, .int .i64 c.e.sq, .int .u8 (c.e.ok : Int), .string c.e.key, .string c.e.old, .string c.e.val] 33)) h5))
  have HB := Lib.hid (bal_of c.bx c.yb p.bx p.yb)
  have k7 := ext_cell ((Ext.refl w).alloc (.cells #[.int .u8 (c.st : Int), .int .i64 c.ix, .int .i64 c.bx, .int .i64 c.yb, .int .u8 (c.e.k : Int), .int .i64 c.e.cl, .int .i64 c.e.sq, .int .u8 (c.e.ok : Int), .string c.e.key, .string c.e.old, .string c.e.val] 33)) h7
  have kx := ext_cell ((Ext.refl w).alloc (.cells #[.int .u8 (c.st : Int), .int .i64 c.ix, .int .i64 c.bx, .int .i64 c.yb, .int .u8 (c.e.k : Int), .int .i64 c.e.cl, .int .i64 c.e.sq, .int .u8 (c.e.ok : Int), .string c.e.key, .string c.e.old, .string c.e.val] 33)) hx
  have ky := ext_cell ((Ext.refl w).alloc (.cells #[.int .u8 (c.st : Int), .int .i64 c.ix, .int .i64 c.bx, .int .i64 c.yb, .int .u8 (c.e.k : Int), .int .i64 c.e.cl, .int .i64 c.e.sq, .int .u8 (c.e.ok : Int), .string c.e.key, .string c.e.old, .string c.e.val] 33)) hy
  have hT := heap_alloc_new w (.cells #[.int .u8 (c.st : Int), .int .i64 c.ix, .int .i64 c.bx, .int .i64 c.yb, .int .u8 (c.e.k : Int), .int .i64 c.e.cl, .int .i64 c.e.sq, .int .u8 (c.e.ok : Int), .string c.e.key, .string c.e.old, .string c.e.val] 33)
  have c2 := cell_of_row _ _ 2 _ _ _ hT
  have c3 := cell_of_row _ _ 3 _ _ _ hT
  have KX := Lib.hid kx
  have KY := Lib.hid ky
  have C2 := Lib.hid c2
  have C3 := Lib.hid c3
  clear hE h5 h7 hx hy hT c2 c3 kx ky
  obtain ⟨b, hb⟩ : ∃ b, ((c.st : Int) == 1 && c.ix == i) = b := ⟨_, rfl⟩
  obtain ⟨z, hz⟩ : ∃ z, balI c.bx c.yb p.bx p.yb = z := ⟨_, rfl⟩
  rw [hb] at HI ⊢
  rw [hz] at HB ⊢
  clear hb hz
  cases b with
  | false =>
    go_enter Try.func22, Try.ntmps22
    go_wp2_with fail
    refine HI.out.mono ?_
    rintro e w1 ⟨rfl, hx⟩
    have HX := Lib.hid (HE.out.trans hx)
    clear hx
    go_wp2_with fail
    go_ret
    exact ⟨rfl, HX.out⟩
  | true =>
    go_enter Try.func22, Try.ntmps22
    go_wp2_with fail
    refine HI.out.mono ?_
    rintro e w1 ⟨rfl, hx⟩
    have HX := Lib.hid (HE.out.trans hx)
    have kx := ext_cell hx KX.out
    have ky := ext_cell hx KY.out
    have k2 := ext_cell hx C2.out
    have k3 := ext_cell hx C3.out
    clear hx
    go_wp2_with fail
    refine (HB.out _).mono ?_
    rintro e w2 ⟨rfl, hx⟩
    have HX := Lib.hid (HX.out.trans hx)
    clear hx kx ky k2 k3
    go_wp2_with fail
    go_ret
    exact ⟨rfl, HX.out⟩
end Go.Proofs.Ytejejadbemkifaa
