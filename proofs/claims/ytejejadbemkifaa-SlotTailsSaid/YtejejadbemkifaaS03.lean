/-
  The contracts of slot's small functions: other, isFrame, isFor, isBad, isNone; cmp's Compare and Or; compare.
  The contracts of slot's compare, and of the closures that rules and looks for bad or later frames are made of.
  The contracts of slices' IndexFunc and ContainsFunc over two copies, of isCovered and named.
  The contracts of slot's named and isCovered.
  Values stored one behind the other into a block: its row then; what lies elsewhere stays.
-/
import Derived.Test.YtejejadbemkifaaS02
import Derived.Deep.RegionHeld3
import Derived.LoopN
import Derived.Lib.Hide
import Derived.Shelf.Abstract
namespace Go.Proofs.Ytejejadbemkifaa
set_option maxRecDepth 100000
open Go Go.RowKit

theorem other_of (k : Int) (hk : k = 0 ∨ k = 1) (w : World) : Calls Try.prog 16 #[.int .i64 k] w fun e w' => e = .returned (.int .i64 (1 - k)) ∧ w' = w := by
  rcases hk with rfl | rfl
  · go_enter Try.func16, Try.ntmps16
    go_wp2
    go_ret
    exact ⟨rfl, rfl⟩
  · go_enter Try.func16, Try.ntmps16
    go_wp2
    go_ret
    exact ⟨rfl, rfl⟩
theorem isFrame_of (k : Int) (hk : k = 0 ∨ k = 1) (w : World) : Calls Try.prog 26 #[.int .i64 k] w fun e w' => e = .returned (.bool true) ∧ w' = w := by
  rcases hk with rfl | rfl
  · go_enter Try.func26, Try.ntmps26
    go_wp2
    go_ret
    exact ⟨rfl, rfl⟩
  · go_enter Try.func26, Try.ntmps26
    go_wp2
    go_ret
    exact ⟨rfl, rfl⟩
theorem isFor_of (st ix i : Int) (w : World) : Calls Try.prog 18 #[.int .u8 st, .int .i64 ix, .int .i64 i] w fun e w' => e = .returned (.bool (st == 1 && ix == i)) ∧ w' = w := by
  obtain ⟨b, hb⟩ : ∃ b, (st == 1) = b := ⟨_, rfl⟩
  obtain ⟨c, hc⟩ : ∃ c, (ix == i) = c := ⟨_, rfl⟩
  rw [hb, hc]
  cases b <;>
  · go_enter Try.func18, Try.ntmps18
    go_wp2
    go_ret
    exact ⟨rfl, rfl⟩
theorem isBad_of (st : Int) (w : World) : Calls Try.prog 21 #[.int .u8 st] w fun e w' => e = .returned (.bool (st != 0 && st != 1)) ∧ w' = w := by
  obtain ⟨b, hb⟩ : ∃ b, (st != 0) = b := ⟨_, rfl⟩
  obtain ⟨c, hc⟩ : ∃ c, (st != 1) = c := ⟨_, rfl⟩
  rw [hb, hc]
  cases b <;>
  · go_enter Try.func21, Try.ntmps21
    go_wp2
    go_ret
    exact ⟨rfl, rfl⟩
theorem isNaN_of (x : Int) (w : World) : Calls Try.prog 31 #[.int .i64 x] w fun e w' => e = .returned (.bool false) ∧ w' = w := by
  go_enter Try.func31, Try.ntmps31
  go_wp2
  go_ret
  exact ⟨by simp, rfl⟩
/-- Two numbers compared: -1, 0 or 1. -/
def cmpI (x y : Int) : Int := if x < y then -1 else if y < x then 1 else 0
theorem cmpI_cases (x y : Int) : (cmpI x y = -1 ∧ x < y) ∨ (cmpI x y = 0 ∧ x = y) ∨ (cmpI x y = 1 ∧ y < x) := by
  unfold cmpI
  by_cases h : x < y
  · exact .inl ⟨if_pos h, h⟩
  · rw [if_neg h]
    by_cases h2 : y < x
    · exact .inr (.inr ⟨if_pos h2, h2⟩)
    · exact .inr (.inl ⟨if_neg h2, by omega⟩)
theorem compare_of (x y : Int) (w : World) : Calls Try.prog 29 #[.int .i64 x, .int .i64 y] w fun e w' => e = .returned (.int .i64 (cmpI x y)) ∧ w' = w := by
  have HN := Lib.hid isNaN_of
  obtain ⟨z, hz⟩ : ∃ z, cmpI x y = z := ⟨_, rfl⟩
  have hc := cmpI_cases x y
  rw [hz] at hc ⊢
  clear hz
  rcases hc with ⟨rfl, h⟩ | ⟨rfl, h⟩ | ⟨rfl, h⟩
  · have h1 : decide (x < y) = true := decide_eq_true h
    go_enter Try.func29, Try.ntmps29
    go_wp2_with fail
    refine (HN.out _ _).mono ?_
    rintro e w1 ⟨rfl, rfl⟩
    go_wp2_with fail
    refine (HN.out _ _).mono ?_
    rintro e w1 ⟨rfl, rfl⟩
    go_wp2_with fail
    go_ret
    exact ⟨rfl, rfl⟩
  · subst h
    go_enter Try.func29, Try.ntmps29
    go_wp2_with fail
    refine (HN.out _ _).mono ?_
    rintro e w1 ⟨rfl, rfl⟩
    go_wp2_with fail
    refine (HN.out _ _).mono ?_
    rintro e w1 ⟨rfl, rfl⟩
    go_wp2_with fail
    go_ret
    exact ⟨rfl, rfl⟩
  · have h1 : ¬ x < y := by omega
    go_enter Try.func29, Try.ntmps29
    go_wp2_with fail
    refine (HN.out _ _).mono ?_
    rintro e w1 ⟨rfl, rfl⟩
    go_wp2_with fail
    refine (HN.out _ _).mono ?_
    rintro e w1 ⟨rfl, rfl⟩
    go_wp2_with fail
    go_ret
    exact ⟨rfl, rfl⟩
/-- The first of two numbers that is not 0. -/
def orI (a b : Int) : Int := if a = 0 then b else a
theorem or_of (g c : Nat) (a b : Int) (w : World) (h0 : w.cell? ⟨g, 0, none⟩ = some (.int .i64 a)) (h1 : w.cell? ⟨g, 1, none⟩ = some (.int .i64 b)) :
    Calls Try.prog 28 #[.slice (some ⟨g, 0, none⟩) 2 c] w fun e w' => e = .returned (.int .i64 (orI a b)) ∧ w' = w := by
  by_cases ha : a = 0
  · subst ha
    by_cases hb : b = 0
    · subst hb
      go_enter Try.func28, Try.ntmps28
      go_wp2_with fail
      refine wp_loop_rounds 3 ?_
      rw [rounds_succ]
      go_wp2_with fail
      rw [rounds_succ]
      go_wp2_with fail
      rw [rounds_succ]
      go_wp2_with fail
      go_ret
      exact ⟨rfl, rfl⟩
    · have hb2 : (b != 0) = true := by simpa using hb
      go_enter Try.func28, Try.ntmps28
      go_wp2_with fail
      refine wp_loop_rounds 3 ?_
      rw [rounds_succ]
      go_wp2_with fail
      rw [rounds_succ]
      go_wp2_with fail
      go_ret
      exact ⟨rfl, rfl⟩
  · have ha2 : (a != 0) = true := by simpa using ha
    have he : orI a b = a := if_neg ha
    rw [he]
    go_enter Try.func28, Try.ntmps28
    go_wp2_with fail
    refine wp_loop_rounds 3 ?_
    rw [rounds_succ]
    go_wp2_with fail
    go_ret
    exact ⟨rfl, rfl⟩
end Go.Proofs.Ytejejadbemkifaa

namespace Go.Proofs.Ytejejadbemkifaa
set_option maxRecDepth 100000
open Go Go.RowKit

theorem bal_cells {w : World} {g : Nat} {x y : Int} {t : TypeId} (h : w.heap[g]? = some (.cells #[.int .i64 x, .int .i64 y] t (0, 0))) : w.cell? ⟨g, 0, none⟩ = some (.int .i64 x) ∧ w.cell? ⟨g, 1, none⟩ = some (.int .i64 y) := ⟨cell_of_row w g 0 _ _ _ h, cell_of_row w g 1 _ _ _ h⟩
theorem keep_row {u w' : World} {g : Nat} {ob : Obj} (k : Ext u w') (h : u.heap[g]? = some ob) : w'.heap[g]? = some ob := (k.block g (Array.getElem?_eq_some_iff.1 h).1).trans h
theorem cell_new {w : World} {cs : Array Value} {t : TypeId} {g i : Nat} {v : Value} (hg : g = w.heap.size) (hv : cs[i]? = some v) : (w.alloc (.cells cs t)).cell? ⟨g, i, none⟩ = some v := by
  subst hg
  exact cell_of_row _ _ i _ _ _ (heap_alloc_new w _) |>.trans hv
theorem ext_cell {w w' : World} {g i : Nat} {v : Value} (h : Ext w w') (hc : w.cell? ⟨g, i, none⟩ = some v) : w'.cell? ⟨g, i, none⟩ = some v := (Below.cell h (p := ⟨g, i, none⟩) (World.block_lt_of_cell? w _ hc)).trans hc
/-- The greater of two ballots, told by a number. -/
def balI (x y a b : Int) : Int := orI (cmpI x a) (cmpI y b)
theorem balI_pos {x y a b : Int} : 0 < balI x y a b ↔ gtL x y a b := by
  unfold balI orI gtL
  rcases cmpI_cases x a with ⟨h, k⟩ | ⟨h, k⟩ | ⟨h, k⟩ <;> rcases cmpI_cases y b with ⟨h2, k2⟩ | ⟨h2, k2⟩ | ⟨h2, k2⟩ <;> rw [h, h2] <;> simp <;> omega
theorem balI_ge {x y a b : Int} : 0 ≤ balI x y a b ↔ ¬ gtL a b x y := by
  unfold balI orI gtL
  rcases cmpI_cases x a with ⟨h, k⟩ | ⟨h, k⟩ | ⟨h, k⟩ <;> rcases cmpI_cases y b with ⟨h2, k2⟩ | ⟨h2, k2⟩ | ⟨h2, k2⟩ <;> rw [h, h2] <;> simp <;> omega
set_option maxRecDepth 100000 in
set_option maxHeartbeats 600000 in
theorem bal_of (x y a b : Int) (w : World) : Calls Try.prog 23 #[.agg #[.int .i64 x, .int .i64 y], .agg #[.int .i64 a, .int .i64 b]] w fun e w' => e = .returned (.int .i64 (balI x y a b)) ∧ Ext w w' := by
  have hE := ((Ext.refl w).alloc (.cells #[.int .i64 x, .int .i64 y] 25)).alloc (.cells #[.int .i64 a, .int .i64 b] 25)
  have hT : ((w.alloc (.cells #[.int .i64 x, .int .i64 y] 25)).alloc (.cells #[.int .i64 a, .int .i64 b] 25)).heap[w.heap.size]? = some (.cells #[.int .i64 x, .int .i64 y] 25 (0, 0)) := keep_row ((Ext.refl _).alloc _) (heap_alloc_new w _)
  have hU : ((w.alloc (.cells #[.int .i64 x, .int .i64 y] 25)).alloc (.cells #[.int .i64 a, .int .i64 b] 25)).heap[w.heap.size + 1]? = some (.cells #[.int .i64 a, .int .i64 b] 25 (0, 0)) := by
    rw [show w.heap.size + 1 = (w.alloc (.cells #[.int .i64 x, .int .i64 y] 25)).heap.size from by simp]
    exact heap_alloc_new _ _
  have HT := Lib.hid hT
  have HU := Lib.hid hU
  have HE := Lib.hid hE
  obtain ⟨i0, i1⟩ := bal_cells hT
  obtain ⟨j0, j1⟩ := bal_cells hU
  clear hT hU hE
  go_enter Try.func23, Try.ntmps23
  go_wp2_with fail
  go_region_held3 (fun w' => w'.cell? ⟨w.heap.size, 0, none⟩ = some (.int .i64 x) ∧ w'.cell? ⟨w.heap.size, 1, none⟩ = some (.int .i64 y) ∧ w'.cell? ⟨w.heap.size + 1, 0, none⟩ = some (.int .i64 a) ∧ w'.cell? ⟨w.heap.size + 1, 1, none⟩ = some (.int .i64 b))
    (first | with_reducible exact ⟨i0, i1, j0, j1⟩ | (refine (fun k => ⟨(bal_cells (keep_row k HT.out)).1, (bal_cells (keep_row k HT.out)).2, (bal_cells (keep_row k HU.out)).1, (bal_cells (keep_row k HU.out)).2⟩) ?_; repeat (first | exact Ext.refl _ | refine Ext.drew ?_ | refine Ext.alloc ?_ _)))
    (first
      | (go_at_call 29; ((with_reducible refine (compare_of _ _ _).mono ?_); rintro e w1 ⟨rfl, rfl⟩))
      | (go_at_call 28; ((refine (or_of _ _ (cmpI x a) (cmpI y b) _ ?_ ?_).mono ?_); (first | exact cell_new (by simp) rfl | (show (World.drew _).cell? _ = _; exact cell_new (by simp) rfl)); (first | exact cell_new (by simp) rfl | (show (World.drew _).cell? _ = _; exact cell_new (by simp) rfl)); rintro e w1 ⟨rfl, rfl⟩)))
  all_goals
    clear i0 i1 j0 j1
    go_wp2_with fail
    go_ret
    exact ⟨rfl, by repeat (first | exact HE.out | refine Ext.drew ?_ | refine Ext.alloc ?_ _)⟩

/-- Is a frame of index i? -/
theorem isForIndex_of (c : Cop) (g : Nat) (i : Int) (w : World) (hg : w.cell? ⟨g, 0, none⟩ = some (.int .i64 i)) :
    Calls Try.prog 17 #[.agg #[.int .u8 (c.st : Int), .int .i64 c.ix, .int .i64 c.bx, .int .i64 c.yb, .int .u8 (c.e.k : Int), .int .i64 c.e.cl, .int .i64 c.e.sq, .int .u8 (c.e.ok : Int), .string c.e.key, .string c.e.old, .string c.e.val], .pointer (some ⟨g, 0, none⟩)] w fun e w' => e = .returned (.bool ((c.st : Int) == 1 && c.ix == i)) ∧ Ext w w' := by
  have hE := (Ext.refl w).alloc (.cells #[.int .u8 (c.st : Int), .int .i64 c.ix, .int .i64 c.bx, .int .i64 c.yb, .int .u8 (c.e.k : Int), .int .i64 c.e.cl, .int .i64 c.e.sq, .int .u8 (c.e.ok : Int), .string c.e.key, .string c.e.old, .string c.e.val] 33)
  have hg2 := ext_cell ((Ext.refl w).alloc (.cells #[.int .u8 (c.st : Int), .int .i64 c.ix, .int .i64 c.bx, .int .i64 c.yb, .int .u8 (c.e.k : Int), .int .i64 c.e.cl, .int .i64 c.e.sq, .int .u8 (c.e.ok : Int), .string c.e.key, .string c.e.old, .string c.e.val] 33)) hg
  have HE := Lib.hid hE
  have HF := Lib.hid isFor_of
  clear hE hg
  go_enter Try.func17, Try.ntmps17
  go_wp2_with fail
  refine (HF.out _ _ _ _).mono ?_
  rintro e w1 ⟨rfl, rfl⟩
  go_wp2_with fail
  go_ret
  exact ⟨rfl, HE.out⟩
/-- Is a frame bad? -/
theorem isBad1_of (c : Cop) (w : World) :
    Calls Try.prog 20 #[.agg #[.int .u8 (c.st : Int), .int .i64 c.ix, .int .i64 c.bx, .int .i64 c.yb, .int .u8 (c.e.k : Int), .int .i64 c.e.cl, .int .i64 c.e.sq, .int .u8 (c.e.ok : Int), .string c.e.key, .string c.e.old, .string c.e.val]] w fun e w' => e = .returned (.bool ((c.st : Int) != 0 && (c.st : Int) != 1)) ∧ Ext w w' := by
  have hE := (Ext.refl w).alloc (.cells #[.int .u8 (c.st : Int), .int .i64 c.ix, .int .i64 c.bx, .int .i64 c.yb, .int .u8 (c.e.k : Int), .int .i64 c.e.cl, .int .i64 c.e.sq, .int .u8 (c.e.ok : Int), .string c.e.key, .string c.e.old, .string c.e.val] 33)
  have HE := Lib.hid hE
  have HF := Lib.hid isBad_of
  clear hE
  go_enter Try.func20, Try.ntmps20
  go_wp2_with fail
  refine (HF.out _ _).mono ?_
  rintro e w1 ⟨rfl, rfl⟩
  go_wp2_with fail
  go_ret
  exact ⟨rfl, HE.out⟩
theorem isNone_of (c : Cop) (w : World) :
    Calls Try.prog 25 #[.agg #[.int .u8 (c.st : Int), .int .i64 c.ix, .int .i64 c.bx, .int .i64 c.yb, .int .u8 (c.e.k : Int), .int .i64 c.e.cl, .int .i64 c.e.sq, .int .u8 (c.e.ok : Int), .string c.e.key, .string c.e.old, .string c.e.val]] w fun e w' => e = .returned (.bool false) ∧ Ext w w' := by
  have hE := (Ext.refl w).alloc (.cells #[.int .u8 (c.st : Int), .int .i64 c.ix, .int .i64 c.bx, .int .i64 c.yb, .int .u8 (c.e.k : Int), .int .i64 c.e.cl, .int .i64 c.e.sq, .int .u8 (c.e.ok : Int), .string c.e.key, .string c.e.old, .string c.e.val] 33)
  have HE := Lib.hid hE
  clear hE
  go_enter Try.func25, Try.ntmps25
  go_wp2_with fail
  go_ret
  exact ⟨rfl, HE.out⟩
/-- Is a frame of a greater index? -/
theorem isLater_of (c : Cop) (g : Nat) (i : Int) (w : World) (hg : w.cell? ⟨g, 0, none⟩ = some (.int .i64 i)) :
    Calls Try.prog 30 #[.agg #[.int .u8 (c.st : Int), .int .i64 c.ix, .int .i64 c.bx, .int .i64 c.yb, .int .u8 (c.e.k : Int), .int .i64 c.e.cl, .int .i64 c.e.sq, .int .u8 (c.e.ok : Int), .string c.e.key, .string c.e.old, .string c.e.val], .pointer (some ⟨g, 0, none⟩)] w fun e w' => e = .returned (.bool ((c.st : Int) == 1 && decide (i < c.ix))) ∧ Ext w w' := by
  have hE := (Ext.refl w).alloc (.cells #[.int .u8 (c.st : Int), .int .i64 c.ix, .int .i64 c.bx, .int .i64 c.yb, .int .u8 (c.e.k : Int), .int .i64 c.e.cl, .int .i64 c.e.sq, .int .u8 (c.e.ok : Int), .string c.e.key, .string c.e.old, .string c.e.val] 33)
  have hg2 := ext_cell ((Ext.refl w).alloc (.cells #[.int .u8 (c.st : Int), .int .i64 c.ix, .int .i64 c.bx, .int .i64 c.yb, .int .u8 (c.e.k : Int), .int .i64 c.e.cl, .int .i64 c.e.sq, .int .u8 (c.e.ok : Int), .string c.e.key, .string c.e.old, .string c.e.val] 33)) hg
  have HE := Lib.hid hE
  clear hE hg
  obtain ⟨b, hb⟩ : ∃ b, ((c.st : Int) == 1) = b := ⟨_, rfl⟩
  obtain ⟨d, hd⟩ : ∃ d, decide (i < c.ix) = d := ⟨_, rfl⟩
  rw [hb, hd]
  cases b <;>
  · go_enter Try.func30, Try.ntmps30
    go_wp2_with fail
    go_ret
    exact ⟨rfl, HE.out⟩
/-- May a slot be intact by a frame, by a record of its index? -/
theorem isRecent_of (c : Cop) (p : Rec) (g5 g7 g3 : Nat) (i : Int) (w : World) (h5 : w.cell? ⟨g5, 0, none⟩ = some (.int .i64 i)) (h7 : w.cell? ⟨g7, 0, none⟩ = some (.func (.func 17) #[] #[.pointer (some ⟨g5, 0, none⟩)]))
    (hx : w.cell? ⟨g3, 2, none⟩ = some (.int .i64 p.bx)) (hy : w.cell? ⟨g3, 3, none⟩ = some (.int .i64 p.yb)) :
    Calls Try.prog 22 #[.agg #[.int .u8 (c.st : Int), .int .i64 c.ix, .int .i64 c.bx, .int .i64 c.yb, .int .u8 (c.e.k : Int), .int .i64 c.e.cl, .int .i64 c.e.sq, .int .u8 (c.e.ok : Int), .string c.e.key, .string c.e.old, .string c.e.val], .pointer (some ⟨g7, 0, none⟩), .pointer (some ⟨g3, 0, none⟩)] w fun e w' => e = .returned (.bool (((c.st : Int) == 1 && c.ix == i) && decide (0 ≤ balI c.bx c.yb p.bx p.yb))) ∧ Ext w w' := by
  have hE := (Ext.refl w).alloc (.cells #[.int .u8 (c.st : Int), .int .i64 c.ix, .int .i64 c.bx, .int .i64 c.yb, .int .u8 (c.e.k : Int), .int .i64 c.e.cl, .int .i64 c.e.sq, .int .u8 (c.e.ok : Int), .string c.e.key, .string c.e.old, .string c.e.val] 33)
  have HE := Lib.hid hE
  have HI := Lib.hid (isForIndex_of c g5 i _ (ext_cell ((Ext.refl w).alloc (.cells #[.int .u8 (c.st : Int), .int .i64 c.ix, .int .i64 c.bx, .int .i64 c.yb, .int .u8 (c.e.k : Int), .int .i64 c.e.cl, .int .i64 c.e.sq, .int .u8 (c.e.ok : Int), .string c.e.key, .string c.e.old, .string c.e.val] 33)) h5))
  have HB := Lib.hid (bal_of c.bx c.yb p.bx p.yb)
  have k7 := ext_cell ((Ext.refl w).alloc (.cells #[.int .u8 (c.st : Int), .int .i64 c.ix, .int .i64 c.bx, .int .i64 c.yb, .int .u8 (c.e.k : Int), .int .i64 c.e.cl, .int .i64 c.e.sq, .int .u8 (c.e.ok : Int), .string c.e.key, .string c.e.old, .string c.e.val] 33)) h7
  have kx := ext_cell ((Ext.refl w).alloc (.cells #[.int .u8 (c.st : Int), .int .i64 c.ix, .int .i64 c.bx, .int .i64 c.yb, .int .u8 (c.e.k : Int), .int .i64 c.e.cl, .int .i64 c.e.sq, .int .u8 (c.e.ok : Int), .string c.e.key, .string c.e.old, .string c.e.val] 33)) hx
  have ky := ext_cell ((Ext.refl w).alloc (.cells #[.int .u8 (c.st : Int), .int .i64 c.ix, .int .i64 c.bx, .int .i64 c.yb, .int .u8 (c.e.k : Int), .int .i64 c.e.cl, .int .i64 c.e.sq, .int .u8 (c.e.ok : Int), .string c.e.key, .string c.e.old, .string c.e.val] 33)) hy
  have hT := heap_alloc_new w (.cells #[.int .u8 (c.st : Int), .int .i64 c.ix, .int .i64 c.bx, .int .i64 c.yb, .int .u8 (c.e.k : Int), .int .i64 c.e.cl, .int .i64 c.e.sq, .int .u8 (c.e.ok : Int), .string c.e.key, .string c.e.old, .string c.e.val] 33)
  have c2 := cell_of_row _ _ 2 _ _ _ hT
  have c3 := cell_of_row _ _ 3 _ _ _ hT
  have KX := Lib.hid kx
  have KY := Lib.hid ky
  have C2 := Lib.hid c2
  have C3 := Lib.hid c3
  clear hE h5 h7 hx hy hT c2 c3 kx ky
  obtain ⟨b, hb⟩ : ∃ b, ((c.st : Int) == 1 && c.ix == i) = b := ⟨_, rfl⟩
  obtain ⟨z, hz⟩ : ∃ z, balI c.bx c.yb p.bx p.yb = z := ⟨_, rfl⟩
  rw [hb] at HI ⊢
  rw [hz] at HB ⊢
  clear hb hz
  cases b with
  | false =>
    go_enter Try.func22, Try.ntmps22
    go_wp2_with fail
    refine HI.out.mono ?_
    rintro e w1 ⟨rfl, hx⟩
    have HX := Lib.hid (HE.out.trans hx)
    clear hx
    go_wp2_with fail
    go_ret
    exact ⟨rfl, HX.out⟩
  | true =>
    go_enter Try.func22, Try.ntmps22
    go_wp2_with fail
    refine HI.out.mono ?_
    rintro e w1 ⟨rfl, hx⟩
    have HX := Lib.hid (HE.out.trans hx)
    have kx := ext_cell hx KX.out
    have ky := ext_cell hx KY.out
    have k2 := ext_cell hx C2.out
    have k3 := ext_cell hx C3.out
    clear hx
    go_wp2_with fail
    refine (HB.out _).mono ?_
    rintro e w2 ⟨rfl, hx⟩
    have HX := Lib.hid (HX.out.trans hx)
    clear hx kx ky k2 k3
    go_wp2_with fail
    go_ret
    exact ⟨rfl, HX.out⟩
end Go.Proofs.Ytejejadbemkifaa

namespace Go.Proofs.Ytejejadbemkifaa
set_option maxRecDepth 100000
open Go Go.RowKit

/-- A block that holds two copies. -/
def Two (w : World) (g : Nat) (f0 f1 : Cop) : Prop := w.heap[g]? = some (.cells #[.int .u8 (f0.st : Int), .int .i64 f0.ix, .int .i64 f0.bx, .int .i64 f0.yb, .int .u8 (f0.e.k : Int), .int .i64 f0.e.cl, .int .i64 f0.e.sq, .int .u8 (f0.e.ok : Int), .string f0.e.key, .string f0.e.old, .string f0.e.val, .int .u8 (f1.st : Int), .int .i64 f1.ix, .int .i64 f1.bx, .int .i64 f1.yb, .int .u8 (f1.e.k : Int), .int .i64 f1.e.cl, .int .i64 f1.e.sq, .int .u8 (f1.e.ok : Int), .string f1.e.key, .string f1.e.old, .string f1.e.val] 34 (0, 0))
theorem Two.ext {w w' : World} {g : Nat} {f0 f1 : Cop} (h : Two w g f0 f1) (k : Ext w w') : Two w' g f0 f1 := keep_row k h
theorem Two.first {w : World} {g : Nat} {f0 f1 : Cop} (h : Two w g f0 f1) : w.cell? ⟨g, 0, none⟩ = some (.int .u8 (f0.st : Int)) ∧ w.cell? ⟨g, 1, none⟩ = some (.int .i64 f0.ix) ∧ w.cell? ⟨g, 2, none⟩ = some (.int .i64 f0.bx) ∧ w.cell? ⟨g, 3, none⟩ = some (.int .i64 f0.yb) ∧ w.cell? ⟨g, 4, none⟩ = some (.int .u8 (f0.e.k : Int)) ∧ w.cell? ⟨g, 5, none⟩ = some (.int .i64 f0.e.cl) ∧ w.cell? ⟨g, 6, none⟩ = some (.int .i64 f0.e.sq) ∧ w.cell? ⟨g, 7, none⟩ = some (.int .u8 (f0.e.ok : Int)) ∧ w.cell? ⟨g, 8, none⟩ = some (.string f0.e.key) ∧ w.cell? ⟨g, 9, none⟩ = some (.string f0.e.old) ∧ w.cell? ⟨g, 10, none⟩ = some (.string f0.e.val) :=
  ⟨cell_of_row w g 0 _ _ _ h, cell_of_row w g 1 _ _ _ h, cell_of_row w g 2 _ _ _ h, cell_of_row w g 3 _ _ _ h, cell_of_row w g 4 _ _ _ h, cell_of_row w g 5 _ _ _ h, cell_of_row w g 6 _ _ _ h, cell_of_row w g 7 _ _ _ h, cell_of_row w g 8 _ _ _ h, cell_of_row w g 9 _ _ _ h, cell_of_row w g 10 _ _ _ h⟩
theorem Two.second {w : World} {g : Nat} {f0 f1 : Cop} (h : Two w g f0 f1) : w.cell? ⟨g, 11, none⟩ = some (.int .u8 (f1.st : Int)) ∧ w.cell? ⟨g, 12, none⟩ = some (.int .i64 f1.ix) ∧ w.cell? ⟨g, 13, none⟩ = some (.int .i64 f1.bx) ∧ w.cell? ⟨g, 14, none⟩ = some (.int .i64 f1.yb) ∧ w.cell? ⟨g, 15, none⟩ = some (.int .u8 (f1.e.k : Int)) ∧ w.cell? ⟨g, 16, none⟩ = some (.int .i64 f1.e.cl) ∧ w.cell? ⟨g, 17, none⟩ = some (.int .i64 f1.e.sq) ∧ w.cell? ⟨g, 18, none⟩ = some (.int .u8 (f1.e.ok : Int)) ∧ w.cell? ⟨g, 19, none⟩ = some (.string f1.e.key) ∧ w.cell? ⟨g, 20, none⟩ = some (.string f1.e.old) ∧ w.cell? ⟨g, 21, none⟩ = some (.string f1.e.val) :=
  ⟨cell_of_row w g 11 _ _ _ h, cell_of_row w g 12 _ _ _ h, cell_of_row w g 13 _ _ _ h, cell_of_row w g 14 _ _ _ h, cell_of_row w g 15 _ _ _ h, cell_of_row w g 16 _ _ _ h, cell_of_row w g 17 _ _ _ h, cell_of_row w g 18 _ _ _ h, cell_of_row w g 19 _ _ _ h, cell_of_row w g 20 _ _ _ h, cell_of_row w g 21 _ _ _ h⟩
theorem Two.new (w : World) (f0 f1 : Cop) : Two (w.alloc (.cells #[.int .u8 (f0.st : Int), .int .i64 f0.ix, .int .i64 f0.bx, .int .i64 f0.yb, .int .u8 (f0.e.k : Int), .int .i64 f0.e.cl, .int .i64 f0.e.sq, .int .u8 (f0.e.ok : Int), .string f0.e.key, .string f0.e.old, .string f0.e.val, .int .u8 (f1.st : Int), .int .i64 f1.ix, .int .i64 f1.bx, .int .i64 f1.yb, .int .u8 (f1.e.k : Int), .int .i64 f1.e.cl, .int .i64 f1.e.sq, .int .u8 (f1.e.ok : Int), .string f1.e.key, .string f1.e.old, .string f1.e.val] 34)) w.heap.size f0 f1 := heap_alloc_new w _
/-- What a function value that is handed over answers of a copy, now and later. -/
def Asks (w : World) (F : Nat) (caps : Array Value) (f : Cop) (b : Bool) : Prop := ∀ W, Ext w W → Calls Try.prog F (#[.agg #[.int .u8 (f.st : Int), .int .i64 f.ix, .int .i64 f.bx, .int .i64 f.yb, .int .u8 (f.e.k : Int), .int .i64 f.e.cl, .int .i64 f.e.sq, .int .u8 (f.e.ok : Int), .string f.e.key, .string f.e.old, .string f.e.val]] ++ caps) W fun e W' => e = .returned (.bool b) ∧ Ext W W'
theorem Asks.ext {w w' : World} {F : Nat} {caps : Array Value} {f : Cop} {b : Bool} (h : Asks w F caps f b) (k : Ext w w') : Asks w' F caps f b := fun W hx => h W (k.trans hx)
def firstI (a b : Bool) : Int := if a then 0 else if b then 1 else -1

set_option maxRecDepth 100000 in
set_option maxHeartbeats 600000 in
theorem index_of (F : Nat) (caps : Array Value) (f0 f1 : Cop) (b0 b1 : Bool) (g c : Nat) (w : World) (hgo : Enters Try.prog F) (hT : Two w g f0 f1) (h0 : Asks w F caps f0 b0) (h1 : Asks w F caps f1 b1) :
    Calls Try.prog 27 #[.slice (some ⟨g, 0, none⟩) 2 c, .func (.func F) #[] caps] w fun e w' => e = .returned (.int .i64 (firstI b0 b1)) ∧ Ext w w' := by
  have HT := Lib.hid hT
  have H0 := Lib.hid h0
  have H1 := Lib.hid h1
  obtain ⟨i0, i1, i2, i3, i4, i5, i6, i7, i8, i9, i10⟩ := hT.first
  clear hT h0 h1
  unfold Enters at hgo
  cases b0 with
  | true =>
    go_enter Try.func27, Try.ntmps27
    go_wp2_with fail
    refine wp_loop_rounds 3 ?_
    rw [rounds_succ]
    go_wp2_with fail
    refine (H0.out _ (Ext.refl _)).mono ?_
    rintro e w1 ⟨rfl, hx⟩
    have HX := Lib.hid hx
    clear hx i0 i1 i2 i3 i4 i5 i6 i7 i8 i9 i10
    go_wp2_with fail
    go_ret
    exact ⟨rfl, HX.out⟩
  | false =>
    cases b1 with
    | true =>
      go_enter Try.func27, Try.ntmps27
      go_wp2_with fail
      refine wp_loop_rounds 3 ?_
      rw [rounds_succ]
      go_wp2_with fail
      refine (H0.out _ (Ext.refl _)).mono ?_
      rintro e w1 ⟨rfl, hx⟩
      have HX := Lib.hid hx
      clear i0 i1 i2 i3 i4 i5 i6 i7 i8 i9 i10
      obtain ⟨j0, j1, j2, j3, j4, j5, j6, j7, j8, j9, j10⟩ := (HT.out.ext hx).second
      clear hx
      go_wp2_with fail
      rw [rounds_succ]
      go_wp2_with fail
      refine (H1.out _ HX.out).mono ?_
      rintro e w2 ⟨rfl, hx⟩
      have HX := Lib.hid (HX.out.trans hx)
      clear hx j0 j1 j2 j3 j4 j5 j6 j7 j8 j9 j10
      go_wp2_with fail
      go_ret
      exact ⟨rfl, HX.out⟩
    | false =>
      go_enter Try.func27, Try.ntmps27
      go_wp2_with fail
      refine wp_loop_rounds 3 ?_
      rw [rounds_succ]
      go_wp2_with fail
      refine (H0.out _ (Ext.refl _)).mono ?_
      rintro e w1 ⟨rfl, hx⟩
      have HX := Lib.hid hx
      clear i0 i1 i2 i3 i4 i5 i6 i7 i8 i9 i10
      obtain ⟨j0, j1, j2, j3, j4, j5, j6, j7, j8, j9, j10⟩ := (HT.out.ext hx).second
      clear hx
      go_wp2_with fail
      rw [rounds_succ]
      go_wp2_with fail
      refine (H1.out _ HX.out).mono ?_
      rintro e w2 ⟨rfl, hx⟩
      have HX := Lib.hid (HX.out.trans hx)
      clear hx j0 j1 j2 j3 j4 j5 j6 j7 j8 j9 j10
      go_wp2_with fail
      rw [rounds_succ]
      go_wp2_with fail
      go_ret
      exact ⟨rfl, HX.out⟩
theorem contains_of (F : Nat) (caps : Array Value) (f0 f1 : Cop) (b0 b1 : Bool) (g c : Nat) (w : World) (hgo : Enters Try.prog F) (hT : Two w g f0 f1) (h0 : Asks w F caps f0 b0) (h1 : Asks w F caps f1 b1) :
    Calls Try.prog 19 #[.slice (some ⟨g, 0, none⟩) 2 c, .func (.func F) #[] caps] w fun e w' => e = .returned (.bool (b0 || b1)) ∧ Ext w w' := by
  have HI := Lib.hid (index_of F caps f0 f1 b0 b1 g c w hgo hT h0 h1)
  clear hT h0 h1
  have hz : decide (0 ≤ firstI b0 b1) = (b0 || b1) := by cases b0 <;> cases b1 <;> rfl
  generalize firstI b0 b1 = z at HI hz
  generalize (b0 || b1) = r at hz ⊢
  clear hgo
  go_enter Try.func19, Try.ntmps19
  go_wp2_with fail
  refine HI.out.mono ?_
  rintro e w1 ⟨rfl, hx⟩
  have HX := Lib.hid hx
  clear hx
  go_wp2_with fail
  go_ret
  exact ⟨rfl, HX.out⟩
end Go.Proofs.Ytejejadbemkifaa

namespace Go.Proofs.Ytejejadbemkifaa
set_option maxRecDepth 100000
open Go Go.RowKit

/-- A block that holds a record. -/
def RecAt (w : World) (g : Nat) (p : Rec) : Prop := w.heap[g]? = some (.cells #[.int .u8 (p.st : Int), .int .i64 p.ix, .int .i64 p.bx, .int .i64 p.yb, .int .i64 p.wh] 27 (0, 0))
theorem RecAt.ext {w w' : World} {g : Nat} {p : Rec} (h : RecAt w g p) (k : Ext w w') : RecAt w' g p := keep_row k h
theorem RecAt.cells {w : World} {g : Nat} {p : Rec} (h : RecAt w g p) : w.cell? ⟨g, 0, none⟩ = some (.int .u8 (p.st : Int)) ∧ w.cell? ⟨g, 1, none⟩ = some (.int .i64 p.ix) ∧ w.cell? ⟨g, 2, none⟩ = some (.int .i64 p.bx) ∧ w.cell? ⟨g, 3, none⟩ = some (.int .i64 p.yb) ∧ w.cell? ⟨g, 4, none⟩ = some (.int .i64 p.wh) := ⟨cell_of_row w g 0 _ _ _ h, cell_of_row w g 1 _ _ _ h, cell_of_row w g 2 _ _ _ h, cell_of_row w g 3 _ _ _ h, cell_of_row w g 4 _ _ _ h⟩
theorem RecAt.new (w : World) (p : Rec) : RecAt (w.alloc (.cells #[.int .u8 (p.st : Int), .int .i64 p.ix, .int .i64 p.bx, .int .i64 p.yb, .int .i64 p.wh] 27)) w.heap.size p := heap_alloc_new w _
theorem cast_one (n : Nat) : ((n : Int) == 1) = decide (n = 1) := by
  rw [Bool.eq_iff_iff]
  simp
  omega
/-- The frame that a record names. -/
def namedL (p : Rec) : Int := if p.st = 1 then p.wh else -1
theorem named_of (p : Rec) (hw : p.wh = 0 ∨ p.wh = 1) (w : World) : Calls Try.prog 15 #[.agg #[.int .u8 (p.st : Int), .int .i64 p.ix, .int .i64 p.bx, .int .i64 p.yb, .int .i64 p.wh]] w fun e w' => e = .returned (.int .i64 (namedL p)) ∧ Ext w w' := by
  have HE := Lib.hid ((Ext.refl w).alloc (.cells #[.int .u8 (p.st : Int), .int .i64 p.ix, .int .i64 p.bx, .int .i64 p.yb, .int .i64 p.wh] 27))
  have HF := Lib.hid isFrame_of
  have HW := Lib.hid hw
  clear hw
  by_cases h1 : p.st = 1
  · have hb : ((p.st : Int) != 1) = false := by simp [h1]
    rw [show namedL p = p.wh from if_pos h1]
    clear h1
    go_enter Try.func15, Try.ntmps15
    go_wp2_with fail
    refine (HF.out _ HW.out _).mono ?_
    rintro e w1 ⟨rfl, rfl⟩
    go_wp2_with fail
    go_ret
    exact ⟨rfl, HE.out⟩
  · have hb : ((p.st : Int) != 1) = true := by simp; omega
    rw [show namedL p = -1 from if_neg h1]
    clear h1
    go_enter Try.func15, Try.ntmps15
    go_wp2_with fail
    go_ret
    exact ⟨rfl, HE.out⟩
def laterB (c : Cop) (i : Int) : Bool := (c.st : Int) == 1 && decide (i < c.ix)
def covB (p : Rec) (f0 f1 : Cop) (i : Int) : Bool := ((p.st : Int) == 1 && decide (i < p.ix)) || (laterB f0 i || laterB f1 i)
theorem covB_iff {p : Rec} {f0 f1 : Cop} {i : Int} : covB p f0 f1 i = true ↔ beyL p f0 f1 i := by
  unfold covB laterB beyL
  simp only [cast_one, Bool.or_eq_true, Bool.and_eq_true, decide_eq_true_iff]
theorem later_go : Enters Try.prog 30 := enters_of Try.func30 (by kernel_rfl) rfl
set_option maxRecDepth 100000 in
set_option maxHeartbeats 600000 in
theorem isCovered_of (p : Rec) (f0 f1 : Cop) (i : Int) (w : World) : Calls Try.prog 24 #[.agg #[.int .u8 (p.st : Int), .int .i64 p.ix, .int .i64 p.bx, .int .i64 p.yb, .int .i64 p.wh], .agg #[.int .u8 (f0.st : Int), .int .i64 f0.ix, .int .i64 f0.bx, .int .i64 f0.yb, .int .u8 (f0.e.k : Int), .int .i64 f0.e.cl, .int .i64 f0.e.sq, .int .u8 (f0.e.ok : Int), .string f0.e.key, .string f0.e.old, .string f0.e.val, .int .u8 (f1.st : Int), .int .i64 f1.ix, .int .i64 f1.bx, .int .i64 f1.yb, .int .u8 (f1.e.k : Int), .int .i64 f1.e.cl, .int .i64 f1.e.sq, .int .u8 (f1.e.ok : Int), .string f1.e.key, .string f1.e.old, .string f1.e.val], .int .i64 i] w fun e w' => e = .returned (.bool (covB p f0 f1 i)) ∧ Ext w w' := by
  have hmf : ∀ (fn : Fn) (first cap : Array Value) (w : World), (Instr.makeFunc fn first cap).run Try.prog w = .ok (.func fn first cap) w := fun _ _ _ _ => rfl
  have hE := (((Ext.refl w).alloc (.cells #[.int .u8 (p.st : Int), .int .i64 p.ix, .int .i64 p.bx, .int .i64 p.yb, .int .i64 p.wh] 27)).alloc (.cells #[.int .u8 (f0.st : Int), .int .i64 f0.ix, .int .i64 f0.bx, .int .i64 f0.yb, .int .u8 (f0.e.k : Int), .int .i64 f0.e.cl, .int .i64 f0.e.sq, .int .u8 (f0.e.ok : Int), .string f0.e.key, .string f0.e.old, .string f0.e.val, .int .u8 (f1.st : Int), .int .i64 f1.ix, .int .i64 f1.bx, .int .i64 f1.yb, .int .u8 (f1.e.k : Int), .int .i64 f1.e.cl, .int .i64 f1.e.sq, .int .u8 (f1.e.ok : Int), .string f1.e.key, .string f1.e.old, .string f1.e.val] 34)).alloc (.cells #[.int .i64 i] 3)
  have hT := (Two.new (w.alloc (.cells #[.int .u8 (p.st : Int), .int .i64 p.ix, .int .i64 p.bx, .int .i64 p.yb, .int .i64 p.wh] 27)) f0 f1).ext ((Ext.refl _).alloc (.cells #[.int .i64 i] 3))
  have hI : (((w.alloc (.cells #[.int .u8 (p.st : Int), .int .i64 p.ix, .int .i64 p.bx, .int .i64 p.yb, .int .i64 p.wh] 27)).alloc (.cells #[.int .u8 (f0.st : Int), .int .i64 f0.ix, .int .i64 f0.bx, .int .i64 f0.yb, .int .u8 (f0.e.k : Int), .int .i64 f0.e.cl, .int .i64 f0.e.sq, .int .u8 (f0.e.ok : Int), .string f0.e.key, .string f0.e.old, .string f0.e.val, .int .u8 (f1.st : Int), .int .i64 f1.ix, .int .i64 f1.bx, .int .i64 f1.yb, .int .u8 (f1.e.k : Int), .int .i64 f1.e.cl, .int .i64 f1.e.sq, .int .u8 (f1.e.ok : Int), .string f1.e.key, .string f1.e.old, .string f1.e.val] 34)).alloc (.cells #[.int .i64 i] 3)).cell? ⟨w.heap.size + 1 + 1, 0, none⟩ = some (.int .i64 i) := cell_new (by simp) rfl
  rw [World.size_alloc] at hT
  have hA := fun c : Cop => (fun W hx => isLater_of c (w.heap.size + 1 + 1) i W (ext_cell hx hI) : Asks (((w.alloc (.cells #[.int .u8 (p.st : Int), .int .i64 p.ix, .int .i64 p.bx, .int .i64 p.yb, .int .i64 p.wh] 27)).alloc (.cells #[.int .u8 (f0.st : Int), .int .i64 f0.ix, .int .i64 f0.bx, .int .i64 f0.yb, .int .u8 (f0.e.k : Int), .int .i64 f0.e.cl, .int .i64 f0.e.sq, .int .u8 (f0.e.ok : Int), .string f0.e.key, .string f0.e.old, .string f0.e.val, .int .u8 (f1.st : Int), .int .i64 f1.ix, .int .i64 f1.bx, .int .i64 f1.yb, .int .u8 (f1.e.k : Int), .int .i64 f1.e.cl, .int .i64 f1.e.sq, .int .u8 (f1.e.ok : Int), .string f1.e.key, .string f1.e.old, .string f1.e.val] 34)).alloc (.cells #[.int .i64 i] 3)) 30 #[.pointer (some ⟨w.heap.size + 1 + 1, 0, none⟩)] c (laterB c i))
  have HC := Lib.hid (contains_of 30 #[.pointer (some ⟨w.heap.size + 1 + 1, 0, none⟩)] f0 f1 (laterB f0 i) (laterB f1 i) (w.heap.size + 1) 2 _ later_go hT (hA f0) (hA f1))
  have HE := Lib.hid hE
  unfold covB
  generalize (laterB f0 i || laterB f1 i) = r at HC ⊢
  obtain ⟨b, hb⟩ : ∃ b, ((p.st : Int) == 1) = b := ⟨_, rfl⟩
  obtain ⟨d, hd⟩ : ∃ d, decide (i < p.ix) = d := ⟨_, rfl⟩
  rw [hb, hd]
  clear hA hT hI hE
  cases b with
  | true =>
    cases d with
    | true =>
      go_enter Try.func24, Try.ntmps24
      go_wp2_with fail
      go_ret
      exact ⟨rfl, HE.out⟩
    | false =>
      simp only [Bool.and_false, Bool.false_or]
      go_enter Try.func24, Try.ntmps24
      go_wp2_with fail
      refine HC.out.mono ?_
      rintro e w1 ⟨rfl, hx⟩
      have HX := Lib.hid (HE.out.trans hx)
      clear hx
      go_wp2_with fail
      go_ret
      exact ⟨rfl, HX.out⟩
  | false =>
    simp only [Bool.false_and, Bool.false_or]
    go_enter Try.func24, Try.ntmps24
    go_wp2_with fail
    refine HC.out.mono ?_
    rintro e w1 ⟨rfl, hx⟩
    have HX := Lib.hid (HE.out.trans hx)
    clear hx
    go_wp2_with fail
    go_ret
    exact ⟨rfl, HX.out⟩
end Go.Proofs.Ytejejadbemkifaa

namespace Go.Proofs.Ytejejadbemkifaa
set_option maxRecDepth 100000
open Go Go.RowKit

def setL (w : World) (g : Nat) : Nat → List Value → World
  | _, [] => w
  | o, x :: xs => setL (w.setCell ⟨g, o, none⟩ x) g (o + 1) xs
def setA (cs : Array Value) : Nat → List Value → Array Value
  | _, [] => cs
  | o, x :: xs => setA (cs.setIfInBounds o x) (o + 1) xs
theorem row_set1 {w : World} {g i : Nat} {cs : Array Value} {t : TypeId} (h : w.heap[g]? = some (.cells cs t (0, 0))) (v : Value) : (w.setCell ⟨g, i, none⟩ v).heap[g]? = some (.cells (cs.setIfInBounds i v) t (0, 0)) := by
  rw [setCell_eq_setRow w g i _ _ _ v h]
  exact setRow_heap w g _ (cs.setIfInBounds i v) _ _ h
theorem row_setL {g : Nat} {t : TypeId} : ∀ (xs : List Value) (w : World) (o : Nat) (cs : Array Value), w.heap[g]? = some (.cells cs t (0, 0)) → (setL w g o xs).heap[g]? = some (.cells (setA cs o xs) t (0, 0))
  | [], _, _, _, h => h
  | x :: xs, _, o, _, h => row_setL xs _ (o + 1) _ (row_set1 h x)
theorem mod_setL {g : Nat} : ∀ (xs : List Value) (w : World) (o : Nat), Mod (fun k => k = g) w (setL w g o xs)
  | [], w, _ => Mod.refl (fun k => k = g) w
  | x :: xs, w, o => Mod.trans (F := fun k => k = g) (Mod.setCell (F := fun k => k = g) (Mod.refl (fun k => k = g) w) (p := ⟨g, o, none⟩) (.inl rfl) x) (mod_setL xs _ (o + 1)) fun _ hi => .inl hi
theorem ext_setL {a w : World} (h : Ext a w) {g : Nat} (hg : a.heap.size ≤ g) (xs : List Value) (o : Nat) : Ext a (setL w g o xs) :=
  Mod.to_ext (Mod.trans (F := fun k => k = g) (Mod.of_ext (F := fun k => k = g) h) (mod_setL xs w o) fun _ hi => .inl hi) fun i hi => by subst hi; exact hg
theorem off_setL {w : World} {g k : Nat} {ob : Obj} (h : w.heap[k]? = some ob) (hk : k ≠ g) (xs : List Value) (o : Nat) : (setL w g o xs).heap[k]? = some ob :=
  ((mod_setL (g := g) xs w o).block k (Array.getElem?_eq_some_iff.1 h).1 hk).trans h
theorem size_setL {g : Nat} (xs : List Value) (w : World) (o : Nat) : w.heap.size ≤ (setL w g o xs).heap.size := (mod_setL (g := g) xs w o).size
end Go.Proofs.Ytejejadbemkifaa
