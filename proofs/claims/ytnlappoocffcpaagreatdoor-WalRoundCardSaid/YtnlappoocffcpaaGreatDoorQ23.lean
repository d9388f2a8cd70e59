/-
  The contract of a rule's use, in one form.
  What slot's What stands on.
  What a slot is, by no frame.
-/
import Derived.Test.YtnlappoocffcpaaGreatDoorQ18
import Derived.Test.YtnlappoocffcpaaGreatDoorQ19
import Derived.Test.YtnlappoocffcpaaGreatDoorQ20
import Derived.Test.YtnlappoocffcpaaGreatDoorQ21
import Derived.Test.YtnlappoocffcpaaGreatDoorQ22
namespace Go.Proofs.YtnlappoocffcpaaGreatDoor
set_option maxRecDepth 100000
open Go Go.RowKit
theorem use_of (F : Nat) (caps : Array Value) (fi : Int) (hfi : fi = 0 ∨ fi = 1) (x2 x3 x4 x5 x6 x7 x8 x9 x10 x11 x12 x13 : Value) (f0 f1 : CopL) (b0 b1 : Bool) (w : World) (hgo : Enters Tryz.prog F) (h0 : Asks w F caps f0 b0) (h1 : Asks w F caps f1 b1) :
    Calls Tryz.prog 146 #[.agg #[.func (.func F) #[] caps, .int .i64 fi, x2, x3, x4, x5, x6, x7, x8, x9, x10, x11, x12, x13], .agg #[.int .u8 (f0.st : Int), .int .i64 f0.ix, .int .i64 f0.bx, .int .i64 f0.yb, .int .u8 (f0.e.k : Int), .int .i64 f0.e.cl, .int .i64 f0.e.sq, .int .u8 (f0.e.ok : Int), .string f0.e.key, .string f0.e.old, .string f0.e.val, .int .u8 (f1.st : Int), .int .i64 f1.ix, .int .i64 f1.bx, .int .i64 f1.yb, .int .u8 (f1.e.k : Int), .int .i64 f1.e.cl, .int .i64 f1.e.sq, .int .u8 (f1.e.ok : Int), .string f1.e.key, .string f1.e.old, .string f1.e.val]] w fun e w' => e = .returned (.int .i64 (useL fi b0 b1 f0 f1)) ∧ Ext w w' := by
  have hv : ∀ a b : Int, a = b → (Ending.returned (Value.int .i64 a)) = .returned (.int .i64 b) := fun a b h => by rw [h]
  rcases hfi with rfl | rfl <;> cases b0 <;> cases b1
  · exact (use0_ff F caps x2 x3 x4 x5 x6 x7 x8 x9 x10 x11 x12 x13 f0 f1 w hgo h0 h1).mono fun e w' ⟨he, hx⟩ => ⟨he.trans (hv _ _ (by unfold useL pickW; simp)), hx⟩
  · exact (use0_ft F caps x2 x3 x4 x5 x6 x7 x8 x9 x10 x11 x12 x13 f0 f1 w hgo h0 h1).mono fun e w' ⟨he, hx⟩ => ⟨he.trans (hv _ _ (by unfold useL pickW; simp)), hx⟩
  · exact (use0_tf F caps x2 x3 x4 x5 x6 x7 x8 x9 x10 x11 x12 x13 f0 f1 w hgo h0 h1).mono fun e w' ⟨he, hx⟩ => ⟨he.trans (hv _ _ (by unfold useL pickW; simp)), hx⟩
  · refine (use0_tt F caps x2 x3 x4 x5 x6 x7 x8 x9 x10 x11 x12 x13 f0 f1 w hgo h0 h1).mono fun e w' ⟨he, hx⟩ => ⟨he.trans (hv _ _ ?_), hx⟩
    by_cases hh : gtL f1.bx f1.yb f0.bx f0.yb
    · have hp := balI_pos.2 hh
      unfold useL pickW
      simp [hh, hp]
    · have hp : ¬ 0 < balI f1.bx f1.yb f0.bx f0.yb := fun h => hh (balI_pos.1 h)
      unfold useL pickW
      simp [hh, hp]
  · exact (use1_ff F caps x2 x3 x4 x5 x6 x7 x8 x9 x10 x11 x12 x13 f0 f1 w hgo h0 h1).mono fun e w' ⟨he, hx⟩ => ⟨he.trans (hv _ _ (by unfold useL pickW; simp)), hx⟩
  · exact (use1_ft F caps x2 x3 x4 x5 x6 x7 x8 x9 x10 x11 x12 x13 f0 f1 w hgo h0 h1).mono fun e w' ⟨he, hx⟩ => ⟨he.trans (hv _ _ (by unfold useL pickW; simp)), hx⟩
  · exact (use1_tf F caps x2 x3 x4 x5 x6 x7 x8 x9 x10 x11 x12 x13 f0 f1 w hgo h0 h1).mono fun e w' ⟨he, hx⟩ => ⟨he.trans (hv _ _ (by unfold useL pickW; simp)), hx⟩
  · refine (use1_tt F caps x2 x3 x4 x5 x6 x7 x8 x9 x10 x11 x12 x13 f0 f1 w hgo h0 h1).mono fun e w' ⟨he, hx⟩ => ⟨he.trans (hv _ _ ?_), hx⟩
    by_cases hh : gtL f0.bx f0.yb f1.bx f1.yb
    · have hp := balI_pos.2 hh
      unfold useL pickW
      simp [hh, hp]
    · have hp : ¬ 0 < balI f0.bx f0.yb f1.bx f1.yb := fun h => hh (balI_pos.1 h)
      unfold useL pickW
      simp [hh, hp]
end Go.Proofs.YtnlappoocffcpaaGreatDoor

namespace Go.Proofs.YtnlappoocffcpaaGreatDoor
set_option maxRecDepth 100000
open Go Go.RowKit
structure WhS (w W : World) (p : Rec) (f0 f1 : CopL) (g g1 g2 : Nat) (rp : Array Value) : Prop where
  rec_ : RecAt W g p
  two : TwoL W g1 f0 f1
  rep : W.heap[g2]? = some (.cells rp 86 (0, 0))
  ext : Ext w W
  ne : g ≠ g2 ∧ g1 ≠ g2 ∧ w.heap.size ≤ g2
theorem WhS.make (w : World) (p : Rec) (f0 f1 : CopL) : WhS w (((w.alloc (.cells #[.int .u8 (p.st : Int), .int .i64 p.ix, .int .i64 p.bx, .int .i64 p.yb, .int .i64 p.wh] 115)).alloc (.cells #[.int .u8 (f0.st : Int), .int .i64 f0.ix, .int .i64 f0.bx, .int .i64 f0.yb, .int .u8 (f0.e.k : Int), .int .i64 f0.e.cl, .int .i64 f0.e.sq, .int .u8 (f0.e.ok : Int), .string f0.e.key, .string f0.e.old, .string f0.e.val, .int .u8 (f1.st : Int), .int .i64 f1.ix, .int .i64 f1.bx, .int .i64 f1.yb, .int .u8 (f1.e.k : Int), .int .i64 f1.e.cl, .int .i64 f1.e.sq, .int .u8 (f1.e.ok : Int), .string f1.e.key, .string f1.e.old, .string f1.e.val] 118)).alloc (.cells #[.int .i64 0, .int .u8 0, .int .i64 0, .int .i64 0, .int .u8 0, .int .i64 0, .int .i64 0, .int .u8 0, .string ⟨#[]⟩, .string ⟨#[]⟩, .string ⟨#[]⟩] 86)) p f0 f1 w.heap.size (w.heap.size + 1) (w.heap.size + 1 + 1) #[.int .i64 0, .int .u8 0, .int .i64 0, .int .i64 0, .int .u8 0, .int .i64 0, .int .i64 0, .int .u8 0, .string ⟨#[]⟩, .string ⟨#[]⟩, .string ⟨#[]⟩] := by
  have row : ∀ (V : World) (cs : Array Value) (t : TypeId) (k : Nat), k = V.heap.size → (V.alloc (.cells cs t)).heap[k]? = some (.cells cs t (0, 0)) := fun V cs t k hk => by subst hk; exact heap_alloc_new V _
  have past : ∀ (V : World) (o ob : Obj) (k : Nat), V.heap[k]? = some ob → (V.alloc o).heap[k]? = some ob := fun V o ob k h => keep_row ((Ext.refl V).alloc o) h
  refine ⟨?_, ?_, ?_, ?_, ?_⟩
  · exact past _ _ _ _ (past _ _ _ _ (row _ _ _ _ rfl))
  · exact past _ _ _ _ (row _ _ _ _ (by simp))
  · exact row _ _ _ _ (by simp)
  · exact ((((Ext.refl w).alloc _).alloc _).alloc _)
  · omega
theorem WhS.mono {w W W' : World} {p : Rec} {f0 f1 : CopL} {g g1 g2 : Nat} {rp : Array Value} (h : WhS w W p f0 f1 g g1 g2 rp) (k : Ext W W') : WhS w W' p f0 f1 g g1 g2 rp :=
  ⟨h.rec_.ext k, h.two.ext k, keep_row k h.rep, h.ext.trans k, h.ne⟩
theorem rep_cells {w : World} {g2 : Nat} {x0 x1 x2 x3 x4 x5 x6 x7 x8 x9 x10 : Value} (h : w.heap[g2]? = some (.cells #[x0, x1, x2, x3, x4, x5, x6, x7, x8, x9, x10] 86 (0, 0))) : w.cell? ⟨g2, 0, none⟩ = some (x0) ∧ w.cell? ⟨g2, 1, none⟩ = some (x1) ∧ w.cell? ⟨g2, 2, none⟩ = some (x2) ∧ w.cell? ⟨g2, 3, none⟩ = some (x3) ∧ w.cell? ⟨g2, 4, none⟩ = some (x4) ∧ w.cell? ⟨g2, 5, none⟩ = some (x5) ∧ w.cell? ⟨g2, 6, none⟩ = some (x6) ∧ w.cell? ⟨g2, 7, none⟩ = some (x7) ∧ w.cell? ⟨g2, 8, none⟩ = some (x8) ∧ w.cell? ⟨g2, 9, none⟩ = some (x9) ∧ w.cell? ⟨g2, 10, none⟩ = some (x10) := ⟨cell_of_row w g2 0 _ _ _ h, cell_of_row w g2 1 _ _ _ h, cell_of_row w g2 2 _ _ _ h, cell_of_row w g2 3 _ _ _ h, cell_of_row w g2 4 _ _ _ h, cell_of_row w g2 5 _ _ _ h, cell_of_row w g2 6 _ _ _ h, cell_of_row w g2 7 _ _ _ h, cell_of_row w g2 8 _ _ _ h, cell_of_row w g2 9 _ _ _ h, cell_of_row w g2 10 _ _ _ h⟩
theorem row_range {w : World} {g : Nat} {t : TypeId} (l : List Value) (h : w.heap[g]? = some (.cells l.toArray t (0, 0))) (o : Nat) : w.rangeAt g o (l.drop o) := fun j v hv => by
  rw [cell_of_row w g (o + j) _ _ _ h, List.getElem?_toArray, ← List.getElem?_drop]
  exact hv
theorem half0 {w : World} {g1 : Nat} {f0 f1 : CopL} (h : TwoL w g1 f0 f1) : w.cell? ⟨g1, 2, none⟩ = some (.int .i64 f0.bx) ∧ w.cell? ⟨g1, 3, none⟩ = some (.int .i64 f0.yb) ∧ w.cell? ⟨g1, 4, none⟩ = some (.int .u8 (f0.e.k : Int)) ∧ w.cell? ⟨g1, 5, none⟩ = some (.int .i64 f0.e.cl) ∧ w.cell? ⟨g1, 6, none⟩ = some (.int .i64 f0.e.sq) ∧ w.cell? ⟨g1, 7, none⟩ = some (.int .u8 (f0.e.ok : Int)) ∧ w.cell? ⟨g1, 8, none⟩ = some (.string f0.e.key) ∧ w.cell? ⟨g1, 9, none⟩ = some (.string f0.e.old) ∧ w.cell? ⟨g1, 10, none⟩ = some (.string f0.e.val) := ⟨cell_of_row w g1 2 _ _ _ h, cell_of_row w g1 3 _ _ _ h, cell_of_row w g1 4 _ _ _ h, cell_of_row w g1 5 _ _ _ h, cell_of_row w g1 6 _ _ _ h, cell_of_row w g1 7 _ _ _ h, cell_of_row w g1 8 _ _ _ h, cell_of_row w g1 9 _ _ _ h, cell_of_row w g1 10 _ _ _ h⟩
theorem half1 {w : World} {g1 : Nat} {f0 f1 : CopL} (h : TwoL w g1 f0 f1) : w.cell? ⟨g1, 13, none⟩ = some (.int .i64 f1.bx) ∧ w.cell? ⟨g1, 14, none⟩ = some (.int .i64 f1.yb) ∧ w.cell? ⟨g1, 15, none⟩ = some (.int .u8 (f1.e.k : Int)) ∧ w.cell? ⟨g1, 16, none⟩ = some (.int .i64 f1.e.cl) ∧ w.cell? ⟨g1, 17, none⟩ = some (.int .i64 f1.e.sq) ∧ w.cell? ⟨g1, 18, none⟩ = some (.int .u8 (f1.e.ok : Int)) ∧ w.cell? ⟨g1, 19, none⟩ = some (.string f1.e.key) ∧ w.cell? ⟨g1, 20, none⟩ = some (.string f1.e.old) ∧ w.cell? ⟨g1, 21, none⟩ = some (.string f1.e.val) := ⟨cell_of_row w g1 13 _ _ _ h, cell_of_row w g1 14 _ _ _ h, cell_of_row w g1 15 _ _ _ h, cell_of_row w g1 16 _ _ _ h, cell_of_row w g1 17 _ _ _ h, cell_of_row w g1 18 _ _ _ h, cell_of_row w g1 19 _ _ _ h, cell_of_row w g1 20 _ _ _ h, cell_of_row w g1 21 _ _ _ h⟩
theorem WhS.put {w W : World} {p : Rec} {f0 f1 : CopL} {g g1 g2 : Nat} {z0 z1 z2 z3 z4 z5 z6 z7 z8 z9 z10 : Value} (h : WhS w W p f0 f1 g g1 g2 #[z0, z1, z2, z3, z4, z5, z6, z7, z8, z9, z10]) (x0 x1 x2 x3 x4 x5 x6 x7 x8 x9 x10 : Value) :
    WhS w ((((((((((((W.setCell ⟨g2, 0, none⟩ (x0)).setCell ⟨g2, 1, none⟩ (x1)).setCell ⟨g2, 2, none⟩ (x2)).setCell ⟨g2, 3, none⟩ (x3)).setCell ⟨g2, 4, none⟩ (x4)).setCell ⟨g2, 5, none⟩ (x5)).setCell ⟨g2, 6, none⟩ (x6)).setCell ⟨g2, 7, none⟩ (x7)).setCell ⟨g2, 8, none⟩ (x8)).setCell ⟨g2, 9, none⟩ (x9)).setCell ⟨g2, 10, none⟩ (x10))) p f0 f1 g g1 g2 #[x0, x1, x2, x3, x4, x5, x6, x7, x8, x9, x10] :=
  ⟨off11 h.rec_ h.ne.1 _ _ _ _ _ _ _ _ _ _ _, off11 h.two h.ne.2.1 _ _ _ _ _ _ _ _ _ _ _, row11 h.rep _ _ _ _ _ _ _ _ _ _ _, ext11 h.ext h.ne.2.2 _ _ _ _ _ _ _ _ _ _ _, h.ne⟩
theorem WhS.put0 {w W : World} {p : Rec} {f0 f1 : CopL} {g g1 g2 : Nat} {z0 z1 z2 z3 z4 z5 z6 z7 z8 z9 z10 : Value} (h : WhS w W p f0 f1 g g1 g2 #[z0, z1, z2, z3, z4, z5, z6, z7, z8, z9, z10]) (x : Value) :
    WhS w (W.setCell ⟨g2, 0, none⟩ x) p f0 f1 g g1 g2 #[x, z1, z2, z3, z4, z5, z6, z7, z8, z9, z10] :=
  ⟨off_setL h.rec_ h.ne.1 [x] 0, off_setL h.two h.ne.2.1 [x] 0, row_set1 h.rep x, ext_setL h.ext h.ne.2.2 [x] 0, h.ne⟩
end Go.Proofs.YtnlappoocffcpaaGreatDoor

namespace Go.Proofs.YtnlappoocffcpaaGreatDoor
set_option maxRecDepth 100000
open Go Go.RowKit
set_option maxRecDepth 100000 in
set_option maxHeartbeats 800000 in
theorem what_none (p : Rec) (f0 f1 : CopL) (i fi cl st bx yb : Int) (q : CopL → Bool) (hfi : fi = 0 ∨ fi = 1) (hk : useL fi (q f0) (q f1) f0 f1 = -1) (w : World)
    (hap : ∀ V, Calls Tryz.prog 145 #[.agg #[.int .u8 (p.st : Int), .int .i64 p.ix, .int .i64 p.bx, .int .i64 p.yb, .int .i64 p.wh], .agg #[.int .u8 (f0.st : Int), .int .i64 f0.ix, .int .i64 f0.bx, .int .i64 f0.yb, .int .u8 (f0.e.k : Int), .int .i64 f0.e.cl, .int .i64 f0.e.sq, .int .u8 (f0.e.ok : Int), .string f0.e.key, .string f0.e.old, .string f0.e.val, .int .u8 (f1.st : Int), .int .i64 f1.ix, .int .i64 f1.bx, .int .i64 f1.yb, .int .u8 (f1.e.k : Int), .int .i64 f1.e.cl, .int .i64 f1.e.sq, .int .u8 (f1.e.ok : Int), .string f1.e.key, .string f1.e.old, .string f1.e.val], .int .i64 i] V fun e w' => ∃ (F : Nat) (caps : Array Value), e = .returned (.agg #[.func (.func F) #[] caps, .int .i64 fi, .int .u8 cl, .int .i64 0, .int .u8 st, .int .i64 bx, .int .i64 yb, .int .u8 0, .int .i64 0, .int .i64 0, .int .u8 0, .string ⟨#[]⟩, .string ⟨#[]⟩, .string ⟨#[]⟩]) ∧ Ext V w' ∧ Enters Tryz.prog F ∧ ∀ c, Asks w' F caps c (q c)) :
    Calls Tryz.prog 90 #[.agg #[.int .u8 (p.st : Int), .int .i64 p.ix, .int .i64 p.bx, .int .i64 p.yb, .int .i64 p.wh], .agg #[.int .u8 (f0.st : Int), .int .i64 f0.ix, .int .i64 f0.bx, .int .i64 f0.yb, .int .u8 (f0.e.k : Int), .int .i64 f0.e.cl, .int .i64 f0.e.sq, .int .u8 (f0.e.ok : Int), .string f0.e.key, .string f0.e.old, .string f0.e.val, .int .u8 (f1.st : Int), .int .i64 f1.ix, .int .i64 f1.bx, .int .i64 f1.yb, .int .u8 (f1.e.k : Int), .int .i64 f1.e.cl, .int .i64 f1.e.sq, .int .u8 (f1.e.ok : Int), .string f1.e.key, .string f1.e.old, .string f1.e.val], .int .i64 i] w fun e w' => e = .returned (.tuple #[.int .u8 cl, .agg #[.int .i64 i, .int .u8 st, .int .i64 bx, .int .i64 yb, .int .u8 0, .int .i64 0, .int .i64 0, .int .u8 0, .string ⟨#[]⟩, .string ⟨#[]⟩, .string ⟨#[]⟩], .int .i64 (-1)]) ∧ Ext w w' := by
  have HW := Lib.hid (WhS.make w p f0 f1)
  have HAP := Lib.hid hap
  have HUS := Lib.hid (fun F caps V hgo h0 h1 => use_of F caps fi hfi (.int .u8 cl) (.int .i64 0) (.int .u8 st) (.int .i64 bx) (.int .i64 yb) (.int .u8 0) (.int .i64 0) (.int .i64 0) (.int .u8 0) (.string ⟨#[]⟩) (.string ⟨#[]⟩) (.string ⟨#[]⟩) f0 f1 (q f0) (q f1) V hgo h0 h1)
  rw [hk] at HUS
  clear hap hk hfi
  go_enter Tryz.func90, Tryz.ntmps90
  go_upto_region 1 with (fail)
  generalize (((w.alloc (.cells #[.int .u8 (p.st : Int), .int .i64 p.ix, .int .i64 p.bx, .int .i64 p.yb, .int .i64 p.wh] 115)).alloc (.cells #[.int .u8 (f0.st : Int), .int .i64 f0.ix, .int .i64 f0.bx, .int .i64 f0.yb, .int .u8 (f0.e.k : Int), .int .i64 f0.e.cl, .int .i64 f0.e.sq, .int .u8 (f0.e.ok : Int), .string f0.e.key, .string f0.e.old, .string f0.e.val, .int .u8 (f1.st : Int), .int .i64 f1.ix, .int .i64 f1.bx, .int .i64 f1.yb, .int .u8 (f1.e.k : Int), .int .i64 f1.e.cl, .int .i64 f1.e.sq, .int .u8 (f1.e.ok : Int), .string f1.e.key, .string f1.e.old, .string f1.e.val] 118)).alloc (.cells #[.int .i64 0, .int .u8 0, .int .i64 0, .int .i64 0, .int .u8 0, .int .i64 0, .int .i64 0, .int .u8 0, .string ⟨#[]⟩, .string ⟨#[]⟩, .string ⟨#[]⟩] 86)) = W at *
  generalize w.heap.size + 1 + 1 = g2 at *
  generalize w.heap.size + 1 = g1 at *
  generalize hg : w.heap.size = g at *
  have HG := Lib.hid hg
  clear hg
  have c0 := cell_of_row W g 0 _ _ _ (HW.out.rec_)
  have c1 := cell_of_row W g 1 _ _ _ (HW.out.rec_)
  have c2 := cell_of_row W g 2 _ _ _ (HW.out.rec_)
  have c3 := cell_of_row W g 3 _ _ _ (HW.out.rec_)
  have c4 := cell_of_row W g 4 _ _ _ (HW.out.rec_)
  obtain ⟨N, hN, hsz⟩ := size_two
  have hld := load_two hN HW.out.two
  have HNN := Lib.hid hN
  clear hN
  go_wp2_with fail
  refine (HAP.out W).mono ?_
  rintro e w1 ⟨F, caps, rfl, hx, hgo, hq⟩
  have HW := Lib.hid (HW.out.mono hx)
  have HQ := Lib.hid hq
  have HGO := Lib.hid hgo
  clear hx hq hgo HAP c0 c1 c2 c3 c4 hsz hld HNN
  have HRL := Lib.hid (heap_alloc_new w1 (.cells #[.func (.func F) #[] caps, .int .i64 fi, .int .u8 cl, .int .i64 0, .int .u8 st, .int .i64 bx, .int .i64 yb, .int .u8 0, .int .i64 0, .int .i64 0, .int .u8 0, .string ⟨#[]⟩, .string ⟨#[]⟩, .string ⟨#[]⟩] 218))
  have HX1 := Lib.hid ((Ext.refl w1).alloc (.cells #[.func (.func F) #[] caps, .int .i64 fi, .int .u8 cl, .int .i64 0, .int .u8 st, .int .i64 bx, .int .i64 yb, .int .u8 0, .int .i64 0, .int .i64 0, .int .u8 0, .string ⟨#[]⟩, .string ⟨#[]⟩, .string ⟨#[]⟩] 218))
  have HNE : Hid (w1.heap.size ≠ g2) := Lib.hid (by have := (Array.getElem?_eq_some_iff.1 HW.out.rep).1; omega)
  go_upto_region 2 with (fail)
  have HW := Lib.hid (HW.out.mono HX1.out)
  generalize (w1.alloc (.cells #[.func (.func F) #[] caps, .int .i64 fi, .int .u8 cl, .int .i64 0, .int .u8 st, .int .i64 bx, .int .i64 yb, .int .u8 0, .int .i64 0, .int .i64 0, .int .u8 0, .string ⟨#[]⟩, .string ⟨#[]⟩, .string ⟨#[]⟩] 218)) = w2 at *
  generalize w1.heap.size = gr at *
  refine wp_region_held_drew (S := fun w' => w'.cell? ⟨gr, 2, none⟩ = some (.int .u8 cl) ∧ w'.heap[gr]? = some (.cells #[.func (.func F) #[] caps, .int .i64 fi, .int .u8 cl, .int .i64 0, .int .u8 st, .int .i64 bx, .int .i64 yb, .int .u8 0, .int .i64 0, .int .i64 0, .int .u8 0, .string ⟨#[]⟩, .string ⟨#[]⟩, .string ⟨#[]⟩] 218 (0, 0)) ∧ TwoL w' g1 f0 f1) (by kernel_rfl) (⟨cell_of_row _ gr 2 _ _ _ (keep_row (Ext.refl w2).drew HRL.out), keep_row (Ext.refl w2).drew HRL.out, HW.out.two.ext (Ext.refl w2).drew⟩) (fun hHeld => ?_)
  refine wpAnyH_take (i := 0) (oi := { dst := some 14, op := .fieldAddr 218 (.tmp 9) 2, type := 0, pos := "slot.go:103", after := #[], guard := none }) (v := ?_) rfl (by kernel_rfl) (by kernel_rfl) (by kernel_rfl) (fun _ _ _ h => h) (Or.inl ⟨by rfl, ?_⟩) (by assumption) ?_
  rotate_left
  · intro w9 hSw
    try dsimp only at hSw
    go_simp
    try with_reducible rfl
  try simp only [Act.put, List.setIfInBounds_toArray, List.set_cons_zero, List.set_cons_succ]
  refine wpAnyH_take (i := 1) (oi := { dst := some 15, op := .load 5 (.tmp 14), type := 5, pos := "slot.go:103", after := #[⟨0, .data⟩], guard := none }) (v := ?_) rfl (by kernel_rfl) (by kernel_rfl) (by kernel_rfl) (fun _ _ _ h => h) (Or.inl ⟨by rfl, ?_⟩) (by assumption) ?_
  rotate_left
  · intro w9 hSw
    try dsimp only at hSw
    go_simp
    try with_reducible rfl
  try simp only [Act.put, List.setIfInBounds_toArray, List.set_cons_zero, List.set_cons_succ]
  refine wpAnyH_take (i := 2) (oi := { dst := some 16, op := .fieldAddr 218 (.tmp 9) 3, type := 0, pos := "slot.go:103", after := #[⟨7, .gcOnly .lateStores⟩], guard := none }) (v := ?_) rfl (by kernel_rfl) (by kernel_rfl) (by kernel_rfl) (fun _ _ _ h => h) (Or.inl ⟨by rfl, ?_⟩) (by assumption) ?_
  rotate_left
  · intro w9 hSw
    try dsimp only at hSw
    go_simp
    try with_reducible rfl
  try simp only [Act.put, List.setIfInBounds_toArray, List.set_cons_zero, List.set_cons_succ]
  refine wpAnyH_take (i := 3) (oi := { dst := some 17, op := .load 86 (.tmp 16), type := 86, pos := "slot.go:103", after := #[⟨2, .data⟩, ⟨7, .gcOnly .lateStores⟩], guard := none }) (v := .agg #[.int .i64 0, .int .u8 st, .int .i64 bx, .int .i64 yb, .int .u8 0, .int .i64 0, .int .i64 0, .int .u8 0, .string ⟨#[]⟩, .string ⟨#[]⟩, .string ⟨#[]⟩]) rfl (by kernel_rfl) (by kernel_rfl) (by kernel_rfl) (fun _ _ _ h => h) (yieldsIf_load_mid (by rfl) 86 (.tmp 16) rfl gr 3 rfl [.int .i64 0, .int .u8 st, .int .i64 bx, .int .i64 yb, .int .u8 0, .int .i64 0, .int .i64 0, .int .u8 0, .string ⟨#[]⟩, .string ⟨#[]⟩, .string ⟨#[]⟩] _ (fun w hw => row_range [.func (.func F) #[] caps, .int .i64 fi, .int .u8 cl, .int .i64 0, .int .u8 st, .int .i64 bx, .int .i64 yb, .int .u8 0, .int .i64 0, .int .i64 0, .int .u8 0, .string ⟨#[]⟩, .string ⟨#[]⟩, .string ⟨#[]⟩] hw.2.1 3) Tryz.underlying86 rfl (by kernel_rfl)) (by assumption) ?_
  try simp only [Act.put, List.setIfInBounds_toArray, List.set_cons_zero, List.set_cons_succ]
  refine wpAnyH_take (i := 4) (oi := { dst := some 18, op := .load 218 (.tmp 9), type := 218, pos := "slot.go:103", after := #[], guard := none }) (v := .agg #[.func (.func F) #[] caps, .int .i64 fi, .int .u8 cl, .int .i64 0, .int .u8 st, .int .i64 bx, .int .i64 yb, .int .u8 0, .int .i64 0, .int .i64 0, .int .u8 0, .string ⟨#[]⟩, .string ⟨#[]⟩, .string ⟨#[]⟩]) rfl (by kernel_rfl) (by kernel_rfl) (by kernel_rfl) (fun _ _ _ h => h) (yieldsIf_load_mid (by rfl) 218 (.tmp 9) rfl gr 0 rfl [.func (.func F) #[] caps, .int .i64 fi, .int .u8 cl, .int .i64 0, .int .u8 st, .int .i64 bx, .int .i64 yb, .int .u8 0, .int .i64 0, .int .i64 0, .int .u8 0, .string ⟨#[]⟩, .string ⟨#[]⟩, .string ⟨#[]⟩] _ (fun w hw => row_range [.func (.func F) #[] caps, .int .i64 fi, .int .u8 cl, .int .i64 0, .int .u8 st, .int .i64 bx, .int .i64 yb, .int .u8 0, .int .i64 0, .int .i64 0, .int .u8 0, .string ⟨#[]⟩, .string ⟨#[]⟩, .string ⟨#[]⟩] hw.2.1 0) Tryz.underlying218 rfl (by kernel_rfl)) (by assumption) ?_
  try simp only [Act.put, List.setIfInBounds_toArray, List.set_cons_zero, List.set_cons_succ]
  refine wpAnyH_take (i := 5) (oi := { dst := some 19, op := .load 118 (.tmp 4), type := 118, pos := "slot.go:103", after := #[], guard := none }) (v := .agg #[.int .u8 (f0.st : Int), .int .i64 f0.ix, .int .i64 f0.bx, .int .i64 f0.yb, .int .u8 (f0.e.k : Int), .int .i64 f0.e.cl, .int .i64 f0.e.sq, .int .u8 (f0.e.ok : Int), .string f0.e.key, .string f0.e.old, .string f0.e.val, .int .u8 (f1.st : Int), .int .i64 f1.ix, .int .i64 f1.bx, .int .i64 f1.yb, .int .u8 (f1.e.k : Int), .int .i64 f1.e.cl, .int .i64 f1.e.sq, .int .u8 (f1.e.ok : Int), .string f1.e.key, .string f1.e.old, .string f1.e.val]) rfl (by kernel_rfl) (by kernel_rfl) (by kernel_rfl) (fun _ _ _ h => h) (yieldsIf_load_mid (by rfl) 118 (.tmp 4) rfl g1 0 rfl [.int .u8 (f0.st : Int), .int .i64 f0.ix, .int .i64 f0.bx, .int .i64 f0.yb, .int .u8 (f0.e.k : Int), .int .i64 f0.e.cl, .int .i64 f0.e.sq, .int .u8 (f0.e.ok : Int), .string f0.e.key, .string f0.e.old, .string f0.e.val, .int .u8 (f1.st : Int), .int .i64 f1.ix, .int .i64 f1.bx, .int .i64 f1.yb, .int .u8 (f1.e.k : Int), .int .i64 f1.e.cl, .int .i64 f1.e.sq, .int .u8 (f1.e.ok : Int), .string f1.e.key, .string f1.e.old, .string f1.e.val] _ (fun w hw => row_range [.int .u8 (f0.st : Int), .int .i64 f0.ix, .int .i64 f0.bx, .int .i64 f0.yb, .int .u8 (f0.e.k : Int), .int .i64 f0.e.cl, .int .i64 f0.e.sq, .int .u8 (f0.e.ok : Int), .string f0.e.key, .string f0.e.old, .string f0.e.val, .int .u8 (f1.st : Int), .int .i64 f1.ix, .int .i64 f1.bx, .int .i64 f1.yb, .int .u8 (f1.e.k : Int), .int .i64 f1.e.cl, .int .i64 f1.e.sq, .int .u8 (f1.e.ok : Int), .string f1.e.key, .string f1.e.old, .string f1.e.val] hw.2.2 0) Tryz.underlying118 rfl (by kernel_rfl)) (by assumption) ?_
  try simp only [Act.put, List.setIfInBounds_toArray, List.set_cons_zero, List.set_cons_succ]
  refine wpAnyH_ready (rs := [6]) (by kernel_rfl) (by simp) ?_
  refine AllReadyH.cons (o := { dst := some 20, op := .call { callee := .value (.func 146), args := #[.tmp 18, .tmp 19], argTypes := #[218, 118] }, type := 3, pos := "slot.go:103", after := #[⟨4, .data⟩, ⟨5, .data⟩], guard := none }) rfl (fun K hK => ?_) AllReadyH.nil
  go_simp
  refine (HUS.out F caps _ HGO.out (HQ.out f0 |>.ext (HX1.out.trans (Ext.refl w2).drew)) (HQ.out f1 |>.ext (HX1.out.trans (Ext.refl w2).drew))).mono ?_
  rintro e w3 ⟨rfl, hx⟩
  have HW := Lib.hid (HW.out.mono ((Ext.refl w2).drew.trans hx))
  have HRL := Lib.hid (keep_row ((Ext.refl w2).drew.trans hx) HRL.out)
  clear hx hHeld
  go_wp2_with fail
  refine hK.out _ _ (⟨cell_of_row _ gr 2 _ _ _ HRL.out, HRL.out, HW.out.two⟩) (fun hHeld => ?_)
  clear hK K
  try simp only [Act.put, List.setIfInBounds_toArray, List.set_cons_zero, List.set_cons_succ]
  refine wpAnyH_take (i := 7) (oi := { dst := some 6, op := .assign (.tmp 15), type := 5, pos := "slot.go:103", after := #[⟨1, .data⟩, ⟨6, .chain⟩, ⟨0, .phase⟩, ⟨1, .phase⟩, ⟨2, .textOnly .lateStores⟩, ⟨3, .textOnly .lateStores⟩, ⟨4, .textOnly .lateStores⟩, ⟨5, .textOnly .lateStores⟩, ⟨6, .textOnly .lateStoresUnsure⟩], guard := none }) (v := ?_) rfl (by kernel_rfl) (by kernel_rfl) (by kernel_rfl) (fun _ _ _ h => h) (Or.inl ⟨by rfl, ?_⟩) (by assumption) ?_
  rotate_left
  · intro w9 hSw
    try dsimp only at hSw
    go_simp
    try with_reducible rfl
  try simp only [Act.put, List.setIfInBounds_toArray, List.set_cons_zero, List.set_cons_succ]
  have z0 := cell_of_row w3 g2 0 _ _ _ (HW.out.rep)
  have z1 := cell_of_row w3 g2 1 _ _ _ (HW.out.rep)
  have z2 := cell_of_row w3 g2 2 _ _ _ (HW.out.rep)
  have z3 := cell_of_row w3 g2 3 _ _ _ (HW.out.rep)
  have z4 := cell_of_row w3 g2 4 _ _ _ (HW.out.rep)
  have z5 := cell_of_row w3 g2 5 _ _ _ (HW.out.rep)
  have z6 := cell_of_row w3 g2 6 _ _ _ (HW.out.rep)
  have z7 := cell_of_row w3 g2 7 _ _ _ (HW.out.rep)
  have z8 := cell_of_row w3 g2 8 _ _ _ (HW.out.rep)
  have z9 := cell_of_row w3 g2 9 _ _ _ (HW.out.rep)
  have z10 := cell_of_row w3 g2 10 _ _ _ (HW.out.rep)
  have y0 := frozen_of_row w3 g2 0 _ _ (HW.out.rep)
  have y1 := frozen_of_row w3 g2 1 _ _ (HW.out.rep)
  have y2 := frozen_of_row w3 g2 2 _ _ (HW.out.rep)
  have y3 := frozen_of_row w3 g2 3 _ _ (HW.out.rep)
  have y4 := frozen_of_row w3 g2 4 _ _ (HW.out.rep)
  have y5 := frozen_of_row w3 g2 5 _ _ (HW.out.rep)
  have y6 := frozen_of_row w3 g2 6 _ _ (HW.out.rep)
  have y7 := frozen_of_row w3 g2 7 _ _ (HW.out.rep)
  have y8 := frozen_of_row w3 g2 8 _ _ (HW.out.rep)
  have y9 := frozen_of_row w3 g2 9 _ _ (HW.out.rep)
  have y10 := frozen_of_row w3 g2 10 _ _ (HW.out.rep)
  have HRL : Hid (((((((((((((w3.setCell ⟨g2, 0, none⟩ (.int .i64 0)).setCell ⟨g2, 1, none⟩ (.int .u8 st)).setCell ⟨g2, 2, none⟩ (.int .i64 bx)).setCell ⟨g2, 3, none⟩ (.int .i64 yb)).setCell ⟨g2, 4, none⟩ (.int .u8 0)).setCell ⟨g2, 5, none⟩ (.int .i64 0)).setCell ⟨g2, 6, none⟩ (.int .i64 0)).setCell ⟨g2, 7, none⟩ (.int .u8 0)).setCell ⟨g2, 8, none⟩ (.string ⟨#[]⟩)).setCell ⟨g2, 9, none⟩ (.string ⟨#[]⟩)).setCell ⟨g2, 10, none⟩ (.string ⟨#[]⟩))).heap[gr]? = some (.cells #[.func (.func F) #[] caps, .int .i64 fi, .int .u8 cl, .int .i64 0, .int .u8 st, .int .i64 bx, .int .i64 yb, .int .u8 0, .int .i64 0, .int .i64 0, .int .u8 0, .string ⟨#[]⟩, .string ⟨#[]⟩, .string ⟨#[]⟩] 218 (0, 0))) := Lib.hid (off11 HRL.out HNE.out _ _ _ _ _ _ _ _ _ _ _)
  have HW : Hid (WhS w ((((((((((((w3.setCell ⟨g2, 0, none⟩ (.int .i64 0)).setCell ⟨g2, 1, none⟩ (.int .u8 st)).setCell ⟨g2, 2, none⟩ (.int .i64 bx)).setCell ⟨g2, 3, none⟩ (.int .i64 yb)).setCell ⟨g2, 4, none⟩ (.int .u8 0)).setCell ⟨g2, 5, none⟩ (.int .i64 0)).setCell ⟨g2, 6, none⟩ (.int .i64 0)).setCell ⟨g2, 7, none⟩ (.int .u8 0)).setCell ⟨g2, 8, none⟩ (.string ⟨#[]⟩)).setCell ⟨g2, 9, none⟩ (.string ⟨#[]⟩)).setCell ⟨g2, 10, none⟩ (.string ⟨#[]⟩))) p f0 f1 g g1 g2 #[.int .i64 0, .int .u8 st, .int .i64 bx, .int .i64 yb, .int .u8 0, .int .i64 0, .int .i64 0, .int .u8 0, .string ⟨#[]⟩, .string ⟨#[]⟩, .string ⟨#[]⟩]) := Lib.hid (HW.out.put _ _ _ _ _ _ _ _ _ _ _)
  refine wpAnyH_ready (rs := [8]) (by kernel_rfl) (by simp) ?_
  refine AllReadyH.cons (o := { dst := none, op := .store 86 (.tmp 7) (.tmp 17), type := 0, pos := "slot.go:103", after := #[⟨3, .data⟩, ⟨7, .chain⟩, ⟨0, .phase⟩, ⟨1, .phase⟩, ⟨2, .phase⟩, ⟨3, .phase⟩, ⟨4, .textOnly .lateStores⟩, ⟨5, .textOnly .lateStores⟩, ⟨6, .textOnly .lateStoresUnsure⟩, ⟨7, .phase⟩], guard := none }) rfl (fun K hK => ?_) AllReadyH.nil
  clear hHeld
  go_simp
  refine hK.out _ _ (⟨cell_of_row _ gr 2 _ _ _ HRL.out, HRL.out, HW.out.two⟩) (fun hHeld => ?_)
  clear hK K
  try simp only [Act.put, List.setIfInBounds_toArray, List.set_cons_zero, List.set_cons_succ]
  refine wpAnyH_take (i := 9) (oi := { dst := some 8, op := .assign (.tmp 20), type := 3, pos := "slot.go:103", after := #[⟨6, .data⟩, ⟨8, .chain⟩, ⟨0, .phase⟩, ⟨1, .phase⟩, ⟨2, .phase⟩, ⟨3, .phase⟩, ⟨4, .phase⟩, ⟨5, .phase⟩, ⟨6, .phase⟩, ⟨7, .phase⟩, ⟨8, .phase⟩], guard := none }) (v := ?_) rfl (by kernel_rfl) (by kernel_rfl) (by kernel_rfl) (fun _ _ _ h => h) (Or.inl ⟨by rfl, ?_⟩) (by assumption) ?_
  rotate_left
  · intro w9 hSw
    try dsimp only at hSw
    go_simp
    try with_reducible rfl
  try simp only [Act.put, List.setIfInBounds_toArray, List.set_cons_zero, List.set_cons_succ]
  refine wpAnyH_done (by kernel_rfl) ?_ _
  clear hHeld
  generalize (((((((((((w3.setCell ⟨g2, 0, none⟩ (.int .i64 0)).setCell ⟨g2, 1, none⟩ (.int .u8 st)).setCell ⟨g2, 2, none⟩ (.int .i64 bx)).setCell ⟨g2, 3, none⟩ (.int .i64 yb)).setCell ⟨g2, 4, none⟩ (.int .u8 0)).setCell ⟨g2, 5, none⟩ (.int .i64 0)).setCell ⟨g2, 6, none⟩ (.int .i64 0)).setCell ⟨g2, 7, none⟩ (.int .u8 0)).setCell ⟨g2, 8, none⟩ (.string ⟨#[]⟩)).setCell ⟨g2, 9, none⟩ (.string ⟨#[]⟩)).setCell ⟨g2, 10, none⟩ (.string ⟨#[]⟩)) = w4 at *
  clear z0 z1 z2 z3 z4 z5 z6 z7 z8 z9 z10 y0 y1 y2 y3 y4 y5 y6 y7 y8 y9 y10 HRL HX1 HQ HGO HUS
  have z0 := cell_of_row w4 g2 0 _ _ _ HW.out.rep
  have y0 := frozen_of_row w4 g2 0 _ _ HW.out.rep
  have HW := Lib.hid (HW.out.put0 (.int .i64 i))
  go_upto_region 6 with (fail)
  generalize (w4.setCell ⟨g2, 0, none⟩ (.int .i64 i)) = w7 at *
  clear z0 y0
  refine wp_region_held_drew (S := fun w' => w'.heap[g2]? = some (.cells #[.int .i64 i, .int .u8 st, .int .i64 bx, .int .i64 yb, .int .u8 0, .int .i64 0, .int .i64 0, .int .u8 0, .string ⟨#[]⟩, .string ⟨#[]⟩, .string ⟨#[]⟩] 86 (0, 0))) (by kernel_rfl) ((HW.out.mono (Ext.refl w7).drew).rep) (fun hHeld => ?_)
  refine wpAnyH_take (i := 0) (oi := { dst := some 34, op := .move (.tmp 6), type := 5, pos := "slot.go:108", after := #[], guard := none }) (v := ?_) rfl (by kernel_rfl) (by kernel_rfl) (by kernel_rfl) (fun _ _ _ h => h) (Or.inl ⟨by rfl, ?_⟩) (by assumption) ?_
  rotate_left
  · intro w9 hSw
    try dsimp only at hSw
    go_simp
    try with_reducible rfl
  try simp only [Act.put, List.setIfInBounds_toArray, List.set_cons_zero, List.set_cons_succ]
  refine wpAnyH_take (i := 1) (oi := { dst := some 35, op := .load 86 (.tmp 7), type := 86, pos := "slot.go:108", after := #[⟨3, .gcOnly .lateStores⟩], guard := none }) (v := .agg #[.int .i64 i, .int .u8 st, .int .i64 bx, .int .i64 yb, .int .u8 0, .int .i64 0, .int .i64 0, .int .u8 0, .string ⟨#[]⟩, .string ⟨#[]⟩, .string ⟨#[]⟩]) rfl (by kernel_rfl) (by kernel_rfl) (by kernel_rfl) (fun _ _ _ h => h) (yieldsIf_load_mid (by rfl) 86 (.tmp 7) rfl g2 0 rfl [.int .i64 i, .int .u8 st, .int .i64 bx, .int .i64 yb, .int .u8 0, .int .i64 0, .int .i64 0, .int .u8 0, .string ⟨#[]⟩, .string ⟨#[]⟩, .string ⟨#[]⟩] _ (fun w hw => row_range [.int .i64 i, .int .u8 st, .int .i64 bx, .int .i64 yb, .int .u8 0, .int .i64 0, .int .i64 0, .int .u8 0, .string ⟨#[]⟩, .string ⟨#[]⟩, .string ⟨#[]⟩] hw 0) Tryz.underlying86 rfl (by kernel_rfl)) (by assumption) ?_
  try simp only [Act.put, List.setIfInBounds_toArray, List.set_cons_zero, List.set_cons_succ]
  refine wpAnyH_take (i := 2) (oi := { dst := some 36, op := .move (.tmp 8), type := 3, pos := "slot.go:108", after := #[⟨4, .gcOnly .lateStores⟩], guard := none }) (v := ?_) rfl (by kernel_rfl) (by kernel_rfl) (by kernel_rfl) (fun _ _ _ h => h) (Or.inl ⟨by rfl, ?_⟩) (by assumption) ?_
  rotate_left
  · intro w9 hSw
    try dsimp only at hSw
    go_simp
    try with_reducible rfl
  try simp only [Act.put, List.setIfInBounds_toArray, List.set_cons_zero, List.set_cons_succ]
  refine wpAnyH_take (i := 3) (oi := { dst := some 6, op := .assign (.tmp 34), type := 5, pos := "slot.go:108", after := #[⟨0, .data⟩, ⟨0, .phase⟩, ⟨1, .textOnly .lateStores⟩, ⟨2, .textOnly .lateStores⟩], guard := none }) (v := ?_) rfl (by kernel_rfl) (by kernel_rfl) (by kernel_rfl) (fun _ _ _ h => h) (Or.inl ⟨by rfl, ?_⟩) (by assumption) ?_
  rotate_left
  · intro w9 hSw
    try dsimp only at hSw
    go_simp
    try with_reducible rfl
  try simp only [Act.put, List.setIfInBounds_toArray, List.set_cons_zero, List.set_cons_succ]
  have HW := Lib.hid (HW.out.mono (Ext.refl w7).drew)
  generalize w7.drew = w8 at *
  have z0 := cell_of_row w8 g2 0 _ _ _ (HW.out.rep)
  have z1 := cell_of_row w8 g2 1 _ _ _ (HW.out.rep)
  have z2 := cell_of_row w8 g2 2 _ _ _ (HW.out.rep)
  have z3 := cell_of_row w8 g2 3 _ _ _ (HW.out.rep)
  have z4 := cell_of_row w8 g2 4 _ _ _ (HW.out.rep)
  have z5 := cell_of_row w8 g2 5 _ _ _ (HW.out.rep)
  have z6 := cell_of_row w8 g2 6 _ _ _ (HW.out.rep)
  have z7 := cell_of_row w8 g2 7 _ _ _ (HW.out.rep)
  have z8 := cell_of_row w8 g2 8 _ _ _ (HW.out.rep)
  have z9 := cell_of_row w8 g2 9 _ _ _ (HW.out.rep)
  have z10 := cell_of_row w8 g2 10 _ _ _ (HW.out.rep)
  have y0 := frozen_of_row w8 g2 0 _ _ (HW.out.rep)
  have y1 := frozen_of_row w8 g2 1 _ _ (HW.out.rep)
  have y2 := frozen_of_row w8 g2 2 _ _ (HW.out.rep)
  have y3 := frozen_of_row w8 g2 3 _ _ (HW.out.rep)
  have y4 := frozen_of_row w8 g2 4 _ _ (HW.out.rep)
  have y5 := frozen_of_row w8 g2 5 _ _ (HW.out.rep)
  have y6 := frozen_of_row w8 g2 6 _ _ (HW.out.rep)
  have y7 := frozen_of_row w8 g2 7 _ _ (HW.out.rep)
  have y8 := frozen_of_row w8 g2 8 _ _ (HW.out.rep)
  have y9 := frozen_of_row w8 g2 9 _ _ (HW.out.rep)
  have y10 := frozen_of_row w8 g2 10 _ _ (HW.out.rep)
  have HW : Hid (WhS w ((((((((((((w8.setCell ⟨g2, 0, none⟩ (.int .i64 i)).setCell ⟨g2, 1, none⟩ (.int .u8 st)).setCell ⟨g2, 2, none⟩ (.int .i64 bx)).setCell ⟨g2, 3, none⟩ (.int .i64 yb)).setCell ⟨g2, 4, none⟩ (.int .u8 0)).setCell ⟨g2, 5, none⟩ (.int .i64 0)).setCell ⟨g2, 6, none⟩ (.int .i64 0)).setCell ⟨g2, 7, none⟩ (.int .u8 0)).setCell ⟨g2, 8, none⟩ (.string ⟨#[]⟩)).setCell ⟨g2, 9, none⟩ (.string ⟨#[]⟩)).setCell ⟨g2, 10, none⟩ (.string ⟨#[]⟩))) p f0 f1 g g1 g2 #[.int .i64 i, .int .u8 st, .int .i64 bx, .int .i64 yb, .int .u8 0, .int .i64 0, .int .i64 0, .int .u8 0, .string ⟨#[]⟩, .string ⟨#[]⟩, .string ⟨#[]⟩]) := Lib.hid (HW.out.put _ _ _ _ _ _ _ _ _ _ _)
  refine wpAnyH_ready (rs := [4]) (by kernel_rfl) (by simp) ?_
  refine AllReadyH.cons (o := { dst := none, op := .store 86 (.tmp 7) (.tmp 35), type := 0, pos := "slot.go:108", after := #[⟨1, .data⟩, ⟨3, .chain⟩, ⟨0, .phase⟩, ⟨1, .phase⟩, ⟨2, .textOnly .lateStores⟩, ⟨3, .phase⟩], guard := none }) rfl (fun K hK => ?_) AllReadyH.nil
  clear hHeld
  go_simp
  refine hK.out _ _ (HW.out.rep) (fun hHeld => ?_)
  clear hK K
  try simp only [Act.put, List.setIfInBounds_toArray, List.set_cons_zero, List.set_cons_succ]
  refine wpAnyH_take (i := 5) (oi := { dst := some 8, op := .assign (.tmp 36), type := 3, pos := "slot.go:108", after := #[⟨2, .data⟩, ⟨4, .chain⟩, ⟨0, .phase⟩, ⟨1, .phase⟩, ⟨2, .phase⟩, ⟨3, .phase⟩, ⟨4, .phase⟩], guard := none }) (v := ?_) rfl (by kernel_rfl) (by kernel_rfl) (by kernel_rfl) (fun _ _ _ h => h) (Or.inl ⟨by rfl, ?_⟩) (by assumption) ?_
  rotate_left
  · intro w9 hSw
    try dsimp only at hSw
    go_simp
    try with_reducible rfl
  try simp only [Act.put, List.setIfInBounds_toArray, List.set_cons_zero, List.set_cons_succ]
  refine wpAnyH_done (by kernel_rfl) ?_ _
  clear hHeld
  generalize (((((((((((w8.setCell ⟨g2, 0, none⟩ (.int .i64 i)).setCell ⟨g2, 1, none⟩ (.int .u8 st)).setCell ⟨g2, 2, none⟩ (.int .i64 bx)).setCell ⟨g2, 3, none⟩ (.int .i64 yb)).setCell ⟨g2, 4, none⟩ (.int .u8 0)).setCell ⟨g2, 5, none⟩ (.int .i64 0)).setCell ⟨g2, 6, none⟩ (.int .i64 0)).setCell ⟨g2, 7, none⟩ (.int .u8 0)).setCell ⟨g2, 8, none⟩ (.string ⟨#[]⟩)).setCell ⟨g2, 9, none⟩ (.string ⟨#[]⟩)).setCell ⟨g2, 10, none⟩ (.string ⟨#[]⟩)) = w9 at *
  clear z0 z1 z2 z3 z4 z5 z6 z7 z8 z9 z10 y0 y1 y2 y3 y4 y5 y6 y7 y8 y9 y10
  obtain ⟨z0, z1, z2, z3, z4, z5, z6, z7, z8, z9, z10⟩ := rep_cells HW.out.rep
  go_wp2_with fail
  refine bodyPost_ret (v := .tuple #[.int .u8 cl, .agg #[.int .i64 i, .int .u8 st, .int .i64 bx, .int .i64 yb, .int .u8 0, .int .i64 0, .int .i64 0, .int .u8 0, .string ⟨#[]⟩, .string ⟨#[]⟩, .string ⟨#[]⟩], .int .i64 (-1)]) (by simp [results, Tryz.results90, go_sem, z0, z1, z2, z3, z4, z5, z6, z7, z8, z9, z10]) rfl ⟨rfl, HW.out.ext⟩
end Go.Proofs.YtnlappoocffcpaaGreatDoor
