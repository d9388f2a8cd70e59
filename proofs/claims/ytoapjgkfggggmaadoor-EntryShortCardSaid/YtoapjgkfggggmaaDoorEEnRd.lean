/-
  The contract of the reader's entry: what is read there, valid or not.
-/
import Derived.Test.YtoapjgkfggggmaaDoorEOpRd
import Derived.Deep.DeepCutAuto
namespace Go.Proofs.YtoapjgkfggggmaaDoor
open Go Go.RowKit

theorem seven_cells {w : World} {g : Nat} {x0 x1 x2 x3 x4 x5 x6 : Value} {t : TypeId} (h : w.heap[g]? = some (.cells #[x0, x1, x2, x3, x4, x5, x6] t (0, 0))) :
    w.cell? ⟨g, 0, none⟩ = some x0 ∧ w.cell? ⟨g, 1, none⟩ = some x1 ∧ w.cell? ⟨g, 2, none⟩ = some x2 ∧ w.cell? ⟨g, 3, none⟩ = some x3 ∧ w.cell? ⟨g, 4, none⟩ = some x4 ∧ w.cell? ⟨g, 5, none⟩ = some x5 ∧ w.cell? ⟨g, 6, none⟩ = some x6 :=
  ⟨cell_of_row w g 0 _ _ _ h, cell_of_row w g 1 _ _ _ h, cell_of_row w g 2 _ _ _ h, cell_of_row w g 3 _ _ _ h, cell_of_row w g 4 _ _ _ h, cell_of_row w g 5 _ _ _ h, cell_of_row w g 6 _ _ _ h⟩
theorem seven_free {w : World} {g : Nat} {x0 x1 x2 x3 x4 x5 x6 : Value} {t : TypeId} (h : w.heap[g]? = some (.cells #[x0, x1, x2, x3, x4, x5, x6] t (0, 0))) :
    w.frozen? ⟨g, 0, none⟩ = false ∧ w.frozen? ⟨g, 1, none⟩ = false ∧ w.frozen? ⟨g, 2, none⟩ = false ∧ w.frozen? ⟨g, 3, none⟩ = false ∧ w.frozen? ⟨g, 4, none⟩ = false ∧ w.frozen? ⟨g, 5, none⟩ = false ∧ w.frozen? ⟨g, 6, none⟩ = false :=
  ⟨frozen_of_row w g 0 _ _ h, frozen_of_row w g 1 _ _ h, frozen_of_row w g 2 _ _ h, frozen_of_row w g 3 _ _ h, frozen_of_row w g 4 _ _ h, frozen_of_row w g 5 _ _ h, frozen_of_row w g 6 _ _ h⟩
/-- An entry stored into a block. -/
def set7 (w : World) (g : Nat) (x0 x1 x2 x3 x4 x5 x6 : Value) : World :=
  ((((((w.setCell ⟨g, 0, none⟩ x0).setCell ⟨g, 1, none⟩ x1).setCell ⟨g, 2, none⟩ x2).setCell ⟨g, 3, none⟩ x3).setCell ⟨g, 4, none⟩ x4).setCell ⟨g, 5, none⟩ x5).setCell ⟨g, 6, none⟩ x6
theorem mod_set7 {F : Nat → Prop} {a w : World} (h : Mod F a w) {g : Nat} (hg : F g ∨ a.heap.size ≤ g) (x0 x1 x2 x3 x4 x5 x6 : Value) : Mod F a (set7 w g x0 x1 x2 x3 x4 x5 x6) :=
  ((((((h.setCell (p := ⟨g, 0, none⟩) hg _).setCell (p := ⟨g, 1, none⟩) hg _).setCell (p := ⟨g, 2, none⟩) hg _).setCell (p := ⟨g, 3, none⟩) hg _).setCell (p := ⟨g, 4, none⟩) hg _).setCell (p := ⟨g, 5, none⟩) hg _).setCell (p := ⟨g, 6, none⟩) hg _
theorem mod_set7_own (w : World) (g : Nat) (x0 x1 x2 x3 x4 x5 x6 : Value) : Mod (fun i => i = g) w (set7 w g x0 x1 x2 x3 x4 x5 x6) := mod_set7 (F := fun i => i = g) (Mod.refl (fun i => i = g) w) (.inl rfl) _ _ _ _ _ _ _
theorem ext_set7 {a w : World} (h : Ext a w) {g : Nat} (hg : a.heap.size ≤ g) (x0 x1 x2 x3 x4 x5 x6 : Value) : Ext a (set7 w g x0 x1 x2 x3 x4 x5 x6) :=
  ((((((h.setCell (p := ⟨g, 0, none⟩) hg _).setCell (p := ⟨g, 1, none⟩) hg _).setCell (p := ⟨g, 2, none⟩) hg _).setCell (p := ⟨g, 3, none⟩) hg _).setCell (p := ⟨g, 4, none⟩) hg _).setCell (p := ⟨g, 5, none⟩) hg _).setCell (p := ⟨g, 6, none⟩) hg _
theorem row_set7 {w : World} {g : Nat} {y0 y1 y2 y3 y4 y5 y6 : Value} {t : TypeId} (h : w.heap[g]? = some (.cells #[y0, y1, y2, y3, y4, y5, y6] t (0, 0))) (x0 x1 x2 x3 x4 x5 x6 : Value) :
    (set7 w g x0 x1 x2 x3 x4 x5 x6).heap[g]? = some (.cells #[x0, x1, x2, x3, x4, x5, x6] t (0, 0)) := by
  have h0 : (w.setCell ⟨g, 0, none⟩ x0).heap[g]? = some (.cells #[x0, y1, y2, y3, y4, y5, y6] t (0, 0)) := rdr_set h x0
  have h1 : ((w.setCell ⟨g, 0, none⟩ x0).setCell ⟨g, 1, none⟩ x1).heap[g]? = some (.cells #[x0, x1, y2, y3, y4, y5, y6] t (0, 0)) := rdr_set h0 x1
  have h2 : (((w.setCell ⟨g, 0, none⟩ x0).setCell ⟨g, 1, none⟩ x1).setCell ⟨g, 2, none⟩ x2).heap[g]? = some (.cells #[x0, x1, x2, y3, y4, y5, y6] t (0, 0)) := rdr_set h1 x2
  have h3 : ((((w.setCell ⟨g, 0, none⟩ x0).setCell ⟨g, 1, none⟩ x1).setCell ⟨g, 2, none⟩ x2).setCell ⟨g, 3, none⟩ x3).heap[g]? = some (.cells #[x0, x1, x2, x3, y4, y5, y6] t (0, 0)) := rdr_set h2 x3
  have h4 : (((((w.setCell ⟨g, 0, none⟩ x0).setCell ⟨g, 1, none⟩ x1).setCell ⟨g, 2, none⟩ x2).setCell ⟨g, 3, none⟩ x3).setCell ⟨g, 4, none⟩ x4).heap[g]? = some (.cells #[x0, x1, x2, x3, x4, y5, y6] t (0, 0)) := rdr_set h3 x4
  have h5 : ((((((w.setCell ⟨g, 0, none⟩ x0).setCell ⟨g, 1, none⟩ x1).setCell ⟨g, 2, none⟩ x2).setCell ⟨g, 3, none⟩ x3).setCell ⟨g, 4, none⟩ x4).setCell ⟨g, 5, none⟩ x5).heap[g]? = some (.cells #[x0, x1, x2, x3, x4, x5, y6] t (0, 0)) := rdr_set h4 x5
  have h6 : (((((((w.setCell ⟨g, 0, none⟩ x0).setCell ⟨g, 1, none⟩ x1).setCell ⟨g, 2, none⟩ x2).setCell ⟨g, 3, none⟩ x3).setCell ⟨g, 4, none⟩ x4).setCell ⟨g, 5, none⟩ x5).setCell ⟨g, 6, none⟩ x6).heap[g]? = some (.cells #[x0, x1, x2, x3, x4, x5, x6] t (0, 0)) := rdr_set h5 x6
  exact h6
abbrev row0 : Obj := .cells #[.int .u8 0, .int .i64 0, .int .i64 0, .int .u8 0, .string ⟨#[]⟩, .string ⟨#[]⟩, .string ⟨#[]⟩] 27 (0, 0)
/-- What holds while an entry is read. -/
structure EnW (w : World) (g : Nat) (A : Option Addr) (n c : Nat) (l : List Nat) (g2 g3 : Nat) (cs : Array Value) (a : Nat) (sh : Bool) (w' : World) : Prop where
  rd : RdS w' g A n c l a sh
  base : RdB w.heap.size g A n
  res : w'.heap[g2]? = some (.cells #[.int .u8 0, .int .i64 0, .int .i64 0, .int .u8 0, .string ⟨#[]⟩, .string ⟨#[]⟩, .string ⟨#[]⟩] 27 (0, 0))
  own : w'.heap[g3]? = some (.cells cs 27 (0, 0))
  ge : w.heap.size ≤ g2 ∧ w.heap.size ≤ g3 ∧ g2 ≠ g3
  mod : Mod (fun i => i = g) w w'
section
variable {w w' w2 : World} {g n c a g2 g3 : Nat} {A : Option Addr} {l : List Nat} {cs : Array Value} {sh : Bool}
theorem EnW.step {a' : Nat} {sh' : Bool} (h : EnW w g A n c l g2 g3 cs a sh w') (k : Mod (fun i => i = g) w' w2) (hr : RdS w2 g A n c l a' sh') : EnW w g A n c l g2 g3 cs a' sh' w2 :=
  ⟨hr, h.base, heap_mod h.res k (by have := h.base.g; have := h.ge; omega), heap_mod h.own k (by have := h.base.g; have := h.ge; omega), h.ge, Mod.trans (F := fun i => i = g) h.mod k fun _ hi => .inl hi⟩
theorem EnW.put (h : EnW w g A n c l g2 g3 cs a sh w') (i : Nat) (v : Value) {ds : Array Value} (hd : ds = cs.setIfInBounds i v) : EnW w g A n c l g2 g3 ds a sh (w'.setCell ⟨g3, i, none⟩ v) :=
  ⟨h.rd.other h.base (mod_set g3 i v) fun i hi => by subst hi; exact h.ge.2.1, h.base, heap_mod h.res (mod_set g3 i v) h.ge.2.2, hd ▸ rdr_set h.own v, h.ge, Mod.setCell (F := fun i => i = g) h.mod (.inr h.ge.2.1) v⟩
theorem EnW.fin (h : EnW w g A n c l g2 g3 cs a sh w') (x0 x1 x2 x3 x4 x5 x6 : Value) : RdS (set7 w' g2 x0 x1 x2 x3 x4 x5 x6) g A n c l a sh ∧ Mod (fun i => i = g) w (set7 w' g2 x0 x1 x2 x3 x4 x5 x6) :=
  ⟨h.rd.other (G := fun i => i = g2) h.base (mod_set7_own _ _ _ _ _ _ _ _ _) (fun i hi => by subst hi; exact h.ge.1), mod_set7 (F := fun i => i = g) h.mod (.inr h.ge.1) _ _ _ _ _ _ _⟩
end
theorem enS_no {l : List Nat} {a : Nat} (h : (nmS l a 1).1 ≠ 2) : enS l a = ({ k := (nmS l a 1).1 }, enA l a, (nmS l a 1).2.2) := by unfold enS; rw [if_neg h]
theorem enS_yes {l : List Nat} {a : Nat} (h : (nmS l a 1).1 = 2) : enS l a = ({ k := 2, cl := ((nmS l (enA l a) 1).1 : Nat), sq := ((nmS l (enB l a) 6).1 : Nat), ok := (nmS l (enC l a) 1).1, key := (txS l (opA l (enC l a))).1, old := (txS l (opB l (enC l a))).1, val := (txS l (opC l (enC l a))).1 },
      opD l (enC l a), (nmS l a 1).2.2 || (nmS l (enA l a) 1).2.2 || (nmS l (enB l a) 6).2.2 || opBad l (enC l a)) := by unfold enS; rw [if_pos h]
set_option maxRecDepth 100000 in
set_option maxHeartbeats 1000000 in
theorem entry_of {w : World} {g n c a : Nat} {A : Option Addr} {l : List Nat} {sh : Bool} (h : RdS w g A n c l a sh) :
    Calls Tryd.prog 35 #[.pointer (some ⟨g, 0, none⟩)] w fun e w' => e = .returned (.agg #[.int .u8 ((enS l a).1.k : Int), .int .i64 (enS l a).1.cl, .int .i64 (enS l a).1.sq, .int .u8 ((enS l a).1.ok : Int), .string (enS l a).1.key, .string (enS l a).1.old, .string (enS l a).1.val]) ∧ RdS w' g A n c l (enS l a).2.1 (sh || (enS l a).2.2) ∧ Mod (fun i => i = g) w w' := by
  have HBB := Lib.hid h.base
  have hx := (Ext.refl w).alloc (.cells #[.int .u8 0, .int .i64 0, .int .i64 0, .int .u8 0, .string ⟨#[]⟩, .string ⟨#[]⟩, .string ⟨#[]⟩] 27)
  have HR := Lib.hid (h.ext hx)
  have HQ := Lib.hid (heap_alloc_new w (.cells #[.int .u8 0, .int .i64 0, .int .i64 0, .int .u8 0, .string ⟨#[]⟩, .string ⟨#[]⟩, .string ⟨#[]⟩] 27))
  clear h
  have mk : ∀ (k : Nat) (w1 : World) (a' : Nat) (sh' : Bool), RdS w1 g A n c l a' sh' → Mod (fun i => i = g) (w.alloc (.cells #[.int .u8 0, .int .i64 0, .int .i64 0, .int .u8 0, .string ⟨#[]⟩, .string ⟨#[]⟩, .string ⟨#[]⟩] 27)) w1 →
      EnW w g A n c l w.heap.size w1.heap.size #[.int .u8 (k : Int), .int .i64 0, .int .i64 0, .int .u8 0, .string ⟨#[]⟩, .string ⟨#[]⟩, .string ⟨#[]⟩] a' sh' (w1.alloc (.cells #[.int .u8 (k : Int), .int .i64 0, .int .i64 0, .int .u8 0, .string ⟨#[]⟩, .string ⟨#[]⟩, .string ⟨#[]⟩] 27)) := by
    intro k w1 a' sh' hr hm
    have hx1 := (Ext.refl w1).alloc (.cells #[.int .u8 (k : Int), .int .i64 0, .int .i64 0, .int .u8 0, .string ⟨#[]⟩, .string ⟨#[]⟩, .string ⟨#[]⟩] 27)
    have hgl := HBB.out.g
    have hs1 := hm.size
    rw [World.size_alloc] at hs1
    refine ⟨hr.ext hx1, HBB.out, heap_ext (heap_mod HQ.out hm (by omega)) hx1, heap_alloc_new w1 _, ⟨Nat.le_refl _, by omega, by omega⟩, ?_⟩
    exact Mod.ext (F := fun i => i = g) (Mod.trans (F := fun i => i = g) (Mod.alloc (F := fun i => i = g) (Mod.refl (fun i => i = g) w) _) hm fun _ hi => .inl hi) hx1
  have MK := Lib.hid mk
  clear mk HQ hx
  have kk := kind_of HR.out
  by_cases h2 : (nmS l a 1).1 = 2
  · have HS2 := Lib.hid (enS_yes h2)
    rw [h2] at kk
    have KK := Lib.hid kk
    clear kk h2
    go_enter Tryd.func35, Tryd.ntmps35
    go_wp2_with fail
    refine KK.out.mono ?_
    rintro e w1 ⟨rfl, hr, hm⟩
    have hs := MK.out 2 w1 _ _ hr hm
    have hs : EnW _ _ _ _ _ _ _ _ _ (enA l a) _ _ := hs
    clear KK MK HBB HR hr hm
    have HS := Lib.hid hs
    obtain ⟨c0, c1, c2, c3, c4, c5, c6⟩ := seven_cells hs.own
    obtain ⟨f0, f1, f2, f3, f4, f5, f6⟩ := seven_free hs.own
    clear hs
    go_wp2_with fail
    generalize w.heap.size = g2 at *
    refine (number_of HS.out.rd 1 rfl).mono ?_
    rintro e w2 ⟨rfl, hr, hm⟩
    have hs := HS.out.step hm (show RdS _ g A n c l (enB l a) _ from hr)
    generalize w1.heap.size = g3 at *
    clear c0 c1 c2 c3 c4 c5 c6 f0 f1 f2 f3 f4 f5 f6
    obtain ⟨_, c1, _⟩ := seven_cells hs.own
    obtain ⟨_, f1, _⟩ := seven_free hs.own
    have HS := Lib.hid (hs.put 1 (.int .i64 ((nmS l (enA l a) 1).1 : Int)) (ds := #[.int .u8 2, .int .i64 ((nmS l (enA l a) 1).1 : Int), .int .i64 0, .int .u8 0, .string ⟨#[]⟩, .string ⟨#[]⟩, .string ⟨#[]⟩]) rfl)
    clear hs hr hm
    go_wp2_with fail
    clear c1 f1
    generalize (w2.setCell ⟨g3, 1, none⟩ (.int .i64 ((nmS l (enA l a) 1).1 : Int))) = w3 at *
    refine (number_of HS.out.rd 6 rfl).mono ?_
    rintro e w4 ⟨rfl, hr, hm⟩
    have hs := HS.out.step hm (show RdS _ g A n c l (enC l a) _ from hr)
    obtain ⟨_, _, c2, _⟩ := seven_cells hs.own
    obtain ⟨_, _, f2, _⟩ := seven_free hs.own
    have HS := Lib.hid (hs.put 2 (.int .i64 ((nmS l (enB l a) 6).1 : Int)) (ds := #[.int .u8 2, .int .i64 ((nmS l (enA l a) 1).1 : Int), .int .i64 ((nmS l (enB l a) 6).1 : Int), .int .u8 0, .string ⟨#[]⟩, .string ⟨#[]⟩, .string ⟨#[]⟩]) rfl)
    clear hs hr hm
    go_wp2_with fail
    clear c2 f2
    generalize (w4.setCell ⟨g3, 2, none⟩ (.int .i64 ((nmS l (enB l a) 6).1 : Int))) = w5 at *
    refine (operation_of HS.out.rd).mono ?_
    rintro e w6 ⟨rfl, hr, hm⟩
    have hs := HS.out.step hm hr
    obtain ⟨_, _, _, c3, c4, c5, c6⟩ := seven_cells hs.own
    obtain ⟨_, _, _, f3, f4, f5, f6⟩ := seven_free hs.own
    have hs := ((((hs.put 3 (.int .u8 ((nmS l (enC l a) 1).1 : Int)) (ds := #[.int .u8 2, .int .i64 ((nmS l (enA l a) 1).1 : Int), .int .i64 ((nmS l (enB l a) 6).1 : Int), .int .u8 ((nmS l (enC l a) 1).1 : Int), .string ⟨#[]⟩, .string ⟨#[]⟩, .string ⟨#[]⟩]) rfl).put 4 (.string (txS l (opA l (enC l a))).1)
      (ds := #[.int .u8 2, .int .i64 ((nmS l (enA l a) 1).1 : Int), .int .i64 ((nmS l (enB l a) 6).1 : Int), .int .u8 ((nmS l (enC l a) 1).1 : Int), .string (txS l (opA l (enC l a))).1, .string ⟨#[]⟩, .string ⟨#[]⟩]) rfl).put 5 (.string (txS l (opB l (enC l a))).1)
      (ds := #[.int .u8 2, .int .i64 ((nmS l (enA l a) 1).1 : Int), .int .i64 ((nmS l (enB l a) 6).1 : Int), .int .u8 ((nmS l (enC l a) 1).1 : Int), .string (txS l (opA l (enC l a))).1, .string (txS l (opB l (enC l a))).1, .string ⟨#[]⟩]) rfl).put 6 (.string (txS l (opC l (enC l a))).1)
      (ds := #[.int .u8 2, .int .i64 ((nmS l (enA l a) 1).1 : Int), .int .i64 ((nmS l (enB l a) 6).1 : Int), .int .u8 ((nmS l (enC l a) 1).1 : Int), .string (txS l (opA l (enC l a))).1, .string (txS l (opB l (enC l a))).1, .string (txS l (opC l (enC l a))).1]) rfl)
    have HS := Lib.hid hs
    clear hs hr hm
    go_upto_region 6 with (fail)
    clear c3 c4 c5 c6 f3 f4 f5 f6
    generalize ((((w6.setCell ⟨g3, 3, none⟩ (.int .u8 ((nmS l (enC l a) 1).1 : Int))).setCell ⟨g3, 4, none⟩ (.string (txS l (opA l (enC l a))).1)).setCell ⟨g3, 5, none⟩ (.string (txS l (opB l (enC l a))).1)).setCell ⟨g3, 6, none⟩ (.string (txS l (opC l (enC l a))).1)) = W at *
    obtain ⟨c0, c1, c2, c3, c4, c5, c6⟩ := seven_cells HS.out.own
    obtain ⟨d0, d1, d2, d3, d4, d5, d6⟩ := seven_cells HS.out.res
    obtain ⟨e0, e1, e2, e3, e4, e5, e6⟩ := seven_free HS.out.res
    go_wp2_with fail
    obtain ⟨hA, hB⟩ := HS.out.fin (.int .u8 2) (.int .i64 ((nmS l (enA l a) 1).1 : Int)) (.int .i64 ((nmS l (enB l a) 6).1 : Int)) (.int .u8 ((nmS l (enC l a) 1).1 : Int)) (.string (txS l (opA l (enC l a))).1) (.string (txS l (opB l (enC l a))).1) (.string (txS l (opC l (enC l a))).1)
    refine bodyPost_ret (v := .agg #[.int .u8 2, .int .i64 ((nmS l (enA l a) 1).1 : Int), .int .i64 ((nmS l (enB l a) 6).1 : Int), .int .u8 ((nmS l (enC l a) 1).1 : Int), .string (txS l (opA l (enC l a))).1, .string (txS l (opB l (enC l a))).1, .string (txS l (opC l (enC l a))).1]) ?_ rfl ⟨by rw [HS2.out]; rfl, ?_, hB⟩
    · simp [results, Tryd.results35, go_sem, d0, d1, d2, d3, d4, d5, d6]
    · rw [HS2.out]
      dsimp only
      rw [show (sh || ((nmS l a 1).2.2 || (nmS l (enA l a) 1).2.2 || (nmS l (enB l a) 6).2.2 || opBad l (enC l a))) = (sh || (nmS l a 1).2.2 || (nmS l (enA l a) 1).2.2 || (nmS l (enB l a) 6).2.2 || opBad l (enC l a)) from by simp only [Bool.or_assoc]]
      exact hA
  · have HS2 := Lib.hid (enS_no h2)
    have HN : Hid ((((nmS l a 1).1 : Int) == 2) = false) := Lib.hid (by rw [beq_eq_false_iff_ne]; omega)
    clear h2
    generalize hk : (nmS l a 1).1 = k at *
    have KK := Lib.hid kk
    have hn := HN.out
    clear kk
    go_enter Tryd.func35, Tryd.ntmps35
    go_wp2_with fail
    refine KK.out.mono ?_
    rintro e w1 ⟨rfl, hr, hm⟩
    have hs := MK.out k w1 _ _ hr hm
    have hs : EnW _ _ _ _ _ _ _ _ _ (enA l a) _ _ := hs
    clear KK MK HBB HR hr hm
    have HS := Lib.hid hs
    obtain ⟨d0, d1, d2, d3, d4, d5, d6⟩ := seven_cells hs.res
    obtain ⟨e0, e1, e2, e3, e4, e5, e6⟩ := seven_free hs.res
    clear hs
    go_wp2_with fail
    obtain ⟨hA, hB⟩ := HS.out.fin (.int .u8 (k : Int)) (.int .i64 0) (.int .i64 0) (.int .u8 0) (.string ⟨#[]⟩) (.string ⟨#[]⟩) (.string ⟨#[]⟩)
    refine bodyPost_ret (v := .agg #[.int .u8 (k : Int), .int .i64 0, .int .i64 0, .int .u8 0, .string ⟨#[]⟩, .string ⟨#[]⟩, .string ⟨#[]⟩]) ?_ rfl ⟨by rw [HS2.out]; rfl, ?_, hB⟩
    · simp [results, Tryd.results35, go_sem, d0, d1, d2, d3, d4, d5, d6]
    · rw [HS2.out]
      exact hA
end Go.Proofs.YtoapjgkfggggmaaDoor
