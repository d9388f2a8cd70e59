/-
  The contracts of the reader's operation and entry: what is read there, valid or not.
-/
import Derived.Test.YtoapjgkfggggmaaDoorERdr
import Derived.Test.YtoapjgkfggggmaaDoorEMayOp
namespace Go.Proofs.YtoapjgkfggggmaaDoor
open Go Go.RowKit

/-- A reader's blocks lie below B. -/
structure RdB (B g : Nat) (A : Option Addr) (n : Nat) : Prop where
  g : g < B
  a : 0 < n → ∀ p, A = some p → p.block < B
  o : 0 < B
theorem RdS.base {w : World} {g n c a : Nat} {A : Option Addr} {l : List Nat} {sh : Bool} (h : RdS w g A n c l a sh) : RdB w.heap.size g A n :=
  ⟨h.lt, fun hn p hp => by
    obtain ⟨g', o, e, hg, _⟩ := h.by_.rd.2 (by rw [h.by_.len]; exact hn)
    rw [hp] at e
    injection e with e
    rw [e]
    exact hg, World.block_lt_of_cell? w _ h.laid.1⟩
theorem RdS.other {w w' : World} {g n c a B : Nat} {A : Option Addr} {l : List Nat} {sh : Bool} {G : Nat → Prop} (h : RdS w g A n c l a sh) (hb : RdB B g A n) (k : Mod G w w') (hG : ∀ i, G i → B ≤ i) : RdS w' g A n c l a sh :=
  ⟨heap_mod h.row k fun hg => absurd (hG _ hg) (Nat.not_le.2 hb.g), by_mod h.by_ k fun hn p hp hg => absurd (hG _ hg) (Nat.not_le.2 (hb.a hn p hp)), h.off, h.le, h.most, laid_mod h.laid k fun hg => absurd (hG _ hg) (Nat.not_le.2 hb.o)⟩
theorem set_ext_row {w : World} {g i : Nat} {o : Obj} {h : Nat} (v : Value) (hh : w.heap[h]? = some o) (hne : h ≠ g) : (w.setCell ⟨g, i, none⟩ v).heap[h]? = some o :=
  heap_mod hh (mod_set g i v) hne
theorem four_free {w : World} {g : Nat} {x0 x1 x2 x3 : Value} {t : TypeId} (h : w.heap[g]? = some (.cells #[x0, x1, x2, x3] t (0, 0))) :
    (w.cell? ⟨g, 0, none⟩ = some x0 ∧ w.cell? ⟨g, 1, none⟩ = some x1 ∧ w.cell? ⟨g, 2, none⟩ = some x2 ∧ w.cell? ⟨g, 3, none⟩ = some x3) ∧
    (w.frozen? ⟨g, 0, none⟩ = false ∧ w.frozen? ⟨g, 1, none⟩ = false ∧ w.frozen? ⟨g, 2, none⟩ = false ∧ w.frozen? ⟨g, 3, none⟩ = false) :=
  ⟨four_cells h, frozen_of_row w g 0 _ _ h, frozen_of_row w g 1 _ _ h, frozen_of_row w g 2 _ _ h, frozen_of_row w g 3 _ _ h⟩
/-- What holds while an operation is read: two blocks of the call's own, the reader, and what was written. -/
structure OpS (w : World) (g : Nat) (A : Option Addr) (n c : Nat) (l : List Nat) (g2 g3 : Nat) (x0 x1 x2 x3 : Value) (a : Nat) (sh : Bool) (w' : World) : Prop where
  rd : RdS w' g A n c l a sh
  base : RdB w.heap.size g A n
  res : w'.heap[g2]? = some (.cells #[.int .u8 0, .string ⟨#[]⟩, .string ⟨#[]⟩, .string ⟨#[]⟩] 25 (0, 0))
  own : w'.heap[g3]? = some (.cells #[x0, x1, x2, x3] 66 (0, 0))
  ge : w.heap.size ≤ g2 ∧ w.heap.size ≤ g3 ∧ g2 ≠ g3
  mod : Mod (fun i => i = g) w w'
section
variable {w w' w2 : World} {g n c a g2 g3 : Nat} {A : Option Addr} {l : List Nat} {x0 x1 x2 x3 : Value} {sh : Bool}
theorem OpS.ext (h : OpS w g A n c l g2 g3 x0 x1 x2 x3 a sh w') (k : Ext w' w2) : OpS w g A n c l g2 g3 x0 x1 x2 x3 a sh w2 :=
  ⟨h.rd.ext k, h.base, heap_ext h.res k, heap_ext h.own k, h.ge, h.mod.ext k⟩
theorem OpS.step {a' : Nat} {sh' : Bool} (h : OpS w g A n c l g2 g3 x0 x1 x2 x3 a sh w') (k : Mod (fun i => i = g) w' w2) (hr : RdS w2 g A n c l a' sh') : OpS w g A n c l g2 g3 x0 x1 x2 x3 a' sh' w2 :=
  ⟨hr, h.base, heap_mod h.res k (by have := h.base.g; have := h.ge; omega), heap_mod h.own k (by have := h.base.g; have := h.ge; omega), h.ge, Mod.trans (F := fun i => i = g) h.mod k fun _ hi => .inl hi⟩
theorem OpS.put1 (h : OpS w g A n c l g2 g3 x0 x1 x2 x3 a sh w') (v : Value) : OpS w g A n c l g2 g3 x0 v x2 x3 a sh (w'.setCell ⟨g3, 1, none⟩ v) :=
  ⟨h.rd.other h.base (mod_set g3 1 v) fun i hi => by subst hi; exact h.ge.2.1, h.base, heap_mod h.res (mod_set g3 1 v) h.ge.2.2, rdr_set h.own v, h.ge, Mod.setCell (F := fun i => i = g) h.mod (.inr h.ge.2.1) v⟩
theorem OpS.put2 (h : OpS w g A n c l g2 g3 x0 x1 x2 x3 a sh w') (v : Value) : OpS w g A n c l g2 g3 x0 x1 v x3 a sh (w'.setCell ⟨g3, 2, none⟩ v) :=
  ⟨h.rd.other h.base (mod_set g3 2 v) fun i hi => by subst hi; exact h.ge.2.1, h.base, heap_mod h.res (mod_set g3 2 v) h.ge.2.2, rdr_set h.own v, h.ge, Mod.setCell (F := fun i => i = g) h.mod (.inr h.ge.2.1) v⟩
theorem OpS.put3 (h : OpS w g A n c l g2 g3 x0 x1 x2 x3 a sh w') (v : Value) : OpS w g A n c l g2 g3 x0 x1 x2 v a sh (w'.setCell ⟨g3, 3, none⟩ v) :=
  ⟨h.rd.other h.base (mod_set g3 3 v) fun i hi => by subst hi; exact h.ge.2.1, h.base, heap_mod h.res (mod_set g3 3 v) h.ge.2.2, rdr_set h.own v, h.ge, Mod.setCell (F := fun i => i = g) h.mod (.inr h.ge.2.1) v⟩
end
set_option maxRecDepth 100000 in
set_option maxHeartbeats 1000000 in
theorem operation_of {w : World} {g n c a : Nat} {A : Option Addr} {l : List Nat} {sh : Bool} (h : RdS w g A n c l a sh) :
    Calls Tryd.prog 47 #[.pointer (some ⟨g, 0, none⟩)] w fun e w' => e = .returned (.agg #[.int .u8 ((nmS l a 1).1 : Int), .string (txS l (opA l a)).1, .string (txS l (opB l a)).1, .string (txS l (opC l a)).1]) ∧ RdS w' g A n c l (opD l a) (sh || opBad l a) ∧ Mod (fun i => i = g) w w' := by
  have HBB := Lib.hid h.base
  have hx := (Ext.refl w).alloc (.cells #[.int .u8 0, .string ⟨#[]⟩, .string ⟨#[]⟩, .string ⟨#[]⟩] 25)
  have HR := Lib.hid (h.ext hx)
  have HQ := Lib.hid (heap_alloc_new w (.cells #[.int .u8 0, .string ⟨#[]⟩, .string ⟨#[]⟩, .string ⟨#[]⟩] 25))
  have hlt := nmS_lt h.by_.rd.lt a 1
  have t0 := texts_at0
  have t1 := texts_at1
  have t2 := texts_at2
  clear h
  go_enter Tryd.func47, Tryd.ntmps47
  go_wp2_with fail
  refine (kind_of HR.out).mono ?_
  rintro e w1 ⟨rfl, hr, hm⟩
  have HR := Lib.hid hr
  have HM := Lib.hid hm
  clear hr hm
  go_wp2_with fail
  have HS : Hid (OpS w g A n c l w.heap.size w1.heap.size (.int .u8 ((nmS l a 1).1 : Int)) (.string ⟨#[]⟩) (.string ⟨#[]⟩) (.string ⟨#[]⟩) (opA l a) (sh || (nmS l a 1).2.2) (w1.alloc (.cells #[.int .u8 ((nmS l a 1).1 : Int), .string ⟨#[]⟩, .string ⟨#[]⟩, .string ⟨#[]⟩] 66))) := Lib.hid (by
    have hx1 := (Ext.refl w1).alloc (.cells #[.int .u8 ((nmS l a 1).1 : Int), .string ⟨#[]⟩, .string ⟨#[]⟩, .string ⟨#[]⟩] 66)
    have hgl := HBB.out.g
    have hs1 := HM.out.size
    rw [World.size_alloc] at hs1
    refine ⟨HR.out.ext hx1, HBB.out, heap_ext (heap_mod HQ.out HM.out (by omega)) hx1, heap_alloc_new w1 _, ⟨Nat.le_refl _, by omega, by omega⟩, ?_⟩
    exact Mod.ext (F := fun i => i = g) (Mod.trans (F := fun i => i = g) (Mod.alloc (F := fun i => i = g) (Mod.refl (fun i => i = g) w) _) HM.out fun _ hi => .inl hi) hx1)
  obtain ⟨k0, hk0⟩ : ∃ k0, (nmS l a 1).1 = k0 := ⟨_, rfl⟩
  rw [hk0] at HS
  rw [hk0]
  generalize hg3 : w1.heap.size = g3 at *
  generalize hg2 : w.heap.size = g2 at *
  have hs1 : Hid (opA l a = opA l a) := Lib.hid rfl
  have HK := Lib.hid hk0
  clear HR HM HQ HBB hlt hx hk0 hs1
  refine (texts_any _).mono ?_
  rintro e w2 ⟨rfl, hx⟩
  have HS := Lib.hid (HS.out.ext hx)
  clear hx
  go_wp2_with fail
  refine wp_loop_rounds 4 ?_
  rw [rounds_succ]
  go_wp2_with fail
  refine (key_of _ _).mono ?_
  rintro e v3 ⟨rfl, rfl⟩
  go_wp2_with fail
  refine (text_of HS.out.rd).mono ?_
  rintro e v4 ⟨rfl, hr, hm⟩
  have hs := HS.out.step hm (show RdS _ g A n c l (opB l a) _ from hr)
  obtain ⟨⟨_, c1, c2, c3⟩, _, f1, f2, f3⟩ := four_free hs.own
  have HS := Lib.hid (hs.put1 (.string (txS l (opA l a)).1))
  clear hs hr hm
  go_wp2_with fail
  rw [rounds_succ]
  go_wp2_with fail
  refine (old_of _ _).mono ?_
  rintro e v5 ⟨rfl, rfl⟩
  go_wp2_with fail
  refine (text_of HS.out.rd).mono ?_
  rintro e v6 ⟨rfl, hr, hm⟩
  have hs := HS.out.step hm (show RdS _ g A n c l (opC l a) _ from hr)
  obtain ⟨⟨_, c1, c2, c3⟩, _, f1, f2, f3⟩ := four_free hs.own
  have HS := Lib.hid (hs.put2 (.string (txS l (opB l a)).1))
  clear hs hr hm
  go_wp2_with fail
  rw [rounds_succ]
  go_wp2_with fail
  refine (val_of _ _).mono ?_
  rintro e v7 ⟨rfl, rfl⟩
  go_wp2_with fail
  refine (text_of HS.out.rd).mono ?_
  rintro e v8 ⟨rfl, hr, hm⟩
  have hs := HS.out.step hm (show RdS _ g A n c l (opD l a) _ from hr)
  obtain ⟨⟨_, c1, c2, c3⟩, _, f1, f2, f3⟩ := four_free hs.own
  have HS := Lib.hid (hs.put3 (.string (txS l (opC l a)).1))
  clear hs hr hm
  go_wp2_with fail
  generalize (v8.setCell ⟨g3, 3, none⟩ (.string (txS l (opC l a)).1)) = W at *
  obtain ⟨c0, c1, c2, c3⟩ := four_cells HS.out.own
  obtain ⟨d0, d1, d2, d3⟩ := four_cells HS.out.res
  obtain ⟨_, e0, e1, e2, e3⟩ := four_free HS.out.res
  rw [rounds_succ]
  go_wp2_with fail
  refine bodyPost_ret (v := .agg #[.int .u8 (k0 : Int), .string (txS l (opA l a)).1, .string (txS l (opB l a)).1, .string (txS l (opC l a)).1]) ?_ rfl ⟨by rw [HK.out], ?_, ?_⟩
  · simp [results, Tryd.results47, go_sem, d0, d1, d2, d3]
  · rw [show (sh || opBad l a) = (sh || (nmS l a 1).2.2 || (txS l (opA l a)).2.2 || (txS l (opB l a)).2.2 || (txS l (opC l a)).2.2) from by unfold opBad; simp only [Bool.or_assoc]]
    refine HS.out.rd.other (G := fun i => i = g2) HS.out.base ?_ (fun i hi => by subst hi; exact HS.out.ge.1)
    exact ((((Mod.refl (fun i => i = g2) W).setCell (p := ⟨g2, 0, none⟩) (.inl rfl) _).setCell (p := ⟨g2, 1, none⟩) (.inl rfl) _).setCell (p := ⟨g2, 2, none⟩) (.inl rfl) _).setCell (p := ⟨g2, 3, none⟩) (.inl rfl) _
  · exact (((HS.out.mod.setCell (p := ⟨g2, 0, none⟩) (.inr HS.out.ge.1) _).setCell (p := ⟨g2, 1, none⟩) (.inr HS.out.ge.1) _).setCell (p := ⟨g2, 2, none⟩) (.inr HS.out.ge.1) _).setCell (p := ⟨g2, 3, none⟩) (.inr HS.out.ge.1) _
end Go.Proofs.YtoapjgkfggggmaaDoor
