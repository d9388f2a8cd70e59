/-
  The contracts of entry's put, putOperation, Bytes and Print.
  The contract of the statements' own first look at the chapter's examples: it answers true and writes nothing that was there.
  The contracts of entry's reader: pass, number, kind, text.
  The contracts of the reader's operation and entry: what is read there, valid or not.
  The contract of the reader's entry: what is read there, valid or not.
-/
import Derived.Test.YtejejadbemkifaaDoorQ02
import Derived.Test.YtejejadbemkifaaDoorQ03
import Derived.Test.YtejejadbemkifaaDoorQ04
import Derived.Test.YtejejadbemkifaaDoorQ06
import Derived.Deep.DeepCutAuto
namespace Go.Proofs.YtejejadbemkifaaDoor
set_option maxRecDepth 100000
open Go Go.RowKit

theorem join4e {A1 A2 A3 A4 : Option Addr} {n1 n2 n3 n4 c1 c2 c3 c4 : Nat} {l1 l2 l3 l4 : List Nat} (w : World) (h1 : By w A1 n1 c1 l1) (h2 : By w A2 n2 c2 l2) (h3 : By w A3 n3 c3 l3) (h4 : By w A4 n4 c4 l4) (hN : n1 + n2 + n3 + n4 ≤ 140737488355328) :
    Calls Tryd.prog 14 #[.slice (some ⟨w.heap.size, 0, none⟩) 4 4] (w.alloc (.cells #[.slice A1 n1 c1, .slice A2 n2 c2, .slice A3 n3 c3, .slice A4 n4 c4] 24)) fun e w' => ∃ A' c', e = .returned (.slice A' (n1 + n2 + n3 + n4) c') ∧ By w' A' (n1 + n2 + n3 + n4) c' (l1 ++ l2 ++ l3 ++ l4) ∧ Ext w w' := by
  have hcat : cat [(.slice A1 n1 c1, l1), (.slice A2 n2 c2, l2), (.slice A3 n3 c3, l3), (.slice A4 n4 c4, l4)] = l1 ++ l2 ++ l3 ++ l4 := by simp [cat]
  rw [← hcat]
  refine join_by _ 4 _ w _ rfl rfl ?_ (by rw [hcat, List.length_append, List.length_append, List.length_append, h1.len, h2.len, h3.len, h4.len]) ?_ (by omega) hN
  · intro p hp
    simp only [List.mem_cons, List.not_mem_nil, or_false] at hp
    rcases hp with rfl | rfl | rfl | rfl
    · exact ⟨_, _, _, rfl, h1⟩
    · exact ⟨_, _, _, rfl, h2⟩
    · exact ⟨_, _, _, rfl, h3⟩
    · exact ⟨_, _, _, rfl, h4⟩
  · rw [hcat]
    intro b hb
    simp only [List.mem_append] at hb
    rcases hb with ((h | h) | h) | h
    · exact h1.rd.lt b h
    · exact h2.rd.lt b h
    · exact h3.rd.lt b h
    · exact h4.rd.lt b h
theorem eput_of (x N : Nat) (w : World) (hL : Laid w) (hf : fitsB x N = true) :
    Calls Tryd.prog 31 #[.int .i64 x, .int .i64 N] w fun e w' => ∃ A' c', e = .returned (.slice A' x c') ∧ By w' A' x c' (digs x N) ∧ Ext w w' := by
  have HC := Lib.hid (put_by x N w hL hf)
  clear hL hf
  go_enter Tryd.func31, Tryd.ntmps31
  go_wp2_with fail
  refine HC.out.mono ?_
  rintro e w1 ⟨A1, c1, rfl, hb, hx⟩
  have HB := Lib.hid hb
  have HX := Lib.hid hx
  clear hb hx
  go_wp2_with fail
  go_ret
  exact ⟨A1, c1, rfl, HB.out, HX.out⟩
theorem four_cells_1 {w : World} {g : Nat} {x0 x1 x2 x3 : Value} {t : TypeId} (h : w.heap[g]? = some (.cells #[x0, x1, x2, x3] t (0, 0))) : w.cell? ⟨g, 0, none⟩ = some x0 ∧ w.cell? ⟨g, 1, none⟩ = some x1 ∧ True := ⟨cell_of_row w g 0 _ _ _ h, cell_of_row w g 1 _ _ _ h, trivial⟩
theorem four_cells_2 {w : World} {g : Nat} {x0 x1 x2 x3 : Value} {t : TypeId} (h : w.heap[g]? = some (.cells #[x0, x1, x2, x3] t (0, 0))) : w.cell? ⟨g, 0, none⟩ = some x0 ∧ w.cell? ⟨g, 2, none⟩ = some x2 ∧ True := ⟨cell_of_row w g 0 _ _ _ h, cell_of_row w g 2 _ _ _ h, trivial⟩
theorem four_cells_3 {w : World} {g : Nat} {x0 x1 x2 x3 : Value} {t : TypeId} (h : w.heap[g]? = some (.cells #[x0, x1, x2, x3] t (0, 0))) : w.cell? ⟨g, 0, none⟩ = some x0 ∧ w.cell? ⟨g, 3, none⟩ = some x3 ∧ True := ⟨cell_of_row w g 0 _ _ _ h, cell_of_row w g 3 _ _ _ h, trivial⟩
set_option maxRecDepth 100000 in
set_option maxHeartbeats 1000000 in
theorem putOp_of (k : Nat) (key old val : ByteArray) (w : World) (hL : Laid w) (hk : k < 256) (h1 : key.size ≤ 255) (h2 : old.size ≤ 255) (h3 : val.size ≤ 255) :
    Calls Tryd.prog 37 #[.agg #[.int .u8 (k : Int), .string key, .string old, .string val]] w fun e w' => ∃ A' c', e = .returned (.slice A' (1 + (key.size + 1) + (old.size + 1) + (val.size + 1)) c') ∧ By w' A' (1 + (key.size + 1) + (old.size + 1) + (val.size + 1)) c' ([k] ++ tx key ++ tx old ++ tx val) ∧ Ext w w' := by
  have hx := (Ext.refl w).alloc (.cells #[.int .u8 (k : Int), .string key, .string old, .string val] 49)
  have HT := Lib.hid (heap_alloc_new w (.cells #[.int .u8 (k : Int), .string key, .string old, .string val] 49))
  have HE := Lib.hid hx
  have HL := Lib.hid (hL.ext hx)
  have HF : Hid (fitsB 1 k = true) := Lib.hid (fits_iff.2 ⟨rfl, by omega, by simpa using hk⟩)
  have HD : Hid (digs 1 k = [k]) := Lib.hid (by simp [digs]; omega)
  have HS := Lib.hid (And.intro h1 (And.intro h2 h3))
  have t0 := texts_at0
  have t1 := texts_at1
  have t2 := texts_at2
  clear hx hL h1 h2 h3
  go_enter Tryd.func37, Tryd.ntmps37
  go_wp2_with fail
  refine (eput_of 1 k _ HL.out HF.out).mono ?_
  rw [HD.out]
  rintro e w1 ⟨A1, c1, rfl, hb, hx⟩
  have hT := heap_ext HT.out hx
  have HE := Lib.hid (HE.out.trans hx)
  have HL := Lib.hid (HL.out.ext hx)
  have HB := Lib.hid hb
  obtain ⟨i0, i1, i2, i3⟩ := four_cells hT
  clear hx hb hT
  go_wp2_with fail
  have hx2 := (Ext.refl w1).alloc (.cells #[.int .u8 (k : Int), .string key, .string old, .string val] 89)
  have hF := heap_alloc_new w1 (.cells #[.int .u8 (k : Int), .string key, .string old, .string val] 89)
  generalize hg : w1.heap.size = g at *
  refine (texts_any _).mono ?_
  rintro e w2 ⟨rfl, hx⟩
  have HF4 := Lib.hid (heap_ext hF hx)
  have HE := Lib.hid (HE.out.trans (hx2.trans hx))
  have HL := Lib.hid (HL.out.ext (hx2.trans hx))
  have HB := Lib.hid (HB.out.ext (hx2.trans hx))
  clear i0 i1 i2 i3 hx hx2 hF
  go_wp2_with fail
  refine wp_loop_rounds 4 ?_
  rw [rounds_succ]
  go_wp2_with fail
  refine (key_of _ _).mono ?_
  rintro e v10 ⟨rfl, rfl⟩
  obtain ⟨_, i1, _⟩ := four_cells_1 HF4.out
  go_wp2_with fail
  refine (text_by key _ HS.out.1).mono ?_
  rintro e v11 ⟨A11, c11, rfl, hb, hx⟩
  have HB2 : Hid (By _ A11 _ c11 (tx key)) := Lib.hid hb
  have HB := Lib.hid (HB.out.ext hx)
  have HE := Lib.hid (HE.out.trans hx)
  have HF4 := Lib.hid (heap_ext HF4.out hx)
  clear hb hx i1
  go_wp2_with fail
  refine (join2_by _ HB.out HB2.out (by have := HS.out; omega)).mono ?_
  rintro e v12 ⟨A12, c12, rfl, hb, hx⟩
  have HB := Lib.hid hb
  have HE := Lib.hid (HE.out.trans hx)
  have HF4 := Lib.hid (heap_ext HF4.out hx)
  clear hb hx HB2
  go_wp2_with fail
  rw [rounds_succ]
  go_wp2_with fail
  refine (old_of _ _).mono ?_
  rintro e v20 ⟨rfl, rfl⟩
  obtain ⟨_, i2, _⟩ := four_cells_2 HF4.out
  go_wp2_with fail
  refine (text_by old _ HS.out.2.1).mono ?_
  rintro e v21 ⟨A21, c21, rfl, hb, hx⟩
  have HB2 : Hid (By _ A21 _ c21 (tx old)) := Lib.hid hb
  have HB := Lib.hid (HB.out.ext hx)
  have HE := Lib.hid (HE.out.trans hx)
  have HF4 := Lib.hid (heap_ext HF4.out hx)
  clear hb hx i2
  go_wp2_with fail
  refine (join2_by _ HB.out HB2.out (by have := HS.out; omega)).mono ?_
  rintro e v22 ⟨A22, c22, rfl, hb, hx⟩
  have HB := Lib.hid hb
  have HE := Lib.hid (HE.out.trans hx)
  have HF4 := Lib.hid (heap_ext HF4.out hx)
  clear hb hx HB2
  go_wp2_with fail
  rw [rounds_succ]
  go_wp2_with fail
  refine (val_of _ _).mono ?_
  rintro e v30 ⟨rfl, rfl⟩
  obtain ⟨_, i3, _⟩ := four_cells_3 HF4.out
  go_wp2_with fail
  refine (text_by val _ HS.out.2.2).mono ?_
  rintro e v31 ⟨A31, c31, rfl, hb, hx⟩
  have HB2 : Hid (By _ A31 _ c31 (tx val)) := Lib.hid hb
  have HB := Lib.hid (HB.out.ext hx)
  have HE := Lib.hid (HE.out.trans hx)
  have HF4 := Lib.hid (heap_ext HF4.out hx)
  clear hb hx i3
  go_wp2_with fail
  refine (join2_by _ HB.out HB2.out (by have := HS.out; omega)).mono ?_
  rintro e v32 ⟨A32, c32, rfl, hb, hx⟩
  have HB := Lib.hid hb
  have HE := Lib.hid (HE.out.trans hx)
  have HF4 := Lib.hid (heap_ext HF4.out hx)
  clear hb hx HB2
  go_wp2_with fail
  rw [rounds_succ]
  go_wp2_with fail
  go_ret
  exact ⟨_, _, rfl, HB.out, HE.out⟩
end Go.Proofs.YtejejadbemkifaaDoor

namespace Go.Proofs.YtejejadbemkifaaDoor
set_option maxRecDepth 100000
open Go Go.RowKit
end Go.Proofs.YtejejadbemkifaaDoor

namespace Go.Proofs.YtejejadbemkifaaDoor
set_option maxRecDepth 100000
open Go Go.RowKit
section
variable {w w' : World} {g n c a : Nat} {A : Option Addr} {l : List Nat} {sh : Bool}
theorem by_mod {G : Nat → Prop} (h : By w A n c l) (k : Mod G w w') (ho : 0 < n → ∀ p, A = some p → ¬ G p.block) : By w' A n c l := by
  by_cases h0 : 0 < n
  · exact By.mod h k fun p hp => ho h0 p hp
  · refine ⟨h.len, h.cap, h.most, ⟨h.rd.1, fun hn => ?_⟩, Bs.nil_ h⟩
    have := h.len
    omega
theorem laid_mod {G : Nat → Prop} (h : Laid w) (k : Mod G w w') (hg : ¬ G 1) : Laid w' := by
  have hlt : 1 < w.heap.size := World.block_lt_of_cell? w _ h.1
  have hb := k.block _ hlt hg
  unfold Laid at h ⊢
  obtain ⟨h0, h1, h2, h3, h4, h5, h6⟩ := h
  exact ⟨(World.cell?_of_block (a := ⟨_, _, none⟩) hb).trans h0, (World.cell?_of_block (a := ⟨_, _, none⟩) hb).trans h1, (World.cell?_of_block (a := ⟨_, _, none⟩) hb).trans h2, (World.cell?_of_block (a := ⟨_, _, none⟩) hb).trans h3, (World.cell?_of_block (a := ⟨_, _, none⟩) hb).trans h4, (World.cell?_of_block (a := ⟨_, _, none⟩) hb).trans h5, (World.cell?_of_block (a := ⟨_, _, none⟩) hb).trans h6⟩
end
theorem rdr_cells {w : World} {g : Nat} {x0 x1 x2 : Value} {t : TypeId} (h : w.heap[g]? = some (.cells #[x0, x1, x2] t (0, 0))) :
    (w.cell? ⟨g, 0, none⟩ = some x0 ∧ w.cell? ⟨g, 1, none⟩ = some x1 ∧ w.cell? ⟨g, 2, none⟩ = some x2) ∧ (w.frozen? ⟨g, 1, none⟩ = false ∧ w.frozen? ⟨g, 2, none⟩ = false) :=
  ⟨⟨cell_of_row w g 0 _ _ _ h, cell_of_row w g 1 _ _ _ h, cell_of_row w g 2 _ _ _ h⟩, ⟨frozen_of_row w g 1 _ _ h, frozen_of_row w g 2 _ _ h⟩⟩
theorem rdr_set {w : World} {g i : Nat} {cs : Array Value} {t : TypeId} (h : w.heap[g]? = some (.cells cs t (0, 0))) (v : Value) : (w.setCell ⟨g, i, none⟩ v).heap[g]? = some (.cells (cs.setIfInBounds i v) t (0, 0)) := by
  rw [setCell_eq_setRow w g i _ _ _ v h]
  exact setRow_heap w g _ (cs.setIfInBounds i v) _ _ h
theorem mod_set {w : World} (g i : Nat) (v : Value) : Mod (fun k => k = g) w (w.setCell ⟨g, i, none⟩ v) := Mod.setCell (F := fun k => k = g) (Mod.refl (fun k => k = g) w) (p := ⟨g, i, none⟩) (.inl rfl) v
theorem mod_drew {g : Nat} {w w2 : World} (hm : Mod (fun i => i = g) w.drew w2) : Mod (fun i => i = g) w w2 :=
  Mod.trans (F := fun i => i = g) (Mod.drew (F := fun i => i = g) (Mod.refl (fun i => i = g) w)) hm fun _ hi => .inl hi
end Go.Proofs.YtejejadbemkifaaDoor

namespace Go.Proofs.YtejejadbemkifaaDoor
set_option maxRecDepth 100000
open Go Go.RowKit

/-- A reader's blocks lie below B. -/
structure RdB (B g : Nat) (A : Option Addr) (n : Nat) : Prop where
  g : g < B
  a : 0 < n → ∀ p, A = some p → p.block < B
  o : 1 < B
theorem set_ext_row {w : World} {g i : Nat} {o : Obj} {h : Nat} (v : Value) (hh : w.heap[h]? = some o) (hne : h ≠ g) : (w.setCell ⟨g, i, none⟩ v).heap[h]? = some o :=
  heap_mod hh (mod_set g i v) hne
theorem four_free {w : World} {g : Nat} {x0 x1 x2 x3 : Value} {t : TypeId} (h : w.heap[g]? = some (.cells #[x0, x1, x2, x3] t (0, 0))) :
    (w.cell? ⟨g, 0, none⟩ = some x0 ∧ w.cell? ⟨g, 1, none⟩ = some x1 ∧ w.cell? ⟨g, 2, none⟩ = some x2 ∧ w.cell? ⟨g, 3, none⟩ = some x3) ∧
    (w.frozen? ⟨g, 0, none⟩ = false ∧ w.frozen? ⟨g, 1, none⟩ = false ∧ w.frozen? ⟨g, 2, none⟩ = false ∧ w.frozen? ⟨g, 3, none⟩ = false) :=
  ⟨four_cells h, frozen_of_row w g 0 _ _ h, frozen_of_row w g 1 _ _ h, frozen_of_row w g 2 _ _ h, frozen_of_row w g 3 _ _ h⟩
section
variable {w w' w2 : World} {g n c a g2 g3 : Nat} {A : Option Addr} {l : List Nat} {x0 x1 x2 x3 : Value} {sh : Bool}
end
end Go.Proofs.YtejejadbemkifaaDoor

namespace Go.Proofs.YtejejadbemkifaaDoor
set_option maxRecDepth 100000
open Go Go.RowKit

theorem seven_cells {w : World} {g : Nat} {x0 x1 x2 x3 x4 x5 x6 : Value} {t : TypeId} (h : w.heap[g]? = some (.cells #[x0, x1, x2, x3, x4, x5, x6] t (0, 0))) :
    w.cell? ⟨g, 0, none⟩ = some x0 ∧ w.cell? ⟨g, 1, none⟩ = some x1 ∧ w.cell? ⟨g, 2, none⟩ = some x2 ∧ w.cell? ⟨g, 3, none⟩ = some x3 ∧ w.cell? ⟨g, 4, none⟩ = some x4 ∧ w.cell? ⟨g, 5, none⟩ = some x5 ∧ w.cell? ⟨g, 6, none⟩ = some x6 :=
  ⟨cell_of_row w g 0 _ _ _ h, cell_of_row w g 1 _ _ _ h, cell_of_row w g 2 _ _ _ h, cell_of_row w g 3 _ _ _ h, cell_of_row w g 4 _ _ _ h, cell_of_row w g 5 _ _ _ h, cell_of_row w g 6 _ _ _ h⟩
theorem seven_free {w : World} {g : Nat} {x0 x1 x2 x3 x4 x5 x6 : Value} {t : TypeId} (h : w.heap[g]? = some (.cells #[x0, x1, x2, x3, x4, x5, x6] t (0, 0))) :
    w.frozen? ⟨g, 0, none⟩ = false ∧ w.frozen? ⟨g, 1, none⟩ = false ∧ w.frozen? ⟨g, 2, none⟩ = false ∧ w.frozen? ⟨g, 3, none⟩ = false ∧ w.frozen? ⟨g, 4, none⟩ = false ∧ w.frozen? ⟨g, 5, none⟩ = false ∧ w.frozen? ⟨g, 6, none⟩ = false :=
  ⟨frozen_of_row w g 0 _ _ h, frozen_of_row w g 1 _ _ h, frozen_of_row w g 2 _ _ h, frozen_of_row w g 3 _ _ h, frozen_of_row w g 4 _ _ h, frozen_of_row w g 5 _ _ h, frozen_of_row w g 6 _ _ h⟩
/-- An entry stored into a block. -/
def set7 (w : World) (g : Nat) (x0 x1 x2 x3 x4 x5 x6 : Value) : World :=
  ((((((w.setCell ⟨g, 0, none⟩ x0).setCell ⟨g, 1, none⟩ x1).setCell ⟨g, 2, none⟩ x2).setCell ⟨g, 3, none⟩ x3).setCell ⟨g, 4, none⟩ x4).setCell ⟨g, 5, none⟩ x5).setCell ⟨g, 6, none⟩ x6
theorem mod_set7 {F : Nat → Prop} {a w : World} (h : Mod F a w) {g : Nat} (hg : F g ∨ a.heap.size ≤ g) (x0 x1 x2 x3 x4 x5 x6 : Value) : Mod F a (set7 w g x0 x1 x2 x3 x4 x5 x6) :=
  ((((((h.setCell (p := ⟨g, 0, none⟩) hg _).setCell (p := ⟨g, 1, none⟩) hg _).setCell (p := ⟨g, 2, none⟩) hg _).setCell (p := ⟨g, 3, none⟩) hg _).setCell (p := ⟨g, 4, none⟩) hg _).setCell (p := ⟨g, 5, none⟩) hg _).setCell (p := ⟨g, 6, none⟩) hg _
theorem mod_set7_own (w : World) (g : Nat) (x0 x1 x2 x3 x4 x5 x6 : Value) : Mod (fun i => i = g) w (set7 w g x0 x1 x2 x3 x4 x5 x6) := mod_set7 (F := fun i => i = g) (Mod.refl (fun i => i = g) w) (.inl rfl) _ _ _ _ _ _ _
theorem ext_set7 {a w : World} (h : Ext a w) {g : Nat} (hg : a.heap.size ≤ g) (x0 x1 x2 x3 x4 x5 x6 : Value) : Ext a (set7 w g x0 x1 x2 x3 x4 x5 x6) :=
  ((((((h.setCell (p := ⟨g, 0, none⟩) hg _).setCell (p := ⟨g, 1, none⟩) hg _).setCell (p := ⟨g, 2, none⟩) hg _).setCell (p := ⟨g, 3, none⟩) hg _).setCell (p := ⟨g, 4, none⟩) hg _).setCell (p := ⟨g, 5, none⟩) hg _).setCell (p := ⟨g, 6, none⟩) hg _
theorem row_set7 {w : World} {g : Nat} {y0 y1 y2 y3 y4 y5 y6 : Value} {t : TypeId} (h : w.heap[g]? = some (.cells #[y0, y1, y2, y3, y4, y5, y6] t (0, 0))) (x0 x1 x2 x3 x4 x5 x6 : Value) :
    (set7 w g x0 x1 x2 x3 x4 x5 x6).heap[g]? = some (.cells #[x0, x1, x2, x3, x4, x5, x6] t (0, 0)) := by
  have h0 : (w.setCell ⟨g, 0, none⟩ x0).heap[g]? = some (.cells #[x0, y1, y2, y3, y4, y5, y6] t (0, 0)) := rdr_set h x0
  have h1 : ((w.setCell ⟨g, 0, none⟩ x0).setCell ⟨g, 1, none⟩ x1).heap[g]? = some (.cells #[x0, x1, y2, y3, y4, y5, y6] t (0, 0)) := rdr_set h0 x1
  have h2 : (((w.setCell ⟨g, 0, none⟩ x0).setCell ⟨g, 1, none⟩ x1).setCell ⟨g, 2, none⟩ x2).heap[g]? = some (.cells #[x0, x1, x2, y3, y4, y5, y6] t (0, 0)) := rdr_set h1 x2
  have h3 : ((((w.setCell ⟨g, 0, none⟩ x0).setCell ⟨g, 1, none⟩ x1).setCell ⟨g, 2, none⟩ x2).setCell ⟨g, 3, none⟩ x3).heap[g]? = some (.cells #[x0, x1, x2, x3, y4, y5, y6] t (0, 0)) := rdr_set h2 x3
  have h4 : (((((w.setCell ⟨g, 0, none⟩ x0).setCell ⟨g, 1, none⟩ x1).setCell ⟨g, 2, none⟩ x2).setCell ⟨g, 3, none⟩ x3).setCell ⟨g, 4, none⟩ x4).heap[g]? = some (.cells #[x0, x1, x2, x3, x4, y5, y6] t (0, 0)) := rdr_set h3 x4
  have h5 : ((((((w.setCell ⟨g, 0, none⟩ x0).setCell ⟨g, 1, none⟩ x1).setCell ⟨g, 2, none⟩ x2).setCell ⟨g, 3, none⟩ x3).setCell ⟨g, 4, none⟩ x4).setCell ⟨g, 5, none⟩ x5).heap[g]? = some (.cells #[x0, x1, x2, x3, x4, x5, y6] t (0, 0)) := rdr_set h4 x5
  have h6 : (((((((w.setCell ⟨g, 0, none⟩ x0).setCell ⟨g, 1, none⟩ x1).setCell ⟨g, 2, none⟩ x2).setCell ⟨g, 3, none⟩ x3).setCell ⟨g, 4, none⟩ x4).setCell ⟨g, 5, none⟩ x5).setCell ⟨g, 6, none⟩ x6).heap[g]? = some (.cells #[x0, x1, x2, x3, x4, x5, x6] t (0, 0)) := rdr_set h5 x6
  exact h6
abbrev row0 : Obj := .cells #[.int .u8 0, .int .i64 0, .int .i64 0, .int .u8 0, .string ⟨#[]⟩, .string ⟨#[]⟩, .string ⟨#[]⟩] 51 (0, 0)
section
variable {w w' w2 : World} {g n c a g2 g3 : Nat} {A : Option Addr} {l : List Nat} {cs : Array Value} {sh : Bool}
end
theorem enS_no {l : List Nat} {a : Nat} (h : (nmS l a 1).1 ≠ 2) : enS l a = ({ k := (nmS l a 1).1 }, enA l a, (nmS l a 1).2.2) := by unfold enS; rw [if_neg h]
theorem enS_yes {l : List Nat} {a : Nat} (h : (nmS l a 1).1 = 2) : enS l a = ({ k := 2, cl := ((nmS l (enA l a) 1).1 : Nat), sq := ((nmS l (enB l a) 6).1 : Nat), ok := (nmS l (enC l a) 1).1, key := (txS l (opA l (enC l a))).1, old := (txS l (opB l (enC l a))).1, val := (txS l (opC l (enC l a))).1 },
      opD l (enC l a), (nmS l a 1).2.2 || (nmS l (enA l a) 1).2.2 || (nmS l (enB l a) 6).2.2 || opBad l (enC l a)) := by unfold enS; rw [if_pos h]
end Go.Proofs.YtejejadbemkifaaDoor
