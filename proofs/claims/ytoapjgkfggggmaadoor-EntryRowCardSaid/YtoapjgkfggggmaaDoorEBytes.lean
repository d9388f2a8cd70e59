/-
  The contracts of entry's put, putOperation, Bytes and Print.
-/
import Derived.Test.YtoapjgkfggggmaaDoorEMay
import Derived.Test.YtoapjgkfggggmaaDoorBy
import Derived.Test.YtoapjgkfggggmaaDoorOBy
namespace Go.Proofs.YtoapjgkfggggmaaDoor
open Go Go.RowKit

theorem join4e {A1 A2 A3 A4 : Option Addr} {n1 n2 n3 n4 c1 c2 c3 c4 : Nat} {l1 l2 l3 l4 : List Nat} (w : World) (h1 : By w A1 n1 c1 l1) (h2 : By w A2 n2 c2 l2) (h3 : By w A3 n3 c3 l3) (h4 : By w A4 n4 c4 l4) (hN : n1 + n2 + n3 + n4 ≤ 140737488355328) :
    Calls Tryd.prog 26 #[.slice (some ⟨w.heap.size, 0, none⟩) 4 4] (w.alloc (.cells #[.slice A1 n1 c1, .slice A2 n2 c2, .slice A3 n3 c3, .slice A4 n4 c4] 29)) fun e w' => ∃ A' c', e = .returned (.slice A' (n1 + n2 + n3 + n4) c') ∧ By w' A' (n1 + n2 + n3 + n4) c' (l1 ++ l2 ++ l3 ++ l4) ∧ Ext w w' := by
  have hcat : cat [(.slice A1 n1 c1, l1), (.slice A2 n2 c2, l2), (.slice A3 n3 c3, l3), (.slice A4 n4 c4, l4)] = l1 ++ l2 ++ l3 ++ l4 := by simp [cat]
  rw [← hcat]
  refine join_by _ 4 _ w _ rfl rfl ?_ (by rw [hcat, List.length_append, List.length_append, List.length_append, h1.len, h2.len, h3.len, h4.len]) ?_ (by omega) hN
  · intro p hp
    simp only [List.mem_cons, List.not_mem_nil, or_false] at hp
    rcases hp with rfl | rfl | rfl | rfl
    · exact ⟨_, _, _, rfl, h1⟩
    · exact ⟨_, _, _, rfl, h2⟩
    · exact ⟨_, _, _, rfl, h3⟩
    · exact ⟨_, _, _, rfl, h4⟩
  · rw [hcat]
    intro b hb
    simp only [List.mem_append] at hb
    rcases hb with ((h | h) | h) | h
    · exact h1.rd.lt b h
    · exact h2.rd.lt b h
    · exact h3.rd.lt b h
    · exact h4.rd.lt b h
theorem eput_of (x N : Nat) (w : World) (hL : Laid w) (hf : fitsB x N = true) :
    Calls Tryd.prog 25 #[.int .i64 x, .int .i64 N] w fun e w' => ∃ A' c', e = .returned (.slice A' x c') ∧ By w' A' x c' (digs x N) ∧ Ext w w' := by
  have HC := Lib.hid (put_by x N w hL hf)
  clear hL hf
  go_enter Tryd.func25, Tryd.ntmps25
  go_wp2_with fail
  refine HC.out.mono ?_
  rintro e w1 ⟨A1, c1, rfl, hb, hx⟩
  have HB := Lib.hid hb
  have HX := Lib.hid hx
  clear hb hx
  go_wp2_with fail
  go_ret
  exact ⟨A1, c1, rfl, HB.out, HX.out⟩
theorem four_cells_1 {w : World} {g : Nat} {x0 x1 x2 x3 : Value} {t : TypeId} (h : w.heap[g]? = some (.cells #[x0, x1, x2, x3] t (0, 0))) : w.cell? ⟨g, 0, none⟩ = some x0 ∧ w.cell? ⟨g, 1, none⟩ = some x1 ∧ True := ⟨cell_of_row w g 0 _ _ _ h, cell_of_row w g 1 _ _ _ h, trivial⟩
theorem four_cells_2 {w : World} {g : Nat} {x0 x1 x2 x3 : Value} {t : TypeId} (h : w.heap[g]? = some (.cells #[x0, x1, x2, x3] t (0, 0))) : w.cell? ⟨g, 0, none⟩ = some x0 ∧ w.cell? ⟨g, 2, none⟩ = some x2 ∧ True := ⟨cell_of_row w g 0 _ _ _ h, cell_of_row w g 2 _ _ _ h, trivial⟩
theorem four_cells_3 {w : World} {g : Nat} {x0 x1 x2 x3 : Value} {t : TypeId} (h : w.heap[g]? = some (.cells #[x0, x1, x2, x3] t (0, 0))) : w.cell? ⟨g, 0, none⟩ = some x0 ∧ w.cell? ⟨g, 3, none⟩ = some x3 ∧ True := ⟨cell_of_row w g 0 _ _ _ h, cell_of_row w g 3 _ _ _ h, trivial⟩
set_option maxRecDepth 100000 in
set_option maxHeartbeats 1000000 in
theorem putOp_of (k : Nat) (key old val : ByteArray) (w : World) (hL : Laid w) (hk : k < 256) (h1 : key.size ≤ 255) (h2 : old.size ≤ 255) (h3 : val.size ≤ 255) :
    Calls Tryd.prog 27 #[.agg #[.int .u8 (k : Int), .string key, .string old, .string val]] w fun e w' => ∃ A' c', e = .returned (.slice A' (1 + (key.size + 1) + (old.size + 1) + (val.size + 1)) c') ∧ By w' A' (1 + (key.size + 1) + (old.size + 1) + (val.size + 1)) c' ([k] ++ tx key ++ tx old ++ tx val) ∧ Ext w w' := by
  have hx := (Ext.refl w).alloc (.cells #[.int .u8 (k : Int), .string key, .string old, .string val] 25)
  have HT := Lib.hid (heap_alloc_new w (.cells #[.int .u8 (k : Int), .string key, .string old, .string val] 25))
  have HE := Lib.hid hx
  have HL := Lib.hid (hL.ext hx)
  have HF : Hid (fitsB 1 k = true) := Lib.hid (fits_iff.2 ⟨rfl, by omega, by simpa using hk⟩)
  have HD : Hid (digs 1 k = [k]) := Lib.hid (by simp [digs]; omega)
  have HS := Lib.hid (And.intro h1 (And.intro h2 h3))
  have t0 := texts_at0
  have t1 := texts_at1
  have t2 := texts_at2
  clear hx hL h1 h2 h3
  go_enter Tryd.func27, Tryd.ntmps27
  go_wp2_with fail
  refine (eput_of 1 k _ HL.out HF.out).mono ?_
  rw [HD.out]
  rintro e w1 ⟨A1, c1, rfl, hb, hx⟩
  have hT := heap_ext HT.out hx
  have HE := Lib.hid (HE.out.trans hx)
  have HL := Lib.hid (HL.out.ext hx)
  have HB := Lib.hid hb
  obtain ⟨i0, i1, i2, i3⟩ := four_cells hT
  clear hx hb hT
  go_wp2_with fail
  have hx2 := (Ext.refl w1).alloc (.cells #[.int .u8 (k : Int), .string key, .string old, .string val] 66)
  have hF := heap_alloc_new w1 (.cells #[.int .u8 (k : Int), .string key, .string old, .string val] 66)
  generalize hg : w1.heap.size = g at *
  refine (texts_any _).mono ?_
  rintro e w2 ⟨rfl, hx⟩
  have HF4 := Lib.hid (heap_ext hF hx)
  have HE := Lib.hid (HE.out.trans (hx2.trans hx))
  have HL := Lib.hid (HL.out.ext (hx2.trans hx))
  have HB := Lib.hid (HB.out.ext (hx2.trans hx))
  clear i0 i1 i2 i3 hx hx2 hF
  go_wp2_with fail
  refine wp_loop_rounds 4 ?_
  rw [rounds_succ]
  go_wp2_with fail
  refine (key_of _ _).mono ?_
  rintro e v10 ⟨rfl, rfl⟩
  obtain ⟨_, i1, _⟩ := four_cells_1 HF4.out
  go_wp2_with fail
  refine (text_by key _ HS.out.1).mono ?_
  rintro e v11 ⟨A11, c11, rfl, hb, hx⟩
  have HB2 : Hid (By _ A11 _ c11 (tx key)) := Lib.hid hb
  have HB := Lib.hid (HB.out.ext hx)
  have HE := Lib.hid (HE.out.trans hx)
  have HF4 := Lib.hid (heap_ext HF4.out hx)
  clear hb hx i1
  go_wp2_with fail
  refine (join2_by _ HB.out HB2.out (by have := HS.out; omega)).mono ?_
  rintro e v12 ⟨A12, c12, rfl, hb, hx⟩
  have HB := Lib.hid hb
  have HE := Lib.hid (HE.out.trans hx)
  have HF4 := Lib.hid (heap_ext HF4.out hx)
  clear hb hx HB2
  go_wp2_with fail
  rw [rounds_succ]
  go_wp2_with fail
  refine (old_of _ _).mono ?_
  rintro e v20 ⟨rfl, rfl⟩
  obtain ⟨_, i2, _⟩ := four_cells_2 HF4.out
  go_wp2_with fail
  refine (text_by old _ HS.out.2.1).mono ?_
  rintro e v21 ⟨A21, c21, rfl, hb, hx⟩
  have HB2 : Hid (By _ A21 _ c21 (tx old)) := Lib.hid hb
  have HB := Lib.hid (HB.out.ext hx)
  have HE := Lib.hid (HE.out.trans hx)
  have HF4 := Lib.hid (heap_ext HF4.out hx)
  clear hb hx i2
  go_wp2_with fail
  refine (join2_by _ HB.out HB2.out (by have := HS.out; omega)).mono ?_
  rintro e v22 ⟨A22, c22, rfl, hb, hx⟩
  have HB := Lib.hid hb
  have HE := Lib.hid (HE.out.trans hx)
  have HF4 := Lib.hid (heap_ext HF4.out hx)
  clear hb hx HB2
  go_wp2_with fail
  rw [rounds_succ]
  go_wp2_with fail
  refine (val_of _ _).mono ?_
  rintro e v30 ⟨rfl, rfl⟩
  obtain ⟨_, i3, _⟩ := four_cells_3 HF4.out
  go_wp2_with fail
  refine (text_by val _ HS.out.2.2).mono ?_
  rintro e v31 ⟨A31, c31, rfl, hb, hx⟩
  have HB2 : Hid (By _ A31 _ c31 (tx val)) := Lib.hid hb
  have HB := Lib.hid (HB.out.ext hx)
  have HE := Lib.hid (HE.out.trans hx)
  have HF4 := Lib.hid (heap_ext HF4.out hx)
  clear hb hx i3
  go_wp2_with fail
  refine (join2_by _ HB.out HB2.out (by have := HS.out; omega)).mono ?_
  rintro e v32 ⟨A32, c32, rfl, hb, hx⟩
  have HB := Lib.hid hb
  have HE := Lib.hid (HE.out.trans hx)
  have HF4 := Lib.hid (heap_ext HF4.out hx)
  clear hb hx HB2
  go_wp2_with fail
  rw [rounds_succ]
  go_wp2_with fail
  go_ret
  exact ⟨_, _, rfl, HB.out, HE.out⟩
end Go.Proofs.YtoapjgkfggggmaaDoor
